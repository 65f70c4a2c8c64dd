/-
  DigestUnlike walked. (Written by genunlike.py.)
-/
import Derived.Test.YtcbgnmolfdhnfaaRootsW
import Derived.Test.YtcbgnmolfdhnfaaU0
import Derived.Test.YtcbgnmolfdhnfaaV4
namespace Go.Proofs.Ytcbgnmolfdhnfaa
set_option linter.unusedVariables false
set_option linter.unusedSimpArgs false
open Go.RowKit Go.Joins

theorem lists_two {W : World} {u v : Value} {l m : List Pr} (h : prL.In W u l) (h2 : prL.In W v m) : LsIn (W.alloc (.cells #[u, v] 29)) (.slice (some ⟨W.heap.size, 0, none⟩) 2 2) [l, m] := by
  refine ⟨_, 2, rfl, .inr ⟨W.heap.size, 0, rfl, fun i x hl => ?_⟩⟩
  rcases i with _ | _ | i
  · cases hl
    exact ⟨u, by go_simp, h.later (below_alloc _ _)⟩
  · cases hl
    exact ⟨v, by go_simp, h2.later (below_alloc _ _)⟩
  · simp at hl
theorem Try.talkFields : (Try.prog.fieldsOf 51).toList.map (fun f => (f.name, f.type, f.offset)) = [("Digests", 3, 0), ("Pairs", 3, 1)] := by kernel_rfl
theorem part_i64 (W : World) (cs : Array Value) (o : Nat) (s : Int) (h : cs[o]? = some (.int .i64 s)) : (part 3 cs o).run Try.prog W = .ok (.int .i64 s) W := by
  simp [part, isAgg, run_underlying Try.underlying3, h]
theorem talk_eql (W : World) (a b : Int) : (binOp .eql 51 (.agg #[.int .i64 a, .int .i64 b]) (.agg #[.int .i64 a, .int .i64 b])).run Try.prog W = .ok (.bool true) W := by
  have h : ∀ k : Nat, (Op.equalIn (k + 1 + 1) 51 (.agg #[.int .i64 a, .int .i64 b]) (.agg #[.int .i64 a, .int .i64 b])).run Try.prog W = .ok true W := fun k => by
    rw [run_equalIn_struct _ _ _ _ _ (by kernel_rfl) (by kernel_rfl)]
    obtain ⟨f1, l1, hl1, e1, hm1⟩ := List.map_eq_cons_iff.1 Try.talkFields
    obtain ⟨f2, l2, rfl, e2, hm2⟩ := List.map_eq_cons_iff.1 hm1
    obtain rfl := List.map_eq_nil_iff.1 hm2
    rw [hl1]
    simp only [Prod.mk.injEq] at e1 e2
    obtain ⟨n1, t1, o1⟩ := e1
    obtain ⟨n2, t2, o2⟩ := e2
    simp only [Op.eqFields, n1, n2, t1, t2, o1, o2]
    simp [part_i64 _ _ _ a, part_i64, run_equalIn_int W k _ _ _ _ _ Try.underlying3]
  rw [run_eql_struct, h 9998]
  rfl
theorem StrEq_any {w : World} {u v : Value} {l : List ByteArray} (h : strL.In w u l) (h2 : strL.In w v l) (hl : l.length ≤ 1000000000) : Calls Try.prog 28 #[u, v] w fun e w' => e = .returned (.bool true) ∧ ∃ q, w' = w.drewN q := by
  obtain ⟨a, c, rfl, hc, hc2, hu⟩ := h
  obtain ⟨a2, c2, rfl, hd, hd2, hv⟩ := h2
  rcases hu with rfl | ⟨g, off, rfl, hg, hp⟩
  · exact (Try.slices_Equal_string_empty a a2 c 0 c2 w (by decide)).mono fun e w' ⟨he, hw⟩ => ⟨he, 0, hw⟩
  · rcases hv with rfl | ⟨g2, off2, rfl, hg2, hp2⟩
    · exact (Try.slices_Equal_string_empty _ a2 c 0 c2 w (by decide)).mono fun e w' ⟨he, hw⟩ => ⟨he, 0, hw⟩
    · refine (Try.slices_Equal_string g off l.length c g2 off2 l.length c2 l l w (Nat.le_refl _) (Nat.le_refl _) (by omega) (by omega) (fun j hj => ?_) (fun j hj => ?_)).mono fun e w' ⟨he, hw⟩ => ⟨by rw [he]; simp, hw⟩
      · have h := hp j _ (List.getElem?_eq_getElem hj) 0 _ rfl
        rw [show strL.sz = 1 from rfl, Nat.mul_one] at h
        rw [List.getD_eq_getElem?_getD, List.getElem?_eq_getElem hj]; exact h
      · have h := hp2 j _ (List.getElem?_eq_getElem hj) 0 _ rfl
        rw [show strL.sz = 1 from rfl, Nat.mul_one] at h
        rw [List.getD_eq_getElem?_getD, List.getElem?_eq_getElem hj]; exact h
theorem places_len {s : Sd} (hs : s.Ok) {l m : List Pr} (h : l.length ≤ 60 ∧ m.length ≤ 60) : (s.place l).length + (s.place m).length ≤ 1000 := by
  have p1 := (place_same hs l (by rw [isort_length, List.length_map])).2
  have p2 := (place_same hs m (by rw [isort_length, List.length_map])).2
  have u1 := un_len l []
  have u2 := un_len m []
  simp only [List.length_nil, Nat.zero_add] at u1 u2
  omega
def TalkP (d p : Nat) (ks : List ByteArray) (w : World) (e : Ending) (w' : World) : Prop := ∃ v, e = .returned (.tuple #[v, .agg #[.int .i64 d, .int .i64 p], .int .i64 0]) ∧ strL.In w' v ks ∧ Below w.heap.size w w'
theorem two_tell {s : Sd} (hs : s.Ok) {l m : List Pr} (h : l.length ≤ 60 ∧ m.length ≤ 60) (hl : Slim l) (hm : Slim m) : ∃ (d p : Nat) (ks : List ByteArray), ks.length ≤ 1000000000 ∧
    (∀ V ta tb, TrIn s V ta (s.place l) → TrIn s V tb (s.place m) → Calls Try.prog 26 #[.pointer (some ⟨ta, 0, none⟩), .pointer (some ⟨tb, 0, none⟩)] V (TalkP d p ks V)) ∧
    (∀ V ta tb, RTr s V ta (un [] l) → RTr s V tb (un [] m) → Calls Try.prog 27 #[.pointer (some ⟨ta, 0, none⟩), .pointer (some ⟨tb, 0, none⟩)] V (TalkP d p ks V)) := by
  obtain ⟨e1, e2, e3, e4⟩ := told_same hs l m
  have u1 := un_len l []
  have u2 := un_len m []
  simp only [List.length_nil, Nat.zero_add] at u1 u2
  have hp := places_len hs h
  refine ⟨1 + s.vd 4 (s.place l) (s.place m), s.vp 4 (s.place l) (s.place m), sortK (s.vk 4 (s.place l) (s.place m)), ?_, fun V ta tb h1 h2 => ?_, fun V ta tb h1 h2 => ?_⟩
  · have h1 := s.vk_le 1000 4 _ _ hp
    have e : 16 ^ 4 * 1000 = 65536000 := by decide
    rw [sortK_len]; omega
  · exact (Unlike_any h1 h2 hp).mono fun e w' ⟨v, he, hr⟩ => ⟨v, he, hr.told, hr.grown⟩
  · refine (RUnlike_any hs h1 h2 (by omega) (fun p hp => hl p (un_mem hp)) (fun p hp => hm p (un_mem hp)) (un_sorted l trivial) (un_sorted m trivial)).mono fun e w' ⟨v, he, hr, hb⟩ => ⟨v, ?_, ?_, hb⟩
    · rw [he, e2, e3]
    · rw [e1, ← kl_keys e4]; exact hr
/-- A row of strings lies in no box of numbers. -/
theorem str_box {w : World} {v y : Value} {l : List ByteArray} {b o : Nat} {x : Int} (h : strL.In w v l) (hc : w.cell? ⟨b, o, none⟩ = some (.int .i64 x)) : strL.In (w.setCell ⟨b, o, none⟩ y) v l := by
  obtain ⟨a, c, hv, h1, h2, h⟩ := h
  refine ⟨a, c, hv, h1, h2, h.imp id ?_⟩
  rintro ⟨g, off, ha, hg, hat⟩
  refine ⟨g, off, ha, by simpa [World.setCell] using hg, fun i p hp j u hu => ?_⟩
  have h0 := hat i p hp j u hu
  refine (World.cell?_setCell_other _ _ _ _ ?_).trans h0
  intro e
  have e' : (⟨g, off + i * strL.sz + j, none⟩ : Addr) = ⟨b, o, none⟩ := e.symm
  rw [e', hc] at h0
  have : u = .int .i64 x := (Option.some.inj h0).symm
  subst this
  have e2 : strL.enc p = [.string p] := rfl
  rw [e2] at hu
  rcases j with _ | j
  · cases hu
  · simp at hu
/-- A box of naughts made while two maps are held against each other. -/
structure Bq (w W : World) (b : Nat) : Prop where
  q0 : W.cell? ⟨b, 0, none⟩ = some (.int .i64 0)
  q1 : W.cell? ⟨b, 1, none⟩ = some (.int .i64 0)
  qz : ∀ j, W.frozen? ⟨b, j, none⟩ = false
  lo : w.heap.size ≤ b
theorem Bq.later {w W W' : World} {b : Nat} (h : Bq w W b) (hb : Below W.heap.size W W') : Bq w W' b :=
  ⟨cell_later hb h.q0, cell_later hb h.q1, fun j => (hb.frozen (p := ⟨b, j, none⟩) (World.block_lt_of_cell? W ⟨b, 0, none⟩ h.q0)).trans (h.qz j), h.lo⟩
theorem Bq.made {w W W' : World} (hw : w.heap.size ≤ W.heap.size) (hb : Below (W.alloc (.cells #[.int .i64 0, .int .i64 0] 51)).heap.size (W.alloc (.cells #[.int .i64 0, .int .i64 0] 51)) W') : Bq w W' W.heap.size := by
  have h : Bq w (W.alloc (.cells #[.int .i64 0, .int .i64 0] 51)) W.heap.size := ⟨by go_simp, by go_simp, by intro j; go_simp, hw⟩
  exact h.later hb
/-- What the law holds of one of the two. -/
structure Un5 (w W : World) (b d p : Nat) (v : Value) (ks : List ByteArray) : Prop where
  t0 : W.cell? ⟨b, 0, none⟩ = some (.int .i64 d)
  t1 : W.cell? ⟨b, 1, none⟩ = some (.int .i64 p)
  row : strL.In W v ks
  hb : Below w.heap.size w W
theorem Un5.later {w W W' : World} {b d p : Nat} {v : Value} {ks : List ByteArray} (h : Un5 w W b d p v ks) (hb : Below W.heap.size W W') : Un5 w W' b d p v ks :=
  ⟨cell_later hb h.t0, cell_later hb h.t1, h.row.later hb, h.hb.trans (hb.mono h.hb.size)⟩
theorem tl_alloc {w W : World} {v : Value} {ks : List ByteArray} (h : strL.In W v ks) (hb : Below w.heap.size w W) (d p : Nat) : Un5 w (W.alloc (.cells #[.int .i64 d, .int .i64 p] 51)) W.heap.size d p v ks :=
  ⟨by go_simp, by go_simp, h.later (below_alloc _ _), hb.trans ((below_alloc _ _).mono hb.size)⟩
theorem tl_set {w W : World} {b : Nat} {v : Value} {ks : List ByteArray} (h : strL.In W v ks) (hb : Below w.heap.size w W) (hq : Bq w W b) (d p : Nat) : Un5 w ((W.setCell ⟨b, 0, none⟩ (.int .i64 d)).setCell ⟨b, 1, none⟩ (.int .i64 p)) b d p v ks := by
  have h1 : (W.setCell ⟨b, 0, none⟩ (.int .i64 d)).cell? ⟨b, 1, none⟩ = some (.int .i64 0) := (World.cell?_setCell_other _ _ _ _ (by simp)).trans hq.q1
  exact ⟨(World.cell?_setCell_other _ _ _ _ (by simp)).trans (World.cell?_setCell_same _ _ _ hq.q0), World.cell?_setCell_same _ _ _ h1, str_box (str_box h hq.q0) h1, (hb.setCell hq.lo _).setCell hq.lo _⟩
theorem cell_alloc {W : World} {o : Obj} {p : Addr} {v : Value} (h : W.cell? p = some v) : (W.alloc o).cell? p = some v := cell_later (below_alloc W o) h
def UnlikeE (w : World) (e : Ending) (w' : World) : Prop := e = .returned (.bool true) ∧ Below w.heap.size w w'
set_option maxRecDepth 100000 in
set_option maxHeartbeats 6400000 in
theorem LUnlike_any {s : Sd} {w : World} {u v : Value} {l m : List Pr} (hs : s.Ok) (h : prL.In w u l) (h2 : prL.In w v m) (hz : ∀ p ∈ l, PrSz p) (hz2 : ∀ p ∈ m, PrSz p) :
    Calls Try.prog 5 #[.agg #[.int .u64 s.a, .int .u64 s.b], u, v] w (UnlikeE w) := by
  have HI0 := Lib.hid (show _ ∧ _ from ⟨h, h2⟩)
  obtain ⟨a1, c1, rfl, _, _⟩ := h.slice
  obtain ⟨a2, c2, rfl, _, _⟩ := h2.slice
  have HS := Lib.hid hs
  have HZ := Lib.hid (show _ ∧ _ from ⟨hz, hz2⟩)
  obtain ⟨n, hn⟩ : ∃ n, n = l.length := ⟨_, rfl⟩
  obtain ⟨k, hk⟩ : ∃ n, n = m.length := ⟨_, rfl⟩
  rw [← hn, ← hk] at HI0 ⊢
  have HN := Lib.hid (show _ ∧ _ from ⟨hn, hk⟩)
  clear h h2 hs hz hz2 hn hk
  go_enter Try.func5, Try.ntmps5
  go_upto_region 1 with fail
  have HB : Hid (Below w.heap.size w (w.alloc (.cells #[.int .u64 s.a, .int .u64 s.b] 24))) := Lib.hid (below_alloc _ _)
  have HF : Hid ((w.alloc (.cells #[.int .u64 s.a, .int .u64 s.b] 24)).cell? ⟨w.heap.size, 0, none⟩ = some (.int .u64 s.a) ∧ (w.alloc (.cells #[.int .u64 s.a, .int .u64 s.b] 24)).cell? ⟨w.heap.size, 1, none⟩ = some (.int .u64 s.b)) := by
    refine Lib.hid ⟨?_, ?_⟩ <;> go_simp
  have HI := Lib.hid (show _ ∧ _ from ⟨HI0.out.1.later HB.out, HI0.out.2.later HB.out⟩)
  generalize w.alloc (.cells #[.int .u64 s.a, .int .u64 s.b] 24) = W at *
  obtain ⟨N, hN⟩ : ∃ N, N = w.heap.size := ⟨_, rfl⟩
  rw [← hN] at HF ⊢
  have HNw := Lib.hid hN
  clear hN HI0
  have HBL : Hid (Below W.heap.size W (W.alloc (.cells #[.slice a1 n c1, .slice a2 k c2] 29))) := Lib.hid (below_alloc _ _)
  have HSh := Lib.hid (short_any (lists_two HI.out.1 HI.out.2) (by simp))
  go_wp2_with fail
  go_fit HSh.out
  rintro e w1 ⟨bb, rfl, hfine, hb1⟩
  have HFi := Lib.hid hfine
  have HB1 : Hid (Below W.heap.size W w1) := Lib.hid (HBL.out.trans (hb1.mono HBL.out.size))
  clear hfine hb1 HBL HSh
  cases bb
  · go_wp2_with fail
    go_fit (awake_any w1)
    rintro e w2 ⟨rfl, hb2⟩
    have HB2 : Hid (Below W.heap.size W w2) := Lib.hid (HB1.out.trans (hb2.mono HB1.out.size))
    clear hb2
    go_wp2_with fail
    go_ret
    exact ⟨rfl, HB.out.trans (HB2.out.mono HB.out.size)⟩
  · have hsl := fineL_slim (HFi.out rfl) (List.mem_cons_self ..) HZ.out.1
    have hsm := fineL_slim (HFi.out rfl) (List.mem_cons_of_mem _ (List.mem_cons_self ..)) HZ.out.2
    have HSl := Lib.hid (show _ ∧ _ from ⟨hsl, hsm⟩)
    have hn60 : n ≤ 60 := by rw [HN.out.1]; exact hsl.2
    have hk60 : k ≤ 60 := by rw [HN.out.2]; exact hsm.2
    have ew : IntKind.i64.wrap ((n : Int) + (k : Int)) = (n : Int) + (k : Int) := IntWalk.i64_in _ (by omega)
    clear hsl hsm HFi
    by_cases h30 : n + k > 30
    · have h30i : (30 : Int) < (n : Int) + (k : Int) := by omega
      go_wp2_with fail
      go_fit (awake_any w1)
      rintro e w2 ⟨rfl, hb2⟩
      have HB2 : Hid (Below W.heap.size W w2) := Lib.hid (HB1.out.trans (hb2.mono HB1.out.size))
      clear hb2
      go_wp2_with fail
      go_ret
      exact ⟨rfl, HB.out.trans (HB2.out.mono HB.out.size)⟩
    · have h30i : ¬ (30 : Int) < (n : Int) + (k : Int) := by omega
      have HI1 := Lib.hid (show _ ∧ _ from ⟨HI.out.1.later HB1.out, HI.out.2.later HB1.out⟩)
      have HF1 := Lib.hid (show _ ∧ _ from ⟨cell_later HB1.out HF.out.1, cell_later HB1.out HF.out.2⟩)
      have HX1 : Hid (Below w.heap.size w w1) := Lib.hid (HB.out.trans (HB1.out.mono HB.out.size))
      have HnkL : Hid (l.length ≤ 60 ∧ m.length ≤ 60) := Lib.hid ⟨by rw [← HN.out.1]; exact hn60, by rw [← HN.out.2]; exact hk60⟩
      have HSm := Lib.hid (show Slim l ∧ Slim m from ⟨HSl.out.1.1, HSl.out.2.1⟩)
      clear HI HF HB HB1 HZ hn60 hk60 ew h30 HSl
      obtain ⟨d, p, ks, hk, hd, hr⟩ := two_tell HS.out HnkL.out HSm.out.1 HSm.out.2
      have HTw := Lib.hid (show _ ∧ _ ∧ _ from ⟨hk, hd, hr⟩)
      obtain ⟨kl, hkl⟩ : ∃ k, k = ks.length := ⟨_, rfl⟩
      have HKl := Lib.hid hkl
      clear hk hd hr hkl
      have HO1 : Hid (∀ V, Below w1.heap.size w1 V → Calls Try.prog 21 #[.agg #[.int .u64 s.a, .int .u64 s.b], .slice a1 n c1] V (MadeT s (s.place l) V)) := Lib.hid fun V hV => Of_any HS.out (build_any HS.out 4 (by decide)) (HI1.out.1.later hV) (by have := HnkL.out.1; omega) HSm.out.1
      have HO2 : Hid (∀ V, Below w1.heap.size w1 V → Calls Try.prog 21 #[.agg #[.int .u64 s.a, .int .u64 s.b], .slice a2 k c2] V (MadeT s (s.place m) V)) := Lib.hid fun V hV => Of_any HS.out (build_any HS.out 4 (by decide)) (HI1.out.2.later hV) (by have := HnkL.out.2; omega) HSm.out.2
      have hdr := below_drew1 w1
      have y0 := HF1.out.1
      have y1 := HF1.out.2
      have hn1 := World.block_lt_of_cell? _ _ y0
      have hn2 : N < w1.drew.heap.size := hn1
      go_upto_region 3 with fail
      go_cut [7, 8, 9] from 13 to 64 (fun s1 s2 s3 wx => ∃ (a5 : Option Addr) (c5 b : Nat), s1 = .slice a5 kl c5 ∧ s2 = .pointer (some ⟨b, 0, none⟩) ∧ s3 = .int .i64 0 ∧ Hid (Un5 w1 wx b d p (.slice a5 kl c5) ks))
      case first =>
        as_aux_lemma =>
          go_region_held3 (fun V => V.cell? ⟨N, 0, none⟩ = some (.int .u64 s.a) ∧ V.cell? ⟨N, 1, none⟩ = some (.int .u64 s.b)) (refine ⟨?_, ?_⟩ <;> (repeat (first | assumption | (refine cell_alloc ?_) | (refine (World.cell?_setCell_other _ _ _ _ (by intro e; injection e with e1; omega)).trans ?_))))
            (first
              | (go_at_call 21; (with_reducible refine (HO1.out _  hdr).mono ?_); rintro e w3 ⟨t1, rfl, ht, hb0⟩; have hb := hb0; have HB3 := Lib.hid (hdr.trans (hb.mono hdr.size)); have z3 := cell_later HB3.out y0; have o3 := cell_later HB3.out y1; have hn3 := World.block_lt_of_cell? _ _ z3; have HT3 := Lib.hid ht; clear ht hb hb0)
              | (go_at_call 21; (with_reducible refine (HO1.out _ (below_drew (below_alloc w1 _))).mono ?_); rintro e w3 ⟨t1, rfl, ht, hb0⟩; have HQ3 := Lib.hid (Bq.made (w := w1) (Nat.le_refl _) ((below_drew1 _).trans hb0)); have hb : Below w1.heap.size w1 w3 := (below_drew (below_alloc w1 _)).trans (hb0.mono ((below_drew (below_alloc w1 _))).size); have HB3 := Lib.hid ((Below.refl w1.heap.size w1).trans (hb.mono (Below.refl w1.heap.size w1).size)); have z3 := cell_later HB3.out y0; have o3 := cell_later HB3.out y1; have hn3 := World.block_lt_of_cell? _ _ z3; have HT3 := Lib.hid ht; clear ht hb hb0)
              | (go_at_call 21; (with_reducible refine (HO2.out _  HB3.out).mono ?_); rintro e w4 ⟨t2, rfl, ht, hb0⟩; have hb := hb0; (try have HQ4 := Lib.hid (HQ3.out.later hb)); have HB4 := Lib.hid (HB3.out.trans (hb.mono HB3.out.size)); have z4 := cell_later HB4.out y0; have o4 := cell_later HB4.out y1; have hn4 := World.block_lt_of_cell? _ _ z4; have HO3 := Lib.hid (fun (V : World) (hV : Below w4.heap.size w4 V) => HTw.out.2.1 V _ _ ((HT3.out.later hb).later hV) (ht.later hV)); clear ht hb hb0)
              | (go_at_call 21; (with_reducible refine (HO2.out _  (HB3.out.trans ((below_alloc w3 _).mono HB3.out.size))).mono ?_); rintro e w4 ⟨t2, rfl, ht, hb0⟩; have HQ4 := Lib.hid (Bq.made (w := w1) (HB3.out.size) hb0); have hb := (below_alloc w3 _).trans (hb0.mono (below_alloc w3 _).size); have HB4 := Lib.hid (HB3.out.trans (hb.mono HB3.out.size)); have z4 := cell_later HB4.out y0; have o4 := cell_later HB4.out y1; have hn4 := World.block_lt_of_cell? _ _ z4; have HO3 := Lib.hid (fun (V : World) (hV : Below w4.heap.size w4 V) => HTw.out.2.1 V _ _ ((HT3.out.later hb).later hV) (ht.later hV)); clear ht hb hb0)
              | (go_at_call 26; (with_reducible refine (HO3.out _ (Below.refl _ _)).mono ?_); rintro e w5 ⟨v, rfl, ht, hb0⟩; have hb := hb0; (try have HQ5 := Lib.hid (HQ4.out.later hb)); have HB5 := Lib.hid (HB4.out.trans (hb.mono HB4.out.size)); have z5 := cell_later HB5.out y0; have o5 := cell_later HB5.out y1; have hn5 := World.block_lt_of_cell? _ _ z5; have HI5 := Lib.hid ht; (obtain ⟨a5, c5, rfl, _, _⟩ := HI5.out.slice); (rw [← HKl.out] at HI5 ⊢); (try (have q0 := HQ5.out.q0; have q1 := HQ5.out.q1; have qz0 := HQ5.out.qz 0; have qz1 := HQ5.out.qz 1)); clear ht hb hb0)
              | (go_at_call 26; (with_reducible refine (HO3.out _ (below_alloc w4 _)).mono ?_); rintro e w5 ⟨v, rfl, ht, hb0⟩; have HQ5 := Lib.hid (Bq.made (w := w1) (HB4.out.size) hb0); have hb := (below_alloc w4 _).trans (hb0.mono (below_alloc w4 _).size); have HB5 := Lib.hid (HB4.out.trans (hb.mono HB4.out.size)); have z5 := cell_later HB5.out y0; have o5 := cell_later HB5.out y1; have hn5 := World.block_lt_of_cell? _ _ z5; have HI5 := Lib.hid ht; (obtain ⟨a5, c5, rfl, _, _⟩ := HI5.out.slice); (rw [← HKl.out] at HI5 ⊢); (try (have q0 := HQ5.out.q0; have q1 := HQ5.out.q1; have qz0 := HQ5.out.qz 0; have qz1 := HQ5.out.qz 1)); clear ht hb hb0))
          all_goals
            first
              | (have HU6 : Hid (Un5 w1 ((w5.setCell ⟨w1.heap.size, 0, none⟩ (.int .i64 (d : Int))).setCell ⟨w1.heap.size, 1, none⟩ (.int .i64 (p : Int))) w1.heap.size d p (.slice a5 kl c5) ks) := Lib.hid (tl_set HI5.out HB5.out HQ5.out d p); clear q0 q1 qz0 qz1 HQ5; generalize (w5.setCell ⟨w1.heap.size, 0, none⟩ (.int .i64 (d : Int))).setCell ⟨w1.heap.size, 1, none⟩ (.int .i64 (p : Int)) = w6 at *; generalize w1.heap.size = b at HU6 ⊢)
              | (have HU6 : Hid (Un5 w1 ((w5.setCell ⟨w3.heap.size, 0, none⟩ (.int .i64 (d : Int))).setCell ⟨w3.heap.size, 1, none⟩ (.int .i64 (p : Int))) w3.heap.size d p (.slice a5 kl c5) ks) := Lib.hid (tl_set HI5.out HB5.out HQ5.out d p); clear q0 q1 qz0 qz1 HQ5; generalize (w5.setCell ⟨w3.heap.size, 0, none⟩ (.int .i64 (d : Int))).setCell ⟨w3.heap.size, 1, none⟩ (.int .i64 (p : Int)) = w6 at *; generalize w3.heap.size = b at HU6 ⊢)
              | (have HU6 : Hid (Un5 w1 ((w5.setCell ⟨w4.heap.size, 0, none⟩ (.int .i64 (d : Int))).setCell ⟨w4.heap.size, 1, none⟩ (.int .i64 (p : Int))) w4.heap.size d p (.slice a5 kl c5) ks) := Lib.hid (tl_set HI5.out HB5.out HQ5.out d p); clear q0 q1 qz0 qz1 HQ5; generalize (w5.setCell ⟨w4.heap.size, 0, none⟩ (.int .i64 (d : Int))).setCell ⟨w4.heap.size, 1, none⟩ (.int .i64 (p : Int)) = w6 at *; generalize w4.heap.size = b at HU6 ⊢)
              | (have HU6 : Hid (Un5 w1 (w5.alloc (.cells #[.int .i64 (d : Int), .int .i64 (p : Int)] 51)) w5.heap.size d p (.slice a5 kl c5) ks) := Lib.hid (tl_alloc HI5.out HB5.out d p); generalize w5.alloc (.cells #[.int .i64 (d : Int), .int .i64 (p : Int)] 51) = w6 at *; generalize w5.heap.size = b at HU6 ⊢)
            go_wp2_with fail
            go_meet
            exact ⟨_, _, _, rfl, rfl, rfl, HU6⟩
      case rest =>
      obtain ⟨a5, c5, b1, rfl, rfl, rfl, HU6⟩ := hcut
      generalize wc = wd at *
      clear y0 y1 hn1 hn2 hdr HO1 HO2
      have HJ1 := Lib.hid (show _ ∧ _ from ⟨HI1.out.1.later HU6.out.hb, HI1.out.2.later HU6.out.hb⟩)
      have yr0 := cell_later HU6.out.hb HF1.out.1
      have yr1 := cell_later HU6.out.hb HF1.out.2
      have HX2 : Hid (Below w.heap.size w wd) := Lib.hid (HX1.out.trans (HU6.out.hb.mono HX1.out.size))
      have HOr1 : Hid (∀ V, Below wd.heap.size wd V → Calls Try.prog 22 #[.agg #[.int .u64 s.a, .int .u64 s.b], .slice a1 n c1] V (MadeR s (un [] l) V)) := Lib.hid fun V hV => ROfT_at (HJ1.out.1.later hV) (by have := HnkL.out.1; omega)
      have HOr2 : Hid (∀ V, Below wd.heap.size wd V → Calls Try.prog 22 #[.agg #[.int .u64 s.a, .int .u64 s.b], .slice a2 k c2] V (MadeR s (un [] m) V)) := Lib.hid fun V hV => ROfT_at (HJ1.out.2.later hV) (by have := HnkL.out.2; omega)
      have hdrr := below_drew1 wd
      have hn1 := World.block_lt_of_cell? _ _ yr0
      have hn2 : N < wd.drew.heap.size := hn1
      clear HI1 HF1 HX1
      go_upto_region 4 with fail
      go_cut [10, 11, 12] from 13 to 64 (fun s1 s2 s3 wx => ∃ (a5 : Option Addr) (c5 b : Nat), s1 = .slice a5 kl c5 ∧ s2 = .pointer (some ⟨b, 0, none⟩) ∧ s3 = .int .i64 0 ∧ Hid (Un5 wd wx b d p (.slice a5 kl c5) ks))
      case first =>
        as_aux_lemma =>
          go_region_held3 (fun V => V.cell? ⟨N, 0, none⟩ = some (.int .u64 s.a) ∧ V.cell? ⟨N, 1, none⟩ = some (.int .u64 s.b)) (refine ⟨?_, ?_⟩ <;> (repeat (first | assumption | (refine cell_alloc ?_) | (refine (World.cell?_setCell_other _ _ _ _ (by intro e; injection e with e1; omega)).trans ?_))))
            (first
              | (go_at_call 22; (with_reducible refine (HOr1.out _  hdrr).mono ?_); rintro e wr3 ⟨tr1, rfl, ht, hb0⟩; have hb := hb0; have HBr3 := Lib.hid (hdrr.trans (hb.mono hdrr.size)); have zr3 := cell_later HBr3.out yr0; have or3 := cell_later HBr3.out yr1; have hnr3 := World.block_lt_of_cell? _ _ zr3; have ht := ht.tr; have HTr3 := Lib.hid ht; clear ht hb hb0)
              | (go_at_call 22; (with_reducible refine (HOr1.out _ (below_drew (below_alloc wd _))).mono ?_); rintro e wr3 ⟨tr1, rfl, ht, hb0⟩; have HQr3 := Lib.hid (Bq.made (w := wd) (Nat.le_refl _) ((below_drew1 _).trans hb0)); have hb : Below wd.heap.size wd wr3 := (below_drew (below_alloc wd _)).trans (hb0.mono ((below_drew (below_alloc wd _))).size); have HBr3 := Lib.hid ((Below.refl wd.heap.size wd).trans (hb.mono (Below.refl wd.heap.size wd).size)); have zr3 := cell_later HBr3.out yr0; have or3 := cell_later HBr3.out yr1; have hnr3 := World.block_lt_of_cell? _ _ zr3; have ht := ht.tr; have HTr3 := Lib.hid ht; clear ht hb hb0)
              | (go_at_call 22; (with_reducible refine (HOr2.out _  HBr3.out).mono ?_); rintro e wr4 ⟨tr2, rfl, ht, hb0⟩; have hb := hb0; (try have HQr4 := Lib.hid (HQr3.out.later hb)); have HBr4 := Lib.hid (HBr3.out.trans (hb.mono HBr3.out.size)); have zr4 := cell_later HBr4.out yr0; have or4 := cell_later HBr4.out yr1; have hnr4 := World.block_lt_of_cell? _ _ zr4; have ht := ht.tr; have HOr3 := Lib.hid (fun (V : World) (hV : Below wr4.heap.size wr4 V) => HTw.out.2.2 V _ _ ((HTr3.out.later hb).later hV) (ht.later hV)); clear ht hb hb0)
              | (go_at_call 22; (with_reducible refine (HOr2.out _  (HBr3.out.trans ((below_alloc wr3 _).mono HBr3.out.size))).mono ?_); rintro e wr4 ⟨tr2, rfl, ht, hb0⟩; have HQr4 := Lib.hid (Bq.made (w := wd) (HBr3.out.size) hb0); have hb := (below_alloc wr3 _).trans (hb0.mono (below_alloc wr3 _).size); have HBr4 := Lib.hid (HBr3.out.trans (hb.mono HBr3.out.size)); have zr4 := cell_later HBr4.out yr0; have or4 := cell_later HBr4.out yr1; have hnr4 := World.block_lt_of_cell? _ _ zr4; have ht := ht.tr; have HOr3 := Lib.hid (fun (V : World) (hV : Below wr4.heap.size wr4 V) => HTw.out.2.2 V _ _ ((HTr3.out.later hb).later hV) (ht.later hV)); clear ht hb hb0)
              | (go_at_call 27; (with_reducible refine (HOr3.out _ (Below.refl _ _)).mono ?_); rintro e wr5 ⟨vr, rfl, ht, hb0⟩; have hb := hb0; (try have HQr5 := Lib.hid (HQr4.out.later hb)); have HBr5 := Lib.hid (HBr4.out.trans (hb.mono HBr4.out.size)); have zr5 := cell_later HBr5.out yr0; have or5 := cell_later HBr5.out yr1; have hnr5 := World.block_lt_of_cell? _ _ zr5; have HIr5 := Lib.hid ht; (obtain ⟨ar5, cr5, rfl, _, _⟩ := HIr5.out.slice); (rw [← HKl.out] at HIr5 ⊢); (try (have q0 := HQr5.out.q0; have q1 := HQr5.out.q1; have qz0 := HQr5.out.qz 0; have qz1 := HQr5.out.qz 1)); clear ht hb hb0)
              | (go_at_call 27; (with_reducible refine (HOr3.out _ (below_alloc wr4 _)).mono ?_); rintro e wr5 ⟨vr, rfl, ht, hb0⟩; have HQr5 := Lib.hid (Bq.made (w := wd) (HBr4.out.size) hb0); have hb := (below_alloc wr4 _).trans (hb0.mono (below_alloc wr4 _).size); have HBr5 := Lib.hid (HBr4.out.trans (hb.mono HBr4.out.size)); have zr5 := cell_later HBr5.out yr0; have or5 := cell_later HBr5.out yr1; have hnr5 := World.block_lt_of_cell? _ _ zr5; have HIr5 := Lib.hid ht; (obtain ⟨ar5, cr5, rfl, _, _⟩ := HIr5.out.slice); (rw [← HKl.out] at HIr5 ⊢); (try (have q0 := HQr5.out.q0; have q1 := HQr5.out.q1; have qz0 := HQr5.out.qz 0; have qz1 := HQr5.out.qz 1)); clear ht hb hb0))
          all_goals
            first
              | (have HUr6 : Hid (Un5 wd ((wr5.setCell ⟨wd.heap.size, 0, none⟩ (.int .i64 (d : Int))).setCell ⟨wd.heap.size, 1, none⟩ (.int .i64 (p : Int))) wd.heap.size d p (.slice ar5 kl cr5) ks) := Lib.hid (tl_set HIr5.out HBr5.out HQr5.out d p); clear q0 q1 qz0 qz1 HQr5; generalize (wr5.setCell ⟨wd.heap.size, 0, none⟩ (.int .i64 (d : Int))).setCell ⟨wd.heap.size, 1, none⟩ (.int .i64 (p : Int)) = wr6 at *; generalize wd.heap.size = br at HUr6 ⊢)
              | (have HUr6 : Hid (Un5 wd ((wr5.setCell ⟨wr3.heap.size, 0, none⟩ (.int .i64 (d : Int))).setCell ⟨wr3.heap.size, 1, none⟩ (.int .i64 (p : Int))) wr3.heap.size d p (.slice ar5 kl cr5) ks) := Lib.hid (tl_set HIr5.out HBr5.out HQr5.out d p); clear q0 q1 qz0 qz1 HQr5; generalize (wr5.setCell ⟨wr3.heap.size, 0, none⟩ (.int .i64 (d : Int))).setCell ⟨wr3.heap.size, 1, none⟩ (.int .i64 (p : Int)) = wr6 at *; generalize wr3.heap.size = br at HUr6 ⊢)
              | (have HUr6 : Hid (Un5 wd ((wr5.setCell ⟨wr4.heap.size, 0, none⟩ (.int .i64 (d : Int))).setCell ⟨wr4.heap.size, 1, none⟩ (.int .i64 (p : Int))) wr4.heap.size d p (.slice ar5 kl cr5) ks) := Lib.hid (tl_set HIr5.out HBr5.out HQr5.out d p); clear q0 q1 qz0 qz1 HQr5; generalize (wr5.setCell ⟨wr4.heap.size, 0, none⟩ (.int .i64 (d : Int))).setCell ⟨wr4.heap.size, 1, none⟩ (.int .i64 (p : Int)) = wr6 at *; generalize wr4.heap.size = br at HUr6 ⊢)
              | (have HUr6 : Hid (Un5 wd (wr5.alloc (.cells #[.int .i64 (d : Int), .int .i64 (p : Int)] 51)) wr5.heap.size d p (.slice ar5 kl cr5) ks) := Lib.hid (tl_alloc HIr5.out HBr5.out d p); generalize wr5.alloc (.cells #[.int .i64 (d : Int), .int .i64 (p : Int)] 51) = wr6 at *; generalize wr5.heap.size = br at HUr6 ⊢)
            go_wp2_with fail
            go_meet
            exact ⟨_, _, _, rfl, rfl, rfl, HUr6⟩
      case rest =>
      obtain ⟨ar5, cr5, b2, rfl, rfl, rfl, HU7⟩ := hcut
      clear yr0 yr1 hn1 hn2 hdrr HOr1 HOr2 HJ1
      have HV6 := Lib.hid (HU6.out.later HU7.out.hb)
      have HX3 : Hid (Below w.heap.size w wc) := Lib.hid (HX2.out.trans (HU7.out.hb.mono HX2.out.size))
      have HSe := Lib.hid (StrEq_any (w := wc) (by have h := HV6.out.row; exact h) (by have h := HU7.out.row; exact h) HTw.out.1)
      clear HU6 HX2
      have ht := fun W : World => talk_eql W (d : Int) (p : Int)
      go_wp2_with fail
      go_fit HSe.out
      rintro e w8 ⟨rfl, q, rfl⟩
      have hbX : Below wc.heap.size wc (wc.drewN q) := below_drewN (Below.refl _ _) _
      have HX4 := Lib.hid (HX3.out.trans (hbX.mono HX3.out.size))
      have c0 := cell_later hbX HV6.out.t0
      have c1 := cell_later hbX HV6.out.t1
      have d0 := cell_later hbX HU7.out.t0
      have d1 := cell_later hbX HU7.out.t1
      clear hbX HV6 HU7 HSe HX3
      generalize wc.drewN q = w8 at *
      go_wp2_with fail
      go_fit (awake_any w8)
      rintro e w9 ⟨rfl, hb9⟩
      have HB9 := Lib.hid (HX4.out.trans (hb9.mono HX4.out.size))
      clear hb9 c0 c1 d0 d1
      go_wp2_with fail
      go_ret
      exact ⟨rfl, HB9.out⟩
end Go.Proofs.Ytcbgnmolfdhnfaa
