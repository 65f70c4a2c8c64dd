/-
  DigestTold walked. (Written by gentold.py.)
-/
import Derived.Test.YtcbgnmolfdhnfaaRootsW
import Derived.Test.YtcbgnmolfdhnfaaU0
import Derived.Test.YtcbgnmolfdhnfaaTB
namespace Go.Proofs.Ytcbgnmolfdhnfaa
set_option linter.unusedVariables false
set_option linter.unusedSimpArgs false
open Go.RowKit Go.Joins

theorem lists_two {W : World} {u v : Value} {l m : List Pr} (h : prL.In W u l) (h2 : prL.In W v m) : LsIn (W.alloc (.cells #[u, v] 29)) (.slice (some ⟨W.heap.size, 0, none⟩) 2 2) [l, m] := by
  refine ⟨_, 2, rfl, .inr ⟨W.heap.size, 0, rfl, fun i x hl => ?_⟩⟩
  rcases i with _ | _ | i
  · cases hl
    exact ⟨u, by go_simp, h.later (below_alloc _ _)⟩
  · cases hl
    exact ⟨v, by go_simp, h2.later (below_alloc _ _)⟩
  · simp at hl
theorem ContS_any {w : World} {v : Value} {l : List ByteArray} (x : ByteArray) (h : strL.In w v l) : Calls Try.prog 35 #[v, .string x] w fun e w' => e = .returned (.bool (Lib.containsS l x)) ∧ w = w' := by
  obtain ⟨a, c, rfl, hc, hc2, hu⟩ := h
  rcases hu with rfl | ⟨g, off, rfl, hg, hp⟩
  · exact (Try.slices_Contains_string_empty a c x w).mono fun e w' ⟨he, hw⟩ => ⟨by rw [he]; rfl, hw.symm⟩
  · refine (Try.slices_Contains_string g off l.length c l x w (Nat.le_refl _) (by omega) (fun j hj => ?_)).mono fun e' w' ⟨he, hw⟩ => ⟨by rw [he, List.take_length], hw.symm⟩
    have h := hp j _ (List.getElem?_eq_getElem hj) 0 _ rfl
    rw [show strL.sz = 1 from rfl, Nat.mul_one] at h
    rw [List.getD_eq_getElem?_getD, List.getElem?_eq_getElem hj]; exact h
theorem kst_next {l : List ByteArray} (h : Kst l) : ∀ i a b, l[i]? = some a → l[i + 1]? = some b → klt b a = false := fun i a b ha hb => by
  obtain ⟨h1, rfl⟩ := List.getElem?_eq_some_iff.1 ha
  obtain ⟨h2, rfl⟩ := List.getElem?_eq_some_iff.1 hb
  have h3 := List.pairwise_iff_getElem.1 h i (i + 1) h1 h2 (by omega)
  cases e : klt l[i + 1] l[i] with
  | false => rfl
  | true => exact absurd rfl (klt_ne (klt_trans h3 e))
theorem places_len {s : Sd} (hs : s.Ok) {l m : List Pr} (h : l.length ≤ 60 ∧ m.length ≤ 60) : (s.place l).length + (s.place m).length ≤ 1000 := by
  have p1 := (place_same hs l (by rw [isort_length, List.length_map])).2
  have p2 := (place_same hs m (by rw [isort_length, List.length_map])).2
  have u1 := un_len l []
  have u2 := un_len m []
  simp only [List.length_nil, Nat.zero_add] at u1 u2
  omega
theorem told_facts {s : Sd} (hs : s.Ok) {l m : List Pr} (h : l.length ≤ 60 ∧ m.length ≤ 60) : ∃ (L : List ByteArray) (d p : Nat) (E : List Dv), L.length ≤ 1000000000 ∧ E.length ≤ 1000 ∧ (∀ i a b, L[i]? = some a → L[i + 1]? = some b → klt b a = false) ∧ (∀ k ∈ L, k ∈ E.map (·.1)) ∧
    (∀ k ∈ E.map (·.1), k ∉ L → look (un [] l) k ≠ look (un [] m) k ∧ k ∉ s.vk 4 ((un [] l).map s.mk') ((un [] m).map s.mk')) ∧ E = df (un [] l) (un [] m) (un (un [] l) (un [] m)) ∧
    (∀ V ta tb, TrIn s V ta (s.place l) → TrIn s V tb (s.place m) → Calls Try.prog 26 #[.pointer (some ⟨ta, 0, none⟩), .pointer (some ⟨tb, 0, none⟩)] V fun e w' => ∃ v, e = .returned (.tuple #[v, .agg #[.int .i64 d, .int .i64 p], .int .i64 0]) ∧ strL.In w' v L ∧ Below V.heap.size V w') := by
  obtain ⟨e1, _, _, e4⟩ := told_same hs l m
  have u1 := un_len l []
  have u2 := un_len m []
  simp only [List.length_nil, Nat.zero_add] at u1 u2
  have hp := places_len hs h
  have sA := un_sorted l (a := []) trivial
  have sB := un_sorted m (a := []) trivial
  have em : ∀ R : List Pr, s.mp [] R = R.map s.mk' := fun R => by rw [mp_subI s R [] (fun d hd => by cases hd) (by decide), subI_nil]
  rw [em, em] at e1 e4
  have hk : ∀ k, k ∈ (df (un [] l) (un [] m) (un (un [] l) (un [] m))).map (·.1) ↔ look (un [] l) k ≠ look (un [] m) k := fun k => by
    rw [df_keys s sA sB]; exact (mg_facts s _ _ _ rfl sA sB).1 k
  refine ⟨sortK (s.vk 4 (s.place l) (s.place m)), 1 + s.vd 4 (s.place l) (s.place m), s.vp 4 (s.place l) (s.place m), _, ?_, ?_, ?_, ?_, ?_, rfl, ?_⟩
  · have h1 := s.vk_le 1000 4 _ _ hp
    have e : 16 ^ 4 * 1000 = 65536000 := by decide
    rw [sortK_len]; omega
  · have h1 := df_len (un [] l) (un [] m) (un (un [] l) (un [] m))
    have h2 := un_len (un [] m) (un [] l)
    omega
  · rw [e1]; exact kst_next (sortK_strict e4)
  · intro k hm
    rw [sortK_mem, e1] at hm
    exact (hk k).2 (vk_diff s 4 sA sB k hm)
  · intro k hm hn
    rw [sortK_mem, e1] at hn
    exact ⟨(hk k).1 hm, hn⟩
  · intro V ta tb h1 h2
    exact (Unlike_any h1 h2 hp).mono fun e w' ⟨v, he, hr⟩ => ⟨v, he, hr.told, hr.grown⟩
theorem dig_nods : ∀ {p : List Int}, Dig16 p → nods p = false := fun {p} h => by
  cases e : nods p with
  | false => rfl
  | true =>
    obtain ⟨d, hd, hn⟩ := List.any_eq_true.1 e
    have := h d hd
    unfold nod at hn
    simp at hn
    omega
theorem PartsT {s : Sd} (hs : s.Ok) {w : World} {tb n : Nat} {l : List Pr} {v : Value} {p : List Int} (ht : TrIn s w tb (s.place l)) (hp : intL.In w v p) (hd : Dig16 p) (hl : p.length + (n + 1) = 4) :
    Calls Try.prog 36 #[.pointer (some ⟨tb, 0, none⟩), v] w fun e w' => ∃ u, e = .returned (.tuple #[u, .int .i64 0]) ∧ u64L.In w' u (s.ts n (subI 4 p ((un [] l).map s.mk')) 16) ∧ Below w.heap.size w w' :=
  (Parts_any ht hp (by omega)).mono fun e w' h => by
    have hr : rightP p 3 = true := by unfold rightP; rw [dig_nods hd]; simp; omega
    rcases h with ⟨h0, _⟩ | ⟨_, u, he, hrw⟩
    · rw [hr] at h0; cases h0
    · refine ⟨u, he, ?_, hrw.grown⟩
      have e : 3 - p.length = n := by omega
      have h := hrw.told
      rw [e, ts_same hs l hd hl] at h
      exact h
theorem ts_at (s : Sd) (n i : Nat) (S : List Pl) (hi : i < 16) : (s.ts n S 16)[i]? = some (s.tr n (sub n i S)) := by
  unfold Sd.ts
  rw [List.getElem?_map, List.getElem?_range hi]; rfl
theorem key_sz {l m : List Pr} (hz : ∀ p ∈ l, PrSz p) (hz2 : ∀ p ∈ m, PrSz p) {x : ByteArray} (h : look (un [] l) x ≠ look (un [] m) x) : x.size ≤ 140737488355328 := by
  cases e : look (un [] l) x with
  | some v =>
    have h1 : x.size ≤ 140737488351232 := (hz _ (un_mem (look_some e))).1
    omega
  | none =>
    cases e2 : look (un [] m) x with
    | some v =>
      have h1 : x.size ≤ 140737488351232 := (hz2 _ (un_mem (look_some e2))).1
      omega
    | none => rw [e, e2] at h; exact absurd rfl h
theorem kd_shift (s : Sd) {n sh : Nat} (x : ByteArray) (h : sh = 48 + 4 * n) : kd s n x = s.at x / 2 ^ sh % 16 := by
  subst h
  unfold kd dgt Sd.mk'
  show s.at x / 281474976710656 / 16 ^ n % 16 = _
  rw [Nat.div_div_eq_div_mul, Nat.pow_add, Nat.pow_mul]
theorem and15_u64 (a : Nat) (ha : a < 18446744073709551616) : bits BinOp.and IntKind.u64 (a : Int) 15 = ((a % 16 : Nat) : Int) := by
  have h := bits_and_u64_nat a 15 (by omega) (by omega)
  rw [show a &&& 15 = a % 16 from Nat.and_two_pow_sub_one_eq_mod a 4] at h
  exact h
def ToldE (w : World) (e : Ending) (w' : World) : Prop := e = .returned (.bool true) ∧ Below w.heap.size w w'
set_option maxRecDepth 100000 in
set_option maxHeartbeats 6400000 in
theorem LTold_any {s : Sd} {w : World} {u v : Value} {l m : List Pr} (hs : s.Ok) (h : prL.In w u l) (h2 : prL.In w v m) (hz : ∀ p ∈ l, PrSz p) (hz2 : ∀ p ∈ m, PrSz p) :
    Calls Try.prog 7 #[.agg #[.int .u64 s.a, .int .u64 s.b], u, v] w (ToldE w) := by
  have HI0 := Lib.hid (show _ ∧ _ from ⟨h, h2⟩)
  obtain ⟨a1, c1, rfl, _, _⟩ := h.slice
  obtain ⟨a2, c2, rfl, _, _⟩ := h2.slice
  have HS := Lib.hid hs
  have HZ := Lib.hid (show _ ∧ _ from ⟨hz, hz2⟩)
  obtain ⟨n, hn⟩ : ∃ n, n = l.length := ⟨_, rfl⟩
  obtain ⟨k, hk⟩ : ∃ n, n = m.length := ⟨_, rfl⟩
  rw [← hn, ← hk] at HI0 ⊢
  have HN := Lib.hid (show _ ∧ _ from ⟨hn, hk⟩)
  clear h h2 hs hz hz2 hn hk
  go_enter Try.func7, Try.ntmps7
  go_upto_region 1 with fail
  have HB : Hid (Below w.heap.size w (w.alloc (.cells #[.int .u64 s.a, .int .u64 s.b] 24))) := Lib.hid (below_alloc _ _)
  have HF : Hid ((w.alloc (.cells #[.int .u64 s.a, .int .u64 s.b] 24)).cell? ⟨w.heap.size, 0, none⟩ = some (.int .u64 s.a) ∧ (w.alloc (.cells #[.int .u64 s.a, .int .u64 s.b] 24)).cell? ⟨w.heap.size, 1, none⟩ = some (.int .u64 s.b)) := by
    refine Lib.hid ⟨?_, ?_⟩ <;> go_simp
  have HI := Lib.hid (show _ ∧ _ from ⟨HI0.out.1.later HB.out, HI0.out.2.later HB.out⟩)
  generalize w.alloc (.cells #[.int .u64 s.a, .int .u64 s.b] 24) = W at *
  obtain ⟨N, hN⟩ : ∃ N, N = w.heap.size := ⟨_, rfl⟩
  rw [← hN] at HF ⊢
  have HNw := Lib.hid hN
  clear hN HI0
  have HBL : Hid (Below W.heap.size W (W.alloc (.cells #[.slice a1 n c1, .slice a2 k c2] 29))) := Lib.hid (below_alloc _ _)
  have HSh := Lib.hid (short_any (lists_two HI.out.1 HI.out.2) (by simp))
  go_wp2_with fail
  go_fit HSh.out
  rintro e w1 ⟨bb, rfl, hfine, hb1⟩
  have HFi := Lib.hid hfine
  have HB1 : Hid (Below W.heap.size W w1) := Lib.hid (HBL.out.trans (hb1.mono HBL.out.size))
  clear hfine hb1 HBL HSh
  cases bb
  · go_wp2_with fail
    go_fit (awake_any w1)
    rintro e w2 ⟨rfl, hb2⟩
    have HB2 : Hid (Below W.heap.size W w2) := Lib.hid (HB1.out.trans (hb2.mono HB1.out.size))
    clear hb2
    go_wp2_with fail
    go_ret
    exact ⟨rfl, HB.out.trans (HB2.out.mono HB.out.size)⟩
  · have hsl := fineL_slim (HFi.out rfl) (List.mem_cons_self ..) HZ.out.1
    have hsm := fineL_slim (HFi.out rfl) (List.mem_cons_of_mem _ (List.mem_cons_self ..)) HZ.out.2
    have HSl := Lib.hid (show _ ∧ _ from ⟨hsl, hsm⟩)
    have HnkL : Hid (l.length ≤ 60 ∧ m.length ≤ 60) := Lib.hid ⟨hsl.2, hsm.2⟩
    have HI1 := Lib.hid (show _ ∧ _ from ⟨HI.out.1.later HB1.out, HI.out.2.later HB1.out⟩)
    have HO1 := Lib.hid (ROf_any HI1.out.1 (by have := HnkL.out.1; omega))
    clear hsl hsm HFi
    go_wp2_with fail
    go_fit HO1.out
    rintro e w2 ⟨u2, rfl, hr2⟩
    obtain ⟨a3, c3, rfl, _, _⟩ := hr2.slice
    obtain ⟨A, hA⟩ : ∃ A, A = un [] l := ⟨_, rfl⟩
    obtain ⟨B, hB⟩ : ∃ B, B = un [] m := ⟨_, rfl⟩
    obtain ⟨na, hna⟩ : ∃ x, x = A.length := ⟨_, rfl⟩
    obtain ⟨nb, hnb⟩ : ∃ x, x = B.length := ⟨_, rfl⟩
    have HAB := Lib.hid (show A = un [] l ∧ B = un [] m ∧ na = A.length ∧ nb = B.length from ⟨hA, hB, hna, hnb⟩)
    have HX2 := Lib.hid hr2.told
    rw [← hA, ← hna] at HX2
    rw [← hA, ← hna]
    have HB2 := Lib.hid (HB1.out.trans (hr2.grown.mono HB1.out.size))
    have HO2 := Lib.hid (ROf_any (HI.out.2.later HB2.out) (by have := HnkL.out.2; omega))
    clear hr2 HO1 HI1 hA hna
    go_wp2_with fail
    go_fit HO2.out
    rintro e w3 ⟨u3, rfl, hr3⟩
    obtain ⟨a4, c4, rfl, _, _⟩ := hr3.slice
    have HX3 := Lib.hid (HX2.out.later hr3.grown)
    have HY3 := Lib.hid hr3.told
    rw [← hB, ← hnb] at HY3
    rw [← hB, ← hnb]
    have HB3 := Lib.hid (HB2.out.trans (hr3.grown.mono HB2.out.size))
    have y0 := cell_later HB3.out HF.out.1
    have y1 := cell_later HB3.out HF.out.2
    have HOf1 : Hid (∀ V, Below W.heap.size W V → Calls Try.prog 21 #[.agg #[.int .u64 s.a, .int .u64 s.b], .slice a1 n c1] V (MadeT s (s.place l) V)) := Lib.hid fun V hV => Of_any HS.out (build_any HS.out 4 (by decide)) (HI.out.1.later hV) (by have := HnkL.out.1; omega) HSl.out.1.1
    have HOf2 : Hid (∀ V, Below W.heap.size W V → Calls Try.prog 21 #[.agg #[.int .u64 s.a, .int .u64 s.b], .slice a2 k c2] V (MadeT s (s.place m) V)) := Lib.hid fun V hV => Of_any HS.out (build_any HS.out 4 (by decide)) (HI.out.2.later hV) (by have := HnkL.out.2; omega) HSl.out.2.1
    have hd3 := below_drew HB3.out
    have HQ1 := Lib.hid (HOf1.out w3.drew hd3)
    clear hr3 HO2 HX2 HB2 HB1 hB hnb
    go_upto_region 4 with fail
    go_region_held3 (fun V => V.cell? ⟨N, 0, none⟩ = some (.int .u64 s.a) ∧ V.cell? ⟨N, 1, none⟩ = some (.int .u64 s.b)) (go_keep)
      (first
        | (go_at_call 21; (with_reducible refine HQ1.out.mono ?_); rintro e w4 ⟨ta, rfl, ht4, hb4⟩; have HT4 := Lib.hid ht4; have HB4 := Lib.hid (hd3.trans (hb4.mono hd3.size)); have HL4 := Lib.hid ((below_drew1 w3).trans hb4); have z0 := cell_later HB4.out HF.out.1; have z1 := cell_later HB4.out HF.out.2; have HQ2 := Lib.hid (HOf2.out w4 HB4.out); clear ht4 hb4)
        | (go_at_call 21; (with_reducible refine HQ2.out.mono ?_); rintro e w5 ⟨tb, rfl, ht5, hb5⟩; have HU5 := Lib.hid ht5; have HT5 := Lib.hid (HT4.out.later hb5); have HB5 := Lib.hid (HB4.out.trans (hb5.mono HB4.out.size)); have HL5 := Lib.hid (HL4.out.trans (hb5.mono HL4.out.size)); have x0 := cell_later HB5.out HF.out.1; have x1 := cell_later HB5.out HF.out.2; clear ht5 hb5))
    all_goals
      obtain ⟨L, d, p, E, hL1, hE1, hL2, hL3, hE2, hEe, hUn⟩ := told_facts HS.out HnkL.out
      rw [← HAB.out.1, ← HAB.out.2.1] at hEe hE2
      have HLf := Lib.hid (show _ ∧ _ ∧ _ ∧ _ ∧ _ from ⟨hL1, hE1, hL2, hL3, hE2⟩)
      have HEe := Lib.hid hEe
      have HX5 := Lib.hid (HX3.out.later HL5.out)
      have HY5 := Lib.hid (HY3.out.later HL5.out)
      have HUn := Lib.hid (hUn w5 ta tb HT5.out HU5.out)
      have HB5w := Lib.hid (HB.out.trans (HB5.out.mono HB.out.size))
      have HF5 := Lib.hid (show _ ∧ _ from ⟨x0, x1⟩)
      clear x0 x1 y0 y1 z0 z1 hL1 hE1 hL2 hL3 hE2 hEe hUn HQ1 HQ2 HOf1 HOf2 hd3 HB4 HL4 HL5 HT4 HX3 HY3 HB3 HB5 HB HI HF
      go_wp2_with fail
      go_fit HUn.out
      rintro e w6 ⟨u6, rfl, hi6, hb6⟩
      obtain ⟨a6, c6, rfl, _, _⟩ := hi6.slice
      obtain ⟨q, hq⟩ : ∃ q, q = L.length := ⟨_, rfl⟩
      have hqb : q ≤ 1000000000 := by rw [hq]; exact HLf.out.1
      have HQ := Lib.hid hq
      have hb7 := hb6.trans ((below_alloc w6 (.cells #[.int .i64 d, .int .i64 p] 51)).mono hb6.size)
      have HB7 := Lib.hid hb7
      have HI7 := Lib.hid (hi6.later (below_alloc w6 (.cells #[.int .i64 d, .int .i64 p] 51)))
      rw [← hq] at HI7 ⊢
      clear hi6 hb6 hb7 hq HUn
      go_upto_region 6 with fail
      generalize w6.alloc (.cells #[.int .i64 d, .int .i64 p] 51) = w7 at *
      have HDf := Lib.hid (Diff_any (HX5.out.later HB7.out) (HY5.out.later HB7.out) (by rw [HAB.out.1]; exact un_sorted l trivial) (by
        have h1 := un_len l []
        have h2 := un_len m []
        have h3 := HnkL.out
        rw [HAB.out.1, HAB.out.2.1]
        simp only [List.length_nil, Nat.zero_add] at h1 h2
        omega))
      rw [← HEe.out] at HDf
      clear HX5 HY5
      go_wp2_with fail
      go_fit HDf.out
      rintro e w8 ⟨u8, rfl, hr8⟩
      obtain ⟨a8, c8, rfl, _, _⟩ := hr8.slice
      obtain ⟨g, hg⟩ : ∃ g, g = E.length := ⟨_, rfl⟩
      have hgb : g ≤ 1000 := by rw [hg]; exact HLf.out.2.1
      have HG := Lib.hid hg
      have HE8 := Lib.hid hr8.told
      rw [← hg] at HE8 ⊢
      have HB8 := Lib.hid (HB7.out.trans (hr8.grown.mono HB7.out.size))
      have HI8 := Lib.hid (HI7.out.later hr8.grown)
      have HSo := Lib.hid (IsSorted_any HI8.out HLf.out.1 HLf.out.2.2.1)
      clear hr8 hg HDf HI7 HB7
      go_wp2_with fail
      go_fit HSo.out
      rintro e w9 ⟨rfl, hb9⟩
      have HB9 := Lib.hid (HB8.out.trans (hb9.mono HB8.out.size))
      have HI9 := Lib.hid (HI8.out.later hb9)
      have HE9 := Lib.hid (HE8.out.later hb9)
      clear hb9 HSo HB8 HI8 HE8
      go_wp2_with fail
      go_loopw [63] (fun v wr => ∃ i : Nat, v = .int .i64 i ∧ i ≤ q ∧ Hid (Below w9.heap.size w9 wr)) (fun v _ => q - (intOf v).toNat)
      case atStart => exact ⟨0, rfl, Nat.zero_le _, Lib.hid (Below.refl _ _)⟩
      case round =>
        obtain ⟨i, rfl, hiq, HW⟩ := hrel
        have ei : IntKind.i64.wrap ((i : Int) + 1) = (i : Int) + 1 := IntWalk.i64_in _ (by omega)
        by_cases hlt : i < q
        · obtain ⟨x, hx⟩ : ∃ x, L[i]? = some x := ⟨L[i]'(by rw [← HQ.out]; exact hlt), List.getElem?_eq_getElem _⟩
          obtain ⟨g2, off2, rfl, hcl, hat⟩ := (HI9.out.later HW.out).cells hx
          clear hcl
          have k0 : wr.cell? ⟨g2, off2 + i, none⟩ = some (.string x) := by have h := hat 0 _ rfl; rw [show strL.sz = 1 from rfl, Nat.mul_one] at h; exact h
          have hI1 : (i : Int) < (q : Int) := by omega
          have hI2 : (0 : Int) ≤ (i : Int) := by omega
          have hba := below_alloc wr (.cells #[.string x] 9)
          have HWa := Lib.hid (HW.out.trans (hba.mono HW.out.size))
          have f0 : (wr.alloc (.cells #[.string x] 9)).cell? ⟨wr.heap.size, 0, none⟩ = some (.string x) := by go_simp
          have HCe := Lib.hid (ContEv_any (HE9.out.later HWa.out) f0 (by have := HLf.out.2.1; omega) (HLf.out.2.2.2.1 x (List.mem_of_getElem? hx)))
          clear hat hx hba f0
          go_upto_region 12 with fail
          clear k0
          generalize wr.alloc (.cells #[.string x] 9) = w10 at *
          go_wp2_with fail
          go_fit HCe.out
          rintro e w11 ⟨rfl, hb11⟩
          have HW11 := Lib.hid (HWa.out.trans (hb11.mono HWa.out.size))
          clear hb11 HCe
          go_wp2_with fail
          exact ⟨⟨i + 1, by push_cast; rfl, by omega, HW11⟩, by simp [intOf]; omega⟩
        · obtain rfl : i = q := by omega
          generalize wr = w10 at *
          have HB10 := Lib.hid (HB9.out.trans (HW.out.mono HB9.out.size))
          have HE10 := Lib.hid (HE9.out.later HW.out)
          have HI10 := Lib.hid (HI9.out.later HW.out)
          have HT10 := Lib.hid (HT5.out.later HB10.out)
          have HU10 := Lib.hid (HU5.out.later HB10.out)
          have HF10 := Lib.hid (show _ ∧ _ from ⟨cell_later HB10.out HF5.out.1, cell_later HB10.out HF5.out.2⟩)
          have HBw := Lib.hid (HB5w.out.trans (HB10.out.mono HB5w.out.size))
          clear HW HE9 HI9 HB9 HT5 HU5 HF5 HB5w HB10 hqb
          go_wp2_with fail
          go_loopw [74] (fun v wr => ∃ j : Nat, v = .int .i64 j ∧ j ≤ g ∧ Hid (Below w10.heap.size w10 wr)) (fun v _ => g - (intOf v).toNat)
          case atStart => exact ⟨0, rfl, Nat.zero_le _, Lib.hid (Below.refl _ _)⟩
          case round =>
            obtain ⟨j, rfl, hjg, HV⟩ := hrel
            have ej : IntKind.i64.wrap ((j : Int) + 1) = (j : Int) + 1 := IntWalk.i64_in _ (by omega)
            by_cases hlt : j < g
            · obtain ⟨⟨x, o1, o2⟩, hx⟩ : ∃ x, E[j]? = some x := ⟨E[j]'(by rw [← HG.out]; exact hlt), List.getElem?_eq_getElem _⟩
              obtain ⟨gg, off, rfl, hcl, hat⟩ := (HE10.out.later HV.out).cells hx
              clear hcl
              obtain ⟨b1, hb1⟩ : ∃ b, b = o1.isSome := ⟨_, rfl⟩
              obtain ⟨y1, hy1⟩ : ∃ y, y = o1.getD e0 := ⟨_, rfl⟩
              obtain ⟨b2, hb2⟩ : ∃ b, b = o2.isSome := ⟨_, rfl⟩
              obtain ⟨y2, hy2⟩ : ∃ y, y = o2.getD e0 := ⟨_, rfl⟩
              have k0 : wr.cell? ⟨gg, off + j * 6, none⟩ = some (.int .i64 0) := hat 0 _ rfl
              have k1 : wr.cell? ⟨gg, off + j * 6 + 1, none⟩ = some (.string x) := hat 1 _ rfl
              have k2 : wr.cell? ⟨gg, off + j * 6 + 2, none⟩ = some (.bool b1) := by rw [hb1]; exact hat 2 _ rfl
              have k3 : wr.cell? ⟨gg, off + j * 6 + 3, none⟩ = some (.string y1) := by rw [hy1]; exact hat 3 _ rfl
              have k4 : wr.cell? ⟨gg, off + j * 6 + 4, none⟩ = some (.bool b2) := by rw [hb2]; exact hat 4 _ rfl
              have k5 : wr.cell? ⟨gg, off + j * 6 + 5, none⟩ = some (.string y2) := by rw [hy2]; exact hat 5 _ rfl
              have hJ1 : (j : Int) < (g : Int) := by omega
              have hJ2 : (0 : Int) ≤ (j : Int) := by omega
              have hxm : x ∈ E.map (·.1) := List.mem_map.2 ⟨_, List.mem_of_getElem? hx, rfl⟩
              have HXm := Lib.hid hxm
              have hba := below_alloc wr (.cells #[.int .i64 0, .string x, .bool b1, .string y1, .bool b2, .string y2] 67)
              have HVa := Lib.hid (HV.out.trans (hba.mono HV.out.size))
              have f1 : (wr.alloc (.cells #[.int .i64 0, .string x, .bool b1, .string y1, .bool b2, .string y2] 67)).cell? ⟨wr.heap.size, 1, none⟩ = some (.string x) := by go_simp
              have HCs := Lib.hid (ContS_any x (HI10.out.later HVa.out))
              have HK1 := Lib.hid f1
              clear hat hx hb1 hy1 hb2 hy2 hba hxm f1 HV
              go_upto_region 18 with fail
              clear k0 k1 k2 k3 k4 k5
              generalize wr.alloc (.cells #[.int .i64 0, .string x, .bool b1, .string y1, .bool b2, .string y2] 67) = w11 at *
              generalize wr.heap.size = bb at *
              have f1 := HK1.out
              by_cases hm : x ∈ L
              · rw [Lib.containsS_iff L x |>.2 hm] at HCs
                clear hm
                go_wp2_with fail
                go_fit HCs.out
                rintro e w' ⟨rfl, rfl⟩
                clear f1
                go_wp2_with fail
                exact ⟨⟨j + 1, by push_cast; rfl, by omega, HVa⟩, by simp [intOf]; omega⟩
              · have hc : Lib.containsS L x = false := by
                  cases e : Lib.containsS L x with
                  | false => rfl
                  | true => exact absurd ((Lib.containsS_iff L x).1 e) hm
                rw [hc] at HCs
                have HNo := Lib.hid (HLf.out.2.2.2.2 x HXm.out hm)
                clear hm hc
                go_wp2_with fail
                go_fit HCs.out
                rintro e w' ⟨rfl, rfl⟩
                have n0 := cell_later HVa.out HF10.out.1
                have n1 := cell_later HVa.out HF10.out.2
                have HPl := Lib.hid (Place_any (w := w11) (s := x) HS.out.1 HS.out.2 (key_sz HZ.out.1 HZ.out.2 (by have h := HNo.out.1; rw [HAB.out.1, HAB.out.2.1] at h; exact h)))
                clear HCs
                go_wp2_with fail
                go_fit HPl.out
                rintro e w12 ⟨rfl, hb12⟩
                have HV12 := Lib.hid (HVa.out.trans (hb12.mono HVa.out.size))
                obtain ⟨P, hP⟩ : ∃ P, P = s.at x := ⟨_, rfl⟩
                have hP2 : sumN s.a s.b (Wi.sb x) = P := hP.symm
                have hPl : P < 18446744073709551616 := by rw [hP]; exact Sd.at_lt HS.out x
                have HPe := Lib.hid hP
                rw [hP2]
                have HT12 := Lib.hid (HT10.out.later HV12.out)
                have HU12 := Lib.hid (HU10.out.later HV12.out)
                have HR1 := Lib.hid (Root_any HT12.out)
                have HR2 := Lib.hid (Root_any HU12.out)
                rw [(place_same HS.out l (by rw [isort_length, List.length_map])).1, ← HAB.out.1] at HR1
                rw [(place_same HS.out m (by rw [isort_length, List.length_map])).1, ← HAB.out.2.1] at HR2
                obtain ⟨X, hX⟩ : ∃ X, X = s.tr 4 (A.map s.mk') := ⟨_, rfl⟩
                obtain ⟨Y, hY⟩ : ∃ Y, Y = s.tr 4 (B.map s.mk') := ⟨_, rfl⟩
                rw [← hX] at HR1
                rw [← hY] at HR2
                obtain ⟨h0, hh0⟩ : ∃ h0, h0 = decide (X = Y) := ⟨_, rfl⟩
                have eb : ((X : Int) == (Y : Int)) = h0 := by rw [hh0, Bool.eq_iff_iff, beq_iff_eq, decide_eq_true_iff]; omega
                have HH0 : Hid (Hn s x A B [] 4 h0) := Lib.hid (Hn.start s x (by rw [HAB.out.1]; exact un_sorted l trivial) (by rw [HAB.out.2.1]; exact un_sorted m trivial) (by rw [hh0, hX, hY]))
                clear hb12 hP hP2 hX hY hh0 HPl f1 n0 n1
                go_wp2_with fail
                go_fit HR1.out
                rintro e w' ⟨rfl, rfl⟩
                go_wp2_with fail
                go_fit HR2.out
                rintro e w' ⟨rfl, rfl⟩
                clear HR1 HR2
                have HW0 : Hid (Rw intL 3 w12 w12 (.slice none 0 0) []) := Lib.hid (Rw.nil w12)
                go_upto_region 21 with fail
                clear eb
                go_wp2_with fail
                go_loopw [20, 21, 91] (fun h u v wr => ∃ (i n : Nat) (b : Bool) (path : List Int), h = .bool b ∧ v = .int .i64 i ∧ i + n = 4 ∧ path.length = i ∧ Hid (Hn s x A B path n b) ∧ Hid (Rw intL 3 w12 wr u path)) (fun _ _ v _ => 4 - (intOf v).toNat)
                case atStart => exact ⟨0, 4, h0, [], rfl, rfl, rfl, rfl, HH0, HW0⟩
                case round =>
                  obtain ⟨i, n, b, path, rfl, rfl, hin, hpl, HH, HR⟩ := hrel
                  clear HH0 HW0
                  have ei : IntKind.i64.wrap ((i : Int) + 1) = (i : Int) + 1 := IntWalk.i64_in _ (by omega)
                  obtain ⟨pa, pc, hu, _, _⟩ := HR.out.slice
                  subst hu
                  rw [hpl] at HR ⊢
                  have HPp := Lib.hid hpl
                  clear hpl
                  by_cases hi4 : i < 4
                  · have hI4 : (i : Int) < 4 := by omega
                    obtain ⟨r, rfl⟩ : ∃ r, n = r + 1 := ⟨n - 1, by omega⟩
                    have HC1 := Lib.hid (PartsT HS.out (HT12.out.later HR.out.grown) HR.out.told HH.out.dg HH.out.len)
                    have HC2 : Hid (∀ V, Below wr.heap.size wr V → _) := Lib.hid fun (V : World) (hV : Below wr.heap.size wr V) => PartsT (s := s) (n := r) (l := m) (p := path) HS.out ((HU12.out.later HR.out.grown).later hV) (HR.out.told.later hV) HH.out.dg HH.out.len
                    rw [← HAB.out.1] at HC1
                    rw [← HAB.out.2.1] at HC2
                    go_wp2_with fail
                    go_fit HC1.out
                    rintro e w13 ⟨u13, rfl, hi13, hb13⟩
                    obtain ⟨a13, c13, rfl, _, _⟩ := hi13.slice
                    rw [Sd.ts_len] at hi13 ⊢
                    have HI13 := Lib.hid hi13
                    have HB13 := Lib.hid hb13
                    have HC3 := Lib.hid (HC2.out w13 hb13)
                    clear hi13 hb13 HC1 HC2
                    go_wp2_with fail
                    go_fit HC3.out
                    rintro e w14 ⟨u14, rfl, hi14, hb14⟩
                    obtain ⟨a14, c14, rfl, _, _⟩ := hi14.slice
                    rw [Sd.ts_len] at hi14 ⊢
                    have HI14 := Lib.hid hi14
                    have HJ13 := Lib.hid (HI13.out.later hb14)
                    have HR14 := Lib.hid (HR.out.below (HB13.out.trans (hb14.mono HB13.out.size)))
                    clear hi14 hb14 HC3 HI13 HB13 HR
                    obtain ⟨sh, hsh⟩ : ∃ sh, sh = 60 - 4 * i := ⟨_, rfl⟩
                    obtain ⟨f4, hf4⟩ : ∃ f, f = 4 * i := ⟨_, rfl⟩
                    obtain ⟨Q, hQ⟩ : ∃ Q, Q = P / 2 ^ sh := ⟨_, rfl⟩
                    obtain ⟨D, hD⟩ : ∃ D, D = kd s r x := ⟨_, rfl⟩
                    have hDl : D < 16 := by rw [hD]; exact kd_lt s r x
                    have hQl : Q < 18446744073709551616 := by rw [hQ]; exact Nat.lt_of_le_of_lt (Nat.div_le_self _ _) hPl
                    have hDQ : Q % 16 = D := by rw [hD, kd_shift s x (show sh = 48 + 4 * r by omega), hQ, HPe.out]
                    have ew1 : IntKind.i64.wrap (4 * (i : Int)) = (f4 : Int) := by rw [IntWalk.i64_in _ (by omega), hf4]; push_cast; rfl
                    have ew2 : IntKind.i64.wrap (60 - (f4 : Int)) = (sh : Int) := by rw [IntWalk.i64_in _ (by omega)]; omega
                    have hs64 : (sh : Int) ≤ 64 := by omega
                    have hs0 : (0 : Int) ≤ (sh : Int) := by omega
                    have ed : (P : Int) / 2 ^ sh = (Q : Int) := by rw [hQ]; push_cast; rfl
                    have ea : bits BinOp.and IntKind.u64 (Q : Int) 15 = (D : Int) := by rw [and15_u64 Q hQl, hDQ]
                    have ec : IntKind.i64.wrap (D : Int) = (D : Int) := IntWalk.i64_in _ (by omega)
                    obtain ⟨g1, o1', hga, hcl1, hat1⟩ := HJ13.out.cells (ts_at s r D _ hDl)
                    obtain ⟨g2, o2', hgb, hcl2, hat2⟩ := HI14.out.cells (ts_at s r D _ hDl)
                    obtain ⟨X1, hX1⟩ : ∃ X1, X1 = s.tr r (sub r D (subI 4 path (A.map s.mk'))) := ⟨_, rfl⟩
                    obtain ⟨Y1, hY1⟩ : ∃ Y1, Y1 = s.tr r (sub r D (subI 4 path (B.map s.mk'))) := ⟨_, rfl⟩
                    have c1 : w14.cell? ⟨g1, o1' + D, none⟩ = some (.int .u64 X1) := by
                      have h := hat1 0 _ rfl
                      rw [show u64L.sz = 1 from rfl, Nat.mul_one, ← hX1] at h; exact h
                    have c2 : w14.cell? ⟨g2, o2' + D, none⟩ = some (.int .u64 Y1) := by
                      have h := hat2 0 _ rfl
                      rw [show u64L.sz = 1 from rfl, Nat.mul_one, ← hY1] at h; exact h
                    have HSt : Hid (∀ b', b' = (b || decide (X1 = Y1)) → Hn s x A B (path ++ [(D : Int)]) r b') := Lib.hid fun b' hb' => by
                      have h := HH.out.step (h' := b') (by rw [← hD, ← hX1, ← hY1]; exact hb')
                      rw [← hD] at h; exact h
                    have hD1 : (D : Int) < 16 := by omega
                    have hD0 : (0 : Int) ≤ (D : Int) := by omega
                    subst hga hgb
                    clear hat1 hat2 hcl1 hcl2 hsh hf4 hQ hD hX1 hY1 hDQ HJ13 HI14 HH
                    obtain ⟨b2, hb2⟩ : ∃ b2, b2 = decide (X1 = Y1) := ⟨_, rfl⟩
                    have e2 : ((X1 : Int) == (Y1 : Int)) = b2 := by rw [hb2, Bool.eq_iff_iff, beq_iff_eq, decide_eq_true_iff]; omega
                    have HSt2 : Hid (Hn s x A B (path ++ [(D : Int)]) r (b || b2)) := Lib.hid (HSt.out _ (by rw [hb2]))
                    clear hb2 HSt
                    go_upto_region 28 with fail
                    clear ew1 ew2 ed ea ec hs64 hs0
                    cases b with
                    | true =>
                        go_quiet (fail)
                        clear c1 c2 e2
                        have HR15 := Lib.hid (HR14.out.below (below_drewN (Below.refl _ _) nq))
                        clear HR14
                        generalize w14.drewN nq = w15 at *
                        have HOa := Lib.hid (show w15.ownsRow w12.heap.size 3 1 (.slice pa i pc) i (intL.all path) from by have h := HR15.out.own; rw [HPp.out] at h; exact h)
                        have Hl2 : Hid (i + 1 ≤ 1073741825) := Lib.hid (by omega)
                        have HZ1 := Lib.hid HR15.out.grown.size
                        go_wp2_with (at_builtin; go_loud (refine wpList_pushI rfl _ _ 70 3 _ 1 8 rfl Try.underlying70 Try.infoInt rfl (by decide) w12.heap.size i _ _ rfl HOa.out #[.int .i64 (D : Int)] rfl (by simp [Value.oneCell']) rfl Hl2.out (by decide) HZ1.out ?_; intro g7 c7 w16 hown7 hg7 hat7 hlt7; have HR16 := Lib.hid (Rw.push (I := intL) (D : Int) HR15.out (by rw [HPp.out]; exact hown7) hg7); clear hown7 hg7 hat7 hlt7))
                        rw [HPp.out] at HR16
                        exact ⟨⟨i + 1, r, _, path ++ [(D : Int)], rfl, by push_cast; rfl, by omega, by simp [HPp.out], HSt2, HR16⟩, by simp [intOf]; omega⟩
                    | false =>
                        go_quiet (fail)
                        clear c1 c2 e2
                        have HR15 := Lib.hid (HR14.out.below (below_drewN (Below.refl _ _) nq))
                        clear HR14
                        generalize w14.drewN nq = w15 at *
                        have HOa := Lib.hid (show w15.ownsRow w12.heap.size 3 1 (.slice pa i pc) i (intL.all path) from by have h := HR15.out.own; rw [HPp.out] at h; exact h)
                        have Hl2 : Hid (i + 1 ≤ 1073741825) := Lib.hid (by omega)
                        have HZ1 := Lib.hid HR15.out.grown.size
                        go_wp2_with (at_builtin; go_loud (refine wpList_pushI rfl _ _ 70 3 _ 1 8 rfl Try.underlying70 Try.infoInt rfl (by decide) w12.heap.size i _ _ rfl HOa.out #[.int .i64 (D : Int)] rfl (by simp [Value.oneCell']) rfl Hl2.out (by decide) HZ1.out ?_; intro g7 c7 w16 hown7 hg7 hat7 hlt7; have HR16 := Lib.hid (Rw.push (I := intL) (D : Int) HR15.out (by rw [HPp.out]; exact hown7) hg7); clear hown7 hg7 hat7 hlt7))
                        rw [HPp.out] at HR16
                        exact ⟨⟨i + 1, r, _, path ++ [(D : Int)], rfl, by push_cast; rfl, by omega, by simp [HPp.out], HSt2, HR16⟩, by simp [intOf]; omega⟩
                  · obtain rfl : i = 4 := by omega
                    obtain rfl : n = 0 := by omega
                    have hb := HH.out.done HNo.out.1 HNo.out.2
                    subst hb
                    have HVe := Lib.hid (HV12.out.trans (HR.out.grown.mono HV12.out.size))
                    go_wp2_with fail
                    exact ⟨⟨j + 1, by push_cast; rfl, by omega, HVe⟩, by simp [intOf]; omega⟩
            · obtain rfl : j = g := by omega
              have HBe := Lib.hid (HBw.out.trans (HV.out.mono HBw.out.size))
              go_wp2_with fail
              go_fit (awake_any wr)
              rintro e w12 ⟨rfl, hb12⟩
              have HB12 := Lib.hid (HBe.out.trans (hb12.mono HBe.out.size))
              clear hb12
              go_wp2_with fail
              go_ret
              exact ⟨rfl, HB12.out⟩

end Go.Proofs.Ytcbgnmolfdhnfaa
