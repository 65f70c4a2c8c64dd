/-
  DigestRoots walked.
-/
import Derived.Test.YtcbgnmolfdhnfaaRT
import Derived.Test.YtcbgnmolfdhnfaaHQ
import Derived.Test.YtcbgnmolfdhnfaaRQ
namespace Go.Proofs.Ytcbgnmolfdhnfaa
set_option linter.unusedVariables false
set_option linter.unusedSimpArgs false
open Go.RowKit Go.Joins

theorem fineL_slim {ls : List (List Pr)} {l : List Pr} (h : FineL ls) (hl : l ∈ ls) (hz : ∀ p ∈ l, PrSz p) : Slim l ∧ l.length ≤ 60 := ⟨slim_of hz fun p hp => (h l hl).2 p hp, (h l hl).1⟩
theorem lists_one {W : World} {v : Value} {l : List Pr} (h : prL.In W v l) : LsIn (W.alloc (.cells #[v] 29)) (.slice (some ⟨W.heap.size, 0, none⟩) 1 1) [l] := by
  refine ⟨_, 1, rfl, .inr ⟨W.heap.size, 0, rfl, fun i x hl => ?_⟩⟩
  rcases i with _ | i
  · cases hl
    exact ⟨v, by go_simp, h.later (below_alloc _ _)⟩
  · simp at hl
theorem un_mem {l : List Pr} {p : Pr} (h : p ∈ un [] l) : p ∈ l := by
  have h1 := look_mem (un_sorted l (a := []) trivial) h
  rw [un_lv] at h1
  unfold lv at h1
  obtain ⟨q, hq, hv⟩ := Option.map_eq_some_iff.1 h1
  have hm := List.mem_filter.1 (List.mem_of_getLast? hq)
  have hk : q.1 = p.1 := by simpa using hm.2
  have : q = p := Prod.ext hk hv
  rw [← this]; exact hm.1
/-- The keys of a list that is its own, to be written over. -/
def Gv (w : World) (lo B : Nat) (a : Option Addr) (n : Nat) : Prop := ∀ i, i < n → ∃ g, a = some ⟨g, 0, none⟩ ∧ lo ≤ g ∧ g < B ∧ (∃ x, w.cell? ⟨g, i * 2, none⟩ = some (.string x)) ∧ ∀ j, w.frozen? ⟨g, j, none⟩ = false
theorem Gv.later {w w' : World} {lo B n : Nat} {a : Option Addr} (h : Gv w lo B a n) (hb : Below w.heap.size w w') : Gv w' lo B a n := fun i hi => by
  obtain ⟨g, ha, hl, hB, ⟨x, hx⟩, hz⟩ := h i hi
  exact ⟨g, ha, hl, hB, ⟨x, cell_later hb hx⟩, fun j => (hb.frozen (p := ⟨g, j, none⟩) (show g < w.heap.size from World.block_lt_of_cell? w _ hx)).trans (hz j)⟩
theorem Gv.set {w : World} {lo B n g i : Nat} {s : ByteArray} {a : Option Addr} (h : Gv w lo B a n) (ha : a = some ⟨g, 0, none⟩) (hi : i < n) : Gv (w.setCell ⟨g, i * 2, none⟩ (.string s)) lo B a n := fun k hk => by
  obtain ⟨g', ha', hl, hB, ⟨x, hx⟩, hz⟩ := h k hk
  obtain rfl : g' = g := by rw [ha] at ha'; simpa using ha'.symm
  refine ⟨g', ha, hl, hB, ?_, fun j => (World.frozen?_setCell _ _ _ _).trans (hz j)⟩
  by_cases e : k = i
  · subst e; exact ⟨s, World.cell?_setCell_same _ _ _ hx⟩
  · exact ⟨x, (World.cell?_setCell_other _ _ _ _ (by simp <;> omega)).trans hx⟩
theorem gv_of {w0 w : World} {a : Option Addr} {n c : Nat} {l : List Pr} (h : Rw prL 27 w0 w (.slice a n c) l) (hn : n = l.length) : Gv w w0.heap.size w.heap.size a n := fun i hi => by
  subst hn
  obtain ⟨p, hp⟩ : ∃ p, l[i]? = some p := ⟨_, List.getElem?_eq_getElem hi⟩
  have hlt := h.own
  rcases h.own.2 with ⟨h0, h1⟩ | ⟨g, cap, cur, hv, hg, hh, _⟩
  · omega
  · simp only [Value.slice.injEq] at hv
    obtain ⟨rfl, _, rfl⟩ := hv
    have hc := h.told
    obtain ⟨g2, off, e, _, hat⟩ := hc.cells hp
    simp only [Option.some.injEq, Addr.mk.injEq] at e
    obtain ⟨rfl, rfl, _⟩ := e
    have h0 := hat 0 _ rfl
    refine ⟨g, rfl, hg, (h.lt g rfl).2, ⟨p.1, ?_⟩, fun j => h.own.frozenAt j⟩
    have e2 : prL.sz = 2 := rfl
    rw [e2] at h0
    simpa using h0

set_option maxRecDepth 100000 in
set_option maxHeartbeats 6400000 in
theorem Roots_any {s : Sd} {w : World} {v : Value} {l : List Pr} (hs : s.Ok) (h : prL.In w v l) (hz : ∀ p ∈ l, PrSz p) :
    Calls Try.prog 4 #[.agg #[.int .u64 s.a, .int .u64 s.b], v] w fun e w' => e = .returned (.bool true) ∧ Below w.heap.size w w' := by
  have HI0 := Lib.hid h
  obtain ⟨a0, c0, rfl, _, _⟩ := h.slice
  have HS := Lib.hid hs
  have HZ := Lib.hid hz
  obtain ⟨n, hn⟩ : ∃ n, n = l.length := ⟨_, rfl⟩
  rw [← hn] at HI0 ⊢
  have HN := Lib.hid hn
  clear h hs hz hn
  go_enter Try.func4, Try.ntmps4
  go_upto_region 1 with fail
  have HB : Hid (Below w.heap.size w (w.alloc (.cells #[.int .u64 s.a, .int .u64 s.b] 24))) := Lib.hid (below_alloc _ _)
  have HF : Hid ((w.alloc (.cells #[.int .u64 s.a, .int .u64 s.b] 24)).cell? ⟨w.heap.size, 0, none⟩ = some (.int .u64 s.a) ∧ (w.alloc (.cells #[.int .u64 s.a, .int .u64 s.b] 24)).cell? ⟨w.heap.size, 1, none⟩ = some (.int .u64 s.b)) := by
    refine Lib.hid ⟨?_, ?_⟩ <;> go_simp
  have HI := Lib.hid (HI0.out.later HB.out)
  generalize w.alloc (.cells #[.int .u64 s.a, .int .u64 s.b] 24) = W at *
  obtain ⟨N, hN⟩ : ∃ N, N = w.heap.size := ⟨_, rfl⟩
  rw [← hN] at HF ⊢
  have HNw := Lib.hid hN
  clear hN HI0
  have HBL : Hid (Below W.heap.size W (W.alloc (.cells #[.slice a0 n c0] 29))) := Lib.hid (below_alloc _ _)
  have HSh := Lib.hid (short_any (lists_one HI.out) (by simp))
  go_wp2_with fail
  go_fit HSh.out
  rintro e w1 ⟨bb, rfl, hfine, hb1⟩
  have HFi := Lib.hid hfine
  have HB1 : Hid (Below W.heap.size W w1) := Lib.hid (HBL.out.trans (hb1.mono HBL.out.size))
  clear hfine hb1 HBL HSh
  cases bb
  · go_wp2_with fail
    go_fit (awake_any w1)
    rintro e w2 ⟨rfl, hb2⟩
    have HB2 : Hid (Below W.heap.size W w2) := Lib.hid (HB1.out.trans (hb2.mono HB1.out.size))
    clear hb2
    go_wp2_with fail
    go_ret
    exact ⟨rfl, HB.out.trans (HB2.out.mono HB.out.size)⟩
  · have hsl := fineL_slim (HFi.out rfl) (List.mem_singleton.2 rfl) HZ.out
    have HSl := Lib.hid hsl
    have HUs : Hid (Slim (un [] l)) := Lib.hid fun p hp => hsl.1 p (un_mem hp)
    have HI1 := Lib.hid (HI.out.later HB1.out)
    have HCl := Lib.hid (CloneP HI1.out (by omega))
    clear HFi hsl
    go_wp2_with fail
    go_fit HCl.out
    rintro e w2 ⟨u, rfl, hr2⟩
    obtain ⟨a2, c2, rfl, _, _⟩ := hr2.slice
    rw [← HN.out] at hr2 ⊢
    have HR2 := Lib.hid hr2
    have HB2 : Hid (Below W.heap.size W w2) := Lib.hid (HB1.out.trans (hr2.grown.mono HB1.out.size))
    have HG2 := Lib.hid (gv_of hr2 HN.out)
    have hT2 := hr2.told.later (below_drew1 w2)
    have HI3 := Lib.hid (HI.out.later (below_drew HB2.out))
    have y0 := cell_later HB2.out HF.out.1
    have y1 := cell_later HB2.out HF.out.2
    have HOf := Lib.hid (Of_at HS.out (build_any HS.out 4 (by decide)) hT2 (by have := HSl.out.2; omega) HSl.out.1)
    have HOf2 : Hid (∀ V, Below W.heap.size W V → Calls Try.prog 22 #[.agg #[.int .u64 s.a, .int .u64 s.b], .slice a0 n c0] V (MadeR s (un [] l) V)) := Lib.hid fun V hV => ROfT_at (HI.out.later hV) (by have := HSl.out.2; omega)
    clear hr2 hT2 HCl HI1
    go_upto_region 4 with fail
    go_region_held3 (fun V => V.cell? ⟨N, 0, none⟩ = some (.int .u64 s.a) ∧ V.cell? ⟨N, 1, none⟩ = some (.int .u64 s.b)) (go_keep)
      (first
        | (go_at_call 21; (with_reducible refine HOf.out.mono ?_); rintro e w3 ⟨tb, rfl, ht3, hb3⟩; have HT3 := Lib.hid ht3; have HB3 := Lib.hid ((below_drew HB2.out).trans (hb3.mono (below_drew HB2.out).size)); have HG3 := Lib.hid (HG2.out.later ((below_drew1 w2).trans hb3)); have z0 := cell_later HB3.out HF.out.1; have z1 := cell_later HB3.out HF.out.2; have HC3 := Lib.hid (HOf2.out w3 HB3.out); clear ht3 hb3)
        | (go_at_call 22; (with_reducible refine HC3.out.mono ?_); rintro e w4 ⟨xb, rfl, ht4, hb4⟩; have HX4 := Lib.hid ht4; have HT4 := Lib.hid (HT3.out.later hb4); have HB4 := Lib.hid (HB3.out.trans (hb4.mono HB3.out.size)); have HG4 := Lib.hid (HG3.out.later hb4); have x0 := cell_later HB4.out HF.out.1; have x1 := cell_later HB4.out HF.out.2; have HLo : Hid (w2.heap.size ≤ w3.heap.size) := Lib.hid (Nat.le_of_lt (Nat.lt_of_le_of_lt HT3.out.lo (World.block_lt_of_cell? w3 _ HT3.out.a))); clear ht4 hb4))
    all_goals
      clear x0 x1 y0 y1 HOf HOf2 HC3 HT3 HB3 HG3 HR2 HG2 HI3 HF
      obtain ⟨m, hm⟩ : ∃ m, m = w2.heap.size := ⟨_, rfl⟩
      have HLe : Hid (m ≤ w3.heap.size) := Lib.hid (by rw [hm]; exact HLo.out)
      have HTm : Hid (TrAt s w4 m tb (s.place l)) := Lib.hid (by rw [hm]; exact HT4.out)
      have HGm : Hid (Gv w4 w1.heap.size m a2 n) := Lib.hid (by rw [hm]; exact HG4.out)
      have HXm : Hid (RAt s w4 m xb (un [] l)) := Lib.hid ⟨HX4.out.a, HX4.out.b, (by obtain ⟨v, h1, h2, h3⟩ := HX4.out.l; exact ⟨v, h1, h2, fun g off n c hv => Nat.le_trans HLe.out (h3 g off n c hv)⟩), Nat.le_trans HLe.out HX4.out.lo⟩
      have HBW : Hid (w.heap.size ≤ w1.heap.size) := Lib.hid (Nat.le_trans HB.out.size HB1.out.size)
      have HBm : Hid (Below w.heap.size w w4) := Lib.hid (HB.out.trans (HB4.out.mono HB.out.size))
      clear HLo HLe HT4 HG4 HX4 HB4 HB2 HI hm HB HB1
      go_wp2_with fail
      go_loopw [24] (fun v wr => ∃ i : Nat, v = .int .i64 i ∧ i ≤ n ∧ Hid (TrAt s wr m tb (s.place l)) ∧ Hid (RAt s wr m xb (un [] l)) ∧ Hid (Gv wr w1.heap.size m a2 n) ∧ Hid (Below w.heap.size w wr)) (fun v _ => n - (intOf v).toNat)
      case atStart => exact ⟨0, rfl, Nat.zero_le _, HTm, HXm, HGm, HBm⟩
      case round =>
        obtain ⟨i, rfl, hin, hT, hX, hG, hBw⟩ := hrel
        clear HTm HXm HGm HBm
        have ei : IntKind.i64.wrap ((i : Int) + 1) = (i : Int) + 1 := IntWalk.i64_in _ (by have := HSl.out.2; have := HN.out; omega)
        by_cases hlt : i < n
        · obtain ⟨g, rfl, hlo, hgm, ⟨x, hx⟩, hz⟩ := hG.out i hlt
          have hz0 := hz (i * 2)
          have hI1 : (i : Int) < (n : Int) := by omega
          have hI2 : (0 : Int) ≤ (i : Int) := by omega
          have HT2 : Hid (TrAt s (wr.setCell ⟨g, i * 2, none⟩ (.string ⟨#[63]⟩)) m tb (s.place l)) := Lib.hid (hT.out.set hgm)
          have HX2 : Hid (RAt s (wr.setCell ⟨g, i * 2, none⟩ (.string ⟨#[63]⟩)) m xb (un [] l)) := Lib.hid (hX.out.set hgm)
          have HG2 : Hid (Gv (wr.setCell ⟨g, i * 2, none⟩ (.string ⟨#[63]⟩)) w1.heap.size m (some ⟨g, 0, none⟩) n) := Lib.hid (hG.out.set rfl hlt)
          have HB2 : Hid (Below w.heap.size w (wr.setCell ⟨g, i * 2, none⟩ (.string ⟨#[63]⟩))) := Lib.hid (hBw.out.setCell (Nat.le_trans HBW.out hlo) _)
          clear hz hT hX hG hBw
          go_wp2_with fail
          exact ⟨⟨i + 1, by push_cast; rfl, by omega, HT2, HX2, HG2, HB2⟩, by simp [intOf]; omega⟩
        · obtain rfl : i = n := by omega
          obtain ⟨X, hXe⟩ : ∃ X, X = s.tr 4 (s.place l) := ⟨_, rfl⟩
          have HX := Lib.hid hXe
          obtain ⟨q, hq⟩ : ∃ q, q = (un [] l).length := ⟨_, rfl⟩
          have HQ := Lib.hid hq
          have hps := place_same HS.out l (by rw [isort_length, List.length_map])
          have HRt := Lib.hid (Root_any (hT.out.later (below_drew1 wr)).tr)
          rw [← hXe] at HRt
          have hpm : s.mp [] (un [] l) = (un [] l).map s.mk' := by rw [mp_subI s _ [] (fun d hd => by cases hd) (by decide), subI_nil]
          have HLn : Hid (∀ V, Below wr.heap.size wr V → Calls Try.prog 25 #[.pointer (some ⟨tb, 0, none⟩)] V fun e w' => e = .returned (.int .i64 q) ∧ V = w') := Lib.hid fun V hV => by
            have h := Len_any (hT.out.later hV).tr
            rw [hps.2, ← hq] at h
            exact h
          have HDg : Hid (∀ V, Below wr.heap.size wr V → Calls Try.prog 24 #[.pointer (some ⟨xb, 0, none⟩), .slice none 0 0] V fun e w' => e = .returned (.int .u64 (X : Nat)) ∧ Below V.heap.size V w') := Lib.hid fun V hV => by
            have h := dig_any HS.out 4 (by decide) V xb (un [] l) (.slice none 0 0) [] (hX.out.later hV).tr (by have := un_len l []; have := HSl.out.2; simp at *; omega) HUs.out (Lay.In.nil _) rfl
            rw [hpm, ← hps.1, ← hXe] at h
            exact h
          obtain ⟨rv, hrv, hrl, _⟩ := hX.out.l
          obtain ⟨ra, rc, rfl, _, _⟩ := hrl.slice
          rw [← hq] at hrv
          clear hps hpm hrl hT hX hG
          have HRv := Lib.hid hrv
          have hd1 := below_drew1 wr
          have HC2 := Lib.hid (HDg.out wr.drew hd1)
          have r0 := cell_later hd1 hrv
          have HBd := Lib.hid hd1
          clear hd1 hrv hXe hq
          go_upto_region 10 with fail
          go_region_held3 (fun V => V.cell? ⟨xb, 2, none⟩ = some (.slice ra q rc)) (go_keep)
            (first
              | (go_at_call 23; (with_reducible refine HRt.out.mono ?_); rintro e w5 ⟨rfl, rfl⟩)
              | (go_at_call 24; (with_reducible refine HC2.out.mono ?_); rintro e w6 ⟨rfl, hb6⟩; have HB6 := Lib.hid (HBd.out.trans (hb6.mono HBd.out.size)); have r6 := cell_later HB6.out HRv.out; have HC3 := Lib.hid (HLn.out w6 HB6.out); clear hb6)
              | (go_at_call 25; (with_reducible refine HC3.out.mono ?_); rintro e w7 ⟨rfl, rfl⟩)
              | (go_at_call 11; (with_reducible refine (awake_any _).mono ?_); rintro e w8 ⟨rfl, hb8⟩; have HB8 := Lib.hid (HB6.out.trans (hb8.mono HB6.out.size)); have r8 := cell_later HB8.out HRv.out; clear hb8))
          all_goals
            go_wp2_with fail
            go_ret
            exact ⟨rfl, hBw.out.trans (HB8.out.mono hBw.out.size)⟩
end Go.Proofs.Ytcbgnmolfdhnfaa
