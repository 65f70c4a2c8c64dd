/-
  A part that is not parted, built.
-/
import Derived.Test.YtcbgnmolfdhnfaaH4
namespace Go.Proofs.Ytcbgnmolfdhnfaa
set_option linter.unusedVariables false
set_option linter.unusedSimpArgs false
open Go.RowKit

def BuiltP (s : Sd) (n g : Nat) (S : List Pl) (w : World) (e : Ending) (w' : World) : Prop := ∃ q, e = .returned (.pointer q) ∧ PtIn s w' (fun k => k = g ∨ w.heap.size ≤ k) n q S ∧ Below w.heap.size w w'
def BuildOk (s : Sd) (n : Nat) : Prop := ∀ (w : World) (g off c : Nat) (S : List Pl) (D : Int), D = 4 - (n : Int) → g < w.heap.size → PairsAt w g off S → S.length ≤ c → c ≤ 9223372036854775807 → Mon n S → Low S → SlimP S → S.length ≤ 100000 →
  Calls Try.prog 48 #[.agg #[.int .u64 s.a, .int .u64 s.b], .slice (some ⟨g, off, none⟩) S.length c, .int .i64 D] w (BuiltP s n g S w)
/-- The boxes that a part is built with. -/
structure Bx4 (V : World) (N : Nat) (s : Sd) (av : Value) (D : Int) : Prop where
  k0 : V.cell? ⟨N, 0, none⟩ = some (.int .u64 s.a)
  k1 : V.cell? ⟨N, 1, none⟩ = some (.int .u64 s.b)
  ta : V.cell? ⟨N + 1, 0, none⟩ = some av
  td : V.cell? ⟨N + 2, 0, none⟩ = some (.int .i64 D)
  p0 : V.cell? ⟨N + 3, 0, none⟩ = some (.int .u64 0)
  p1 : V.cell? ⟨N + 3, 1, none⟩ = some av
  p2 : V.cell? ⟨N + 3, 2, none⟩ = some (.slice none 0 0)
  tz : ∀ j, V.frozen? ⟨N + 1, j, none⟩ = false
  pz : ∀ j, V.frozen? ⟨N + 3, j, none⟩ = false
  sz : V.heap.size = N + 4
theorem Bx4.later {V V' : World} {N : Nat} {s : Sd} {av : Value} {D : Int} (h : Bx4 V N s av D) (hb : Below V.heap.size V V') :
    V'.cell? ⟨N, 0, none⟩ = some (.int .u64 s.a) ∧ V'.cell? ⟨N, 1, none⟩ = some (.int .u64 s.b) ∧ V'.cell? ⟨N + 1, 0, none⟩ = some av ∧ V'.cell? ⟨N + 3, 0, none⟩ = some (.int .u64 0) ∧ V'.cell? ⟨N + 3, 1, none⟩ = some av ∧ V'.cell? ⟨N + 3, 2, none⟩ = some (.slice none 0 0) ∧ V'.frozen? ⟨N + 3, 0, none⟩ = false :=
  ⟨cell_later hb h.k0, cell_later hb h.k1, cell_later hb h.ta, cell_later hb h.p0, cell_later hb h.p1, cell_later hb h.p2, (hb.frozen (p := ⟨N + 3, 0, none⟩) (by rw [h.sz]; show N + 3 < _; omega)).trans (h.pz 0)⟩

set_option maxRecDepth 100000 in
set_option maxHeartbeats 1600000 in
theorem build_none {s : Sd} (w : World) (n : Nat) (a : Option Addr) (c g : Nat) (D : Int) : Calls Try.prog 48 #[.agg #[.int .u64 s.a, .int .u64 s.b], .slice a 0 c, .int .i64 D] w (BuiltP s n g [] w) := by
  have HB : Hid (Below w.heap.size w (((w.alloc (.cells #[.int .u64 s.a, .int .u64 s.b] 24)).alloc (.cells #[.slice a 0 c] 95)).alloc (.cells #[.int .i64 D] 3))) := Lib.hid ((((Below.refl _ _).alloc (Nat.le_refl _) _).alloc (by simp) _).alloc (by simp; omega) _)
  go_enter Try.func48, Try.ntmps48
  go_wp2_with fail
  go_ret
  exact ⟨none, rfl, PtIn.nil n, HB.out⟩

set_option maxRecDepth 100000 in
set_option maxHeartbeats 3200000 in
theorem build_leaf {s : Sd} (hs : s.Ok) : BuildOk s 0 := by
  intro w g off c S D hD hg hp hc1 hc2 hM hL hSl hl
  by_cases hS : S = []
  · subst hS
    exact build_none w 0 _ c g D
  obtain rfl : D = 4 := by omega
  have hpos := List.length_pos_iff.2 hS
  have HIn := Lib.hid (pairs_in hS hc1 hc2 hp)
  have HP := Lib.hid hp
  have HSs := Lib.hid hS
  have HS := Lib.hid hs
  have HSl := Lib.hid hSl
  have HE := Lib.hid (s.tr_leaf hS)
  have Hg := Lib.hid hg
  obtain ⟨n, hn⟩ : ∃ n, n = S.length := ⟨_, rfl⟩
  rw [← hn] at HIn hpos hc1 hl ⊢
  have HN := Lib.hid hn
  have hn0 : ¬ n = 0 := by omega
  clear hS hs hSl hn hp hM hL hD hg
  have HB : Hid (Below w.heap.size w ((((w.alloc (.cells #[.int .u64 s.a, .int .u64 s.b] 24)).alloc (.cells #[.slice (some ⟨g, off, none⟩) n c] 95)).alloc (.cells #[.int .i64 4] 3)).alloc (.cells #[.int .u64 0, .slice (some ⟨g, off, none⟩) n c, .slice none 0 0] 127))) := Lib.hid (((((Below.refl _ _).alloc (Nat.le_refl _) _).alloc (by simp) _).alloc (by simp; omega) _).alloc (by simp; omega) _)
  have HX : Hid (Bx4 ((((w.alloc (.cells #[.int .u64 s.a, .int .u64 s.b] 24)).alloc (.cells #[.slice (some ⟨g, off, none⟩) n c] 95)).alloc (.cells #[.int .i64 4] 3)).alloc (.cells #[.int .u64 0, .slice (some ⟨g, off, none⟩) n c, .slice none 0 0] 127)) w.heap.size s (.slice (some ⟨g, off, none⟩) n c) 4) := by
    refine Lib.hid ⟨?_, ?_, ?_, ?_, ?_, ?_, ?_, ?_, ?_, ?_⟩
    all_goals first | (go_simp; done) | (intro j; go_simp; done) | simp
  go_enter Try.func48, Try.ntmps48
  go_upto_region 4 with fail
  generalize ((((w.alloc (.cells #[.int .u64 s.a, .int .u64 s.b] 24)).alloc (.cells #[.slice (some ⟨g, off, none⟩) n c] 95)).alloc (.cells #[.int .i64 4] 3)).alloc (.cells #[.int .u64 0, .slice (some ⟨g, off, none⟩) n c, .slice none 0 0] 127)) = V at *
  obtain ⟨N, hN⟩ : ∃ N, N = w.heap.size := ⟨_, rfl⟩
  rw [← hN] at HX ⊢
  have HNw := Lib.hid hN
  clear hN
  have k0 := HX.out.k0
  have k1 := HX.out.k1
  have ka := HX.out.ta
  have kd : V.cell? ⟨N + 1 + 1, 0, none⟩ = some (.int .i64 4) := HX.out.td
  go_upto_region 5 with fail
  clear kd
  have HVI := Lib.hid (HIn.out.later HB.out)
  have HPB := Lib.hid (pairBytes_any HS.out (HIn.out.later (below_drew HB.out)) (by rw [← HN.out]; exact hl) HSl.out)
  have HO := Lib.hid (s.oct_leaf S (by rw [← HN.out]; exact hl))
  have HLn : Hid ((s.leafB S).length ≤ 1000000) := by
    refine Lib.hid ?_
    unfold Sd.leafB
    have h1 := Wi.num_le S.length (by rw [← HN.out]; omega)
    rw [List.length_append, Sd.sums_len]
    rw [← HN.out] at h1 ⊢
    omega
  go_region_held3 (fun W => W.cell? ⟨N, 0, none⟩ = some (.int .u64 s.a) ∧ W.cell? ⟨N, 1, none⟩ = some (.int .u64 s.b) ∧ W.cell? ⟨N + 1, 0, none⟩ = some (.slice (some ⟨g, off, none⟩) n c)) (first | go_keep | (refine ⟨?_, ?_, ?_⟩ <;> first | exact (World.cell?_setCell_other _ _ _ _ (by simp <;> omega)).trans y0 | exact (World.cell?_setCell_other _ _ _ _ (by simp <;> omega)).trans y1 | exact (World.cell?_setCell_other _ _ _ _ (by simp <;> omega)).trans y2))
    (first
      | (go_at_call 75; (with_reducible refine HPB.out.mono ?_); rintro e w2 ⟨pa, pn, pc, rfl, hin2, hl2, hc2', hb2⟩; have hbd : Below V.heap.size V w2 := (below_drew1 V).trans hb2; have HS2 := Lib.hid (Sum_any HS.out.1 HS.out.2 hin2 hl2 HO.out hc2' (by rw [← hl2]; have := HLn.out; omega)); have HX2 := Lib.hid (HX.out.later hbd); obtain ⟨z0, z1, z2, _⟩ := HX2.out; have HB2 := Lib.hid hbd; clear hbd hb2 hin2 hl2 hc2')
      | (go_at_call 13; (with_reducible refine HS2.out.mono ?_); rintro e w3 ⟨rfl, hb3⟩; have hbd3 : Below V.heap.size V w3 := HB2.out.trans (hb3.mono HB2.out.size); have HX3 := Lib.hid (HX.out.later hbd3); obtain ⟨y0, y1, y2, _⟩ := HX3.out; have y3 : w3.cell? ⟨N + 1 + 1 + 1, 0, none⟩ = some (.int .u64 0) := HX3.out.2.2.2.1; have y4 : w3.frozen? ⟨N + 1 + 1 + 1, 0, none⟩ = false := HX3.out.2.2.2.2.2.2; have HB3 := Lib.hid hbd3; clear hbd3 hb3))
  all_goals
    have HQ : Hid (PtIn s (w3.setCell ⟨N + 1 + 1 + 1, 0, none⟩ (.int .u64 (sumN s.a s.b (s.leafB S) : Nat))) (fun k => k = g ∨ N ≤ k) 0 (some ⟨N + 1 + 1 + 1, 0, none⟩) S) := by
      obtain ⟨_, _, _, q0, q1, q2, _⟩ := HX3.out
      have hNw := HNw.out
      have hg := Hg.out
      have hsz := HX.out.sz
      have hpw : PairsAt w3 g off S := (HP.out.later HB.out).later HB3.out
      refine Lib.hid (.inr ⟨HSs.out, N + 1 + 1 + 1, _, rfl, .inr (by omega), ?_, (World.cell?_setCell_other _ _ _ _ (by simp)).trans q1, (World.cell?_setCell_other _ _ _ _ (by simp)).trans q2, g, off, c, by rw [← HN.out], by rw [← HN.out]; exact hc1, hc2, .inl rfl, hpw.block (Below.heap_setCell _ _ _ _ (by show g ≠ N + 1 + 1 + 1; omega))⟩)
      rw [HE.out]
      exact World.cell?_setCell_same _ _ _ q0
    have HBe : Hid (Below w.heap.size w (w3.setCell ⟨N + 1 + 1 + 1, 0, none⟩ (.int .u64 (sumN s.a s.b (s.leafB S) : Nat)))) := by
      refine Lib.hid ((HB.out.trans (HB3.out.mono HB.out.size)).setCell (by have := HNw.out; show w.heap.size ≤ N + 1 + 1 + 1; omega) _)
    generalize w3.setCell ⟨N + 1 + 1 + 1, 0, none⟩ (.int .u64 (sumN s.a s.b (s.leafB S) : Nat)) = w5 at *
    clear y0 y1 y2 y3 y4 z0 z1 z2 k0 k1 ka
    go_wp2_with fail
    go_ret
    refine ⟨_, rfl, ?_, HBe.out⟩
    rw [← HNw.out]
    exact HQ.out
end Go.Proofs.Ytcbgnmolfdhnfaa
