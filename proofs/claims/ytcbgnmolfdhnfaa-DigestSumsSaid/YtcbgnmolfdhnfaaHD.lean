/-
  What is unlike of a tree and one without pairs.
-/
import Derived.Test.YtcbgnmolfdhnfaaHC
import Derived.Laws.StructEq
namespace Go.Proofs.Ytcbgnmolfdhnfaa
set_option linter.unusedVariables false
set_option linter.unusedSimpArgs false
open Go.RowKit Go.Joins

def Unl (k : ByteArray) (w : World) (e : Ending) (w' : World) : Prop := ∃ g c dg pr : Nat, e = .returned (.tuple #[.slice (some ⟨g, 0, none⟩) 1 c, .agg #[.int .i64 dg, .int .i64 pr], .int .i64 0]) ∧ w'.cell? ⟨g, 0, none⟩ = some (.string k) ∧ 1 ≤ c ∧ Below w.heap.size w w'
set_option maxRecDepth 100000 in
set_option maxHeartbeats 3200000 in
theorem Unlike_one {s : Sd} {w : World} {ta tb : Nat} {S : List Pl} {k : ByteArray} (ha : TrIn s w ta S) (hb : TrIn s w tb []) (hS : S.length ≤ 1) (hk : s.uk 4 S = [k]) :
    Calls Try.prog 26 #[.pointer (some ⟨ta, 0, none⟩), .pointer (some ⟨tb, 0, none⟩)] w (Unl k w) := by
  have hA := Lib.hid (below_alloc w (.cells #[.int .i64 0, .int .i64 0] 51))
  have HA := Lib.hid (ha.later hA.out)
  have HBb := Lib.hid (hb.later hA.out)
  have HK := Lib.hid hk
  have r0 : (w.alloc (.cells #[.int .i64 0, .int .i64 0] 51)).cell? ⟨w.heap.size, 0, none⟩ = some (.int .i64 0) := by go_simp
  have r1 : (w.alloc (.cells #[.int .i64 0, .int .i64 0] 51)).cell? ⟨w.heap.size, 1, none⟩ = some (.int .i64 0) := by go_simp
  have rz : ∀ j, (w.alloc (.cells #[.int .i64 0, .int .i64 0] 51)).frozen? ⟨w.heap.size, j, none⟩ = false := by intro j; go_simp
  have HR := Lib.hid (show _ ∧ _ ∧ _ from ⟨r0, r1, rz⟩)
  clear ha hb hk r0 r1 rz
  go_enter Try.func26, Try.ntmps26
  go_upto_region 1 with fail
  generalize w.alloc (.cells #[.int .i64 0, .int .i64 0] 51) = V at *
  obtain ⟨N, hN⟩ : ∃ N, N = w.heap.size := ⟨_, rfl⟩
  rw [← hN] at HR ⊢
  have HN := Lib.hid hN
  clear hN
  go_wp2_with fail
  go_fit (ready_any HA.out)
  rintro e w' ⟨rfl, rfl⟩
  go_wp2_with fail
  go_fit (ready_any HBb.out)
  rintro e w' ⟨rfl, rfl⟩
  have a0 := HA.out.a
  have a1 := HA.out.b
  have b0 := HBb.out.a
  have b1 := HBb.out.b
  go_upto_region 3 with fail
  go_quiet (fail)
  have hbX : Below V.heap.size V (V.drewN nq) := below_drewN (Below.refl _ _) _
  have HA1 := Lib.hid (HA.out.later hbX)
  have HB1 := Lib.hid (HBb.out.later hbX)
  have HX1 : Hid (Below w.heap.size w (V.drewN nq)) := Lib.hid (hA.out.trans (hbX.mono hA.out.size))
  have HR1 : Hid ((V.drewN nq).cell? ⟨N, 0, none⟩ = some (.int .i64 0) ∧ (V.drewN nq).cell? ⟨N, 1, none⟩ = some (.int .i64 0) ∧ ∀ j, (V.drewN nq).frozen? ⟨N, j, none⟩ = false) := Lib.hid HR.out
  clear a0 a1 b0 b1 HA HBb HR hbX
  generalize V.drewN nq = X at *
  obtain ⟨qa, hqa, hpa⟩ := HA1.out.q
  obtain ⟨qb, hqb, hpb⟩ := HB1.out.q
  obtain rfl := hpb.none_
  have hbW := below_alloc X (.cells #[.int .i64 1, .int .i64 0, .slice none 0 0] 102)
  have HSz : Hid (Sz (X.alloc (.cells #[.int .i64 1, .int .i64 0, .slice none 0 0] 102)).drew X.heap.size X.heap.size 1 0 (.slice none 0 0) []) := by
    refine Lib.hid ⟨by go_simp, by go_simp, by go_simp, by intro j; go_simp, World.ownsRow_nil _ _ _ _, Nat.le_refl _, by simp [Value.ownBlock]⟩
  have HPa : Hid (PtIn s (X.alloc (.cells #[.int .i64 1, .int .i64 0, .slice none 0 0] 102)).drew (fun k => k < X.heap.size) 4 qa S) := Lib.hid (hpa.keep fun k _ hk => ⟨hk, (below_drew hbW).block k hk⟩)
  have ka : (X.alloc (.cells #[.int .i64 1, .int .i64 0, .slice none 0 0] 102)).drew.cell? ⟨ta, 2, none⟩ = some (.pointer qa) := cell_later (below_drew hbW) hqa
  have kb : (X.alloc (.cells #[.int .i64 1, .int .i64 0, .slice none 0 0] 102)).drew.cell? ⟨tb, 2, none⟩ = some (.pointer none) := cell_later (below_drew hbW) hqb
  have HWs : Hid (X.heap.size ≤ (X.alloc (.cells #[.int .i64 1, .int .i64 0, .slice none 0 0] 102)).drew.heap.size) := Lib.hid (below_drew hbW).size
  have HbW := Lib.hid (below_drew hbW)
  clear hqa hqb hpa hpb hbW
  go_upto_region 6 with fail
  generalize X.alloc (.cells #[.int .i64 1, .int .i64 0, .slice none 0 0] 102) = W at *
  obtain ⟨M, hM⟩ : ∃ M, M = X.heap.size := ⟨_, rfl⟩
  rw [← hM] at HSz HPa HWs HbW ⊢
  have HMX := Lib.hid hM
  clear hM
  refine wp_region_still_tail 8 (by kernel_rfl) (by kernel_rfl) ?_
  simp only [List.take_succ_cons, List.take_zero, List.drop_succ_cons, List.drop_zero]
  change wpStill _ _ W.drew _ _ _
  repeat still_step
  refine wpStill_nil ?_
  change wpList _ _ _ _ _ W.drew
  have HC := Lib.hid (compare_any (s := s) (L := 1) (by decide) 4 (by decide) W.drew M M 1 0 (.slice none 0 0) [] qa S 0 (by decide) HSz.out HWs.out HPa.out hS (by decide) (by decide) (by decide))
  clear ka kb
  go_wp2_with fail
  go_fit HC.out
  rintro e w5 ⟨kv', rfl, hs5, hb5⟩
  rw [HK.out, List.nil_append] at hs5
  have HS5 := Lib.hid hs5
  have HB5 : Hid (Below w.heap.size w w5) := by
    have h1 := HX1.out.trans (HbW.out.mono (by rw [HMX.out]; exact HX1.out.size))
    exact Lib.hid (h1.trans (hb5.mono (by rw [HMX.out]; exact HX1.out.size)))
  have HR5 : Hid (w5.cell? ⟨N, 0, none⟩ = some (.int .i64 0) ∧ w5.cell? ⟨N, 1, none⟩ = some (.int .i64 0) ∧ ∀ j, w5.frozen? ⟨N, j, none⟩ = false) := by
    obtain ⟨h0, h1, h2⟩ := HR1.out
    have hl : N < X.heap.size := World.block_lt_of_cell? X ⟨N, 0, none⟩ h0
    have hb : Below X.heap.size X w5 := by rw [← HMX.out]; exact HbW.out.trans hb5
    exact Lib.hid ⟨cell_later hb h0, cell_later hb h1, fun j => (hb.frozen (p := ⟨N, j, none⟩) hl).trans (h2 j)⟩
  have HNl : Hid (N < X.heap.size) := Lib.hid (World.block_lt_of_cell? X ⟨N, 0, none⟩ HR1.out.1)
  clear hs5 hb5 HSz HPa HWs HbW HC HR1 HA1 HB1
  generalize 1 + s.ud 4 S = dg at *
  generalize 0 + s.up 4 S = pr at *
  have hown := HS5.out.own
  obtain ⟨g, c, rfl, hc⟩ : ∃ g c, kv' = .slice (some ⟨g, 0, none⟩) 1 c ∧ 1 ≤ c := by
    rcases hown.2 with ⟨_, h0⟩ | ⟨g, cap, cur, hv, _, _, hn, _⟩
    · cases h0
    · exact ⟨g, cap, hv, hn⟩
  have hgk : w5.cell? ⟨g, 0, none⟩ = some (.string k) := by
    have h := hown.cells (g := g) rfl 0 (.string k) rfl
    rwa [lay_add] at h
  have hgN : g ≠ N := by
    have := HS5.out.own.lt g rfl
    have hl := HNl.out
    have := HMX.out
    omega
  have HG := Lib.hid (show w5.cell? ⟨g, 0, none⟩ = some (.string k) ∧ g ≠ N from ⟨hgk, hgN⟩)
  have s0 := HS5.out.d
  have s1 := HS5.out.p
  have s2 := HS5.out.k
  clear hown hgk hgN
  go_wp2_with fail
  go_fit (Sort_one w5)
  rintro e w' ⟨rfl, rfl⟩
  go_upto_region 8 with fail
  obtain ⟨n0, n1, nz⟩ := HR5.out
  have z0 := nz 0
  have z1 := nz 1
  clear nz
  go_region
  all_goals
    have HBe : Hid (Below w.heap.size w (((w5.setCell ⟨N, 0, none⟩ (.int .i64 dg)).setCell ⟨N, 1, none⟩ (.int .i64 pr)).drew)) := Lib.hid (below_drew ((HB5.out.setCell (by rw [HN.out]; exact Nat.le_refl _) _).setCell (by rw [HN.out]; exact Nat.le_refl _) _))
    have e0 : (((w5.setCell ⟨N, 0, none⟩ (.int .i64 dg)).setCell ⟨N, 1, none⟩ (.int .i64 pr)).drew).cell? ⟨N, 0, none⟩ = some (.int .i64 dg) := (World.cell?_setCell_other _ _ _ _ (by simp)).trans (World.cell?_setCell_same _ _ _ n0)
    have e1 : (((w5.setCell ⟨N, 0, none⟩ (.int .i64 dg)).setCell ⟨N, 1, none⟩ (.int .i64 pr)).drew).cell? ⟨N, 1, none⟩ = some (.int .i64 pr) := World.cell?_setCell_same _ _ _ ((World.cell?_setCell_other _ _ _ _ (by simp)).trans n1)
    have eg : (((w5.setCell ⟨N, 0, none⟩ (.int .i64 dg)).setCell ⟨N, 1, none⟩ (.int .i64 pr)).drew).cell? ⟨g, 0, none⟩ = some (.string k) := (World.cell?_of_block (a := ⟨g, 0, none⟩) (show (((w5.setCell ⟨N, 0, none⟩ (.int .i64 dg)).setCell ⟨N, 1, none⟩ (.int .i64 pr)).drew).heap[g]? = w5.heap[g]? from (heap_setCell_other _ _ _ _ HG.out.2).trans (heap_setCell_other _ _ _ _ HG.out.2))).trans HG.out.1
    have HEg := Lib.hid eg
    clear eg s0 s1 s2 n0 n1 z0 z1
    generalize ((w5.setCell ⟨N, 0, none⟩ (.int .i64 dg)).setCell ⟨N, 1, none⟩ (.int .i64 pr)).drew = w6 at *
    go_wp2_with fail
    refine bodyPost_ret (v := .tuple #[.slice (some ⟨g, 0, none⟩) 1 c, .agg #[.int .i64 dg, .int .i64 pr], .int .i64 0]) (by simp [results, Try.results26, go_sem, e0, e1]) rfl ?_
    exact ⟨g, c, dg, pr, rfl, HEg.out, hc, HBe.out⟩
end Go.Proofs.Ytcbgnmolfdhnfaa
