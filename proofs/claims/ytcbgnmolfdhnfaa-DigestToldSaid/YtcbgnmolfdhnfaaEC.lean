/-
  What compares placed pairs, walked.
-/
import Derived.Test.YtcbgnmolfdhnfaaE0
namespace Go.Proofs.Ytcbgnmolfdhnfaa
set_option linter.unusedVariables false
set_option linter.unusedSimpArgs false
open Go.RowKit Go.Joins

set_option maxRecDepth 100000 in
set_option maxHeartbeats 1600000 in
theorem cmp_any (w : World) (p q : Pl) : Calls Try.prog 81 #[.agg #[.string p.1.2, .string p.2, .int .u64 p.1.1], .agg #[.string q.1.2, .string q.2, .int .u64 q.1.1]] w fun e w' => e = .returned (.int .i64 (cmpP p.1 q.1)) ∧ Below w.heap.size w w' := by
  have hs := Try.strings_Compare
  have HB := Lib.hid ((below_alloc w (Obj.cells #[.string p.1.2, .string p.2, .int .u64 p.1.1] 118)).trans ((below_alloc _ (Obj.cells #[.string q.1.2, .string q.2, .int .u64 q.1.1] 118)).mono (by simp)))
  obtain ⟨⟨d1, k1⟩, v1⟩ := p
  obtain ⟨⟨d2, k2⟩, v2⟩ := q
  simp only at HB ⊢
  have HE : Hid (or2 (cmpN d1 d2) (Lib.compareBytes k1.data.toList k2.data.toList) = cmpP (d1, k1) (d2, k2)) := Lib.hid (by unfold or2 cmpP; rfl)
  go_enter Try.func81, Try.ntmps81
  go_upto_region 1 with fail
  have a0 : ((w.alloc (.cells #[.string k1, .string v1, .int .u64 d1] 118)).alloc (.cells #[.string k2, .string v2, .int .u64 d2] 118)).drew.cell? ⟨w.heap.size, 0, none⟩ = some (.string k1) := by go_simp
  have a2 : ((w.alloc (.cells #[.string k1, .string v1, .int .u64 d1] 118)).alloc (.cells #[.string k2, .string v2, .int .u64 d2] 118)).drew.cell? ⟨w.heap.size, 2, none⟩ = some (.int .u64 d1) := by go_simp
  have b0 : ((w.alloc (.cells #[.string k1, .string v1, .int .u64 d1] 118)).alloc (.cells #[.string k2, .string v2, .int .u64 d2] 118)).drew.cell? ⟨w.heap.size + 1, 0, none⟩ = some (.string k2) := by go_simp
  have b2 : ((w.alloc (.cells #[.string k1, .string v1, .int .u64 d1] 118)).alloc (.cells #[.string k2, .string v2, .int .u64 d2] 118)).drew.cell? ⟨w.heap.size + 1, 2, none⟩ = some (.int .u64 d2) := by go_simp
  generalize (w.alloc (.cells #[.string k1, .string v1, .int .u64 d1] 118)).alloc (.cells #[.string k2, .string v2, .int .u64 d2] 118) = W at *
  have HC := fun V => (cmpN_any d1 d2 V).mono (fun e w' h => (show e = .returned (.int .i64 (cmpN d1 d2)) ∧ w' = V from ⟨h.1, h.2.symm⟩))
  have HS := fun V => (hs k1 k2 V).mono (fun e w' h => (show e = .returned (.int .i64 (Lib.compareBytes k1.data.toList k2.data.toList)) ∧ w' = V from ⟨h.1, h.2⟩))
  refine wp_region_still_tail 12 (by kernel_rfl) (by kernel_rfl) ?_
  simp only [List.take_succ_cons, List.take_zero, List.drop_succ_cons, List.drop_zero]
  change wpStill _ _ W.drew _ _ _
  still_step; still_step; still_step; still_step
  still_call (HC W.drew)
  still_step; still_step; still_step; still_step; still_step; still_step
  still_call (HS W.drew)
  repeat still_step
  refine wpStill_nil ?_
  change wpList _ _ _ _ _ W.drew
  have HBW := Lib.hid HB.out.size
  have HW2 : Hid (Below w.heap.size w (W.drew.alloc (.cells #[.int .i64 (cmpN d1 d2), .int .i64 (Lib.compareBytes k1.data.toList k2.data.toList)] 3))) := Lib.hid ((below_drew HB.out).alloc HB.out.size _)
  generalize cmpN d1 d2 = x at *
  generalize Lib.compareBytes k1.data.toList k2.data.toList = y at *
  have o0 : (W.drew.alloc (.cells #[.int .i64 x, .int .i64 y] 3)).cell? ⟨W.heap.size, 0, none⟩ = some (.int .i64 x) := by go_simp
  have o1 : (W.drew.alloc (.cells #[.int .i64 x, .int .i64 y] 3)).cell? ⟨W.heap.size, 1, none⟩ = some (.int .i64 y) := by go_simp
  clear a0 a2 b0 b2 HC HS hs
  go_wp2_with fail
  go_fit (Or_any (c := 2) o0 o1)
  rintro e w' ⟨rfl, rfl⟩
  go_wp2_with fail
  go_ret
  rw [HE.out]
  exact ⟨rfl, HW2.out⟩
end Go.Proofs.Ytcbgnmolfdhnfaa
