/-
  A tree that no call made.
-/
import Derived.Test.YtcbgnmolfdhnfaaHE
namespace Go.Proofs.Ytcbgnmolfdhnfaa
set_option linter.unusedVariables false
set_option linter.unusedSimpArgs false
open Go.RowKit

/-- No call made it. -/
def NoTr (w : World) (t : Option Addr) : Prop := t = none ∨ ∃ tb, t = some ⟨tb, 0, none⟩ ∧ w.cell? ⟨tb, 3, none⟩ = some (.bool false)
theorem NoTr.later {w w' : World} {t : Option Addr} (h : NoTr w t) (hb : Below w.heap.size w w') : NoTr w' t :=
  h.imp id fun ⟨tb, ht, hc⟩ => ⟨tb, ht, cell_later hb hc⟩
set_option maxRecDepth 100000
set_option maxHeartbeats 800000
theorem ready_no {w : World} {t : Option Addr} (h : NoTr w t) : Calls Try.prog 50 #[.pointer t] w fun e w' => e = .returned (.bool false) ∧ w = w' := by
  rcases h with rfl | ⟨tb, rfl, hm⟩
  all_goals
    go_enter Try.func50, Try.ntmps50
    go_wp2_with fail
    go_ret
    exact ⟨rfl, rfl⟩
theorem Root_no {w : World} {t : Option Addr} (h : NoTr w t) : Calls Try.prog 23 #[.pointer t] w fun e w' => e = .returned (.int .u64 0) ∧ w = w' := by
  have HR := Lib.hid (ready_no h)
  clear h
  go_enter Try.func23, Try.ntmps23
  go_wp2_with fail
  go_fit HR.out
  rintro e w' ⟨rfl, rfl⟩
  go_wp2_with fail
  go_ret
  exact ⟨rfl, rfl⟩
theorem Len_no {w : World} {t : Option Addr} (h : NoTr w t) : Calls Try.prog 25 #[.pointer t] w fun e w' => e = .returned (.int .i64 0) ∧ w = w' := by
  have HR := Lib.hid (ready_no h)
  clear h
  go_enter Try.func25, Try.ntmps25
  go_wp2_with fail
  go_fit HR.out
  rintro e w' ⟨rfl, rfl⟩
  go_wp2_with fail
  go_ret
  exact ⟨rfl, rfl⟩
theorem at_no {w : World} {t a : Option Addr} {n c : Nat} {m : Int} (h : NoTr w t) : Calls Try.prog 65 #[.pointer t, .slice a n c, .int .i64 m] w fun e w' => e = .returned (.tuple #[.pointer none, .int .i64 6]) ∧ w = w' := by
  have HR := Lib.hid (ready_no h)
  clear h
  go_enter Try.func65, Try.ntmps65
  go_wp2_with fail
  go_fit HR.out
  rintro e w' ⟨rfl, rfl⟩
  go_wp2_with fail
  refine bodyPost_ret (v := .tuple #[.pointer none, .int .i64 6]) (by simp [results, Try.results65, go_sem]) rfl ?_
  exact ⟨rfl, rfl⟩
theorem Parts_no {w : World} {t a : Option Addr} {n c : Nat} (h : NoTr w t) : Calls Try.prog 36 #[.pointer t, .slice a n c] w fun e w' => e = .returned (.tuple #[.slice none 0 0, .int .i64 6]) ∧ w = w' := by
  have HR := Lib.hid (at_no (a := a) (n := n) (c := c) (m := 3) h)
  clear h
  go_enter Try.func36, Try.ntmps36
  go_wp2_with fail
  go_fit HR.out
  rintro e w' ⟨rfl, rfl⟩
  go_wp2_with fail
  refine bodyPost_ret (v := .tuple #[.slice none 0 0, .int .i64 6]) (by simp [results, Try.results36, go_sem]) rfl ?_
  exact ⟨rfl, rfl⟩
theorem Pairs_no {w : World} {t a : Option Addr} {n c : Nat} (h : NoTr w t) : Calls Try.prog 37 #[.pointer t, .slice a n c] w fun e w' => e = .returned (.tuple #[.slice none 0 0, .int .i64 6]) ∧ w = w' := by
  have HR := Lib.hid (at_no (a := a) (n := n) (c := c) (m := 4) h)
  clear h
  go_enter Try.func37, Try.ntmps37
  go_wp2_with fail
  go_fit HR.out
  rintro e w' ⟨rfl, rfl⟩
  go_wp2_with fail
  refine bodyPost_ret (v := .tuple #[.slice none 0 0, .int .i64 6]) (by simp [results, Try.results37, go_sem]) rfl ?_
  exact ⟨rfl, rfl⟩
theorem Unlike_no {w : World} {t u : Option Addr} (h : NoTr w t) : Calls Try.prog 26 #[.pointer t, .pointer u] w fun e w' => e = .returned (.tuple #[.slice none 0 0, .agg #[.int .i64 0, .int .i64 0], .int .i64 6]) ∧ Below w.heap.size w w' := by
  have hA := Lib.hid (below_alloc w (.cells #[.int .i64 0, .int .i64 0] 51))
  have HR := Lib.hid (ready_no (h.later hA.out))
  have r0 : (w.alloc (.cells #[.int .i64 0, .int .i64 0] 51)).cell? ⟨w.heap.size, 0, none⟩ = some (.int .i64 0) := by go_simp
  have r1 : (w.alloc (.cells #[.int .i64 0, .int .i64 0] 51)).cell? ⟨w.heap.size, 1, none⟩ = some (.int .i64 0) := by go_simp
  have z0 : (w.alloc (.cells #[.int .i64 0, .int .i64 0] 51)).frozen? ⟨w.heap.size, 0, none⟩ = false := by go_simp
  have z1 : (w.alloc (.cells #[.int .i64 0, .int .i64 0] 51)).frozen? ⟨w.heap.size, 1, none⟩ = false := by go_simp
  clear h
  go_enter Try.func26, Try.ntmps26
  go_upto_region 1 with fail
  generalize w.alloc (.cells #[.int .i64 0, .int .i64 0] 51) = V at *
  obtain ⟨N, hN⟩ : ∃ N, N = w.heap.size := ⟨_, rfl⟩
  rw [← hN] at r0 r1 z0 z1 ⊢
  have HN := Lib.hid hN
  clear hN
  go_wp2_with fail
  go_fit HR.out
  rintro e w' ⟨rfl, rfl⟩
  go_wp2_with fail
  have HBe : Hid (Below w.heap.size w ((V.setCell ⟨N, 0, none⟩ (.int .i64 0)).setCell ⟨N, 1, none⟩ (.int .i64 0))) := Lib.hid ((hA.out.setCell (by rw [HN.out]; exact Nat.le_refl _) _).setCell (by rw [HN.out]; exact Nat.le_refl _) _)
  have e0 : ((V.setCell ⟨N, 0, none⟩ (.int .i64 0)).setCell ⟨N, 1, none⟩ (.int .i64 0)).cell? ⟨N, 0, none⟩ = some (.int .i64 0) := (World.cell?_setCell_other _ _ _ _ (by simp)).trans (World.cell?_setCell_same _ _ _ r0)
  have e1 : ((V.setCell ⟨N, 0, none⟩ (.int .i64 0)).setCell ⟨N, 1, none⟩ (.int .i64 0)).cell? ⟨N, 1, none⟩ = some (.int .i64 0) := World.cell?_setCell_same _ _ _ ((World.cell?_setCell_other _ _ _ _ (by simp)).trans r1)
  refine bodyPost_ret (v := .tuple #[.slice none 0 0, .agg #[.int .i64 0, .int .i64 0], .int .i64 6]) (by simp [results, Try.results26, go_sem, e0, e1]) rfl ?_
  exact ⟨rfl, HBe.out⟩
end Go.Proofs.Ytcbgnmolfdhnfaa
