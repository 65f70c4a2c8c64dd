/-
  Walks: a table that no call made.
-/
import Derived.Test.YtdcmefkejgjdeaaB8
namespace Go.Proofs.Ytdcmefkejgjdeaa
set_option linter.unusedVariables false
set_option linter.unusedSimpArgs false
open Go.RowKit
variable {w : World}

/-- A table that no call made: nil, or a plain one. -/
def NoT (w : World) (v : Value) : Prop := v = .pointer none ∨ ∃ b, v = .pointer (some ⟨b, 0, none⟩) ∧ w.cell? ⟨b, 2, none⟩ = some (.bool false)
theorem NoT.later {w w' : World} {v : Value} (h : NoT w v) (hb : Below w.heap.size w w') : NoT w' v := by
  rcases h with h | ⟨b, h, h0⟩
  · exact .inl h
  · exact .inr ⟨b, h, cell_later hb h0⟩

set_option maxHeartbeats 400000 in
theorem ready_no {v : Value} (h : NoT w v) : Calls Try.prog 37 #[v] w fun e w' => e = .returned (.bool false) ∧ w = w' := by
  rcases h with rfl | ⟨b, rfl, h0⟩
  · go_enter Try.func37, Try.ntmps37
    go_wp2_with fail
    go_ret
    exact ⟨rfl, rfl⟩
  · go_enter Try.func37, Try.ntmps37
    go_wp2_with fail
    go_ret
    exact ⟨rfl, rfl⟩
set_option maxHeartbeats 800000 in
theorem find_no {v : Value} (k : Int) (h : NoT w v) : Calls Try.prog 35 #[v, .int .i64 k] w fun e w' => e = .returned (.tuple #[.int .i64 0, .int .i64 6]) ∧ Below w.heap.size w w' := by
  have HB := Lib.hid (below_alloc w (.cells #[.int .i64 k] 3))
  have HC := Lib.hid (ready_no (h.later HB.out))
  go_enter Try.func35, Try.ntmps35
  go_wp2_with fail
  go_fit HC.out
  rintro e w1 ⟨rfl, rfl⟩
  go_wp2_with fail
  (try simp only [Exit.inBlock, Exit.then])
  refine bodyPost_ret (v := .tuple #[.int .i64 0, .int .i64 6]) (by simp [results, Try.results35, go_sem]) rfl ?_
  exact ⟨rfl, HB.out⟩
set_option maxHeartbeats 800000 in
theorem Open_no {v : Value} (h : NoT w v) : Calls Try.prog 15 #[v] w fun e w' => e = .returned (.tuple #[.int .i64 0, .int .i64 6]) ∧ w = w' := by
  have HC := Lib.hid (ready_no h)
  go_enter Try.func15, Try.ntmps15
  go_wp2_with fail
  go_fit HC.out
  rintro e w1 ⟨rfl, rfl⟩
  go_wp2_with fail
  (try simp only [Exit.inBlock, Exit.then])
  refine bodyPost_ret (v := .tuple #[.int .i64 0, .int .i64 6]) (by simp [results, Try.results15, go_sem]) rfl ?_
  exact ⟨rfl, rfl⟩
set_option maxHeartbeats 800000 in
theorem Close_no {v : Value} (k : Int) (h : NoT w v) : Calls Try.prog 17 #[v, .int .i64 k] w fun e w' => e = .returned (.int .i64 6) ∧ Below w.heap.size w w' := by
  have HC := Lib.hid (find_no k h)
  go_enter Try.func17, Try.ntmps17
  go_wp2_with fail
  go_fit HC.out
  rintro e w1 ⟨rfl, hb⟩
  have HB := Lib.hid hb
  clear hb
  go_wp2_with fail
  go_ret
  exact ⟨rfl, HB.out⟩
set_option maxRecDepth 100000 in
set_option maxHeartbeats 1600000 in
theorem Ask_no {v : Value} (k q : Int) (h : NoT w v) : Calls Try.prog 13 #[v, .int .i64 k, .int .i64 q] w (Asked w ⟨0, 0, false, 6⟩) := by
  have HB0 := Lib.hid (below_alloc w (.cells #[.int .i64 0, .int .i64 0] 32))
  have HR := Lib.hid (DC.alloc w [.int .i64 0, .int .i64 0] 32)
  have HF := Lib.hid (find_no k (h.later HB0.out))
  clear h
  go_enter Try.func13, Try.ntmps13
  go_wp2_with fail
  go_fit HF.out
  rintro e w1 ⟨rfl, hb⟩
  have HB1 := Lib.hid (HB0.out.trans (hb.mono HB0.out.size))
  have hr := HR.out.below hb
  have x0 := hr.cells 0 _ rfl
  have x1 := hr.cells 1 _ rfl
  have z0 := hr.fz 0
  have z1 := hr.fz 1
  clear hb hr HF
  go_wp2_with fail
  (try simp only [Exit.inBlock, Exit.then])
  refine bodyPost_ret (v := .tuple #[.agg #[.int .i64 0, .int .i64 0], .bool false, .int .i64 6]) ?_ rfl ?_
  · rw [results_cell_tmp2 rfl]
    go_simp
  · exact ⟨rfl, (HB1.out.trans (below_put (Nat.le_refl _))).trans (below_put (Nat.le_refl _))⟩
set_option maxRecDepth 100000 in
set_option maxHeartbeats 1600000 in
theorem Keep_no {v : Value} (k q err n : Int) (h : NoT w v) : Calls Try.prog 19 #[v, .int .i64 k, .int .i64 q, .agg #[.int .i64 err, .int .i64 n]] w fun e w' => e = .returned (.int .i64 6) ∧ Below w.heap.size w w' := by
  have HB0 := Lib.hid (below_alloc w (.cells #[.int .i64 err, .int .i64 n] 32))
  have HA := Lib.hid (Ask_no k q (h.later HB0.out))
  clear h
  go_enter Try.func19, Try.ntmps19
  go_wp2_with fail
  go_fit HA.out
  rintro e w1 ⟨rfl, hb⟩
  have HB1 := Lib.hid (HB0.out.trans (hb.mono HB0.out.size))
  clear hb HA
  have HB2 := Lib.hid (below_alloc w1 (.cells #[.int .i64 0, .int .i64 0] 32))
  go_wp2_with fail
  go_ret
  exact ⟨rfl, HB1.out.trans (HB2.out.mono HB1.out.size)⟩
set_option maxHeartbeats 800000 in
theorem List_no {v : Value} (h : NoT w v) : Calls Try.prog 21 #[v] w fun e w' => e = .returned (.slice none 0 0) ∧ w = w' := by
  have HC := Lib.hid (ready_no h)
  go_enter Try.func21, Try.ntmps21
  go_wp2_with fail
  go_fit HC.out
  rintro e w1 ⟨rfl, rfl⟩
  go_wp2_with fail
  go_ret
  exact ⟨rfl, rfl⟩
end Go.Proofs.Ytdcmefkejgjdeaa
