/-
  How many bytes a store has; what a disk that no call made uses; any call of it.
-/
import Derived.Test.YtlfknldgfeicmaaB1
namespace Go.Proofs.Ytlfknldgfeicmaa
set_option linter.unusedVariables false
set_option linter.unusedSimpArgs false
open Go.RowKit

theorem NoD.later {w w' : World} {v : Value} (h : NoD w v) (hb : Below w.heap.size w w') : NoD w' v := by
  rcases h with h | ⟨b, h, h0, h2, h3, h4⟩
  · exact .inl h
  · exact .inr ⟨b, h, (hb.cell (World.block_lt_of_cell? w _ h0)).trans h0, (hb.cell (World.block_lt_of_cell? w _ h2)).trans h2, (hb.cell (World.block_lt_of_cell? w _ h3)).trans h3, (hb.cell (World.block_lt_of_cell? w _ h4)).trans h4⟩

set_option maxHeartbeats 800000 in
theorem size_any (a0 a1 a2 : Option Addr) (n0 n1 n2 c0 c1 c2 : Nat) (w : World) (h0 : n0 ≤ 1073741824) (h1 : n1 ≤ 1073741824) (h2 : n2 ≤ 1073741824) :
    Calls Try.prog 53 #[.agg #[.slice a0 n0 c0, .slice a1 n1 c1, .slice a2 n2 c2]] w fun e w' => e = .returned (.int .i64 ((n2 + n0 + n1 : Nat) : Int)) ∧ Below w.heap.size w w' := by
  have i0 : ∀ (x y : Value) (w : World), (Instr.index 65 (.agg #[x, y]) (.int .i64 0)).run Try.prog w = .ok x w := fun _ _ _ => by kernel_rfl
  have i1 : ∀ (x y : Value) (w : World), (Instr.index 65 (.agg #[x, y]) (.int .i64 1)).run Try.prog w = .ok y w := fun _ _ _ => by kernel_rfl
  go_enter Try.func53, Try.ntmps53
  go_wp2_with fail
  refine wp_loop_rounds 3 ?_
  rw [rounds_succ]
  go_wp2_with fail
  rw [rounds_succ]
  go_wp2_with fail
  rw [rounds_succ]
  go_wp2_with fail
  go_ret
  refine ⟨by go_num, (Below.refl _ _).alloc (Nat.le_refl _) _⟩

set_option maxHeartbeats 800000 in
theorem Used_no (v : Value) (w : World) (h : NoD w v) : Calls Try.prog 30 #[v] w fun e w' => e = .returned (.int .i64 0) ∧ Below w.heap.size w w' := by
  rcases h with rfl | ⟨b, rfl, h0, h2, h3, h4⟩
  · go_enter Try.func30, Try.ntmps30
    go_wp2_with fail
    go_ret
    exact ⟨rfl, Below.refl _ _⟩
  · have HS := Lib.hid (size_any none none none 0 0 0 0 0 0 w (by omega) (by omega) (by omega))
    go_enter Try.func30, Try.ntmps30
    go_wp2_with fail
    go_fit HS.out
    rintro e w' ⟨rfl, hb⟩
    have Hb := Lib.hid hb
    clear hb
    go_wp2_with fail
    go_ret
    exact ⟨rfl, Hb.out⟩

set_option maxHeartbeats 1600000 in
theorem does_no (v : Value) (op i k t : Int) (x : Value) (w : World) (h : NoD w v) :
    Calls Try.prog 17 #[v, .agg #[.int .i64 op, .int .i64 i, .int .i64 k, .int .i64 t, x]] w fun e w' => e = .returned (.int .i64 6) ∧ Below w.heap.size w w' := by
  have Hb : Hid (Below w.heap.size w (w.alloc (.cells #[.int .i64 op, .int .i64 i, .int .i64 k, .int .i64 t, x] 34))) := (Below.refl _ _).alloc (Nat.le_refl _) _
  have H := Lib.hid (h.later Hb.out)
  clear h
  go_enter Try.func17, Try.ntmps17
  go_wp2_with fail
  all_goals
    first
      | go_fit (Slot_no v i x _ H.out)
      | go_fit (Clear_no v _ H.out)
      | go_fit (Sync_no v _ H.out)
      | go_fit (Crash_no v k t _ H.out)
      | go_fit (Start_no v _ H.out)
      | go_fit (Arm_no v i k t _ H.out)
      | go_fit (Append_no v x _ H.out)
    rintro e w' ⟨rfl, rfl⟩
    go_wp2_with fail
    go_ret
    exact ⟨rfl, Hb.out⟩

end Go.Proofs.Ytlfknldgfeicmaa
