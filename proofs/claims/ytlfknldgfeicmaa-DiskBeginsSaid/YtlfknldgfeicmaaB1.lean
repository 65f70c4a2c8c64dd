/-
  Calls of a disk that no call made.
-/
import Derived.Test.YtlfknldgfeicmaaProg
import Derived.Test.YtlfknldgfeicmaaShelf
import Derived.WalkKit
import Derived.WalkSpells
import Derived.WalkLawsBesides
import Derived.Laws.AppendOwnNone
import Derived.Shelf.Bytes.SlEqualAll
import Derived.Lib.Hide
import Derived.Deep.DeepFit
namespace Go.Proofs.Ytlfknldgfeicmaa
set_option linter.unusedVariables false
set_option linter.unusedSimpArgs false
open Go.RowKit

/-- A disk that no call made: nil, or a plain one. -/
def NoD (w : World) (v : Value) : Prop := v = .pointer none ∨ ∃ b, v = .pointer (some ⟨b, 0, none⟩) ∧ w.cell? ⟨b, 0, none⟩ = some (.int .i64 0) ∧ w.cell? ⟨b, 2, none⟩ = some (.slice none 0 0) ∧ w.cell? ⟨b, 3, none⟩ = some (.slice none 0 0) ∧ w.cell? ⟨b, 4, none⟩ = some (.slice none 0 0)

set_option maxHeartbeats 400000 in
theorem made_no (v : Value)  (w : World) (h : NoD w v) : Calls Try.prog 54 #[v] w fun e w' => e = .returned (.bool false) ∧ w = w' := by
  rcases h with rfl | ⟨b, rfl, h0, h2, h3, h4⟩
  · go_enter Try.func54, Try.ntmps54
    go_wp2_with fail
    go_ret
    exact ⟨rfl, rfl⟩
  · go_enter Try.func54, Try.ntmps54
    go_wp2_with fail
    go_ret
    exact ⟨rfl, rfl⟩

set_option maxHeartbeats 400000 in
theorem ready_no (v : Value)  (w : World) (h : NoD w v) : Calls Try.prog 52 #[v] w fun e w' => e = .returned (.int .i64 6) ∧ w = w' := by
  have Hc := Lib.hid (made_no v w h)
  clear h
  go_enter Try.func52, Try.ntmps52
  go_wp2_with fail
  go_fit Hc.out
  rintro e w' ⟨rfl, rfl⟩
  go_wp2_with fail
  go_ret
  exact ⟨rfl, rfl⟩

set_option maxHeartbeats 400000 in
theorem readySlot_no (v : Value) (i : Int) (w : World) (h : NoD w v) : Calls Try.prog 50 #[v, .int .i64 i] w fun e w' => e = .returned (.int .i64 6) ∧ w = w' := by
  have Hc := Lib.hid (ready_no v w h)
  clear h
  go_enter Try.func50, Try.ntmps50
  go_wp2_with fail
  go_fit Hc.out
  rintro e w' ⟨rfl, rfl⟩
  go_wp2_with fail
  go_ret
  exact ⟨rfl, rfl⟩

set_option maxHeartbeats 400000 in
theorem Look_no (v : Value) (i : Int) (w : World) (h : NoD w v) : Calls Try.prog 25 #[v, .int .i64 i] w fun e w' => e = .returned (.tuple #[.slice none 0 0, .int .i64 6]) ∧ w = w' := by
  have Hc := Lib.hid (readySlot_no v i w h)
  clear h
  go_enter Try.func25, Try.ntmps25
  go_wp2_with fail
  go_fit Hc.out
  rintro e w' ⟨rfl, rfl⟩
  go_wp2_with fail
  go_ret2
  exact ⟨rfl, rfl⟩

set_option maxHeartbeats 400000 in
theorem Tape_no (v : Value)  (w : World) (h : NoD w v) : Calls Try.prog 27 #[v] w fun e w' => e = .returned (.tuple #[.slice none 0 0, .int .i64 6]) ∧ w = w' := by
  have Hc := Lib.hid (ready_no v w h)
  clear h
  go_enter Try.func27, Try.ntmps27
  go_wp2_with fail
  go_fit Hc.out
  rintro e w' ⟨rfl, rfl⟩
  go_wp2_with fail
  go_ret2
  exact ⟨rfl, rfl⟩

set_option maxHeartbeats 400000 in
theorem Slot_no (v : Value) (i : Int) (x : Value) (w : World) (h : NoD w v) : Calls Try.prog 45 #[v, .int .i64 i, x] w fun e w' => e = .returned (.int .i64 6) ∧ w = w' := by
  have Hc := Lib.hid (readySlot_no v i w h)
  clear h
  go_enter Try.func45, Try.ntmps45
  go_wp2_with fail
  go_fit Hc.out
  rintro e w' ⟨rfl, rfl⟩
  go_wp2_with fail
  go_ret
  exact ⟨rfl, rfl⟩

set_option maxHeartbeats 400000 in
theorem Append_no (v : Value) (x : Value) (w : World) (h : NoD w v) : Calls Try.prog 40 #[v, x] w fun e w' => e = .returned (.int .i64 6) ∧ w = w' := by
  have Hc := Lib.hid (ready_no v w h)
  clear h
  go_enter Try.func40, Try.ntmps40
  go_wp2_with fail
  go_fit Hc.out
  rintro e w' ⟨rfl, rfl⟩
  go_wp2_with fail
  go_ret
  exact ⟨rfl, rfl⟩

set_option maxHeartbeats 400000 in
theorem Clear_no (v : Value)  (w : World) (h : NoD w v) : Calls Try.prog 44 #[v] w fun e w' => e = .returned (.int .i64 6) ∧ w = w' := by
  have Hc := Lib.hid (ready_no v w h)
  clear h
  go_enter Try.func44, Try.ntmps44
  go_wp2_with fail
  go_fit Hc.out
  rintro e w' ⟨rfl, rfl⟩
  go_wp2_with fail
  go_ret
  exact ⟨rfl, rfl⟩

set_option maxHeartbeats 400000 in
theorem Sync_no (v : Value)  (w : World) (h : NoD w v) : Calls Try.prog 35 #[v] w fun e w' => e = .returned (.int .i64 6) ∧ w = w' := by
  have Hc := Lib.hid (ready_no v w h)
  clear h
  go_enter Try.func35, Try.ntmps35
  go_wp2_with fail
  go_fit Hc.out
  rintro e w' ⟨rfl, rfl⟩
  go_wp2_with fail
  go_ret
  exact ⟨rfl, rfl⟩

set_option maxHeartbeats 400000 in
theorem Crash_no (v : Value) (k t : Int) (w : World) (h : NoD w v) : Calls Try.prog 37 #[v, .int .i64 k, .int .i64 t] w fun e w' => e = .returned (.int .i64 6) ∧ w = w' := by
  have Hc := Lib.hid (ready_no v w h)
  clear h
  go_enter Try.func37, Try.ntmps37
  go_wp2_with fail
  go_fit Hc.out
  rintro e w' ⟨rfl, rfl⟩
  go_wp2_with fail
  go_ret
  exact ⟨rfl, rfl⟩

set_option maxHeartbeats 400000 in
theorem Start_no (v : Value)  (w : World) (h : NoD w v) : Calls Try.prog 33 #[v] w fun e w' => e = .returned (.int .i64 6) ∧ w = w' := by
  have Hc := Lib.hid (made_no v w h)
  clear h
  go_enter Try.func33, Try.ntmps33
  go_wp2_with fail
  go_fit Hc.out
  rintro e w' ⟨rfl, rfl⟩
  go_wp2_with fail
  go_ret
  exact ⟨rfl, rfl⟩

set_option maxHeartbeats 400000 in
theorem Arm_no (v : Value) (n k t : Int) (w : World) (h : NoD w v) : Calls Try.prog 34 #[v, .int .i64 n, .int .i64 k, .int .i64 t] w fun e w' => e = .returned (.int .i64 6) ∧ w = w' := by
  have Hc := Lib.hid (ready_no v w h)
  clear h
  go_enter Try.func34, Try.ntmps34
  go_wp2_with fail
  go_fit Hc.out
  rintro e w' ⟨rfl, rfl⟩
  go_wp2_with fail
  go_ret
  exact ⟨rfl, rfl⟩

set_option maxHeartbeats 400000 in
theorem Clone_no (v : Value)  (w : World) (h : NoD w v) : Calls Try.prog 42 #[v] w fun e w' => e = .returned (.pointer none) ∧ w = w' := by
  have Hc := Lib.hid (made_no v w h)
  clear h
  go_enter Try.func42, Try.ntmps42
  go_wp2_with fail
  go_fit Hc.out
  rintro e w' ⟨rfl, rfl⟩
  go_wp2_with fail
  go_ret
  exact ⟨rfl, rfl⟩

end Go.Proofs.Ytlfknldgfeicmaa
