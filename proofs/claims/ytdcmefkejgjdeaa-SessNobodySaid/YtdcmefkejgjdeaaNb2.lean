/-
  Walks: bytes once more; what a table that no call made puts.
-/
import Derived.Test.YtdcmefkejgjdeaaNb
import Derived.Test.YtdcmefkejgjdeaaPut
import Derived.Lib.LazyBuf
namespace Go.Proofs.Ytdcmefkejgjdeaa
set_option linter.unusedVariables false
set_option linter.unusedSimpArgs false
open Go.RowKit
variable {w : World}

set_option maxRecDepth 100000 in
set_option maxHeartbeats 1600000 in
theorem CloneB_none (c : Nat) : Calls Try.prog 40 #[.slice none 0 c] w fun e w' => e = .returned (.slice none 0 0) ∧ w = w' := by
  have hn0 : ∀ W : World, (binOp .eql 52 (.slice none 0 c) (.slice none 0 0)).run Try.prog W = .ok (.bool true) W := fun W => run_eql_slice_nil W 52 5 none 0 c Try.underlying52
  go_enter Try.func40, Try.ntmps40
  go_wp2_with fail
  go_ret
  exact ⟨rfl, rfl⟩
set_option maxRecDepth 100000 in
set_option maxHeartbeats 1600000 in
theorem CloneB_some {p : Addr} {n c : Nat} {xs : List Int} (hx : xs.length = n) (hb : Lib.BytesIn w (some p) n xs) (hn : n ≤ 65536) : Calls Try.prog 40 #[.slice (some p) n c] w (Made w.heap.size w xs) := by
  have hn0 : ∀ W : World, (binOp .eql 52 (.slice (some p) n c) (.slice none 0 0)).run Try.prog W = .ok (.bool false) W := fun W => run_eql_slice_nil W 52 5 (some p) n c Try.underlying52
  have HB := Lib.hid (below_alloc w (.cells #[] 5))
  have HX := Lib.hid (later hb HB.out)
  have HO : Hid ((w.alloc (.cells #[] 5)).ownsRow w.heap.size 5 1 (.slice (some ⟨w.heap.size, 0, none⟩) 0 0) 0 (([] : List Int).map (Value.int .u8))) := World.ownsRow_lit w #[] 0 (Nat.le_refl _) (by unfold maxLen; omega) rfl
  have HL := Lib.hid hx
  clear hb
  go_enter Try.func40, Try.ntmps40
  go_wp2_with (at_builtin; refine wpList_push rfl _ _ rfl w.heap.size w.heap.size 0 0 [] rfl HO.out (some p) n c xs rfl HX.out HL.out (fun e => by cases e) (by omega) HB.out.size ?_; intro g4 c4 w4 hown4 hg4; rw [List.nil_append, Nat.zero_add] at hown4; have HO4 := Lib.hid hown4; have HB4 := Lib.hid (made_grown HB.out hg4 HB.out.size (Nat.le_refl _)); clear hown4 hg4)
  go_ret
  exact ⟨g4, _, c4, rfl, HO4.out, HB4.out⟩

set_option maxHeartbeats 800000 in
theorem Put_none {v : Value} (c : Nat) (h : NoT w v) : Calls Try.prog 28 #[v, .slice none 0 c] w fun e w' => e = .returned (.slice none 0 0) ∧ w = w' := by
  have HC := Lib.hid (ready_no h)
  go_enter Try.func28, Try.ntmps28
  go_wp2_with fail
  go_fit HC.out
  rintro e w1 ⟨rfl, rfl⟩
  go_wp2_with fail
  go_fit (CloneB_none (w := w) c)
  rintro e w1 ⟨rfl, rfl⟩
  go_wp2_with fail
  go_ret
  exact ⟨rfl, rfl⟩
set_option maxHeartbeats 800000 in
theorem Put_some {v : Value} {p : Addr} {n c : Nat} {xs : List Int} (h : NoT w v) (hx : xs.length = n) (hb : Lib.BytesIn w (some p) n xs) (hn : n ≤ 65536) : Calls Try.prog 28 #[v, .slice (some p) n c] w (Made w.heap.size w xs) := by
  have HC := Lib.hid (ready_no h)
  have HD := Lib.hid (CloneB_some (c := c) hx hb hn)
  clear hb
  go_enter Try.func28, Try.ntmps28
  go_wp2_with fail
  go_fit HC.out
  rintro e w1 ⟨rfl, rfl⟩
  go_wp2_with fail
  go_fit HD.out
  rintro e w1 ⟨g, n', c', rfl, ho, hb⟩
  have HO := Lib.hid ho
  have HB := Lib.hid hb
  clear ho hb
  go_wp2_with fail
  go_ret
  exact ⟨g, n', c', rfl, HO.out, HB.out⟩
end Go.Proofs.Ytdcmefkejgjdeaa
