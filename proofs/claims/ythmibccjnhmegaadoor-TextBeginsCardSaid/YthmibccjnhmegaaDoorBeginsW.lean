/-
  The walk of TextBegins.
-/
import Derived.Test.YthmibccjnhmegaaDoorAw
namespace Go.Proofs.YthmibccjnhmegaaDoor
set_option linter.unusedVariables false
set_option linter.unusedSimpArgs false
open Go.RowKit

theorem HasPrefix_any (s p : ByteArray) (w : World) : Calls Tryd.prog 29 #[.string s, .string p] w fun e w' => e = .returned (.bool (Lib.hasPrefix s.data.toList p.data.toList)) ∧ w = w' :=
  (Tryd.strings_HasPrefix s p w).mono fun _ _ ⟨a, b⟩ => ⟨a, b.symm⟩
theorem Begins_any (s p : ByteArray) (b : Bool) (w : World) (hb : Lib.hasPrefix s.data.toList p.data.toList = b) : Calls Tryd.prog 28 #[.string s, .string p] w fun e w' => e = .returned (.bool b) ∧ w = w' := by
  have hc := Lib.hid (HasPrefix_any s p w)
  rw [hb] at hc
  clear hb
  go_enter Tryd.func28, Tryd.ntmps28
  go_wp2_with fail
  go_fit hc.out
  rintro e w' ⟨rfl, rfl⟩
  go_wp2_with fail
  go_ret
  exact ⟨rfl, rfl⟩

theorem prefix_append (a b : ByteArray) : Lib.hasPrefix (a ++ b).data.toList a.data.toList = true := by
  unfold Lib.hasPrefix
  rw [show (a ++ b).data.toList = a.data.toList ++ b.data.toList by simp]
  simp

set_option maxHeartbeats 800000 in
theorem TextBegins_walk (s front : ByteArray) (w : World) (hs : s.size ≤ 140737488355328) (hf : front.size ≤ 140737488355328) (hT : TabIn w) :
    Calls Tryd.prog 7 #[.string s, .string front] w (Yes w) := by
  have h1 := Lib.hid (fun b hb => Begins_any s front b w hb)
  have h2 := Lib.hid (HasPrefix_any s front w)
  have h3 := Lib.hid (Begins_any (front ++ s) front true w (prefix_append front s))
  have h4 := Lib.hid (awake_any w hT)
  clear hT
  cases hb : Lib.hasPrefix s.data.toList front.data.toList
  all_goals
    have h1' := Lib.hid (h1.out _ hb)
    rw [hb] at h2
    clear h1 hb
    go_enter Tryd.func7, Tryd.ntmps7
    go_wp2_with fail
    go_fit h1'.out
    rintro e w' ⟨rfl, rfl⟩
    go_wp2_with fail
    go_fit h2.out
    rintro e w' ⟨rfl, rfl⟩
    go_wp2_with fail
    go_fit h3.out
    rintro e w' ⟨rfl, rfl⟩
    go_wp2_with fail
    go_fit h4.out
    rintro e w1 ⟨rfl, hb1⟩
    have H := Lib.hid hb1
    clear hb1
    go_wp2_with fail
    go_ret
    exact ⟨rfl, H.out⟩

end Go.Proofs.YthmibccjnhmegaaDoor
