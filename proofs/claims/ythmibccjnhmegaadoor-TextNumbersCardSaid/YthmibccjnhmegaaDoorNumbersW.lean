/-
  The walk of TextNumbers.
-/
import Derived.Test.YthmibccjnhmegaaDoorAw
import Derived.Test.YthmibccjnhmegaaDoorB11
namespace Go.Proofs.YthmibccjnhmegaaDoor
set_option linter.unusedVariables false
set_option linter.unusedSimpArgs false
open Go.RowKit

set_option maxHeartbeats 800000 in
theorem TextNumbers_walk (s : ByteArray) (w : World) (_hs : s.size ≤ 9223372036854775807) (hT : TabIn w) :
    Calls Tryd.prog 6 #[.string s] w (Yes w) := by
  have HT := Lib.hid hT
  clear hT
  by_cases hm : s.size ≤ 16384
  · have C1 : Hid (∀ w, Calls Tryd.prog 26 #[.string s] w (NumP s w)) := fun w => Number_any s w (by omega)
    have C2 : Hid (∀ w, Calls Tryd.prog 27 #[.string s] w (NumP s w)) := fun w => rNumber_any s w (by omega)
    unfold NumP at C1 C2
    generalize numV s = v at *
    generalize numE s = er at *
    go_enter Tryd.func6, Tryd.ntmps6
    go_wp2_with fail
    go_fit (C1.out _)
    rintro e w1 ⟨rfl, hb⟩
    have H1 := Lib.hid hb
    clear hb
    go_wp2_with fail
    go_fit (C2.out _)
    rintro e w2 ⟨rfl, hb⟩
    have H2 := Lib.hid (H1.out.trans (hb.mono H1.out.size))
    clear hb
    go_wp2_with fail
    go_fit (awake_any _ (HT.out.later H2.out))
    rintro e w7 ⟨rfl, hb⟩
    have H7 := Lib.hid (H2.out.trans (hb.mono H2.out.size))
    clear hb
    go_wp2_with fail
    go_ret
    exact ⟨rfl, H7.out⟩
  · go_enter Tryd.func6, Tryd.ntmps6
    go_wp2_with fail
    go_fit (awake_any _ HT.out)
    rintro e w7 ⟨rfl, hb⟩
    have H7 := Lib.hid hb
    clear hb
    go_wp2_with fail
    go_ret
    exact ⟨rfl, H7.out⟩

end Go.Proofs.YthmibccjnhmegaaDoor
