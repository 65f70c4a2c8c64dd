/-
  The walk of TextKeys.
-/
import Derived.Test.YthmibccjnhmegaaDoorAw
namespace Go.Proofs.YthmibccjnhmegaaDoor
open Go.RowKit

set_option maxHeartbeats 800000 in
theorem TextKeys_walk (s : ByteArray) (w : World) (_hs : s.size ≤ 9223372036854775807) (hT : TabIn w) :
    Calls Tryd.prog 3 #[.string s] w (Yes w) := by
  have HT := Lib.hid hT
  clear hT
  by_cases hm : s.size ≤ 16384
  · have C1 : Hid (∀ w, Calls Tryd.prog 15 #[.string s] w (ErrP (madeB s 1 24 plainB) 20 w)) := fun w => Key_any s w (by omega)
    have C2 : Hid (∀ w, Calls Tryd.prog 16 #[.string s] w (ErrP (madeB s 1 24 plainB) 20 w)) := fun w => rKey_any s w (by omega)
    have C3 : Hid (∀ w, Calls Tryd.prog 17 #[.string s] w (ErrP (madeB s 0 48 plainB) 21 w)) := fun w => Value_any s w (by omega)
    have C4 : Hid (∀ w, Calls Tryd.prog 18 #[.string s] w (ErrP (madeB s 0 48 plainB) 21 w)) := fun w => rValue_any s w (by omega)
    have C5 : Hid (∀ w, Calls Tryd.prog 19 #[.string s] w (ErrP (madeB s 1 8 letterB) 22 w)) := fun w => Name_any s w (by omega)
    have C6 : Hid (∀ w, Calls Tryd.prog 20 #[.string s] w (ErrP (madeB s 1 8 letterB) 22 w)) := fun w => rName_any s w (by omega)
    generalize madeB s 1 24 plainB = b1 at *
    generalize madeB s 0 48 plainB = b2 at *
    generalize madeB s 1 8 letterB = b3 at *
    go_enter Tryd.func3, Tryd.ntmps3
    go_wp2_with fail
    go_fit (C1.out _)
    rintro e w1 ⟨rfl, hb⟩
    have H1 := Lib.hid hb
    clear hb
    go_wp2_with fail
    go_fit (C2.out _)
    rintro e w2 ⟨rfl, hb⟩
    have H2 := Lib.hid (H1.out.trans (hb.mono H1.out.size))
    clear hb
    go_wp2_with fail
    go_fit (C3.out _)
    rintro e w3 ⟨rfl, hb⟩
    have H3 := Lib.hid (H2.out.trans (hb.mono H2.out.size))
    clear hb
    go_wp2_with fail
    go_fit (C4.out _)
    rintro e w4 ⟨rfl, hb⟩
    have H4 := Lib.hid (H3.out.trans (hb.mono H3.out.size))
    clear hb
    go_wp2_with fail
    go_fit (C5.out _)
    rintro e w5 ⟨rfl, hb⟩
    have H5 := Lib.hid (H4.out.trans (hb.mono H4.out.size))
    clear hb
    go_wp2_with fail
    go_fit (C6.out _)
    rintro e w6 ⟨rfl, hb⟩
    have H6 := Lib.hid (H5.out.trans (hb.mono H5.out.size))
    clear hb
    go_wp2_with fail
    go_fit (awake_any _ (HT.out.later H6.out))
    rintro e w7 ⟨rfl, hb⟩
    have H7 := Lib.hid (H6.out.trans (hb.mono H6.out.size))
    clear hb
    go_wp2_with fail
    go_ret
    exact ⟨rfl, H7.out⟩
  · go_enter Tryd.func3, Tryd.ntmps3
    go_wp2_with fail
    go_fit (awake_any _ HT.out)
    rintro e w7 ⟨rfl, hb⟩
    have H7 := Lib.hid hb
    clear hb
    go_wp2_with fail
    go_ret
    exact ⟨rfl, H7.out⟩

end Go.Proofs.YthmibccjnhmegaaDoor
