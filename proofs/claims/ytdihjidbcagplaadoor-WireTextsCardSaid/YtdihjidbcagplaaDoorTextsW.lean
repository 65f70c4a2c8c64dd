/-
  The walk of WireTexts.
-/
import Derived.Test.YtdihjidbcagplaaDoorAw
import Derived.Test.YtdihjidbcagplaaDoorR3
namespace Go.Proofs.YtdihjidbcagplaaDoor
open Go.RowKit

set_option maxHeartbeats 800000 in
theorem Texts_far (p : Option Addr) (n c : Nat) (s : ByteArray) (yes : Bool) (v : Int) (w : World) (hT : TabIn w) (hs : s.size ≤ 9223372036854775807) (hn : 65536 < n ∨ (n ≤ 65536 ∧ 65536 < s.size)) :
    Calls Tryd.prog 4 #[.slice p n c, .string s, .bool yes, .int .i64 v] w (Yes w) := by
  have HT := Lib.hid hT
  clear hT
  rcases hn with hn | ⟨hn, hn2⟩
  all_goals
    go_enter Tryd.func4, Tryd.ntmps4
    go_wp2_with fail
    go_fit (awake_any w HT.out)
    rintro e w1 ⟨rfl, hb1⟩
    go_wp2_with fail
    go_ret
    exact ⟨rfl, hb1⟩

set_option maxHeartbeats 1600000 in
theorem Texts_near (p : Option Addr) (n c : Nat) (xs : List Int) (s : ByteArray) (yes : Bool) (v : Int) (w : World) (hT : TabIn w) (hx : xs.length = n) (hb : Lib.BytesIn w p n xs) (hp : p = none → n = 0 ∧ c = 0) (hn : n ≤ 65536) (hs : s.size ≤ 65536) :
    Calls Tryd.prog 4 #[.slice p n c, .string s, .bool yes, .int .i64 v] w (Yes w) := by
  have HT := Lib.hid hT
  have Hx := Lib.hid hx
  have Hb := Lib.hid hb
  clear hT hx hb
  go_enter Tryd.func4, Tryd.ntmps4
  go_wp2_with fail
  go_fit (Clone_any p n c xs w Hx.out Hb.out hp (by omega))
  rintro e w1 ⟨q, m, d, rfl, hin1, hm, hmd, hq, hb1⟩
  have Hm := Lib.hid hm
  have hmn : m ≤ 65536 := by rw [← hm, Hx.out]; exact hn
  have Hin1 := Lib.hid hin1
  have Hb1 := Lib.hid hb1
  clear hm hin1 hb1
  go_wp2_with fail
  go_fit (Text_any q m d xs s w1 Hm.out Hin1.out hq (by omega))
  rintro e w2 ⟨g2, n2, c2, rfl, hown2, hb2⟩
  have Hb2 := Lib.hid (Hb1.out.trans (hb2.mono Hb1.out.size))
  go_wp2_with fail
  go_fit (RText_any p n c xs s w2 Hx.out (later Hb.out Hb2.out) hp (by omega))
  rintro e w3 ⟨g3, n3, c3, rfl, hown3, hb3⟩
  have Hb3 := Lib.hid (Hb2.out.trans (hb3.mono Hb2.out.size))
  have Heq := Lib.hid (Equal_same (some ⟨g2, 0, none⟩) (some ⟨g3, 0, none⟩) n2 c2 n3 c3 _ w3 (owns_len hown2) (owns_len hown3) (later (owns_in hown2) hb3) (owns_in hown3))
  have Hq3 := Lib.hid (later Hin1.out (hb2.trans (hb3.mono hb2.size)))
  clear hown2 hown3 hb2 hb3
  go_wp2_with fail
  go_fit Heq.out
  rintro e w' ⟨rfl, rfl⟩
  go_wp2_with fail
  go_fit (Flag_any q m d xs yes w3 Hm.out Hq3.out hq (by omega))
  rintro e w4 ⟨g4, n4, c4, rfl, hown4, hb4⟩
  have Hb4 := Lib.hid (Hb3.out.trans (hb4.mono Hb3.out.size))
  go_wp2_with fail
  go_fit (RFlag_any p n c xs yes w4 Hx.out (later Hb.out Hb4.out) hp (by omega))
  rintro e w5 ⟨g5, n5, c5, rfl, hown5, hb5⟩
  have Hb5 := Lib.hid (Hb4.out.trans (hb5.mono Hb4.out.size))
  have Heq2 := Lib.hid (Equal_same (some ⟨g4, 0, none⟩) (some ⟨g5, 0, none⟩) n4 c4 n5 c5 _ w5 (owns_len hown4) (owns_len hown5) (later (owns_in hown4) hb5) (owns_in hown5))
  have Hq5 := Lib.hid (later Hq3.out (hb4.trans (hb5.mono hb4.size)))
  clear hown4 hown5 hb4 hb5
  go_wp2_with fail
  go_fit Heq2.out
  rintro e w' ⟨rfl, rfl⟩
  go_wp2_with fail
  go_fit (Signed_any q m d xs v w5 Hm.out Hq5.out hq (by omega))
  rintro e w6 ⟨g6, n6, c6, rfl, hown6, hb6⟩
  have Hb6 := Lib.hid (Hb5.out.trans (hb6.mono Hb5.out.size))
  go_wp2_with fail
  go_fit (RSigned_any p n c xs v w6 Hx.out (later Hb.out Hb6.out) hp (by omega))
  rintro e w7 ⟨g7, n7, c7, rfl, hown7, hb7⟩
  have Hb7 := Lib.hid (Hb6.out.trans (hb7.mono Hb6.out.size))
  have Heq3 := Lib.hid (Equal_same (some ⟨g6, 0, none⟩) (some ⟨g7, 0, none⟩) n6 c6 n7 c7 _ w7 (owns_len hown6) (owns_len hown7) (later (owns_in hown6) hb7) (owns_in hown7))
  have Hq7 := Lib.hid (later Hq5.out (hb6.trans (hb7.mono hb6.size)))
  clear hown6 hown7 hb6 hb7
  go_wp2_with fail
  go_fit Heq3.out
  rintro e w' ⟨rfl, rfl⟩
  go_wp2_with fail
  go_fit (Equal_same q p m d n c xs w7 Hm.out Hx.out Hq7.out (later Hb.out Hb7.out))
  rintro e w' ⟨rfl, rfl⟩
  go_wp2_with fail
  go_fit (awake_any w7 (HT.out.later Hb7.out))
  rintro e w8 ⟨rfl, hb8⟩
  go_wp2_with fail
  go_ret
  exact ⟨rfl, Hb7.out.trans (hb8.mono Hb7.out.size)⟩

end Go.Proofs.YtdihjidbcagplaaDoor
