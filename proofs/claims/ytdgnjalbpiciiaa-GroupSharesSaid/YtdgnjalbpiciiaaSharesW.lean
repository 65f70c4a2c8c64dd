/-
  GroupShares walked.
-/
import Derived.Test.YtdgnjalbpiciiaaRU
namespace Go.Proofs.Ytdgnjalbpiciiaa
set_option linter.unusedVariables false
set_option linter.unusedSimpArgs false
open Go.RowKit Go.Shelf

set_option maxRecDepth 100000 in
set_option maxHeartbeats 6400000 in
theorem Shares_law {w : World} {u v : Value} {o m : List Int} (ho : intL.In w u o) (hm : intL.In w v m) (hwo : ∀ x ∈ o, W64 x) (hwm : ∀ x ∈ m, W64 x) : Calls Try.prog 4 #[u, v] w (BoolP true w) := by
  have HO := Lib.hid ho
  have HM := Lib.hid hm
  have HWO := Lib.hid hwo
  have HWM := Lib.hid hwm
  obtain ⟨a1, c1, rfl, _, _⟩ := ho.slice
  obtain ⟨a2, c2, rfl, _, _⟩ := hm.slice
  have HA := Lib.hid (awake_then (Below.refl w.heap.size w))
  clear ho hm hwo hwm
  go_enter Try.func4, Try.ntmps4
  by_cases l1 : (200 : Int) < (o.length : Int)
  · go_wp2_with fail
    go_fit HA.out
    rintro e w1 ⟨rfl, hb⟩
    go_wp2_with fail
    go_ret
    exact ⟨rfl, hb⟩
  · by_cases l2 : (100 : Int) < (m.length : Int)
    · go_wp2_with fail
      go_fit HA.out
      rintro e w1 ⟨rfl, hb⟩
      go_wp2_with fail
      go_ret
      exact ⟨rfl, hb⟩
    · clear HA
      have HC := Lib.hid (Clone_any HO.out (by omega))
      go_wp2_with fail
      go_fit HC.out
      rintro e w1 ⟨v1, rfl, hr1⟩
      have HB1 := Lib.hid hr1.grown
      have HO1 := Lib.hid (HO.out.later hr1.grown)
      have HM1 := Lib.hid (HM.out.later hr1.grown)
      have HX1 := Lib.hid hr1.told
      obtain ⟨a3, c3, rfl, _, _⟩ := hr1.slice
      have HC2 := Lib.hid (Clone_any HM1.out (by omega))
      clear HC hr1 HO HM
      go_wp2_with fail
      go_fit HC2.out
      rintro e w2 ⟨v2, rfl, hr2⟩
      have HB2 := Lib.hid (HB1.out.trans (hr2.grown.mono HB1.out.size))
      have HO2 := Lib.hid (HO1.out.later hr2.grown)
      have HM2 := Lib.hid (HM1.out.later hr2.grown)
      have HX2 := Lib.hid (HX1.out.later hr2.grown)
      have HY2 := Lib.hid hr2.told
      obtain ⟨a4, c4, rfl, _, _⟩ := hr2.slice
      have HS := Lib.hid (Share_any HX2.out HY2.out HWO.out HWM.out (by omega) (by omega))
      clear HC2 hr2 HO1 HM1 HX1
      go_wp2_with fail
      go_fit HS.out
      rintro e w3 ⟨v3, rfl, hr3⟩
      have HB3 := Lib.hid (HB2.out.trans (hr3.grown.mono HB2.out.size))
      have HO3 := Lib.hid (HO2.out.later hr3.grown)
      have HM3 := Lib.hid (HM2.out.later hr3.grown)
      have HX3 := Lib.hid (HX2.out.later hr3.grown)
      have HY3 := Lib.hid (HY2.out.later hr3.grown)
      have HZ3 := Lib.hid hr3.told
      obtain ⟨a5, c5, rfl, _, _⟩ := hr3.slice
      have HR := Lib.hid (RShare_any HO3.out HM3.out (by omega) (by omega))
      clear HS hr3 HO2 HM2 HX2 HY2
      go_wp2_with fail
      go_fit HR.out
      rintro e w4 ⟨v4, rfl, hr4⟩
      have HB4 := Lib.hid (HB3.out.trans (hr4.grown.mono HB3.out.size))
      have HO4 := Lib.hid (HO3.out.later hr4.grown)
      have HM4 := Lib.hid (HM3.out.later hr4.grown)
      have HX4 := Lib.hid (HX3.out.later hr4.grown)
      have HY4 := Lib.hid (HY3.out.later hr4.grown)
      have HE1 := Lib.hid (Equal_any (HZ3.out.later hr4.grown) hr4.told)
      rw [show (share o (team m) == share o (team m)) = true from by simp] at HE1
      obtain ⟨a6, c6, rfl, _, _⟩ := hr4.slice
      clear HR hr4 HO3 HM3 HX3 HY3 HZ3
      go_wp2_with fail
      go_fit HE1.out
      rintro e w5 ⟨rfl, hd5⟩
      have HB5 := Lib.hid (hd5.below HB4.out)
      have HE2 := Lib.hid (Equal_any (hd5.in' HX4.out) (hd5.in' HO4.out))
      rw [show (o == o) = true from by simp] at HE2
      have HM5 := Lib.hid (hd5.in' HM4.out)
      have HY5 := Lib.hid (hd5.in' HY4.out)
      clear HE1 hd5
      go_wp2_with fail
      go_fit HE2.out
      rintro e w6 ⟨rfl, hd6⟩
      have HB6 := Lib.hid (hd6.below HB5.out)
      have HE3 := Lib.hid (Equal_any (hd6.in' HY5.out) (hd6.in' HM5.out))
      rw [show (m == m) = true from by simp] at HE3
      clear HE2 hd6
      go_wp2_with fail
      go_fit HE3.out
      rintro e w7 ⟨rfl, hd7⟩
      have HA := Lib.hid (awake_then (hd7.below HB6.out))
      clear HE3 hd7
      go_wp2_with fail
      go_fit HA.out
      rintro e w8 ⟨rfl, hb8⟩
      go_wp2_with fail
      go_ret
      exact ⟨rfl, hb8⟩
end Go.Proofs.Ytdgnjalbpiciiaa
