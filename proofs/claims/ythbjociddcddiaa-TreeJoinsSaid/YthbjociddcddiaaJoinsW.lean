/-
  The walk of TreeJoins. (Written by genl.py.)
-/
import Derived.Test.YthbjociddcddiaaW2
namespace Go.Proofs.Ythbjociddcddiaa
set_option linter.unusedVariables false
set_option linter.unusedSimpArgs false
open Go.RowKit

set_option maxRecDepth 100000 in
set_option maxHeartbeats 3200000 in
theorem Joins_any (vks : Value) (ks : List Dk) (vms : Value) (ms : List Dk) (w : World) (hks : DosIn w vks ks) (hms : DosIn w vms ms) : Calls Try.prog 8 #[vks, vms] w (Yes w) := by
  obtain ⟨aks, cks, rfl, haks⟩ := hks
  have hDks : DosIn w (.slice aks ks.length cks) ks := ⟨aks, cks, rfl, haks⟩
  obtain ⟨ams, cms, rfl, hams⟩ := hms
  have hDms : DosIn w (.slice ams ms.length cms) ms := ⟨ams, cms, rfl, hams⟩
  have hA := below_alloc w (Obj.cells #[.slice aks ks.length cks, .slice ams ms.length cms] 22)
  have hL : ListsIn (w.alloc (Obj.cells #[.slice aks ks.length cks, .slice ams ms.length cms] 22)) (.slice (some ⟨w.heap.size, 0, none⟩) 2 2) [ks, ms] := by
    refine ⟨_, 0, 2, rfl, fun i l hl => ?_⟩
    match i, hl with
    | 0, hl =>
      obtain rfl : ks = l := by simpa using hl
      exact ⟨_, by rw [World.cell?_alloc_at _ _ _ _ rfl]; rfl, hDks.later hA⟩
    | 1, hl =>
      obtain rfl : ms = l := by simpa using hl
      exact ⟨_, by rw [World.cell?_alloc_at _ _ _ _ rfl]; rfl, hDms.later hA⟩
  have HDks := Lib.hid hDks
  clear haks hDks
  have HDms := Lib.hid hDms
  clear hams hDms
  go_enter Try.func8, Try.ntmps8
  go_wp2_with fail
  go_fit (short_any hL (by simp))
  rintro e w1 ⟨sb, rfl, hs, hb1⟩
  have HB1 := Lib.hid (hA.trans (hb1.mono hA.size))
  have Hs := Lib.hid hs
  clear hA hL hb1 hs
  cases sb with
  | false =>
    go_wp2_with fail
    go_fit (awake_any w1)
    rintro e w2 ⟨rfl, hb2⟩
    have HB2 := Lib.hid (HB1.out.trans (hb2.mono HB1.out.size))
    clear hb2
    go_wp2_with fail
    go_ret
    exact ⟨rfl, HB2.out⟩
  | true =>
    have hlenks : ks.length ≤ 300 := (Hs.out rfl).1 ks (by simp)
    have hlenms : ms.length ≤ 300 := (Hs.out rfl).1 ms (by simp)
    have HEks := Lib.hid (HDks.out.later HB1.out)
    have HEms := Lib.hid (HDms.out.later HB1.out)
    have HBB := HB1
    clear Hs HDks HDms
    go_wp2_with fail
    go_fit (made_any HEks.out hlenks)
    rintro e w2 ⟨y, u, s, rfl, hst⟩
    have HST := Lib.hid (hst.more hlenks)
    have HEms := Lib.hid (HEms.out.later hst.below)
    clear hst HEks
    go_wp2_with fail
    go_fit (made_any HEms.out hlenms)
    rintro e w3 ⟨z, v, q, rfl, hst⟩
    have HSQ := Lib.hid (hst.more hlenms)
    have HST := Lib.hid (HST.out.later hst.below)
    clear hst HEms
    have HJn : jn s.list q.list = true ∨ jn s.list q.list = false := by cases jn s.list q.list <;> simp
    have HTa := Lib.hid HST.out.tl
    have HTb := Lib.hid HSQ.out.tl
    rcases HJn with hj | hj
    · have HJt := Lib.hid hj
      clear hj
      go_wp2_with fail
      go_fit (Join_tl HTa.out HTb.out (by omega) (by omega))
      rintro e w4 ⟨hb, hjj⟩
      rw [if_pos HJt.out] at hjj
      obtain ⟨vj, tj, rfl, hjj⟩ := hjj
      have HJ := Lib.hid hjj
      have HST := Lib.hid (HST.out.later hb)
      have HSQ := Lib.hid (HSQ.out.later hb)
      clear hb hjj HTa HTb
      go_wp2_with fail
      go_fit (RJoin_any HST.out.list HSQ.out.list (by have := HST.out.length; have := HSQ.out.length; omega))
      rintro e w5 ⟨hb, hjj⟩
      rw [if_pos HJt.out] at hjj
      obtain ⟨vk, rfl, hjj⟩ := hjj
      have HPK := Lib.hid hjj
      have HST := Lib.hid (HST.out.later hb)
      have HSQ := Lib.hid (HSQ.out.later hb)
      have HJ := Lib.hid (HJ.out.later hb)
      clear hb hjj
      go_wp2_with fail
      go_fit (All_tl HJ.out (by omega))
      rintro e wa1 ⟨ua1, rfl, hpa, hb⟩
      have HST := Lib.hid (HST.out.later hb)
      have HSQ := Lib.hid (HSQ.out.later hb)
      have HJ := Lib.hid (HJ.out.later hb)
      have HPK := Lib.hid (HPK.out.later hb)
      have HPA := Lib.hid hpa
      clear hpa hb
      go_wp2_with fail
      go_fit (Same_true HPA.out HPK.out (by have := HJ.out.length; omega))
      rintro e ws1 ⟨rfl, hb⟩
      have HST := Lib.hid (HST.out.later hb)
      have HSQ := Lib.hid (HSQ.out.later hb)
      have HJ := Lib.hid (HJ.out.later hb)
      have HPK := Lib.hid (HPK.out.later hb)
      clear hb HPA
      go_wp2_with fail
      go_fit (shallow_tl HJ.out (by omega))
      rintro e w8 ⟨rfl, hb⟩
      have HST := Lib.hid (HST.out.later hb)
      have HSQ := Lib.hid (HSQ.out.later hb)
      have HJ := Lib.hid (HJ.out.later hb)
      have HPK := Lib.hid (HPK.out.later hb)
      clear hb
      go_wp2_with fail
      have HB5 := Lib.hid (HBB.out.trans (HST.out.below.mono HBB.out.size))
      go_fit (awake_any _)
      rintro e wz ⟨rfl, hbz⟩
      have HZ := Lib.hid (HB5.out.trans (hbz.mono HB5.out.size))
      clear hbz
      go_wp2_with fail
      go_ret
      exact ⟨rfl, HZ.out⟩
    · have HJt := Lib.hid hj
      clear hj
      go_wp2_with fail
      go_fit (Join_tl HTa.out HTb.out (by omega) (by omega))
      rintro e w4 ⟨hb, hjj⟩
      rw [if_neg (by rw [HJt.out]; simp)] at hjj
      subst hjj
      have HST := Lib.hid (HST.out.later hb)
      have HSQ := Lib.hid (HSQ.out.later hb)
      clear hb HTa HTb
      go_wp2_with fail
      go_fit (RJoin_any HST.out.list HSQ.out.list (by have := HST.out.length; have := HSQ.out.length; omega))
      rintro e w5 ⟨hb, hjj⟩
      rw [if_neg (by rw [HJt.out]; simp)] at hjj
      subst hjj
      have HST := Lib.hid (HST.out.later hb)
      have HSQ := Lib.hid (HSQ.out.later hb)
      clear hb
      go_wp2_with fail
      have HB5 := Lib.hid (HBB.out.trans (HST.out.below.mono HBB.out.size))
      go_fit (awake_any _)
      rintro e wz ⟨rfl, hbz⟩
      have HZ := Lib.hid (HB5.out.trans (hbz.mono HB5.out.size))
      clear hbz
      go_wp2_with fail
      go_ret
      exact ⟨rfl, HZ.out⟩
end Go.Proofs.Ythbjociddcddiaa
