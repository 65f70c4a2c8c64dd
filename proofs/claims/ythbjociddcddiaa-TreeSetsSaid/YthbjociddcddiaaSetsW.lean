/-
  The walk of TreeSets. (Written by genl.py.)
-/
import Derived.Test.YthbjociddcddiaaW2
namespace Go.Proofs.Ythbjociddcddiaa
set_option linter.unusedVariables false
set_option linter.unusedSimpArgs false
open Go.RowKit

set_option maxRecDepth 100000 in
set_option maxHeartbeats 3200000 in
theorem Sets_any (vks : Value) (ks : List Dk) (vms : Value) (ms : List Dk) (w : World) (hks : DosIn w vks ks) (hms : DosIn w vms ms) : Calls Try.prog 9 #[vks, vms] w (Yes w) := by
  obtain ⟨aks, cks, rfl, haks⟩ := hks
  have hDks : DosIn w (.slice aks ks.length cks) ks := ⟨aks, cks, rfl, haks⟩
  obtain ⟨ams, cms, rfl, hams⟩ := hms
  have hDms : DosIn w (.slice ams ms.length cms) ms := ⟨ams, cms, rfl, hams⟩
  have hA := below_alloc w (Obj.cells #[.slice aks ks.length cks, .slice ams ms.length cms] 22)
  have hL : ListsIn (w.alloc (Obj.cells #[.slice aks ks.length cks, .slice ams ms.length cms] 22)) (.slice (some ⟨w.heap.size, 0, none⟩) 2 2) [ks, ms] := by
    refine ⟨_, 0, 2, rfl, fun i l hl => ?_⟩
    match i, hl with
    | 0, hl =>
      obtain rfl : ks = l := by simpa using hl
      exact ⟨_, by rw [World.cell?_alloc_at _ _ _ _ rfl]; rfl, hDks.later hA⟩
    | 1, hl =>
      obtain rfl : ms = l := by simpa using hl
      exact ⟨_, by rw [World.cell?_alloc_at _ _ _ _ rfl]; rfl, hDms.later hA⟩
  have HDks := Lib.hid hDks
  clear haks hDks
  have HDms := Lib.hid hDms
  clear hams hDms
  go_enter Try.func9, Try.ntmps9
  go_wp2_with fail
  go_fit (short_any hL (by simp))
  rintro e w1 ⟨sb, rfl, hs, hb1⟩
  have HB1 := Lib.hid (hA.trans (hb1.mono hA.size))
  have Hs := Lib.hid hs
  clear hA hL hb1 hs
  cases sb with
  | false =>
    go_wp2_with fail
    go_fit (awake_any w1)
    rintro e w2 ⟨rfl, hb2⟩
    have HB2 := Lib.hid (HB1.out.trans (hb2.mono HB1.out.size))
    clear hb2
    go_wp2_with fail
    go_ret
    exact ⟨rfl, HB2.out⟩
  | true =>
    have hlenks : ks.length ≤ 300 := (Hs.out rfl).1 ks (by simp)
    have hlenms : ms.length ≤ 300 := (Hs.out rfl).1 ms (by simp)
    have HEks := Lib.hid (HDks.out.later HB1.out)
    have HEms := Lib.hid (HDms.out.later HB1.out)
    have HBB := HB1
    clear Hs HDks HDms
    go_wp2_with fail
    go_fit (made_any HEks.out hlenks)
    rintro e w2 ⟨y, u, s, rfl, hst⟩
    have HST := Lib.hid (hst.more hlenks)
    have HEms := Lib.hid (HEms.out.later hst.below)
    clear hst HEks
    go_wp2_with fail
    go_fit (made_any HEms.out hlenms)
    rintro e w3 ⟨z, v, q, rfl, hst⟩
    have HSQ := Lib.hid (hst.more hlenms)
    have HST := Lib.hid (HST.out.later hst.below)
    clear hst HEms
    have HTa := Lib.hid HST.out.tl
    have HTb := Lib.hid HSQ.out.tl
    go_wp2_with fail
    go_fit (Union_tl HTa.out HTb.out (by omega))
    rintro e wHU ⟨vHU, tHU, rfl, hx, hb⟩
    have HU := Lib.hid hx
    have HST := Lib.hid (HST.out.later hb)
    have HSQ := Lib.hid (HSQ.out.later hb)
    have HTa := Lib.hid (HTa.out.later hb)
    have HTb := Lib.hid (HTb.out.later hb)
    clear hx hb
    go_wp2_with fail
    go_fit (Minus_tl HTa.out HTb.out (by omega) (by omega))
    rintro e wHM ⟨vHM, tHM, rfl, hx, hb⟩
    have HM := Lib.hid hx
    have HST := Lib.hid (HST.out.later hb)
    have HSQ := Lib.hid (HSQ.out.later hb)
    have HTa := Lib.hid (HTa.out.later hb)
    have HTb := Lib.hid (HTb.out.later hb)
    have HU := Lib.hid (HU.out.later hb)
    clear hx hb
    go_wp2_with fail
    go_fit (Both_tl HTa.out HTb.out (by omega) (by omega))
    rintro e wHI ⟨vHI, tHI, rfl, hx, hb⟩
    have HI := Lib.hid hx
    have HST := Lib.hid (HST.out.later hb)
    have HSQ := Lib.hid (HSQ.out.later hb)
    have HTa := Lib.hid (HTa.out.later hb)
    have HTb := Lib.hid (HTb.out.later hb)
    have HU := Lib.hid (HU.out.later hb)
    have HM := Lib.hid (HM.out.later hb)
    clear hx hb
    have Hl1 := Lib.hid (mi_bo_len HTa.out.sorted HTb.out.sorted)
    have Hl2 := Lib.hid (un_mi_len HTa.out.sorted HTb.out.sorted)
    have hz1 := HTa.out.length
    have hz2 := HTb.out.length
    have hz3 := HM.out.length
    have hz4 := HI.out.length
    have e1 : IntKind.i64.wrap (((mi s.list q.list).length : Int) + ((mi s.list (mi s.list q.list)).length : Int)) = ((mi s.list q.list).length : Int) + ((mi s.list (mi s.list q.list)).length : Int) := IntWalk.i64_in _ (by omega)
    have e2 : IntKind.i64.wrap (((mi s.list q.list).length : Int) + (q.list.length : Int)) = ((mi s.list q.list).length : Int) + (q.list.length : Int) := IntWalk.i64_in _ (by omega)
    have e3 : ((mi s.list q.list).length : Int) + ((mi s.list (mi s.list q.list)).length : Int) = (s.list.length : Int) := by have := Hl1.out; omega
    have e4 : ((un s.list q.list).length : Int) = ((mi s.list q.list).length : Int) + (q.list.length : Int) := by have := Hl2.out; omega
    have E1 := Lib.hid e1
    have E2 := Lib.hid e2
    have E3 := Lib.hid e3
    have E4 := Lib.hid e4
    clear e1 e2 e3 e4
    go_wp2_with fail
    go_fit (All_tl HU.out (by omega))
    rintro e wa1 ⟨ua1, rfl, hpa, hb⟩
    have HST := Lib.hid (HST.out.later hb)
    have HSQ := Lib.hid (HSQ.out.later hb)
    have HTa := Lib.hid (HTa.out.later hb)
    have HTb := Lib.hid (HTb.out.later hb)
    have HU := Lib.hid (HU.out.later hb)
    have HM := Lib.hid (HM.out.later hb)
    have HI := Lib.hid (HI.out.later hb)
    have HPA := Lib.hid hpa
    clear hpa hb
    go_wp2_with fail
    go_fit (RUnion_any HST.out.list HSQ.out.list HST.out.good.sorted (by have := HST.out.length; have := HSQ.out.length; omega))
    rintro e ww1 ⟨uw, rfl, hpw, hb⟩
    have HPW := Lib.hid hpw
    clear hpw
    have HST := Lib.hid (HST.out.later hb)
    have HSQ := Lib.hid (HSQ.out.later hb)
    have HTa := Lib.hid (HTa.out.later hb)
    have HTb := Lib.hid (HTb.out.later hb)
    have HU := Lib.hid (HU.out.later hb)
    have HM := Lib.hid (HM.out.later hb)
    have HI := Lib.hid (HI.out.later hb)
    have HPA := Lib.hid (HPA.out.later hb)
    clear hb
    go_wp2_with fail
    go_fit (Same_true HPA.out HPW.out (by have := HU.out.length; omega))
    rintro e ws1 ⟨rfl, hb⟩
    have HST := Lib.hid (HST.out.later hb)
    have HSQ := Lib.hid (HSQ.out.later hb)
    have HTa := Lib.hid (HTa.out.later hb)
    have HTb := Lib.hid (HTb.out.later hb)
    have HU := Lib.hid (HU.out.later hb)
    have HM := Lib.hid (HM.out.later hb)
    have HI := Lib.hid (HI.out.later hb)
    clear hb HPA
    go_wp2_with fail
    go_fit (All_tl HM.out (by omega))
    rintro e wa2 ⟨ua2, rfl, hpa, hb⟩
    have HST := Lib.hid (HST.out.later hb)
    have HSQ := Lib.hid (HSQ.out.later hb)
    have HTa := Lib.hid (HTa.out.later hb)
    have HTb := Lib.hid (HTb.out.later hb)
    have HU := Lib.hid (HU.out.later hb)
    have HM := Lib.hid (HM.out.later hb)
    have HI := Lib.hid (HI.out.later hb)
    have HPA := Lib.hid hpa
    clear hpa hb
    go_wp2_with fail
    go_fit (RMinus_any HST.out.list HSQ.out.list HST.out.good.sorted (by have := HST.out.length; have := HSQ.out.length; omega))
    rintro e ww2 ⟨uw, rfl, hpw, hb⟩
    have HPW := Lib.hid hpw
    clear hpw
    have HST := Lib.hid (HST.out.later hb)
    have HSQ := Lib.hid (HSQ.out.later hb)
    have HTa := Lib.hid (HTa.out.later hb)
    have HTb := Lib.hid (HTb.out.later hb)
    have HU := Lib.hid (HU.out.later hb)
    have HM := Lib.hid (HM.out.later hb)
    have HI := Lib.hid (HI.out.later hb)
    have HPA := Lib.hid (HPA.out.later hb)
    clear hb
    go_wp2_with fail
    go_fit (Same_true HPA.out HPW.out (by have := HM.out.length; omega))
    rintro e ws2 ⟨rfl, hb⟩
    have HST := Lib.hid (HST.out.later hb)
    have HSQ := Lib.hid (HSQ.out.later hb)
    have HTa := Lib.hid (HTa.out.later hb)
    have HTb := Lib.hid (HTb.out.later hb)
    have HU := Lib.hid (HU.out.later hb)
    have HM := Lib.hid (HM.out.later hb)
    have HI := Lib.hid (HI.out.later hb)
    clear hb HPA
    go_wp2_with fail
    go_fit (All_tl HI.out (by omega))
    rintro e wa3 ⟨ua3, rfl, hpa, hb⟩
    have HST := Lib.hid (HST.out.later hb)
    have HSQ := Lib.hid (HSQ.out.later hb)
    have HTa := Lib.hid (HTa.out.later hb)
    have HTb := Lib.hid (HTb.out.later hb)
    have HU := Lib.hid (HU.out.later hb)
    have HM := Lib.hid (HM.out.later hb)
    have HI := Lib.hid (HI.out.later hb)
    have HPA := Lib.hid hpa
    clear hpa hb
    go_wp2_with fail
    go_fit (RBoth_any HST.out.list HSQ.out.list HST.out.good.sorted (by have := HST.out.length; have := HSQ.out.length; omega))
    rintro e ww3 ⟨uw, rfl, hpw, hb⟩
    have HPW := Lib.hid hpw
    clear hpw
    have HST := Lib.hid (HST.out.later hb)
    have HSQ := Lib.hid (HSQ.out.later hb)
    have HTa := Lib.hid (HTa.out.later hb)
    have HTb := Lib.hid (HTb.out.later hb)
    have HU := Lib.hid (HU.out.later hb)
    have HM := Lib.hid (HM.out.later hb)
    have HI := Lib.hid (HI.out.later hb)
    have HPA := Lib.hid (HPA.out.later hb)
    clear hb
    go_wp2_with fail
    go_fit (Same_true HPA.out HPW.out (by have := HI.out.length; omega))
    rintro e ws3 ⟨rfl, hb⟩
    have HST := Lib.hid (HST.out.later hb)
    have HSQ := Lib.hid (HSQ.out.later hb)
    have HTa := Lib.hid (HTa.out.later hb)
    have HTb := Lib.hid (HTb.out.later hb)
    have HU := Lib.hid (HU.out.later hb)
    have HM := Lib.hid (HM.out.later hb)
    have HI := Lib.hid (HI.out.later hb)
    clear hb HPA
    go_wp2_with fail
    go_fit (Len_tl HM.out)
    rintro e w' ⟨rfl, rfl⟩
    go_wp2_with fail
    go_fit (Len_tl HI.out)
    rintro e w' ⟨rfl, rfl⟩
    go_wp2_with fail
    have e3 := E3.out
    go_fit (Len_tl HTa.out)
    rintro e w' ⟨rfl, rfl⟩
    rw [← E3.out]
    go_wp2_with fail
    clear e3
    go_fit (Len_tl HU.out)
    rintro e w' ⟨rfl, rfl⟩
    go_wp2_with fail
    go_fit (Len_tl HM.out)
    rintro e w' ⟨rfl, rfl⟩
    go_wp2_with fail
    have e2 := E2.out
    go_fit (Len_tl HTb.out)
    rintro e w' ⟨rfl, rfl⟩
    go_wp2_with fail
    go_fit (shallow_tl HU.out (by omega))
    rintro e wsh0 ⟨rfl, hb⟩
    have HST := Lib.hid (HST.out.later hb)
    have HSQ := Lib.hid (HSQ.out.later hb)
    have HTa := Lib.hid (HTa.out.later hb)
    have HTb := Lib.hid (HTb.out.later hb)
    have HU := Lib.hid (HU.out.later hb)
    have HM := Lib.hid (HM.out.later hb)
    have HI := Lib.hid (HI.out.later hb)
    clear hb
    go_wp2_with fail
    go_fit (shallow_tl HM.out (by omega))
    rintro e wsh1 ⟨rfl, hb⟩
    have HST := Lib.hid (HST.out.later hb)
    have HSQ := Lib.hid (HSQ.out.later hb)
    have HTa := Lib.hid (HTa.out.later hb)
    have HTb := Lib.hid (HTb.out.later hb)
    have HU := Lib.hid (HU.out.later hb)
    have HM := Lib.hid (HM.out.later hb)
    have HI := Lib.hid (HI.out.later hb)
    clear hb
    go_wp2_with fail
    go_fit (shallow_tl HI.out (by omega))
    rintro e wsh2 ⟨rfl, hb⟩
    have HST := Lib.hid (HST.out.later hb)
    have HSQ := Lib.hid (HSQ.out.later hb)
    have HTa := Lib.hid (HTa.out.later hb)
    have HTb := Lib.hid (HTb.out.later hb)
    have HU := Lib.hid (HU.out.later hb)
    have HM := Lib.hid (HM.out.later hb)
    have HI := Lib.hid (HI.out.later hb)
    clear hb
    go_wp2_with fail
    have HB5 := Lib.hid (HBB.out.trans (HST.out.below.mono HBB.out.size))
    go_fit (awake_any _)
    rintro e wz ⟨rfl, hbz⟩
    have HZ := Lib.hid (HB5.out.trans (hbz.mono HB5.out.size))
    clear hbz
    go_wp2_with fail
    go_ret
    exact ⟨rfl, HZ.out⟩
end Go.Proofs.Ythbjociddcddiaa
