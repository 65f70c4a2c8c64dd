/-
  The walk of TreeSplits. (Written by genl.py.)
-/
import Derived.Test.YthbjociddcddiaaW2
namespace Go.Proofs.Ythbjociddcddiaa
set_option linter.unusedVariables false
set_option linter.unusedSimpArgs false
open Go.RowKit

set_option maxRecDepth 100000 in
set_option maxHeartbeats 3200000 in
theorem Splits_any (vks : Value) (ks : List Dk) (w : World) (hks : DosIn w vks ks) (key : ByteArray) : Calls Try.prog 7 #[vks, .string key] w (Yes w) := by
  obtain ⟨aks, cks, rfl, haks⟩ := hks
  have hDks : DosIn w (.slice aks ks.length cks) ks := ⟨aks, cks, rfl, haks⟩
  have hA := below_alloc w (Obj.cells #[.slice aks ks.length cks] 22)
  have hL : ListsIn (w.alloc (Obj.cells #[.slice aks ks.length cks] 22)) (.slice (some ⟨w.heap.size, 0, none⟩) 1 1) [ks] := by
    refine ⟨_, 0, 1, rfl, fun i l hl => ?_⟩
    match i, hl with
    | 0, hl =>
      obtain rfl : ks = l := by simpa using hl
      exact ⟨_, by rw [World.cell?_alloc_at _ _ _ _ rfl]; rfl, hDks.later hA⟩
  have HDks := Lib.hid hDks
  clear haks hDks
  have hkkey : (0 : Int) ≤ ((key.size : Nat) : Int) := by omega
  go_enter Try.func7, Try.ntmps7
  go_wp2_with fail
  go_fit (short_any hL (by simp))
  rintro e w1 ⟨sb, rfl, hs, hb1⟩
  have HB1 := Lib.hid (hA.trans (hb1.mono hA.size))
  have Hs := Lib.hid hs
  clear hA hL hb1 hs
  cases sb with
  | false =>
    go_wp2_with fail
    go_fit (awake_any w1)
    rintro e w2 ⟨rfl, hb2⟩
    have HB2 := Lib.hid (HB1.out.trans (hb2.mono HB1.out.size))
    clear hb2
    go_wp2_with fail
    go_ret
    exact ⟨rfl, HB2.out⟩
  | true =>
    have hlenks : ks.length ≤ 300 := (Hs.out rfl).1 ks (by simp)
    by_cases hbig : (16384 : Int) < ((key.size : Nat) : Int)
    · go_wp2_with fail
      go_fit (awake_any w1)
      rintro e w2 ⟨rfl, hb2⟩
      have HB2 := Lib.hid (HB1.out.trans (hb2.mono HB1.out.size))
      clear hb2
      go_wp2_with fail
      go_ret
      exact ⟨rfl, HB2.out⟩
    have hsm : ((key.size : Nat) : Int) ≤ 16384 := by omega
    clear hbig
    have HEks := Lib.hid (HDks.out.later HB1.out)
    have HBB := HB1
    clear Hs HDks
    go_wp2_with fail
    go_fit (made_any HEks.out hlenks)
    rintro e w2 ⟨y, u, s, rfl, hst⟩
    have HST := Lib.hid (hst.more hlenks)
    clear hst HEks
    have HTL := Lib.hid HST.out.tl
    obtain ⟨gv, gb, hgv⟩ : ∃ g b, gotV (look s.list key) = .tuple #[.string g, .bool b] := ⟨_, _, rfl⟩
    have hgv2 := hgv
    simp only [gotV, Value.tuple.injEq, Array.mk.injEq, List.cons.injEq, Value.string.injEq, Value.bool.injEq, and_true] at hgv2
    have HGV := Lib.hid hgv
    have HSp := Lib.hid (Split_tl key HTL.out (by omega))
    unfold Halves at HSp
    rw [hgv2.1, hgv2.2] at HSp
    clear hgv hgv2
    go_wp2_with fail
    go_fit HSp.out
    rintro e w3 ⟨va, vb, a, b, rfl, hta, htb, hb⟩
    have HA := Lib.hid hta
    have HB := Lib.hid htb
    have HST := Lib.hid (HST.out.later hb)
    clear hta htb hb HSp HTL
    go_wp2_with fail
    go_fit (RSplit_any key HST.out.list (by have := HST.out.length; omega))
    rintro e w4 ⟨uc, ud, rfl, hpc, hpd, hb⟩
    have HPC := Lib.hid hpc
    have HPD := Lib.hid hpd
    have HST := Lib.hid (HST.out.later hb)
    have HA := Lib.hid (HA.out.later hb)
    have HB := Lib.hid (HB.out.later hb)
    clear hpc hpd hb
    have HG := Lib.hid (RGet_any key HST.out.list (by have := HST.out.length; omega))
    rw [HGV.out] at HG
    go_wp2_with fail
    go_fit HG.out
    rintro e w5 ⟨rfl, hb⟩
    have HST := Lib.hid (HST.out.later hb)
    have HA := Lib.hid (HA.out.later hb)
    have HB := Lib.hid (HB.out.later hb)
    have HPC := Lib.hid (HPC.out.later hb)
    have HPD := Lib.hid (HPD.out.later hb)
    clear hb HG
    go_wp2_with fail
    go_fit (Join_tl HA.out HB.out (by omega) (by omega))
    rintro e w6 ⟨hb, hj⟩
    rw [if_pos (jn_parts _ _)] at hj
    obtain ⟨vj, tj, rfl, hj⟩ := hj
    rw [← wo_parts HST.out.good.sorted] at hj
    have HJ := Lib.hid hj
    have HST := Lib.hid (HST.out.later hb)
    have HA := Lib.hid (HA.out.later hb)
    have HB := Lib.hid (HB.out.later hb)
    have HPC := Lib.hid (HPC.out.later hb)
    have HPD := Lib.hid (HPD.out.later hb)
    clear hb hj
    go_wp2_with fail
    go_fit (All_tl HA.out (by omega))
    rintro e wa1 ⟨ua1, rfl, hpa, hb⟩
    have HST := Lib.hid (HST.out.later hb)
    have HA := Lib.hid (HA.out.later hb)
    have HB := Lib.hid (HB.out.later hb)
    have HPC := Lib.hid (HPC.out.later hb)
    have HPD := Lib.hid (HPD.out.later hb)
    have HJ := Lib.hid (HJ.out.later hb)
    have HPA := Lib.hid hpa
    clear hpa hb
    go_wp2_with fail
    go_fit (Same_true HPA.out HPC.out (by have := HA.out.length; omega))
    rintro e ws1 ⟨rfl, hb⟩
    have HST := Lib.hid (HST.out.later hb)
    have HA := Lib.hid (HA.out.later hb)
    have HB := Lib.hid (HB.out.later hb)
    have HPC := Lib.hid (HPC.out.later hb)
    have HPD := Lib.hid (HPD.out.later hb)
    have HJ := Lib.hid (HJ.out.later hb)
    clear hb HPA
    go_wp2_with fail
    go_fit (All_tl HB.out (by omega))
    rintro e wa2 ⟨ua2, rfl, hpa, hb⟩
    have HST := Lib.hid (HST.out.later hb)
    have HA := Lib.hid (HA.out.later hb)
    have HB := Lib.hid (HB.out.later hb)
    have HPC := Lib.hid (HPC.out.later hb)
    have HPD := Lib.hid (HPD.out.later hb)
    have HJ := Lib.hid (HJ.out.later hb)
    have HPA := Lib.hid hpa
    clear hpa hb
    go_wp2_with fail
    go_fit (Same_true HPA.out HPD.out (by have := HB.out.length; omega))
    rintro e ws2 ⟨rfl, hb⟩
    have HST := Lib.hid (HST.out.later hb)
    have HA := Lib.hid (HA.out.later hb)
    have HB := Lib.hid (HB.out.later hb)
    have HPC := Lib.hid (HPC.out.later hb)
    have HPD := Lib.hid (HPD.out.later hb)
    have HJ := Lib.hid (HJ.out.later hb)
    clear hb HPA
    go_wp2_with fail
    go_fit (All_tl HJ.out (by omega))
    rintro e wa3 ⟨ua3, rfl, hpa, hb⟩
    have HST := Lib.hid (HST.out.later hb)
    have HA := Lib.hid (HA.out.later hb)
    have HB := Lib.hid (HB.out.later hb)
    have HPC := Lib.hid (HPC.out.later hb)
    have HPD := Lib.hid (HPD.out.later hb)
    have HJ := Lib.hid (HJ.out.later hb)
    have HPA := Lib.hid hpa
    clear hpa hb
    go_wp2_with fail
    go_fit (Without_any key HST.out.list (by have := HST.out.length; omega))
    rintro e ww hsc
    obtain ⟨uw, rfl, hpw, hb⟩ := hsc.lists
    have HPW := Lib.hid hpw
    clear hsc hpw
    have HST := Lib.hid (HST.out.later hb)
    have HA := Lib.hid (HA.out.later hb)
    have HB := Lib.hid (HB.out.later hb)
    have HPC := Lib.hid (HPC.out.later hb)
    have HPD := Lib.hid (HPD.out.later hb)
    have HJ := Lib.hid (HJ.out.later hb)
    have HPA := Lib.hid (HPA.out.later hb)
    clear hb
    go_wp2_with fail
    go_fit (Same_true HPA.out HPW.out (by have := HJ.out.length; omega))
    rintro e ws3 ⟨rfl, hb⟩
    have HST := Lib.hid (HST.out.later hb)
    have HA := Lib.hid (HA.out.later hb)
    have HB := Lib.hid (HB.out.later hb)
    have HPC := Lib.hid (HPC.out.later hb)
    have HPD := Lib.hid (HPD.out.later hb)
    have HJ := Lib.hid (HJ.out.later hb)
    clear hb HPA
    go_wp2_with fail
    have HB5 := Lib.hid (HBB.out.trans (HST.out.below.mono HBB.out.size))
    go_fit (awake_any _)
    rintro e wz ⟨rfl, hbz⟩
    have HZ := Lib.hid (HB5.out.trans (hbz.mono HB5.out.size))
    clear hbz
    go_wp2_with fail
    go_ret
    exact ⟨rfl, HZ.out⟩
end Go.Proofs.Ythbjociddcddiaa
