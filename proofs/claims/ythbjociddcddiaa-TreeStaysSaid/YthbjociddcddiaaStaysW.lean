/-
  The walk of TreeStays. (Written by genl.py.)
-/
import Derived.Test.YthbjociddcddiaaW2
namespace Go.Proofs.Ythbjociddcddiaa
set_option linter.unusedVariables false
set_option linter.unusedSimpArgs false
open Go.RowKit

set_option maxRecDepth 100000 in
set_option maxHeartbeats 3200000 in
theorem Stays_any (vms : Value) (ms : List Dk) (vks : Value) (ks : List Dk) (w : World) (hms : DosIn w vms ms) (hks : DosIn w vks ks) : Calls Try.prog 11 #[vms, vks] w (Yes w) := by
  obtain ⟨ams, cms, rfl, hams⟩ := hms
  have hDms : DosIn w (.slice ams ms.length cms) ms := ⟨ams, cms, rfl, hams⟩
  obtain ⟨aks, cks, rfl, haks⟩ := hks
  have hDks : DosIn w (.slice aks ks.length cks) ks := ⟨aks, cks, rfl, haks⟩
  have hA := below_alloc w (Obj.cells #[.slice ams ms.length cms, .slice aks ks.length cks] 22)
  have hL : ListsIn (w.alloc (Obj.cells #[.slice ams ms.length cms, .slice aks ks.length cks] 22)) (.slice (some ⟨w.heap.size, 0, none⟩) 2 2) [ms, ks] := by
    refine ⟨_, 0, 2, rfl, fun i l hl => ?_⟩
    match i, hl with
    | 0, hl =>
      obtain rfl : ms = l := by simpa using hl
      exact ⟨_, by rw [World.cell?_alloc_at _ _ _ _ rfl]; rfl, hDms.later hA⟩
    | 1, hl =>
      obtain rfl : ks = l := by simpa using hl
      exact ⟨_, by rw [World.cell?_alloc_at _ _ _ _ rfl]; rfl, hDks.later hA⟩
  have HDms := Lib.hid hDms
  clear hams hDms
  have HDks := Lib.hid hDks
  clear haks hDks
  go_enter Try.func11, Try.ntmps11
  go_wp2_with fail
  go_fit (short_any hL (by simp))
  rintro e w1 ⟨sb, rfl, hs, hb1⟩
  have HB1 := Lib.hid (hA.trans (hb1.mono hA.size))
  have Hs := Lib.hid hs
  clear hA hL hb1 hs
  cases sb with
  | false =>
    go_wp2_with fail
    go_fit (awake_any w1)
    rintro e w2 ⟨rfl, hb2⟩
    have HB2 := Lib.hid (HB1.out.trans (hb2.mono HB1.out.size))
    clear hb2
    go_wp2_with fail
    go_ret
    exact ⟨rfl, HB2.out⟩
  | true =>
    have hlenms : ms.length ≤ 300 := (Hs.out rfl).1 ms (by simp)
    have hlenks : ks.length ≤ 300 := (Hs.out rfl).1 ks (by simp)
    have HEms := Lib.hid (HDms.out.later HB1.out)
    have HEks := Lib.hid (HDks.out.later HB1.out)
    have HBB := HB1
    clear Hs HDms HDks
    go_wp2_with fail
    go_fit (made_any HEms.out hlenms)
    rintro e w2 ⟨y, u, s, rfl, hst⟩
    have HST := Lib.hid (hst.more hlenms)
    have HEks := Lib.hid (HEks.out.later hst.below)
    clear hst HEms
    obtain ⟨aq, cq, hq, ha⟩ := HEks.out
    simp only [Value.slice.injEq] at hq
    obtain ⟨rfl, _, rfl⟩ := hq
    have HD := Lib.hid ha
    clear ha HEks
    have HU0 := Lib.hid HST.out.tl
    go_wp2_with fail
    go_loopw [7, 24] (fun u' v wr => ∃ (i : Nat) (z : Option Addr) (r : T), v = .int .i64 i ∧ u' = .pointer z ∧ i ≤ ks.length ∧ Hid (St w1 wr s 300 y u) ∧ Hid (Tl wr r.list (300 + i) z r) ∧ Hid (Below w2.heap.size w2 wr))
      (fun _ v _ => ks.length - (intOf v).toNat)
    case atStart => exact ⟨0, y, s, rfl, rfl, Nat.zero_le _, HST, HU0, Below.refl _ _⟩
    case round =>
      obtain ⟨i, z, r, rfl, rfl, hin, hst, hr, hb⟩ := hrel
      have ei : IntKind.i64.wrap ((i : Int) + 1) = (i : Int) + 1 := IntWalk.i64_in _ (by omega)
      by_cases hlt : i < ks.length
      · obtain ⟨k, hk1⟩ : ∃ k, ks[i]? = some k := ⟨ks[i], List.getElem?_eq_getElem hlt⟩
        obtain ⟨g2, off2, rfl, hat⟩ := HD.out.resolve_left (fun e => by rw [e] at hk1; simp at hk1)
        obtain ⟨k0, k1, k2⟩ := hat i k hk1
        have k0 := cell_later hb.out k0
        have k1 := cell_later hb.out k1
        have k2 := cell_later hb.out k2
        have hI1 : (i : Int) < ((ks.length : Nat) : Int) := by omega
        have hI2 : (0 : Int) ≤ (i : Int) := by omega
        have hA := below_alloc wr (Obj.cells #[Value.int .i64 k.op, .string k.key, .string k.val] 30)
        have HS1 := Lib.hid (hst.out.later hA)
        have HR1 := Lib.hid (hr.out.later hA)
        have HB1' := Lib.hid (hb.out.trans (hA.mono hb.out.size))
        have HKB := Lib.hid (kbox_cells wr k 30)
        clear hat hk1 hst hr hb hA
        go_wp2_with fail
        go_fit (does_any k HR1.out.tree (HR1.out.good.more' (by omega)))
        rintro e w3 ⟨z3, r3, rfl, hd, htr, hb3⟩
        have HR3 : Hid (Tl w3 r3.list (300 + (i + 1)) z3 r3) := ⟨hd.good HR1.out.good, rfl, htr⟩
        have HS3 := Lib.hid (HS1.out.later hb3)
        have HB3 := Lib.hid (HB1'.out.trans (hb3.mono HB1'.out.size))
        have b1 := cell_later hb3 HKB.out.2.1
        clear hd htr hb3 HS1 HR1 HB1' HKB k0 k1 k2
        go_wp2_with fail
        go_fit (Split_tl k.key HS3.out.tl (by omega))
        rintro e w4 ⟨va, vb, a, b, rfl, _, _, hb⟩
        have HS4 := Lib.hid (HS3.out.later hb)
        have HR4 := Lib.hid (HR3.out.later hb)
        have HB4 := Lib.hid (HB3.out.trans (hb.mono HB3.out.size))
        clear hb HS3 HR3 HB3 b1
        go_wp2_with fail
        go_fit (Union_tl HS4.out.tl HR4.out (by omega))
        rintro e w5 ⟨v5, t5, rfl, _, hb⟩
        have HS5 := Lib.hid (HS4.out.later hb)
        have HR5 := Lib.hid (HR4.out.later hb)
        have HB5 := Lib.hid (HB4.out.trans (hb.mono HB4.out.size))
        clear hb HS4 HR4 HB4
        go_wp2_with fail
        go_fit (Both_tl HR5.out HS5.out.tl (by omega) (by omega))
        rintro e w6 ⟨v6, t6, rfl, _, hb⟩
        have HS6 := Lib.hid (HS5.out.later hb)
        have HR6 := Lib.hid (HR5.out.later hb)
        have HB6 := Lib.hid (HB5.out.trans (hb.mono HB5.out.size))
        have HT6 := Lib.hid HS6.out.tl
        clear hb HS5 HR5 HB5
        go_wp2_with fail
        go_fit (All_tl HT6.out (by omega))
        rintro e w7 ⟨u7, rfl, hpa, hb⟩
        have HS7 := Lib.hid (HS6.out.later hb)
        have HR7 := Lib.hid (HR6.out.later hb)
        have HB7 := Lib.hid (HB6.out.trans (hb.mono HB6.out.size))
        have HPA := Lib.hid hpa
        clear hpa hb HS6 HR6 HB6 HT6
        go_wp2_with fail
        go_fit (Same_true HPA.out HS7.out.list (by have := HS7.out.length; omega))
        rintro e w8 ⟨rfl, hb⟩
        have HS8 := Lib.hid (HS7.out.later hb)
        have HR8 := Lib.hid (HR7.out.later hb)
        have HB8 := Lib.hid (HB7.out.trans (hb.mono HB7.out.size))
        clear hb HS7 HR7 HB7 HPA
        go_wp2_with fail
        exact ⟨⟨i + 1, z3, r3, by simp, rfl, hlt, HS8, HR8, HB8⟩, by show ks.length - ((i : Int) + 1).toNat < ks.length - ((i : Int)).toNat; omega⟩
      · obtain rfl : i = ks.length := by omega
        obtain ⟨ua, uc, hu, _⟩ := hst.out.list
        subst hu
        have HT := Lib.hid hst.out.tl
        go_wp2_with fail
        go_fit (Len_tl HT.out)
        rintro e w' ⟨rfl, rfl⟩
        go_wp2_with fail
        have HB5 := Lib.hid (HBB.out.trans (hst.out.below.mono HBB.out.size))
        go_fit (awake_any _)
        rintro e wz ⟨rfl, hbz⟩
        have HZ := Lib.hid (HB5.out.trans (hbz.mono HB5.out.size))
        clear hbz
        go_wp2_with fail
        go_ret
        exact ⟨rfl, HZ.out⟩
end Go.Proofs.Ythbjociddcddiaa
