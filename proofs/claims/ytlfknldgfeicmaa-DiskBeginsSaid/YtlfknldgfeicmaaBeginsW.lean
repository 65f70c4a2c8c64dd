/-
  DiskBegins: the walk. (Written by genbegins.py.)
-/
import Derived.Test.YtlfknldgfeicmaaC2
import Derived.Deep.QuietTactic
import Derived.BigQuiet
namespace Go.Proofs.Ytlfknldgfeicmaa
set_option linter.unusedVariables false
set_option linter.unusedSimpArgs false
open Go.RowKit

set_option maxRecDepth 100000 in
set_option maxHeartbeats 6400000 in
theorem Begins_any {w : World} (v : Value) (ks : List Kd) (hks : KdsIn w v ks) (hki : ∀ k ∈ ks, k.i ≤ 9223372036854775807) (u : Value) (hs : List Sl) (bss : List (List Int)) (hu : slL.In w u hs) (hE : Each w hs bss) (kp : Int) (hkp : -9223372036854775808 ≤ kp ∧ kp ≤ 9223372036854775807) (tr : Int) (htr : -9223372036854775808 ≤ tr ∧ tr ≤ 9223372036854775807) :
    Calls Try.prog 6 #[v, u, .int .i64 kp, .int .i64 tr] w (Yes w) := by
  have HK := Lib.hid hks
  have HKi := Lib.hid hki
  have HU := Lib.hid hu
  have HE := Lib.hid hE
  have HLEN := Lib.hid hE.1
  obtain ⟨ua, uc, rfl, _, _⟩ := hu.slice
  clear hks hki hkp htr hu hE
  go_enter Try.func6, Try.ntmps6
  go_wp2_with fail
  go_loopw [9, 10] (fun u v wr => ∃ (i n : Nat), u = .int .i64 n ∧ v = .int .i64 i ∧ i ≤ hs.length ∧ i ≤ 65538 ∧ n ≤ 65537 ∧ i ≤ n ∧ Hid (n = pws (bss.take i)) ∧ w = wr)
    (fun _ v _ => hs.length - (intOf v).toNat)
  case atStart => exact ⟨0, 0, rfl, rfl, Nat.zero_le _, by omega, by omega, by omega, rfl, by trivial⟩
  case round =>
    obtain ⟨i, n, rfl, rfl, hin, hi2, hn, hle, hw, rfl⟩ := hrel
    have ei : IntKind.i64.wrap ((i : Int) + 1) = (i : Int) + 1 := IntWalk.i64_in _ (by omega)
    by_cases hn2 : n ≤ 32768
    · have hI4 : (n : Int) ≤ 32768 := by omega
      by_cases hlt : i < hs.length
      · obtain ⟨x, hx⟩ : ∃ x, hs[i]? = some x := ⟨hs[i], List.getElem?_eq_getElem hlt⟩
        obtain ⟨xs, hxs⟩ : ∃ xs, bss[i]? = some xs := ⟨bss[i], List.getElem?_eq_getElem (by have := HLEN.out; omega)⟩
        obtain ⟨g, off, rfl, _, hcs⟩ := HU.out.cells hx
        have hc := hcs 0 _ rfl
        have hxl := HE.out.len hx hxs
        obtain ⟨xa, xn, xc⟩ := x
        simp only at hxl
        subst hxl
        have hc : w.cell? ⟨g, off + i, none⟩ = some (.slice xa xs.length xc) := by simpa [slL, sv] using hc
        have HM : Hid (n + pw xs = pws (bss.take (i + 1))) := by show _ = _; rw [pws_step hxs, hw.out]
        have hpw : pw xs ≤ 32769 := by unfold pw; omega
        have hpw1 : 1 ≤ pw xs := by unfold pw; omega
        have e1 : IntKind.i64.wrap (1 + min (xs.length : Int) 32768) = 1 + min (xs.length : Int) 32768 := IntWalk.i64_in _ (by omega)
        have e2 : IntKind.i64.wrap ((n : Int) + (1 + min (xs.length : Int) 32768)) = (n : Int) + (1 + min (xs.length : Int) 32768) := IntWalk.i64_in _ (by omega)
        have hI1 : (i : Int) < ((hs.length : Nat) : Int) := by omega
        have hI2 : (0 : Int) ≤ (i : Int) := by omega
        clear hcs hx hxs hw hn2
        go_wp2_with fail
        exact ⟨⟨i + 1, n + pw xs, by simp only [pw]; congr 1; omega, by simp, hlt, by omega, by omega, by omega, HM, by trivial⟩, by show hs.length - ((i : Int) + 1).toNat < hs.length - ((i : Int)).toNat; omega⟩
      · obtain rfl : i = hs.length := by omega
        have hge : ¬ ((n : Int) > 32768) := by omega
        have HP : Hid ((flat bss).length + bss.length ≤ 32768 ∧ ∀ x ∈ bss, x.length ≤ 32768) := by
          have h := hw.out
          rw [List.take_of_length_le (by have := HLEN.out; omega)] at h
          exact pws_flat bss (by omega)
        clear hw
        go_wp2_with fail
        go_fit (short_any HK.out)
        rintro e w1 ⟨sb, rfl, hsb, rfl⟩
        cases sb
        · clear hsb
          go_wp2_with fail
          go_fit (awake_any _)
          rintro e w2 ⟨rfl, hb⟩
          have HB := Lib.hid hb
          clear hb
          go_wp2_with fail
          go_ret
          exact ⟨rfl, HB.out⟩
        · obtain ⟨hl1, hl2⟩ := hsb rfl
          have HM := Lib.hid (made_any 16777216 (by omega) HK.out hl1 (fun k hk => ⟨by have := hl2 k hk; omega, HKi.out k hk⟩))
          have HL1 := Lib.hid hl1
          have hsz0 := made_size 16777216 ks hl1 hl2
          have hrm0 : (dos (Ds.new 16777216) ks).room = 16777216 := dos_room ks _
          clear hsb hl1 hl2
          go_wp2_with fail
          go_fit HM.out
          rintro e w2 ⟨b, L2, rfl, hst⟩
          generalize dos (Ds.new 16777216) ks = d at hst hsz0 hrm0
          have HSZ := Lib.hid hsz0
          have HRM := Lib.hid hrm0
          have HS2 : Hid (Sk w w2 b L2 d 300) := hst.more (by have := HL1.out; omega)
          clear hst HM HL1 HK HKi hsz0 hrm0
          have HS2f := Lib.hid HS2.out.few
          go_wp2_with fail
          have hc := Start_any HS2.out.disk
          have HC := Lib.hid hc
          clear hc
          go_fit HC.out
          rintro e w3 ⟨L3, rfl, hd, he⟩
          have HS3 : Hid (Sk w w3 b L3 (d.start).2 300) := HS2.out.ext hd he (Ds.start_few HS2.out.few)
          clear hd he HC HS2
          go_wp2_with fail
          have hc := Arm_any 0 0 0 HS3.out.disk
          rw [start_arm] at hc
          have HC := Lib.hid hc
          clear hc
          go_fit HC.out
          rintro e w4 ⟨L4, rfl, hd, he⟩
          have HS4 : Hid (Sk w w4 b L4 d.calm 300) := HS3.out.ext hd he (calm_few HS2f.out)
          clear hd he HC HS3
          go_wp2_with fail
          have hc := Sync_any HS4.out.disk (by simp [Ds.calm])
          rw [calm_sync] at hc
          have HC := Lib.hid hc
          clear hc
          go_fit HC.out
          rintro e w5 ⟨L5, rfl, hd, he⟩
          have HS5 : Hid (Sk w w5 b L5 d.synced 300) := HS4.out.ext hd he (synced_few _ _)
          clear hd he HC HS4
          go_wp2_with fail
          have HF := Lib.hid (face_told HS5.out.disk rfl rfl : Calls Try.prog 36 #[.pointer (some ⟨b, 0, none⟩)] w5 (FacedOn L5 d.told w5))
          go_fit HF.out
          rintro e w6 ⟨pa0, pc0, pa1, pc1, pa2, pc2, rfl, hy0, hy1, hy2, hb⟩
          have hba := below_alloc w6 (.cells #[.slice pa0 d.told.s0.length pc0, .slice pa1 d.told.s1.length pc1, .slice pa2 d.told.tp.length pc2] 50)
          have hbx : Bx (w6.alloc (.cells #[.slice pa0 d.told.s0.length pc0, .slice pa1 d.told.s1.length pc1, .slice pa2 d.told.tp.length pc2] 50)) L5 w6.heap.size [.slice pa0 d.told.s0.length pc0, .slice pa1 d.told.s1.length pc1, .slice pa2 d.told.tp.length pc2] := Bx.new w6 (HS5.out.disk.below hb).llt [.slice pa0 d.told.s0.length pc0, .slice pa1 d.told.s1.length pc1, .slice pa2 d.told.tp.length pc2] _
          have hbb := hb.trans (hba.mono hb.size)
          have HS6 := Lib.hid (HS5.out.later hbb)
          have pX := Lib.hid hbx
          have pY0 := Lib.hid (hy0.below hba)
          have pY1 := Lib.hid (hy1.below hba)
          have pY2 := Lib.hid (hy2.below hba)
          clear HF hy0 hy1 hy2 hb hba hbx hbb HS5
          have HSa : Hid (Sk w (w6.alloc (.cells #[.slice pa0 d.told.s0.length pc0, .slice pa1 d.told.s1.length pc1, .slice pa2 d.told.tp.length pc2] 50)) b L5 (d.ad (bss.take 0)) (300 + 0)) := by show Sk _ _ _ _ _ _; rw [List.take_zero, ad_nil]; exact HS6.out
          clear HS6
          go_wp2_with fail
          go_loopw [61] (fun v wr => ∃ (i : Nat) (L : List Nat), v = .int .i64 i ∧ i ≤ hs.length ∧ Hid (Sk w wr b L (d.ad (bss.take i)) (300 + i)) ∧ Hid (Bx wr L w6.heap.size [.slice pa0 d.told.s0.length pc0, .slice pa1 d.told.s1.length pc1, .slice pa2 d.told.tp.length pc2]) ∧ Hid (Byt wr L (.slice pa2 d.told.tp.length pc2) d.told.tp))
            (fun v _ => hs.length - (intOf v).toNat)
          case atStart => exact ⟨0, L5, rfl, by omega, HSa, pX, pY2⟩
          case round =>
            clear HSa pX pY0 pY1 pY2
            obtain ⟨i, L, rfl, hin2, hst, pX, pY2⟩ := hrel
            have ei : IntKind.i64.wrap ((i : Int) + 1) = (i : Int) + 1 := IntWalk.i64_in _ (by omega)
            by_cases hlt : i < hs.length
            · obtain ⟨x, hx⟩ : ∃ x, hs[i]? = some x := ⟨hs[i], List.getElem?_eq_getElem hlt⟩
              obtain ⟨xs, hxs⟩ : ∃ xs, bss[i]? = some xs := ⟨bss[i], List.getElem?_eq_getElem (by have := HLEN.out; omega)⟩
              obtain ⟨g, off, rfl, _, hcs⟩ := HU.out.cells hx
              have hc := hcs 0 _ rfl
              have hxl := HE.out.len hx hxs
              have HB := Lib.hid ((HE.out.2 i x xs hx hxs).below hst.out.below)
              obtain ⟨xa, xn, xc⟩ := x
              simp only at hxl
              subst hxl
              have hc : w.cell? ⟨g, off + i, none⟩ = some (.slice xa xs.length xc) := by simpa [slL, sv] using hc
              have hc := lay_later hst.out.below hc
              have hI1 : (i : Int) < ((hs.length : Nat) : Int) := by omega
              have hI2 : (0 : Int) ≤ (i : Int) := by omega
              have hap := Append_any hst.out.disk HB.out (by have := HP.out.2 xs (List.mem_of_getElem? hxs); omega) (by have := hst.out.few.waits; have := HP.out.1; omega) hst.out.few.left
              rw [ad_step d hxs HRM.out (by have := HSZ.out; have := HP.out.1; omega)] at hap
              have HC := Lib.hid hap
              clear hcs hx hxs hap
              go_wp2_with fail
              go_fit HC.out
              rintro e w7 ⟨L7, rfl, hd, he⟩
              have HS7 : Hid (Sk w w7 b L7 (d.ad (bss.take (i + 1))) (300 + (i + 1))) := hst.out.ext hd he (ad_few _ _ _ (by rw [List.length_take]; omega))
              have qX := Lib.hid (pX.out.ext he)
              have qY := Lib.hid (pY2.out.ext he)
              clear hd he HC
              go_wp2_with fail
              exact ⟨⟨i + 1, L7, by simp, hlt, HS7, qX, qY⟩, by show hs.length - ((i : Int) + 1).toNat < hs.length - ((i : Int)).toNat; omega⟩
            · obtain rfl : i = hs.length := by omega
              have HS6 : Hid (Sk w wr b L (d.ad bss) 100000) := by
                have h := hst.out
                rw [List.take_of_length_le (by have := HLEN.out; omega)] at h
                exact h.more (by have := HP.out.1; omega)
              have hcr := Crash_any kp tr HS6.out.disk (by have := HS6.out.few.waits; omega)
              rw [crash_on rfl] at hcr
              have HC := Lib.hid hcr
              obtain ⟨q, hq1, hq2, hq3⟩ := ad_last d bss kp tr
              have HQ2 := Lib.hid hq2
              have HQ3 := Lib.hid hq3
              clear hcr hst hq2 hq3
              go_wp2_with fail
              go_fit HC.out
              rintro e w7 ⟨L7, rfl, hd, he⟩
              have HS7 : Hid (Sk w w7 b L7 ((d.ad bss).fall kp tr) 100000) := HS6.out.ext hd he (fall_few _ _ _ _)
              replace pX := Lib.hid (pX.out.ext he)
              replace pY2 := Lib.hid (pY2.out.ext he)
              clear hd he HC HS6
              go_wp2_with fail
              have hsa := Start_any HS7.out.disk
              rw [start_zero] at hsa
              have HC := Lib.hid hsa
              clear hsa
              go_fit HC.out
              rintro e w8 ⟨L8, rfl, hd, he⟩
              have HS8 : Hid (Sk w w8 b L8 { (d.ad bss).fall kp tr with on := true } 100000) := HS7.out.ext hd he (Ds.start_few (fall_few _ _ _ _))
              replace pX := Lib.hid (pX.out.ext he)
              replace pY2 := Lib.hid (pY2.out.ext he)
              clear hd he HC HS7
              have HF0 : Hid (Calls Try.prog 36 #[.pointer (some ⟨b, 0, none⟩)] w8 (FacedOn L8 ((d.ad bss).last kp tr) w8)) := face_told HS8.out.disk rfl rfl
              rw [hq1] at HF0
              generalize hg : (⟨d.told.s0, d.told.s1, d.told.tp ++ q⟩ : Fc) = f at HF0
              have HG : Hid (f.tp = d.told.tp ++ q) := by rw [← hg]; exact rfl
              clear hg hq1
              have HF := Lib.hid (HF0.out : Calls Try.prog 36 #[.pointer (some ⟨b, 0, none⟩)] w8 (FacedOn L8 f w8))
              clear HF0
              go_wp2_with fail
              go_fit HF.out
              rintro e w9 ⟨qa0, qc0, qa1, qc1, qa2, qc2, rfl, hy0, hy1, hy2, hb⟩
              have hba := below_alloc w9 (.cells #[.slice qa0 f.s0.length qc0, .slice qa1 f.s1.length qc1, .slice qa2 f.tp.length qc2] 50)
              have hbx : Bx (w9.alloc (.cells #[.slice qa0 f.s0.length qc0, .slice qa1 f.s1.length qc1, .slice qa2 f.tp.length qc2] 50)) L8 w9.heap.size [.slice qa0 f.s0.length qc0, .slice qa1 f.s1.length qc1, .slice qa2 f.tp.length qc2] := Bx.new w9 (HS8.out.disk.below hb).llt [.slice qa0 f.s0.length qc0, .slice qa1 f.s1.length qc1, .slice qa2 f.tp.length qc2] _
              have hbb := hb.trans (hba.mono hb.size)
              have HB9 := Lib.hid (HS8.out.below.trans (hbb.mono HS8.out.below.size))
              replace pX := Lib.hid (pX.out.below hbb)
              replace pY2 := Lib.hid ((pY2.out.below hbb).sub (L' := []) (fun k hk => absurd hk (by simp)))
              have qX := Lib.hid hbx
              have qY2 := Lib.hid ((hy2.below hba).sub (L' := []) (fun k hk => absurd hk (by simp)))
              clear HF hy0 hy1 hy2 hb hba hbx hbb HS8
              have x2 := pX.out.1.cells 2 _ rfl
              have z2 := qX.out.1.cells 2 _ rfl
              clear pX qX
              have HU2 := Lib.hid (HU.out.later (HB9.out.trans ((lay_alloc (w9.alloc (.cells #[.slice qa0 f.s0.length qc0, .slice qa1 f.s1.length qc1, .slice qa2 f.tp.length qc2] 50)) (.cells #[.slice pa2 d.told.tp.length pc2] 32)).mono HB9.out.size)))
              have HOwn : Hid (World.ownsRow ((w9.alloc (.cells #[.slice qa0 f.s0.length qc0, .slice qa1 f.s1.length qc1, .slice qa2 f.tp.length qc2] 50)).alloc (.cells #[.slice pa2 d.told.tp.length pc2] 32)) (w9.alloc (.cells #[.slice qa0 f.s0.length qc0, .slice qa1 f.s1.length qc1, .slice qa2 f.tp.length qc2] 50)).heap.size 32 slL.sz (.slice (some ⟨w9.heap.size + 1, 0, none⟩) 1 1) [((pa2, d.told.tp.length, pc2) : Sl)].length (slL.all [((pa2, d.told.tp.length, pc2) : Sl)])) := by
                have h := World.ownsRow_lit (base := (w9.alloc (.cells #[.slice qa0 f.s0.length qc0, .slice qa1 f.s1.length qc1, .slice qa2 f.tp.length qc2] 50)).heap.size) (e := 32) (size := 1) (w9.alloc (.cells #[.slice qa0 f.s0.length qc0, .slice qa1 f.s1.length qc1, .slice qa2 f.tp.length qc2] 50)) #[.slice pa2 d.told.tp.length pc2] 1 (Nat.le_refl _) (by decide) rfl
                have e9 : (w9.alloc (.cells #[.slice qa0 f.s0.length qc0, .slice qa1 f.s1.length qc1, .slice qa2 f.tp.length qc2] 50)).heap.size = w9.heap.size + 1 := by simp
                show World.ownsRow _ _ _ _ _ _ _
                rw [e9] at h ⊢
                exact h
              have HLn : Hid ([((pa2, d.told.tp.length, pc2) : Sl)].length + hs.length ≤ 1073741825) := by show 1 + hs.length ≤ _; omega
              have HZ9 : Hid ((w9.alloc (.cells #[.slice qa0 f.s0.length qc0, .slice qa1 f.s1.length qc1, .slice qa2 f.tp.length qc2] 50)).heap.size ≤ ((w9.alloc (.cells #[.slice qa0 f.s0.length qc0, .slice qa1 f.s1.length qc1, .slice qa2 f.tp.length qc2] 50)).alloc (.cells #[.slice pa2 d.told.tp.length pc2] 32)).heap.size) := by show _ ≤ _; simp
              go_wp2_with (at_builtin; refine wpList_catI (I := slL) rfl _ _ 57 32 rfl Try.underlying57 Try.infoSl rfl (by decide) (by decide) HOwn.out HU2.out HLn.out HZ9.out rfl rfl ?_; intro v2 w10 hown hgrow; have HO := Lib.hid hown; have HGr := Lib.hid hgrow; clear hown hgrow)
              have e9 : (w9.alloc (.cells #[.slice qa0 f.s0.length qc0, .slice qa1 f.s1.length qc1, .slice qa2 f.tp.length qc2] 50)).heap.size = w9.heap.size + 1 := by simp
              generalize (w9.alloc (.cells #[.slice qa0 f.s0.length qc0, .slice qa1 f.s1.length qc1, .slice qa2 f.tp.length qc2] 50)) = W9 at *
              have HB10 : Hid (Below W9.heap.size W9 w10) := ⟨HGr.out.os, HGr.out.tape, HGr.out.output, by have := HGr.out.size; simp at this; omega, fun j hj => (HGr.out.block j (by simp; omega) (fun e => by simp [Value.ownBlock] at e; omega)).trans (Below.heap_alloc _ _ _ hj)⟩
              have HI10 : Hid (slL.In w10 v2 (((pa2, d.told.tp.length, pc2) : Sl) :: hs)) := Lay.in_own HO.out rfl
              have HE10 : Hid (Each w10 (((pa2, d.told.tp.length, pc2) : Sl) :: hs) (d.told.tp :: bss)) := Each.cons (pY2.out.below HB10.out) (HE.out.later (HB9.out.trans (HB10.out.mono HB9.out.size)))
              have hA : (flat (d.told.tp :: bss)) = d.told.tp ++ flat bss := by simp [flat]
              have hsz2 : d.told.tp.length ≤ d.told.size := by unfold Fc.size; omega
              have HCc := Lib.hid (Concat_any HI10.out HE10.out (by rw [hA, List.length_append]; have := HP.out.1; have := HSZ.out; omega) (by simp; omega))
              rw [hA] at HCc
              have HPr1 : Hid (f.tp <+: d.told.tp ++ flat bss) := by show _ <+: _; rw [HG.out]; exact (List.prefix_append_right_inj _).2 HQ2.out
              have HPr2 : Hid (d.told.tp <+: f.tp) := by show _ <+: _; rw [HG.out]; exact List.prefix_append _ _
              have HLe : Hid ((bss.length : Int) ≤ kp → (d.told.tp ++ flat bss).length = f.tp.length) := fun h => by rw [HG.out, List.length_append, List.length_append, HQ3.out h]
              generalize d.told.tp ++ flat bss = A at *
              clear HO HGr HU2 HOwn HLn HZ9 HI10 HE10 hA hsz2 HQ2 HQ3 HG
              go_fit HCc.out
              rintro e w11 ⟨u2, rfl, hbw⟩
              have HB11 := Lib.hid (HB10.out.trans (hbw.grown.mono HB10.out.size))
              have HA : Hid (Byt w11 [] u2 A) := byt_row hbw.own rfl (fun g _ hm => absurd hm (by simp))
              obtain ⟨ta, tc, rfl⟩ := hbw.slice
              have y2 := lay_later HB11.out x2
              have y3 := lay_later HB11.out z2
              have HP2 := Lib.hid (pY2.out.below HB11.out)
              have HQ2 := Lib.hid (qY2.out.below HB11.out)
              have HB12 := Lib.hid (HB9.out.trans (HB11.out.mono HB9.out.size))
              clear x2 z2 hbw HCc HB10 HB11 pY2 qY2 HB9
              by_cases hk : kp < (hs.length : Int)
              · have HC1 := Lib.hid (prefix_byt HA.out HQ2.out HPr1.out)
                have HC2 := Lib.hid (prefix_byt HQ2.out HP2.out HPr2.out)
                go_wp2_with fail
                go_fit HC1.out
                rintro e w12 ⟨rfl, rfl⟩
                go_wp2_with fail
                go_fit HC2.out
                rintro e w12 ⟨rfl, rfl⟩
                go_wp2_with fail
                go_fit (awake_any _)
                rintro e w12 ⟨rfl, hb⟩
                have HZ := Lib.hid (HB12.out.trans (hb.mono HB12.out.size))
                clear hb
                go_wp2_with fail
                go_ret
                exact ⟨rfl, HZ.out⟩
              · have hn3 := HLe.out (by have := HLEN.out; omega)
                have HC1 := Lib.hid (prefix_byt HA.out HQ2.out HPr1.out)
                have HC2 := Lib.hid (prefix_byt HQ2.out HP2.out HPr2.out)
                rw [hn3] at HC1 ⊢
                clear hn3
                go_wp2_with fail
                go_fit HC1.out
                rintro e w12 ⟨rfl, rfl⟩
                go_wp2_with fail
                go_fit HC2.out
                rintro e w12 ⟨rfl, rfl⟩
                go_wp2_with fail
                go_fit (awake_any _)
                rintro e w12 ⟨rfl, hb⟩
                have HZ := Lib.hid (HB12.out.trans (hb.mono HB12.out.size))
                clear hb
                go_wp2_with fail
                go_ret
                exact ⟨rfl, HZ.out⟩
    · have hge : ((n : Int) > 32768) := by omega
      have hI4 : ¬ (n : Int) ≤ 32768 := by omega
      have HB0 := Lib.hid (Below.refl w.heap.size w)
      by_cases hlt : i < hs.length
      · have hI1 : (i : Int) < ((hs.length : Nat) : Int) := by omega
        clear hw
        go_wp2_with fail
        go_fit (short_any HK.out)
        rintro e w1 ⟨sb, rfl, hsb, rfl⟩
        cases sb <;>
        · clear hsb
          go_wp2_with fail
          go_fit (awake_any _)
          rintro e w2 ⟨rfl, hb⟩
          have HB := Lib.hid hb
          clear hb
          go_wp2_with fail
          go_ret
          exact ⟨rfl, HB.out⟩
      · have hI1 : ¬ (i : Int) < ((hs.length : Nat) : Int) := by omega
        clear hw
        go_wp2_with fail
        go_fit (short_any HK.out)
        rintro e w1 ⟨sb, rfl, hsb, rfl⟩
        cases sb <;>
        · clear hsb
          go_wp2_with fail
          go_fit (awake_any _)
          rintro e w2 ⟨rfl, hb⟩
          have HB := Lib.hid hb
          clear hb
          go_wp2_with fail
          go_ret
          exact ⟨rfl, HB.out⟩
end Go.Proofs.Ytlfknldgfeicmaa
