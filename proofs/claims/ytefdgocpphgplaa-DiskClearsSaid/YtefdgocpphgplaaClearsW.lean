/-
  DiskClears: the walk. (Written by gendl.py.)
-/
import Derived.Test.YtefdgocpphgplaaG16
namespace Go.Proofs.Ytefdgocpphgplaa
set_option linter.unusedVariables false
set_option linter.unusedSimpArgs false
open Go.RowKit

set_option maxRecDepth 100000 in
set_option maxHeartbeats 6400000 in
theorem Clears_any {w : World} (v : Value) (ks : List Kd) (hks : KdsIn w v ks) (hki : ∀ k ∈ ks, k.i ≤ 9223372036854775807) (u : Value) (bs : List Int) (hbs : Byt w [] u bs) (kp : Int) (hkp : -9223372036854775808 ≤ kp ∧ kp ≤ 9223372036854775807) (tr : Int) (htr : -9223372036854775808 ≤ tr ∧ tr ≤ 9223372036854775807) :
    Calls Try.prog 10 #[v, u, .int .i64 kp, .int .i64 tr] w (Yes w) := by
  have HK := Lib.hid hks
  have HKi := Lib.hid hki
  obtain ⟨ua, uc, rfl, _, _⟩ := hbs.slice
  have HU := Lib.hid hbs
  clear hbs hkp htr
  clear hks hki
  go_enter Try.func10, Try.ntmps10
  go_wp2_with fail
  go_fit (short_any HK.out)
  rintro e w1 ⟨sb, rfl, hsb, rfl⟩
  cases sb
  · clear hsb
    go_wp2_with fail
    go_fit (awake_any _)
    rintro e w2 ⟨rfl, hb⟩
    have HB := Lib.hid hb
    clear hb
    go_wp2_with fail
    go_ret
    exact ⟨rfl, HB.out⟩
  · by_cases hbig : bs.length ≤ 32768
    · have hbi : ((bs.length : Nat) : Int) ≤ 32768 := by omega
      obtain ⟨hl1, hl2⟩ := hsb rfl
      have HM := Lib.hid (made_any 16777216 (by omega) HK.out hl1 (fun k hk => ⟨by have := hl2 k hk; omega, HKi.out k hk⟩))
      have HSm := Lib.hid (dos_small ks (Ds.new 16777216) (new_small _) (fun k hk => by have := hl2 k hk; omega))
      have HR : Hid ((dos (Ds.new 16777216) ks).room = 16777216) := dos_room ks _
      have HL1 := Lib.hid hl1
      have HBig := Lib.hid hbig
      clear hsb hl1 hl2 hbig
      go_wp2_with fail
      go_fit HM.out
      rintro e w2 ⟨b, L2, rfl, hs⟩
      generalize dos (Ds.new 16777216) ks = d at hs HSm HR
      have HS2 : Hid (Sk w w2 b L2 d 200) := hs.more HL1.out
      have HFe := Lib.hid HS2.out.few
      clear hs HM HL1 HK HKi
      go_wp2_with fail
      have hc := Start_any HS2.out.disk
      have HC := Lib.hid hc
      clear hc
      go_fit HC.out
      rintro e w3 ⟨L3, rfl, hd, he⟩
      have HS3 : Hid (Sk w w3 b L3 (d.start).2 300) := HS2.out.ext hd he ((Ds.start_few HFe.out).more (by omega))
      clear hd he HC HS2
      go_wp2_with fail
      have hc := Arm_any 0 0 0 HS3.out.disk
      rw [start_arm] at hc
      have HC := Lib.hid hc
      clear hc
      go_fit HC.out
      rintro e w4 ⟨L4, rfl, hd, he⟩
      have HS4 : Hid (Sk w w4 b L4 d.calm 300) := HS3.out.ext hd he ((calm_few HFe.out).more (by omega))
      clear hd he HC HS3
      go_wp2_with fail
      have hc := Clear_any HS4.out.disk (by have := HS4.out.few.waits; omega) (by simp [Ds.calm])
      rw [calm_clear] at hc
      have HC := Lib.hid hc
      clear hc
      go_fit HC.out
      rintro e w5 ⟨L5, rfl, hd, he⟩
      have HS5 : Hid (Sk w w5 b L5 d.cleared 300) := HS4.out.ext hd he ((cleared_few HFe.out).more (by omega))
      clear hd he HC HS4
      go_wp2_with fail
      have hc := Slot_any 1 HS5.out.disk (HU.out.below HS5.out.below) (by have := HBig.out; omega) (by have := HS5.out.few.waits; omega) (by simp [Ds.cleared, Ds.calm])
      rw [cleared_slot HSm.out HR.out HBig.out] at hc
      have HC := Lib.hid hc
      clear hc
      go_fit HC.out
      rintro e w6 ⟨L6, rfl, hd, he⟩
      have HS6 : Hid (Sk w w6 b L6 (d.laid bs) 300) := HS5.out.ext hd he ((laid_few HFe.out bs).more (by omega))
      clear hd he HC HS5
      go_wp2_with fail
      have hc := Sync_any HS6.out.disk (by simp [Ds.laid, Ds.calm])
      rw [laid_sync] at hc
      have HC := Lib.hid hc
      clear hc
      go_fit HC.out
      rintro e w7 ⟨L7, rfl, hd, he⟩
      have HS7 : Hid (Sk w w7 b L7 (d.laid bs).synced 300) := HS6.out.ext hd he (synced_few _ _)
      clear hd he HC HS6
      go_wp2_with fail
      have hc := Crash_any kp tr HS7.out.disk (by have := HS7.out.few.waits; omega)
      rw [synced_crash] at hc
      have HC := Lib.hid hc
      clear hc
      go_fit HC.out
      rintro e w8 ⟨L8, rfl, hd, he⟩
      have HS8 : Hid (Sk w w8 b L8 (d.laid bs).fell 300) := HS7.out.ext hd he (fell_few _ _)
      clear hd he HC HS7
      go_wp2_with fail
      have hc : Calls Try.prog 33 #[.pointer (some ⟨b, 0, none⟩)] w8 (Did' w8 w.heap.size b L8 ((d.laid bs).fell.start).2 (.int .i64 0)) := Start_any HS8.out.disk
      have HC := Lib.hid hc
      clear hc
      go_fit HC.out
      rintro e w9 ⟨L9, rfl, hd, he⟩
      have HS9 : Hid (Sk w w9 b L9 ((d.laid bs).fell.start).2 300) := HS8.out.ext hd he (Ds.start_few (fell_few _ _))
      clear hd he HC HS8
      go_wp2_with fail
      have HF := Lib.hid (face_told HS9.out.disk rfl rfl : Calls Try.prog 36 #[.pointer (some ⟨b, 0, none⟩)] w9 (FacedOn L9 (⟨d.told.s0, bs, []⟩ : Fc) w9))
      go_fit HF.out
      rintro e w10 ⟨qa0, qc0, qa1, qc1, qa2, qc2, rfl, hy0, hy1, hy2, hb⟩
      have hba := below_alloc w10 (.cells #[.slice qa0 (⟨d.told.s0, bs, []⟩ : Fc).s0.length qc0, .slice qa1 (⟨d.told.s0, bs, []⟩ : Fc).s1.length qc1, .slice qa2 (⟨d.told.s0, bs, []⟩ : Fc).tp.length qc2] 50)
      have hbx : Bx (w10.alloc (.cells #[.slice qa0 (⟨d.told.s0, bs, []⟩ : Fc).s0.length qc0, .slice qa1 (⟨d.told.s0, bs, []⟩ : Fc).s1.length qc1, .slice qa2 (⟨d.told.s0, bs, []⟩ : Fc).tp.length qc2] 50)) L9 w10.heap.size [.slice qa0 (⟨d.told.s0, bs, []⟩ : Fc).s0.length qc0, .slice qa1 (⟨d.told.s0, bs, []⟩ : Fc).s1.length qc1, .slice qa2 (⟨d.told.s0, bs, []⟩ : Fc).tp.length qc2] := Bx.new w10 (HS9.out.disk.below hb).llt [.slice qa0 (⟨d.told.s0, bs, []⟩ : Fc).s0.length qc0, .slice qa1 (⟨d.told.s0, bs, []⟩ : Fc).s1.length qc1, .slice qa2 (⟨d.told.s0, bs, []⟩ : Fc).tp.length qc2] _
      have hbb := hb.trans (hba.mono hb.size)
      have HS10 := Lib.hid (HS9.out.later hbb)
      have qX := Lib.hid hbx
      have qY0 := Lib.hid (hy0.below hba)
      have qY1 := Lib.hid (hy1.below hba)
      have qY2 := Lib.hid (hy2.below hba)
      clear HF hy0 hy1 hy2 hb hba hbx hbb HS9
      have z0 := qX.out.1.cells 0 _ rfl
      have z1 := qX.out.1.cells 1 _ rfl
      have z2 := qX.out.1.cells 2 _ rfl
      go_wp2_with fail
      go_fit (equal_byt qY1.out (HU.out.below HS10.out.below) rfl)
      rintro e w11 ⟨rfl, rfl⟩
      go_wp2_with fail
      go_fit (awake_any _)
      rintro e w12 ⟨rfl, hb⟩
      have HB2 := Lib.hid (HS10.out.below.trans (hb.mono HS10.out.below.size))
      clear hb
      go_wp2_with fail
      go_ret
      exact ⟨rfl, HB2.out⟩
    · have hbi : ¬ ((bs.length : Nat) : Int) ≤ 32768 := by omega
      clear hsb
      go_wp2_with fail
      go_fit (awake_any _)
      rintro e w2 ⟨rfl, hb⟩
      have HB := Lib.hid hb
      clear hb
      go_wp2_with fail
      go_ret
      exact ⟨rfl, HB.out⟩
end Go.Proofs.Ytefdgocpphgplaa
