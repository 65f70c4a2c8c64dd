/-
  DiskSynced: the walk. (Written by gendl.py.)
-/
import Derived.Test.YtefdgocpphgplaaG15
namespace Go.Proofs.Ytefdgocpphgplaa
set_option linter.unusedVariables false
set_option linter.unusedSimpArgs false
open Go.RowKit

set_option maxRecDepth 100000 in
set_option maxHeartbeats 6400000 in
theorem Synced_any {w : World} (v : Value) (ks : List Kd) (hks : KdsIn w v ks) (hki : ∀ k ∈ ks, k.i ≤ 9223372036854775807) (kp : Int) (hkp : -9223372036854775808 ≤ kp ∧ kp ≤ 9223372036854775807) (tr : Int) (htr : -9223372036854775808 ≤ tr ∧ tr ≤ 9223372036854775807) :
    Calls Try.prog 5 #[v, .int .i64 kp, .int .i64 tr] w (Yes w) := by
  have HK := Lib.hid hks
  have HKi := Lib.hid hki
  clear hks hki hkp htr
  go_enter Try.func5, Try.ntmps5
  go_wp2_with fail
  go_fit (short_any HK.out)
  rintro e w1 ⟨sb, rfl, hsb, rfl⟩
  cases sb
  · clear hsb
    go_wp2_with fail
    go_fit (awake_any _)
    rintro e w2 ⟨rfl, hb⟩
    have HB := Lib.hid hb
    clear hb
    go_wp2_with fail
    go_ret
    exact ⟨rfl, HB.out⟩
  · obtain ⟨hl1, hl2⟩ := hsb rfl
    have HM := Lib.hid (made_any 16777216 (by omega) HK.out hl1 (fun k hk => ⟨by have := hl2 k hk; omega, HKi.out k hk⟩))
    have HL1 := Lib.hid hl1
    clear hsb hl1 hl2
    go_wp2_with fail
    go_fit HM.out
    rintro e w2 ⟨b, L2, rfl, hs⟩
    generalize dos (Ds.new 16777216) ks = d at hs
    have HS2 : Hid (Sk w w2 b L2 d 300) := hs.more (by have := HL1.out; omega)
    clear hs HM HL1 HK HKi
    go_wp2_with fail
    have HS2f := Lib.hid HS2.out.few
    have hc := Start_any HS2.out.disk
    have HC := Lib.hid hc
    clear hc
    go_fit HC.out
    rintro e w3 ⟨L3, rfl, hd, he⟩
    have HS3 : Hid (Sk w w3 b L3 (d.start).2 300) := HS2.out.ext hd he (Ds.start_few HS2.out.few)
    clear hd he HC HS2
    go_wp2_with fail
    have hc := Arm_any 0 0 0 HS3.out.disk
    rw [start_arm] at hc
    have HC := Lib.hid hc
    clear hc
    go_fit HC.out
    rintro e w4 ⟨L4, rfl, hd, he⟩
    have HS4 : Hid (Sk w w4 b L4 d.calm 300) := HS3.out.ext hd he (calm_few HS2f.out)
    clear hd he HC HS3
    go_wp2_with fail
    have hc := Sync_any HS4.out.disk (by simp [Ds.calm])
    rw [calm_sync] at hc
    have HC := Lib.hid hc
    clear hc
    go_fit HC.out
    rintro e w5 ⟨L5, rfl, hd, he⟩
    have HS5 : Hid (Sk w w5 b L5 d.synced 300) := HS4.out.ext hd he (synced_few _ _)
    clear hd he HC HS4
    go_wp2_with fail
    have HF := Lib.hid (face_told HS5.out.disk rfl rfl : Calls Try.prog 36 #[.pointer (some ⟨b, 0, none⟩)] w5 (FacedOn L5 d.told w5))
    go_fit HF.out
    rintro e w6 ⟨pa0, pc0, pa1, pc1, pa2, pc2, rfl, hy0, hy1, hy2, hb⟩
    have hba := below_alloc w6 (.cells #[.slice pa0 d.told.s0.length pc0, .slice pa1 d.told.s1.length pc1, .slice pa2 d.told.tp.length pc2] 50)
    have hbx : Bx (w6.alloc (.cells #[.slice pa0 d.told.s0.length pc0, .slice pa1 d.told.s1.length pc1, .slice pa2 d.told.tp.length pc2] 50)) L5 w6.heap.size [.slice pa0 d.told.s0.length pc0, .slice pa1 d.told.s1.length pc1, .slice pa2 d.told.tp.length pc2] := Bx.new w6 (HS5.out.disk.below hb).llt [.slice pa0 d.told.s0.length pc0, .slice pa1 d.told.s1.length pc1, .slice pa2 d.told.tp.length pc2] _
    have hbb := hb.trans (hba.mono hb.size)
    have HS6 := Lib.hid (HS5.out.later hbb)
    have pX := Lib.hid hbx
    have pY0 := Lib.hid (hy0.below hba)
    have pY1 := Lib.hid (hy1.below hba)
    have pY2 := Lib.hid (hy2.below hba)
    clear HF hy0 hy1 hy2 hb hba hbx hbb HS5
    go_wp2_with fail
    have hc := Crash_any kp tr HS6.out.disk (by have := HS6.out.few.waits; omega)
    rw [synced_crash] at hc
    have HC := Lib.hid hc
    clear hc
    go_fit HC.out
    rintro e w7 ⟨L7, rfl, hd, he⟩
    have HS7 : Hid (Sk w w7 b L7 d.fell 300) := HS6.out.ext hd he (fell_few _ _)
    replace pX := Lib.hid (pX.out.ext he)
    replace pY0 := Lib.hid (pY0.out.ext he)
    replace pY1 := Lib.hid (pY1.out.ext he)
    replace pY2 := Lib.hid (pY2.out.ext he)
    clear hd he HC HS6
    go_wp2_with fail
    have ht := Tape_any HS7.out.disk
    rw [fell_tape] at ht
    have HT := Lib.hid ht
    clear ht
    go_fit HT.out
    rintro e w8 ⟨tv, rfl, hown, hb⟩
    clear hown HT
    have HS8 := Lib.hid (HS7.out.later hb)
    replace pX := Lib.hid (pX.out.below hb)
    replace pY0 := Lib.hid (pY0.out.below hb)
    replace pY1 := Lib.hid (pY1.out.below hb)
    replace pY2 := Lib.hid (pY2.out.below hb)
    clear HS7 hb
    go_wp2_with fail
    have hc := Start_any HS8.out.disk
    have HC := Lib.hid hc
    clear hc
    go_fit HC.out
    rintro e w9 ⟨L9, rfl, hd, he⟩
    have HS9 : Hid (Sk w w9 b L9 (d.fell.start).2 300) := HS8.out.ext hd he (Ds.start_few (fell_few _ _))
    replace pX := Lib.hid (pX.out.ext he)
    replace pY0 := Lib.hid (pY0.out.ext he)
    replace pY1 := Lib.hid (pY1.out.ext he)
    replace pY2 := Lib.hid (pY2.out.ext he)
    clear hd he HC HS8
    go_wp2_with fail
    have HF := Lib.hid (face_told HS9.out.disk rfl rfl : Calls Try.prog 36 #[.pointer (some ⟨b, 0, none⟩)] w9 (FacedOn L9 d.told w9))
    go_fit HF.out
    rintro e w10 ⟨qa0, qc0, qa1, qc1, qa2, qc2, rfl, hy0, hy1, hy2, hb⟩
    have hba := below_alloc w10 (.cells #[.slice qa0 d.told.s0.length qc0, .slice qa1 d.told.s1.length qc1, .slice qa2 d.told.tp.length qc2] 50)
    have hbx : Bx (w10.alloc (.cells #[.slice qa0 d.told.s0.length qc0, .slice qa1 d.told.s1.length qc1, .slice qa2 d.told.tp.length qc2] 50)) L9 w10.heap.size [.slice qa0 d.told.s0.length qc0, .slice qa1 d.told.s1.length qc1, .slice qa2 d.told.tp.length qc2] := Bx.new w10 (HS9.out.disk.below hb).llt [.slice qa0 d.told.s0.length qc0, .slice qa1 d.told.s1.length qc1, .slice qa2 d.told.tp.length qc2] _
    have hbb := hb.trans (hba.mono hb.size)
    have HS10 := Lib.hid (HS9.out.later hbb)
    replace pX := Lib.hid (pX.out.below hbb)
    replace pY0 := Lib.hid (pY0.out.below hbb)
    replace pY1 := Lib.hid (pY1.out.below hbb)
    replace pY2 := Lib.hid (pY2.out.below hbb)
    have qX := Lib.hid hbx
    have qY0 := Lib.hid (hy0.below hba)
    have qY1 := Lib.hid (hy1.below hba)
    have qY2 := Lib.hid (hy2.below hba)
    clear HF hy0 hy1 hy2 hb hba hbx hbb HS9
    have x0 := pX.out.1.cells 0 _ rfl
    have x1 := pX.out.1.cells 1 _ rfl
    have x2 := pX.out.1.cells 2 _ rfl
    have z0 := qX.out.1.cells 0 _ rfl
    have z1 := qX.out.1.cells 1 _ rfl
    have z2 := qX.out.1.cells 2 _ rfl
    go_wp2_with fail
    go_fit (same_any pY0.out pY1.out pY2.out qY0.out qY1.out qY2.out)
    rintro e w11 ⟨rfl, hb⟩
    have HB := Lib.hid (HS10.out.below.trans (hb.mono HS10.out.below.size))
    clear hb x0 x1 x2 z0 z1 z2
    go_wp2_with fail
    go_fit (awake_any _)
    rintro e w12 ⟨rfl, hb⟩
    have HB2 := Lib.hid (HB.out.trans (hb.mono HB.out.size))
    clear hb
    go_wp2_with fail
    go_ret
    exact ⟨rfl, HB2.out⟩
end Go.Proofs.Ytefdgocpphgplaa
