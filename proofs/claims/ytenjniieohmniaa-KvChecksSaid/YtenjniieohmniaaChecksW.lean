/-
  KvChecks: the walk. Whether any conditions and operations may be. (Written by genkv.py.)
-/
import Derived.Test.YtenjniieohmniaaK14
import Derived.Test.YtenjniieohmniaaK11
namespace Go.Proofs.Ytenjniieohmniaa
set_option linter.unusedVariables false
set_option linter.unusedSimpArgs false
open Go.RowKit

set_option maxRecDepth 100000 in
set_option maxHeartbeats 12800000 in
theorem Checks_any {w : World} (os0 : List Kop) {v0 : Value} (h0 : opL.In w v0 os0) (os1 : List Kop) {v1 : Value} (h1 : opL.In w v1 os1) : Calls Try.prog 4 #[v0, v1] w (Yes w) := by
  obtain ⟨a0, c0, rfl, _, _⟩ := h0.slice
  obtain ⟨a1, c1, rfl, _, _⟩ := h1.slice
  have HK0 := Lib.hid h0
  have HK1 := Lib.hid h1
  clear h0 h1
  have HW0 := Lib.hid (weigh_any HK0.out)
  have HW1 := Lib.hid (fun W (hb : Below w.heap.size w W) => weigh_any (HK1.out.later hb))
  have HG0 := Lib.hid (fun h => wgh_ok (l := os0) h)
  have HG1 := Lib.hid (fun h => wgh_ok (l := os1) h)
  unfold WghP at HW0 HW1
  generalize wgh os0 = A at *
  generalize wgh os1 = B at *
  by_cases hA : A ≤ 32768
  ·
    have gA : ¬ (32768 : Int) < ((A : Nat) : Int) := by omega
    by_cases hB : B ≤ 32768
    ·
      have gB : ¬ (32768 : Int) < ((B : Nat) : Int) := by omega
      obtain ⟨l0, s0⟩ := HG0.out hA
      obtain ⟨l1, s1⟩ := HG1.out hB
      have HCk := Lib.hid (fun W (hb : Below w.heap.size w W) => Check_any (HK0.out.later hb) (HK1.out.later hb) s0 s1 (by omega) (by omega))
      have HRk := Lib.hid (fun W (hb : Below w.heap.size w W) => rCheck_any (HK0.out.later hb) (HK1.out.later hb) s0 s1 (by omega) (by omega))
      unfold CkP at HCk HRk
      clear s0 s1 hA hB
      generalize ckE os0 os1 = N at *
      by_cases hl0 : os0.length ≤ 1000
      ·
        have gl0 : ¬ (1000 : Int) < ((os0.length : Nat) : Int) := by omega
        by_cases hl1 : os1.length ≤ 1000
        ·
          have gl1 : ¬ (1000 : Int) < ((os1.length : Nat) : Int) := by omega
          go_enter Try.func4, Try.ntmps4
          go_wp2_with fail
          go_fit HW0.out
          rintro e w1 ⟨rfl, hq1⟩
          have HB1 : Hid (Below w.heap.size w w1) := by obtain ⟨m, rfl⟩ := hq1; exact below_drewN (Below.refl _ _) _
          have HW1' := Lib.hid (HW1.out w1 HB1.out)
          clear hq1
          go_wp2_with fail
          go_fit HW1'.out
          rintro e w2 ⟨rfl, hq2⟩
          have HB2 : Hid (Below w.heap.size w w2) := by obtain ⟨m, rfl⟩ := hq2; exact below_drewN HB1.out _
          clear hq2
          go_wp2_with fail
          have HC' := Lib.hid (HCk.out w2 HB2.out)
          go_fit HC'.out
          rintro e w3 ⟨rfl, hb3⟩
          have HB3 := Lib.hid (below_of HB2.out hb3)
          clear hb3 HC'
          have HR' := Lib.hid (HRk.out w3 HB3.out)
          go_wp2_with fail
          go_fit HR'.out
          rintro e w4 ⟨rfl, hb4⟩
          have HB4 := Lib.hid (below_of HB3.out hb4)
          clear hb4 HR'
          go_wp2_with fail
          go_fit (awake_any _)
          rintro e wz ⟨rfl, hbz⟩
          have HZ := Lib.hid (below_of HB4.out hbz)
          clear hbz
          go_wp2_with fail
          go_ret
          exact ⟨rfl, HZ.out⟩
        ·
          have gl1 : (1000 : Int) < ((os1.length : Nat) : Int) := by omega
          go_enter Try.func4, Try.ntmps4
          go_wp2_with fail
          go_fit HW0.out
          rintro e w1 ⟨rfl, hq1⟩
          have HB1 : Hid (Below w.heap.size w w1) := by obtain ⟨m, rfl⟩ := hq1; exact below_drewN (Below.refl _ _) _
          have HW1' := Lib.hid (HW1.out w1 HB1.out)
          clear hq1
          go_wp2_with fail
          go_fit HW1'.out
          rintro e w2 ⟨rfl, hq2⟩
          have HB2 : Hid (Below w.heap.size w w2) := by obtain ⟨m, rfl⟩ := hq2; exact below_drewN HB1.out _
          clear hq2
          go_wp2_with fail
          go_fit (awake_any _)
          rintro e wz ⟨rfl, hbz⟩
          have HZ := Lib.hid (below_of HB2.out hbz)
          clear hbz
          go_wp2_with fail
          go_ret
          exact ⟨rfl, HZ.out⟩
      ·
        have gl0 : (1000 : Int) < ((os0.length : Nat) : Int) := by omega
        go_enter Try.func4, Try.ntmps4
        go_wp2_with fail
        go_fit HW0.out
        rintro e w1 ⟨rfl, hq1⟩
        have HB1 : Hid (Below w.heap.size w w1) := by obtain ⟨m, rfl⟩ := hq1; exact below_drewN (Below.refl _ _) _
        have HW1' := Lib.hid (HW1.out w1 HB1.out)
        clear hq1
        go_wp2_with fail
        go_fit HW1'.out
        rintro e w2 ⟨rfl, hq2⟩
        have HB2 : Hid (Below w.heap.size w w2) := by obtain ⟨m, rfl⟩ := hq2; exact below_drewN HB1.out _
        clear hq2
        go_wp2_with fail
        go_fit (awake_any _)
        rintro e wz ⟨rfl, hbz⟩
        have HZ := Lib.hid (below_of HB2.out hbz)
        clear hbz
        go_wp2_with fail
        go_ret
        exact ⟨rfl, HZ.out⟩
    ·
      have gB : (32768 : Int) < ((B : Nat) : Int) := by omega
      go_enter Try.func4, Try.ntmps4
      go_wp2_with fail
      go_fit HW0.out
      rintro e w1 ⟨rfl, hq1⟩
      have HB1 : Hid (Below w.heap.size w w1) := by obtain ⟨m, rfl⟩ := hq1; exact below_drewN (Below.refl _ _) _
      have HW1' := Lib.hid (HW1.out w1 HB1.out)
      clear hq1
      go_wp2_with fail
      go_fit HW1'.out
      rintro e w2 ⟨rfl, hq2⟩
      have HB2 : Hid (Below w.heap.size w w2) := by obtain ⟨m, rfl⟩ := hq2; exact below_drewN HB1.out _
      clear hq2
      go_wp2_with fail
      go_fit (awake_any _)
      rintro e wz ⟨rfl, hbz⟩
      have HZ := Lib.hid (below_of HB2.out hbz)
      clear hbz
      go_wp2_with fail
      go_ret
      exact ⟨rfl, HZ.out⟩
  ·
    have gA : (32768 : Int) < ((A : Nat) : Int) := by omega
    go_enter Try.func4, Try.ntmps4
    go_wp2_with fail
    go_fit HW0.out
    rintro e w1 ⟨rfl, hq1⟩
    have HB1 : Hid (Below w.heap.size w w1) := by obtain ⟨m, rfl⟩ := hq1; exact below_drewN (Below.refl _ _) _
    have HW1' := Lib.hid (HW1.out w1 HB1.out)
    clear hq1
    go_wp2_with fail
    go_fit (awake_any _)
    rintro e wz ⟨rfl, hbz⟩
    have HZ := Lib.hid (below_of HB1.out hbz)
    clear hbz
    go_wp2_with fail
    go_ret
    exact ⟨rfl, HZ.out⟩
end Go.Proofs.Ytenjniieohmniaa
