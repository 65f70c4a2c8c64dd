/-
  Which part a key is of.
-/
import Derived.Test.YtdgnjalbpiciiaaEe
import Derived.OpenShut
namespace Go.Proofs.Ytdgnjalbpiciiaa
set_option linter.unusedVariables false
set_option linter.unusedSimpArgs false
open Go.RowKit Go.Shelf

noncomputable def partE (parts : Int) (k : ByteArray) : Int := if parts < 1 then 0 else (Dg.sumN 0 0 (Wi.sb k) % parts.toNat : Nat)
theorem partE_in {parts : Int} (h : 0 < parts) (k : ByteArray) : 0 ≤ partE parts k ∧ partE parts k < parts := by
  unfold partE
  rw [if_neg (by omega)]
  have := Nat.mod_lt (Dg.sumN 0 0 (Wi.sb k)) (y := parts.toNat) (by omega)
  omega
theorem part_num (S n : Nat) (h0 : 0 < n) (h1 : n ≤ 9223372036854775807) : wrap64 ((S : Int) % (n : Int)) = ((S % n : Nat) : Int) ∧ IntKind.u64.wrap (n : Int) = (n : Int) := by
  constructor
  · have := Nat.mod_lt S h0
    rw [IntWalk.wrap64_in _ (by omega)]
    rfl
  · rw [IntKind.wrap_u64]; omega
set_option maxRecDepth 100000 in
set_option maxHeartbeats 800000 in
theorem Part_any {w : World} (parts : Int) (k : ByteArray) (hw : W64 parts) (hk : k.size ≤ 140737488355328) : Calls Try.prog 31 #[.int .i64 parts, .string k] w fun e w' => e = .returned (.int .i64 (partE parts k)) ∧ Below w.heap.size w w' := by
  by_cases h : parts < 1
  · have HE : Hid (partE parts k = 0) := by show _ = _; unfold partE; rw [if_pos h]
    go_enter Try.func31, Try.ntmps31
    go_wp2_with fail
    go_ret
    rw [HE.out]
    exact ⟨rfl, Below.refl _ _⟩
  · obtain ⟨n, rfl⟩ : ∃ n : Nat, parts = n := ⟨parts.toNat, by omega⟩
    have hn := bounds_i64 hw
    have HE : Hid (partE n k = (Dg.sumN 0 0 (Wi.sb k) % n : Nat)) := by show _ = _; unfold partE; rw [if_neg h]; rfl
    have HP := Lib.hid (Dg.Place_any (w := w) (a := 0) (b := 0) (s := k) (by decide) (by decide) hk)
    generalize Dg.sumN 0 0 (Wi.sb k) = S at *
    obtain ⟨e1, e2⟩ := part_num S n (by omega) (by omega)
    have hz : ¬ (n : Int) = 0 := by omega
    have E1 := Lib.hid e1
    clear e1
    clear hw
    go_enter Try.func31, Try.ntmps31
    go_wp2_with fail
    go_fit HP.out
    rintro e w1 ⟨rfl, hb⟩
    go_wp2_with fail
    go_ret
    rw [HE.out]
    refine ⟨?_, hb⟩
    show Ending.returned (Value.int .i64 (wrap64 ((S : Int) % (n : Int)))) = _
    rw [E1.out]
set_option maxRecDepth 100000 in
set_option maxHeartbeats 800000 in
theorem RPart_any {w : World} (parts : Int) (k : ByteArray) (hw : W64 parts) (hk : k.size ≤ 140737488355328) : Calls Try.prog 32 #[.int .i64 parts, .string k] w fun e w' => e = .returned (.int .i64 (partE parts k)) ∧ Below w.heap.size w w' := by
  by_cases h : parts < 1
  · have HE : Hid (partE parts k = 0) := by show _ = _; unfold partE; rw [if_pos h]
    go_enter Try.func32, Try.ntmps32
    go_wp2_with fail
    go_ret
    rw [HE.out]
    exact ⟨rfl, Below.refl _ _⟩
  · obtain ⟨n, rfl⟩ : ∃ n : Nat, parts = n := ⟨parts.toNat, by omega⟩
    have hn := bounds_i64 hw
    have HE : Hid (partE n k = (Dg.sumN 0 0 (Wi.sb k) % n : Nat)) := by show _ = _; unfold partE; rw [if_neg h]; rfl
    have HP := Lib.hid (Dg.RPlace_any (w := w) (a := 0) (b := 0) (s := k) (by decide) (by decide) hk)
    generalize Dg.sumN 0 0 (Wi.sb k) = S at *
    obtain ⟨e1, e2⟩ := part_num S n (by omega) (by omega)
    have hz : ¬ (n : Int) = 0 := by omega
    have E1 := Lib.hid e1
    clear e1
    clear hw
    go_enter Try.func32, Try.ntmps32
    go_wp2_with fail
    go_fit HP.out
    rintro e w1 ⟨rfl, hb⟩
    go_wp2_with fail
    go_ret
    rw [HE.out]
    refine ⟨?_, hb⟩
    show Ending.returned (Value.int .i64 (wrap64 ((S : Int) % (n : Int)))) = _
    rw [E1.out]
end Go.Proofs.Ytdgnjalbpiciiaa
