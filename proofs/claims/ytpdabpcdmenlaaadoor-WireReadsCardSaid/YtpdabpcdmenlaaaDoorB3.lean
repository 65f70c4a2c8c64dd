/-
  Walks of package wire's sum.
-/
import Derived.Test.YtpdabpcdmenlaaaDoorB2
import Derived.Test.YtpdabpcdmenlaaaDoorM2
import Derived.Lib.LaidTab
namespace Go.Proofs.YtpdabpcdmenlaaaDoor
set_option linter.unusedVariables false
set_option linter.unusedSimpArgs false
open Go.RowKit

theorem Tryd.infoU32 : (Tryd.prog.info? 37).map (fun i => (i.zero, i.size, i.bytes)) = some (some (.int .u32 0), 1, 4) := by kernel_rfl

def TabIn (w : World) : Prop := ∀ i, i < 16 → w.cell? ⟨0, i, none⟩ = some (.int .u32 (tabAt i))

set_option maxHeartbeats 400000 in
theorem Sum_any (p : Option Addr) (n c : Nat) (xs : List Int) (w : World) (hx : xs.length = n) (hb : Lib.BytesIn w p n xs) (hT : TabIn w) (hn : n ≤ 140737488355328) (hr : ∀ x ∈ xs, 0 ≤ x ∧ x < 256) :
    Calls Tryd.prog 28 #[.slice p n c] w fun e w' => e = .returned (.int .u32 ((4294967295 - crc xs : Nat) : Int)) ∧ w = w' := by
  rcases Nat.eq_zero_or_pos n with h0 | h0
  · subst h0
    obtain rfl := List.eq_nil_of_length_eq_zero hx
    clear hT hb hr hx
    go_enter Tryd.func28, Tryd.ntmps28
    go_wp2_with fail
    refine wp_loop_rounds 1 ?_
    rw [rounds_succ]
    go_wp2_with fail
    go_ret
    exact ⟨rfl, rfl⟩
  · obtain ⟨b, o, rfl, hc⟩ := hb h0
    have Hx : Hid (xs.length = n) := hx
    have Hc := Lib.hid hc
    have HT := Lib.hid hT
    have Hr := Lib.hid hr
    clear hr hT hc hx hb
    go_enter Tryd.func28, Tryd.ntmps28
    go_wp2_with fail
    go_loopw [3, 8] (fun v i wr => ∃ (k s : Nat), k ≤ n ∧ i = .int .i64 k ∧ v = .int .u32 s ∧ s < 4294967296 ∧ Hid (s = (xs.take k).foldl upd 4294967295) ∧ wr = w)
      (fun _ i _ => (n - (intOf i).toNat))
    case atStart => exact ⟨0, 4294967295, Nat.zero_le _, rfl, rfl, by decide, rfl, rfl⟩
    case round =>
      obtain ⟨k, s, hk, rfl, rfl, hs, He, rfl⟩ := hrel
      by_cases hlt : k < n
      · have hcell := Hc.out k hlt
        have hkx : k < xs.length := by rw [Hx.out]; exact hlt
        obtain ⟨hx0, hx1⟩ := Hr.out (xs.getD k 0) (by rw [List.getD_eq_getElem?_getD, List.getElem?_eq_getElem hkx]; simp)
        have Hsn := Lib.hid (fold_snoc xs k 4294967295 hkx)
        clear hkx
        generalize xs.getD k 0 = x at *
        obtain ⟨y, rfl⟩ := Int.eq_ofNat_of_zero_le hx0
        obtain ⟨A, hA⟩ : ∃ A : Nat, A = s ^^^ y := ⟨_, rfl⟩
        have lA : A < 4294967296 := by rw [hA]; exact xor_u32_lt _ _ hs (by omega)
        have e1 : bits .xor .u32 (s : Int) (y : Int) = (A : Int) := by rw [xor_u32 _ _ hs (by omega), hA]
        obtain ⟨M, hM⟩ : ∃ M : Nat, M = A % 16 := ⟨_, rfl⟩
        have e2 : bits .and .u32 (A : Int) 15 = (M : Int) := by rw [and15_u32 _ lA, hM]
        have lM : M < 16 := by omega
        have hc1 := HT.out M lM
        obtain ⟨B, hB⟩ : ∃ B : Nat, B = A / 16 ^^^ tabAt M := ⟨_, rfl⟩
        have lB : B < 4294967296 := by rw [hB]; exact xor_u32_lt _ _ (by omega) (tabAt_lt _)
        have e3 : bits .xor .u32 ((A : Int) / 16) (tabAt M : Int) = (B : Int) := by rw [show (A : Int) / 16 = ((A / 16 : Nat) : Int) by omega, xor_u32 _ _ (by omega) (tabAt_lt _), hB]
        obtain ⟨N, hN⟩ : ∃ N : Nat, N = B % 16 := ⟨_, rfl⟩
        have e4 : bits .and .u32 (B : Int) 15 = (N : Int) := by rw [and15_u32 _ lB, hN]
        have lN : N < 16 := by omega
        have hc2 := HT.out N lN
        obtain ⟨C, hC⟩ : ∃ C : Nat, C = B / 16 ^^^ tabAt N := ⟨_, rfl⟩
        have lC : C < 4294967296 := by rw [hC]; exact xor_u32_lt _ _ (by omega) (tabAt_lt _)
        have e5 : bits .xor .u32 ((B : Int) / 16) (tabAt N : Int) = (C : Int) := by rw [show (B : Int) / 16 = ((B / 16 : Nat) : Int) by omega, xor_u32 _ _ (by omega) (tabAt_lt _), hC]
        have HC : Hid (C = upd s (y : Int)) := by
          show C = four (four (s ^^^ y))
          rw [← hA]; unfold four; rw [← hM, ← hB, ← hN, ← hC]
        clear hA hM hB hN hC
        generalize (tabAt M : Int) = T1 at *
        generalize (tabAt N : Int) = T2 at *
        go_wp2_with fail
        go_roundw
        case rel => exact ⟨k + 1, C, by omega, by go_num, rfl, lC, by show C = _; rw [Hsn.out, ← He.out]; exact HC.out, trivial⟩
        case measure => simp [intOf]; omega
      · have e : Hid (s = crc xs) := by rw [He.out, List.take_of_length_le (by rw [Hx.out]; omega)]; rfl
        go_wp2_with fail
        go_ret
        rw [← e.out, ← not_u32 s hs]
        exact ⟨rfl, rfl⟩

end Go.Proofs.YtpdabpcdmenlaaaDoor
