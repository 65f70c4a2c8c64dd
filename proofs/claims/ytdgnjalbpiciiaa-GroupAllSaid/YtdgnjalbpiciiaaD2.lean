/-
  Turns of words, walked. (Written by gendg.py.)
-/
import Derived.Test.YtdgnjalbpiciiaaD1
import Derived.Laws.BitsAll
import Derived.Laws.Bits64b
namespace Go.Proofs.Ytdgnjalbpiciiaa.Dg
open Go.Proofs.Ytdgnjalbpiciiaa
set_option linter.unusedVariables false
set_option linter.unusedSimpArgs false
open Go.RowKit

set_option maxRecDepth 100000 in
set_option maxHeartbeats 800000 in
theorem turn_any (x : Nat) (hx : x < 2^64) (n : Nat) (hn : n ≤ 32) (w : World) : Calls Try.prog 118 #[.int .u64 x, .int .i64 n] w fun e w' => e = .returned (.int .u64 (rot n x : Nat)) ∧ w = w' := by
  go_enter Try.func118, Try.ntmps118
  go_wp2_with fail
  go_loop [0, 7] (fun u v => ∃ k : Nat, v = .int .i64 k ∧ k ≤ n ∧ u = .int .u64 (rot k x : Nat)) (fun _ v => n - (intOf v).toNat)
  case atStart => exact ⟨0, rfl, Nat.zero_le _, by rw [rot_zero hx]⟩
  case round =>
    obtain ⟨k, rfl, hk, rfl⟩ := hrel
    by_cases hlt : k < n
    · have e := rot_succ (n := k) hx (by omega)
      have l := rot_lt (n := k) hx (by omega)
      unfold rot1 at e
      generalize rot k x = y at *
      generalize hz : rot (k + 1) x = z at *
      go_wp2_with fail
      have q : IntKind.u64.wrap (IntKind.u64.wrap (2 * (y : Int)) + (y : Int) / 9223372036854775808) = (z : Int) := by
        rw [IntKind.wrap_u64, IntKind.wrap_u64]; omega
      exact ⟨⟨k + 1, by push_cast; rfl, by omega, by rw [q, hz]⟩, by simp [intOf]; omega⟩
    · obtain rfl : k = n := by omega
      go_wp2_with fail
      go_ret
      exact ⟨rfl, rfl⟩

set_option maxRecDepth 100000 in
set_option maxHeartbeats 800000 in
theorem rotl13 (x : Nat) (hx : x < 2^64) (w : World) : Calls Try.prog 117 #[.int .u64 x, .int .i64 13] w fun e w' => e = .returned (.int .u64 (rot 13 x : Nat)) ∧ w = w' := by
  have hb : bits BinOp.and IntKind.u64 13 63 = 13 := by decide
  go_enter Try.func117, Try.ntmps117
  go_wp2_with fail
  try simp only [hb]
  go_wp2_with fail
  have q : bits BinOp.or IntKind.u64 (IntKind.u64.wrap ((x : Int) * 8192)) ((x : Int) / 2251799813685248) = ((rot 13 x : Nat) : Int) := by
    rw [IntKind.wrap_u64, show ((x : Int) * 8192) % 18446744073709551616 = ((x % 2^51 * 2^13 : Nat) : Int) by omega, show (x : Int) / 2251799813685248 = ((x / 2^51 : Nat) : Int) by omega, bits_or_u64_nat _ _ (by omega) (by omega), or_add (by omega), rot_eq]
  rw [q]
  go_ret
  exact ⟨rfl, rfl⟩

set_option maxRecDepth 100000 in
set_option maxHeartbeats 800000 in
theorem rotl16 (x : Nat) (hx : x < 2^64) (w : World) : Calls Try.prog 117 #[.int .u64 x, .int .i64 16] w fun e w' => e = .returned (.int .u64 (rot 16 x : Nat)) ∧ w = w' := by
  have hb : bits BinOp.and IntKind.u64 16 63 = 16 := by decide
  go_enter Try.func117, Try.ntmps117
  go_wp2_with fail
  try simp only [hb]
  go_wp2_with fail
  have q : bits BinOp.or IntKind.u64 (IntKind.u64.wrap ((x : Int) * 65536)) ((x : Int) / 281474976710656) = ((rot 16 x : Nat) : Int) := by
    rw [IntKind.wrap_u64, show ((x : Int) * 65536) % 18446744073709551616 = ((x % 2^48 * 2^16 : Nat) : Int) by omega, show (x : Int) / 281474976710656 = ((x / 2^48 : Nat) : Int) by omega, bits_or_u64_nat _ _ (by omega) (by omega), or_add (by omega), rot_eq]
  rw [q]
  go_ret
  exact ⟨rfl, rfl⟩

set_option maxRecDepth 100000 in
set_option maxHeartbeats 800000 in
theorem rotl17 (x : Nat) (hx : x < 2^64) (w : World) : Calls Try.prog 117 #[.int .u64 x, .int .i64 17] w fun e w' => e = .returned (.int .u64 (rot 17 x : Nat)) ∧ w = w' := by
  have hb : bits BinOp.and IntKind.u64 17 63 = 17 := by decide
  go_enter Try.func117, Try.ntmps117
  go_wp2_with fail
  try simp only [hb]
  go_wp2_with fail
  have q : bits BinOp.or IntKind.u64 (IntKind.u64.wrap ((x : Int) * 131072)) ((x : Int) / 140737488355328) = ((rot 17 x : Nat) : Int) := by
    rw [IntKind.wrap_u64, show ((x : Int) * 131072) % 18446744073709551616 = ((x % 2^47 * 2^17 : Nat) : Int) by omega, show (x : Int) / 140737488355328 = ((x / 2^47 : Nat) : Int) by omega, bits_or_u64_nat _ _ (by omega) (by omega), or_add (by omega), rot_eq]
  rw [q]
  go_ret
  exact ⟨rfl, rfl⟩

set_option maxRecDepth 100000 in
set_option maxHeartbeats 800000 in
theorem rotl21 (x : Nat) (hx : x < 2^64) (w : World) : Calls Try.prog 117 #[.int .u64 x, .int .i64 21] w fun e w' => e = .returned (.int .u64 (rot 21 x : Nat)) ∧ w = w' := by
  have hb : bits BinOp.and IntKind.u64 21 63 = 21 := by decide
  go_enter Try.func117, Try.ntmps117
  go_wp2_with fail
  try simp only [hb]
  go_wp2_with fail
  have q : bits BinOp.or IntKind.u64 (IntKind.u64.wrap ((x : Int) * 2097152)) ((x : Int) / 8796093022208) = ((rot 21 x : Nat) : Int) := by
    rw [IntKind.wrap_u64, show ((x : Int) * 2097152) % 18446744073709551616 = ((x % 2^43 * 2^21 : Nat) : Int) by omega, show (x : Int) / 8796093022208 = ((x / 2^43 : Nat) : Int) by omega, bits_or_u64_nat _ _ (by omega) (by omega), or_add (by omega), rot_eq]
  rw [q]
  go_ret
  exact ⟨rfl, rfl⟩

set_option maxRecDepth 100000 in
set_option maxHeartbeats 800000 in
theorem rotl32 (x : Nat) (hx : x < 2^64) (w : World) : Calls Try.prog 117 #[.int .u64 x, .int .i64 32] w fun e w' => e = .returned (.int .u64 (rot 32 x : Nat)) ∧ w = w' := by
  have hb : bits BinOp.and IntKind.u64 32 63 = 32 := by decide
  go_enter Try.func117, Try.ntmps117
  go_wp2_with fail
  try simp only [hb]
  go_wp2_with fail
  have q : bits BinOp.or IntKind.u64 (IntKind.u64.wrap ((x : Int) * 4294967296)) ((x : Int) / 4294967296) = ((rot 32 x : Nat) : Int) := by
    rw [IntKind.wrap_u64, show ((x : Int) * 4294967296) % 18446744073709551616 = ((x % 2^32 * 2^32 : Nat) : Int) by omega, show (x : Int) / 4294967296 = ((x / 2^32 : Nat) : Int) by omega, bits_or_u64_nat _ _ (by omega) (by omega), or_add (by omega), rot_eq]
  rw [q]
  go_ret
  exact ⟨rfl, rfl⟩
end Go.Proofs.Ytdgnjalbpiciiaa.Dg
