/-
  Plain facts: the sum bit by bit is the sum by the table. No program in it.
-/
import Derived.Test.YtpdabpcdmenlaaaDoorM2
namespace Go.Proofs.YtpdabpcdmenlaaaDoor
set_option linter.unusedVariables false
set_option linter.unusedSimpArgs false

/-- One bit of a sum. -/
def bitstep (c : Nat) : Nat := if c % 2 = 1 then c / 2 ^^^ 3370071343 else c / 2

def bitsteps : Nat → Nat → Nat
  | 0, c => c
  | k + 1, c => bitstep (bitsteps k c)

theorem bitstep_eq (c : Nat) : bitstep c = c / 2 ^^^ (if c % 2 = 1 then 3370071343 else 0) := by
  unfold bitstep
  split <;> simp

theorem xor_parity (x y : Nat) : (x ^^^ y) % 2 = (x % 2 + y % 2) % 2 := by
  have h := Nat.testBit_xor x y 0
  simp only [Nat.testBit_zero] at h
  have hx : x % 2 = 0 ∨ x % 2 = 1 := by omega
  have hy : y % 2 = 0 ∨ y % 2 = 1 := by omega
  have hz : (x ^^^ y) % 2 = 0 ∨ (x ^^^ y) % 2 = 1 := by omega
  rcases hx with hx | hx <;> rcases hy with hy | hy <;> rcases hz with hz | hz <;> simp [hx, hy, hz] at h ⊢

theorem half_xor (x y : Nat) : (x ^^^ y) / 2 = x / 2 ^^^ y / 2 := by
  have h : ∀ z : Nat, z / 2 = z >>> 1 := fun z => by rw [Nat.shiftRight_eq_div_pow]
  rw [h, h, h, Nat.shiftRight_xor_distrib]

theorem bitstep_xor (x y : Nat) : bitstep (x ^^^ y) = bitstep x ^^^ bitstep y := by
  rw [bitstep_eq, bitstep_eq, bitstep_eq, half_xor, xor_parity]
  have hx : x % 2 = 0 ∨ x % 2 = 1 := by omega
  have hy : y % 2 = 0 ∨ y % 2 = 1 := by omega
  generalize x / 2 = a
  generalize y / 2 = b
  rcases hx with hx | hx <;> rcases hy with hy | hy <;> simp only [hx, hy]
  · simp
  · simp [Nat.xor_assoc]
  · simp only [if_true, if_false, Nat.zero_ne_one, Nat.xor_zero]
    rw [Nat.xor_assoc, Nat.xor_assoc, Nat.xor_comm b]
  · simp only [Nat.reduceAdd, Nat.reduceMod, if_true, if_false, Nat.zero_ne_one, Nat.xor_zero]
    rw [Nat.xor_assoc, ← Nat.xor_assoc 3370071343, Nat.xor_comm 3370071343 b, Nat.xor_assoc b, Nat.xor_self, Nat.xor_zero]

theorem bitsteps_xor (x y : Nat) : ∀ k, bitsteps k (x ^^^ y) = bitsteps k x ^^^ bitsteps k y
  | 0 => rfl
  | k + 1 => by rw [bitsteps, bitsteps_xor x y k, bitstep_xor]; rfl

theorem bitstep_even (a : Nat) : bitstep (2 * a) = a := by
  unfold bitstep
  rw [if_neg (by omega)]; omega

theorem bitsteps_low : ∀ r : Fin 16, bitsteps 4 r.val = tabAt r.val := by decide

theorem four_bits (c : Nat) : bitsteps 4 c = four c := by
  have e : c = c / 16 * 2 ^ 4 ^^^ c % 16 := by
    have h := Nat.two_pow_add_eq_or_of_lt (show c % 16 < 2 ^ 4 by omega) (c / 16)
    have h2 : 2 ^ 4 * (c / 16) ^^^ c % 16 = 2 ^ 4 * (c / 16) + c % 16 := by
      apply Nat.eq_of_testBit_eq
      intro i
      rw [h]
      simp only [Nat.testBit_xor, Nat.testBit_or]
      rw [Nat.testBit_two_pow_mul]
      by_cases hi : 4 ≤ i
      · have : (c % 16).testBit i = false := Nat.testBit_lt_two_pow (Nat.lt_of_lt_of_le (show c % 16 < 2 ^ 4 by omega) (Nat.pow_le_pow_right (by omega) hi))
        simp [this]
      · simp [hi]
    rw [Nat.mul_comm, h2]; omega
  have h4 : bitsteps 4 (c / 16 * 2 ^ 4) = c / 16 := by
    have e1 : c / 16 * 2 ^ 4 = 2 * (2 * (2 * (2 * (c / 16)))) := by omega
    rw [e1]
    simp only [bitsteps, bitstep_even]
  have hl := bitsteps_low ⟨c % 16, by omega⟩
  conv => lhs; rw [e]
  rw [bitsteps_xor, h4]
  show _ ^^^ bitsteps 4 (c % 16) = _
  rw [hl]; rfl

theorem bitsteps_add (c : Nat) (j : Nat) : ∀ k, bitsteps (j + k) c = bitsteps k (bitsteps j c)
  | 0 => rfl
  | k + 1 => by rw [← Nat.add_assoc, bitsteps, bitsteps_add c j k]; rfl

theorem eight_bits (c : Nat) : bitsteps 8 c = four (four c) := by
  rw [show (8 : Nat) = 4 + 4 from rfl, bitsteps_add, four_bits, four_bits]

theorem bitstep_lt (c : Nat) (h : c < 4294967296) : bitstep c < 4294967296 := by
  unfold bitstep
  split
  · exact xor_u32_lt _ _ (by omega) (by omega)
  · omega
theorem bitsteps_lt (c : Nat) (h : c < 4294967296) : ∀ k, bitsteps k c < 4294967296
  | 0 => h
  | k + 1 => bitstep_lt _ (bitsteps_lt c h k)

end Go.Proofs.YtpdabpcdmenlaaaDoor
