/-
  Plain facts: the order of numbers' bytes. No program in it.
-/
import Derived.Test.YtpdabpcdmenlaaaDoorM1
import Derived.Lib.Bytes
import Derived.Lib.Bytealg
namespace Go.Proofs.YtpdabpcdmenlaaaDoor
set_option linter.unusedVariables false
set_option linter.unusedSimpArgs false

/-- The lesser one of two lists of numbers, number by number. -/
def cmpI : List Int → List Int → Int
  | [], [] => 0
  | [], _ :: _ => -1
  | _ :: _, [] => 1
  | a :: as, b :: bs => if a < b then -1 else if b < a then 1 else cmpI as bs

theorem toU8_lt {a b : Int} (ha : 0 ≤ a ∧ a < 256) (hb : 0 ≤ b ∧ b < 256) : UInt8.ofNat a.toNat < UInt8.ofNat b.toNat ↔ a < b := by
  rw [UInt8.lt_iff_toNat_lt, UInt8.toNat_ofNat', UInt8.toNat_ofNat', Nat.mod_eq_of_lt (by omega), Nat.mod_eq_of_lt (by omega)]
  omega

theorem compare_eq : ∀ xs ys : List Int, (∀ x ∈ xs, 0 ≤ x ∧ x < 256) → (∀ x ∈ ys, 0 ≤ x ∧ x < 256) → Lib.compareBytes (Lib.bytesOf xs) (Lib.bytesOf ys) = cmpI xs ys
  | [], [], _, _ => rfl
  | [], _ :: _, _, _ => rfl
  | _ :: _, [], _, _ => rfl
  | a :: as, b :: bs, h1, h2 => by
    have ha := h1 a (by simp)
    have hb := h2 b (by simp)
    have ih := compare_eq as bs (fun x h => h1 x (by simp [h])) (fun x h => h2 x (by simp [h]))
    simp only [Lib.bytesOf, List.map_cons, Lib.compareBytes, cmpI] at ih ⊢
    simp only [toU8_lt ha hb, toU8_lt hb ha]
    rw [ih]

/-- Which of two numbers is the lesser one. -/
def sgn (a b : Nat) : Int := if a < b then -1 else if b < a then 1 else 0

theorem cmp_be (a b : Nat) : ∀ k, a / 256 ^ k = b / 256 ^ k → cmpI (be a k) (be b k) = sgn a b
  | 0, h => by
    simp only [Nat.pow_zero, Nat.div_one] at h
    subst h
    simp [be, cmpI, sgn]
  | k + 1, h => by
    have e : ∀ u : Nat, (u : Int) / 2 ^ (8 * k) % 256 = ((u / 256 ^ k % 256 : Nat) : Int) := by
      intro u
      have : ((2 : Int) ^ (8 * k)) = ((256 ^ k : Nat) : Int) := by rw [Int.pow_mul]; simp
      rw [this]; simp
    have hs : ∀ u : Nat, u / 256 ^ k = u / 256 ^ (k + 1) * 256 + u / 256 ^ k % 256 := by
      intro u
      rw [Nat.pow_succ, ← Nat.div_div_eq_div_mul]
      generalize u / 256 ^ k = q
      omega
    have ha := hs a
    have hb := hs b
    rw [h] at ha
    simp only [be, cmpI, e]
    by_cases h1 : a / 256 ^ k % 256 < b / 256 ^ k % 256
    · rw [if_pos (by omega)]
      have : a < b := by
        apply Nat.lt_of_not_le
        intro hle
        have := Nat.div_le_div_right (c := 256 ^ k) hle
        omega
      simp [sgn, this]
    by_cases h2 : b / 256 ^ k % 256 < a / 256 ^ k % 256
    · rw [if_neg (by omega), if_pos (by omega)]
      have : b < a := by
        apply Nat.lt_of_not_le
        intro hle
        have := Nat.div_le_div_right (c := 256 ^ k) hle
        omega
      rw [sgn, if_neg (by omega), if_pos this]
    rw [if_neg (by omega), if_neg (by omega)]
    exact cmp_be a b k (by omega)

theorem bitLen_zero : Lib.bitLen 0 = 0 := rfl

theorem wide_step (u : Nat) (h0 : 0 < u) (h : u < 18446744073709551616) : wide u = wide (u / 256) + 1 := by
  unfold wide
  by_cases h1 : 256 ≤ u
  · rw [Lib.bitLen_shift8 u h1 h]; omega
  · have e : u / 256 = 0 := by omega
    have h8 := Lib.bitLen_le u 8 (by omega) (by omega)
    have hp : Lib.bitLen u = 1 + Lib.bitLen (u / 2) := Lib.bitLen_half u (by omega) (by omega)
    rw [e, bitLen_zero]; omega

theorem wide_zero : wide 0 = 0 := rfl

theorem wide_bound : ∀ (n u : Nat), u ≤ n → u < 18446744073709551616 → u < 256 ^ wide u ∧ (0 < u → 256 ^ (wide u - 1) ≤ u)
  | 0, u, h, _ => by
    obtain rfl : u = 0 := by omega
    simp [wide_zero]
  | n + 1, u, h, hu => by
    rcases Nat.eq_zero_or_pos u with h0 | h0
    · subst h0; simp [wide_zero]
    · have ih := wide_bound n (u / 256) (by omega) (by omega)
      rw [wide_step u h0 hu, Nat.add_sub_cancel]
      refine ⟨?_, fun _ => ?_⟩
      · rw [Nat.pow_succ]; omega
      · rcases Nat.eq_zero_or_pos (u / 256) with h1 | h1
        · rw [h1, wide_zero]; simp; omega
        · have h2 := ih.2 h1
          have hw : wide (u / 256) = wide (u / 256) - 1 + 1 := by
            have := wide_step (u / 256) h1 (by omega)
            omega
          rw [hw, Nat.pow_succ]; omega

theorem wide_mono (a b : Nat) (hb : b < 18446744073709551616) (h : a ≤ b) : wide a ≤ wide b := by
  rcases Nat.eq_zero_or_pos a with h0 | h0
  · subst h0; rw [wide_zero]; omega
  · apply Nat.le_of_not_lt
    intro hlt
    have h1 := (wide_bound a a (by omega) (by omega)).2 h0
    have h2 := (wide_bound b b (by omega) hb).1
    have h3 : 256 ^ wide b ≤ 256 ^ (wide a - 1) := Nat.pow_le_pow_right (by omega) (by omega)
    omega

theorem cmp_num (a b : Nat) (ha : a < 18446744073709551616) (hb : b < 18446744073709551616) : cmpI (num a) (num b) = sgn a b := by
  simp only [num, cmpI]
  by_cases h1 : wide a < wide b
  · rw [if_pos (by omega)]
    have : a < b := Nat.lt_of_not_le fun hle => by have := wide_mono b a ha hle; omega
    simp [sgn, this]
  by_cases h2 : wide b < wide a
  · rw [if_neg (by omega), if_pos (by omega)]
    have : b < a := Nat.lt_of_not_le fun hle => by have := wide_mono a b hb hle; omega
    rw [sgn, if_neg (by omega), if_pos this]
  rw [if_neg (by omega), if_neg (by omega)]
  have e : wide a = wide b := by omega
  rw [e]
  refine cmp_be a b _ ?_
  have h3 := (wide_bound a a (by omega) ha).1
  have h4 := (wide_bound b b (by omega) hb).1
  rw [e] at h3
  rw [Nat.div_eq_of_lt h3, Nat.div_eq_of_lt h4]

theorem cmp_be8 (a b : Nat) (ha : a < 18446744073709551616) (hb : b < 18446744073709551616) : cmpI (be a 8) (be b 8) = sgn a b :=
  cmp_be a b 8 (by rw [Nat.div_eq_of_lt (by simpa using ha), Nat.div_eq_of_lt (by simpa using hb)])

end Go.Proofs.YtpdabpcdmenlaaaDoor
