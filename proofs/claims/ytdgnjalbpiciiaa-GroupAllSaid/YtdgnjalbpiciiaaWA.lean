/-
  WM1 WM2 WM3 WM7 WB1 WB2 WB4 WB5 WM8 WR1 WR2 in one text.
-/
import Derived.Lib.BitFns
import Derived.Laws.Bits64b
import Derived.Lib.Bytes
import Derived.Lib.Bytealg
import Derived.Test.YtdgnjalbpiciiaaRows
import Derived.Test.YtdgnjalbpiciiaaShelf
import Derived.WalkKit
import Derived.WalkSpells
import Derived.WalkLawsBesides
import Derived.Laws.AppendOwnNone
import Derived.Shelf.Bytes.SlEqualAll
import Derived.Lib.Hide
import Derived.Deep.DeepFit
import Derived.Lib.AppendStr
import Derived.Deep.QuietTactic
import Derived.BigQuiet

/- WM1 -/
namespace Go.Proofs.Ytdgnjalbpiciiaa.Wi
set_option linter.unusedVariables false
set_option linter.unusedSimpArgs false
open Go.Proofs.Ytdgnjalbpiciiaa

/-- The lowest k bytes of u, the highest one first. -/
def be (u : Nat) : Nat → List Int
  | 0 => []
  | k + 1 => (u : Int) / 2 ^ (8 * k) % 256 :: be u k

theorem be_length (u k : Nat) : (be u k).length = k := by induction k <;> simp [be, *]

/-- How many bytes a number has. -/
def wide (u : Nat) : Nat := (Lib.bitLen u + 7) / 8

/-- A number's bytes: how many, and these. -/
def num (u : Nat) : List Int := (wide u : Int) :: be u (wide u)

theorem be_byte (u k : Nat) : ∀ x ∈ be u k, 0 ≤ x ∧ x < 256 := by
  induction k with
  | zero => simp [be]
  | succ k ih =>
    intro x hx
    rcases List.mem_cons.1 hx with rfl | hx
    · omega
    · exact ih x hx

end Go.Proofs.Ytdgnjalbpiciiaa.Wi

/- WM2 -/
namespace Go.Proofs.Ytdgnjalbpiciiaa.Wi
set_option linter.unusedVariables false
set_option linter.unusedSimpArgs false
open Go.Proofs.Ytdgnjalbpiciiaa

theorem wrap_u32 (n : Int) : IntKind.u32.wrap n = n % 4294967296 := by simp [IntKind.wrap, IntKind.bits, IntKind.signed]

theorem ofInt_u32 (a : Nat) (ha : a < 4294967296) : (BitVec.ofInt 32 (a : Int)).toNat = a := by
  rw [BitVec.ofInt_natCast, BitVec.toNat_ofNat]; exact Nat.mod_eq_of_lt (by omega)

theorem xor_u32_lt (a b : Nat) (ha : a < 4294967296) (hb : b < 4294967296) : a ^^^ b < 4294967296 := Nat.xor_lt_two_pow (n := 32) (by omega) (by omega)

theorem xor_u32 (a b : Nat) (ha : a < 4294967296) (hb : b < 4294967296) : bits .xor .u32 (a : Int) (b : Int) = ((a ^^^ b : Nat) : Int) := by
  have hx := xor_u32_lt a b ha hb
  show IntKind.u32.wrap ((BitVec.ofInt 32 (a : Int) ^^^ BitVec.ofInt 32 (b : Int)).toNat : Int) = _
  rw [BitVec.toNat_xor, ofInt_u32 a ha, ofInt_u32 b hb, wrap_u32]
  omega

theorem and15_u32 (a : Nat) (ha : a < 4294967296) : bits .and .u32 (a : Int) 15 = ((a % 16 : Nat) : Int) := by
  show IntKind.u32.wrap ((BitVec.ofInt 32 (a : Int) &&& BitVec.ofInt 32 ((15 : Nat) : Int)).toNat : Int) = _
  rw [BitVec.toNat_and, ofInt_u32 a ha, ofInt_u32 15 (by omega), show a &&& 15 = a % 16 from Nat.and_two_pow_sub_one_eq_mod a 4, wrap_u32]
  omega

/-- The table's numbers. -/
def tab : List Nat := [0, 724315118, 1448630236, 2104785970, 2897260472, 2275181654, 4209571940, 3519337354, 3370071343, 3824361153, 2659672819, 3047901469, 1685035671, 1329836409, 842517835, 421258917]

def tabAt (i : Nat) : Nat := tab.getD i 0

/-- Four bits of a sum; a byte; all of them. -/
def four (c : Nat) : Nat := c / 16 ^^^ tabAt (c % 16)
def upd (c : Nat) (x : Int) : Nat := four (four (c ^^^ x.toNat))
def crc (l : List Int) : Nat := l.foldl upd 4294967295

theorem tabAt_lt (i : Nat) : tabAt i < 4294967296 := by
  unfold tabAt
  by_cases h : i < 16
  · have : ∀ j : Fin 16, tab.getD j.val 0 < 4294967296 := by decide
    exact this ⟨i, h⟩
  · rw [List.getD_eq_getElem?_getD, List.getElem?_eq_none (by simp [tab]; omega)]; decide
theorem four_lt (c : Nat) (h : c < 4294967296) : four c < 4294967296 := xor_u32_lt _ _ (by omega) (tabAt_lt _)
theorem upd_lt (c : Nat) (x : Int) (h : c < 4294967296) (h1 : x < 256) : upd c x < 4294967296 := four_lt _ (four_lt _ (xor_u32_lt _ _ h (by omega)))
theorem fold_lt (l : List Int) (hl : ∀ x ∈ l, x < 256) : ∀ c, c < 4294967296 → l.foldl upd c < 4294967296 := by
  induction l with
  | nil => intro c h; exact h
  | cons x l ih => intro c h; exact ih (fun y hy => hl y (by simp [hy])) _ (upd_lt c x h (hl x (by simp)))
theorem crc_lt (l : List Int) (hl : ∀ x ∈ l, x < 256) : crc l < 4294967296 := fold_lt l hl _ (by decide)
theorem fold_snoc (l : List Int) (k c : Nat) (h : k < l.length) : (l.take (k + 1)).foldl upd c = upd ((l.take k).foldl upd c) (l.getD k 0) := by
  rw [List.take_succ_eq_append_getElem h, List.foldl_append, List.getD_eq_getElem?_getD, List.getElem?_eq_getElem h]; rfl
theorem not_u32 (a : Nat) (ha : a < 4294967296) : bits .xor .u32 IntKind.u32.max (a : Int) = ((4294967295 - a : Nat) : Int) := by
  show IntKind.u32.wrap ((BitVec.ofInt 32 IntKind.u32.max ^^^ BitVec.ofInt 32 (a : Int)).toNat : Int) = _
  have h1 : BitVec.ofInt 32 IntKind.u32.max = BitVec.allOnes 32 := by decide
  rw [h1, BitVec.allOnes_xor, BitVec.toNat_not, ofInt_u32 a ha, wrap_u32]
  omega

theorem or_u32 (a b : Nat) (ha : a < 4294967296) (hb : b < 4294967296) : bits .or .u32 (a : Int) (b : Int) = ((a ||| b : Nat) : Int) := by
  have hx : a ||| b < 2 ^ 32 := Nat.or_lt_two_pow (by omega) (by omega)
  show IntKind.u32.wrap ((BitVec.ofInt 32 (a : Int) ||| BitVec.ofInt 32 (b : Int)).toNat : Int) = _
  rw [BitVec.toNat_or, ofInt_u32 a ha, ofInt_u32 b hb, wrap_u32]
  omega

/-- A low part beside a high one. -/
theorem or_add (k a y : Nat) (ha : a < 2 ^ k) : a ||| y * 2 ^ k = a + y * 2 ^ k := by
  rw [Nat.or_comm, Nat.mul_comm, ← Nat.two_pow_add_eq_or_of_lt ha, Nat.add_comm]

theorem or_u32_8 (a y : Nat) (ha : a < 256) (hy : y < 256) : bits .or .u32 (a : Int) ((y : Int) * 256) = ((a + y * 256 : Nat) : Int) := by
  rw [show (y : Int) * 256 = ((y * 256 : Nat) : Int) by omega, or_u32 _ _ (by omega) (by omega), or_add 8 a y ha]
theorem or_u32_16 (a y : Nat) (ha : a < 65536) (hy : y < 256) : bits .or .u32 (a : Int) ((y : Int) * 65536) = ((a + y * 65536 : Nat) : Int) := by
  rw [show (y : Int) * 65536 = ((y * 65536 : Nat) : Int) by omega, or_u32 _ _ (by omega) (by omega), or_add 16 a y ha]
theorem or_u32_24 (a y : Nat) (ha : a < 16777216) (hy : y < 256) : bits .or .u32 (a : Int) ((y : Int) * 16777216) = ((a + y * 16777216 : Nat) : Int) := by
  rw [show (y : Int) * 16777216 = ((y * 16777216 : Nat) : Int) by omega, or_u32 _ _ (by omega) (by omega), or_add 24 a y ha]

theorem wrap_i64 (n : Int) (h0 : 0 ≤ n) (h1 : n ≤ 9223372036854775807) : IntKind.i64.wrap n = n := by
  simp [IntKind.wrap, IntKind.bits, IntKind.signed]; omega
theorem or_i64_8 (a y : Nat) (ha : a * 256 + y ≤ 9223372036854775807) (hy : y < 256) : bits .or .i64 ((a : Int) * 256) (y : Int) = ((a * 256 + y : Nat) : Int) := by
  have hx := or_add 8 y a hy
  rw [Nat.or_comm] at hx
  have h1 : (BitVec.ofInt 64 ((a * 256 : Nat) : Int)).toNat = a * 256 := by
    rw [BitVec.ofInt_natCast, BitVec.toNat_ofNat]; exact Nat.mod_eq_of_lt (by omega)
  have h2 : (BitVec.ofInt 64 (y : Int)).toNat = y := by
    rw [BitVec.ofInt_natCast, BitVec.toNat_ofNat]; exact Nat.mod_eq_of_lt (by omega)
  show IntKind.i64.wrap ((BitVec.ofInt 64 ((a : Int) * 256) ||| BitVec.ofInt 64 (y : Int)).toNat : Int) = _
  rw [show (a : Int) * 256 = ((a * 256 : Nat) : Int) by omega, BitVec.toNat_or, h1, h2, hx, wrap_i64 _ (by omega) (by omega)]
  omega

end Go.Proofs.Ytdgnjalbpiciiaa.Wi

/- WM3 -/
namespace Go.Proofs.Ytdgnjalbpiciiaa.Wi
set_option linter.unusedVariables false
set_option linter.unusedSimpArgs false
open Go.Proofs.Ytdgnjalbpiciiaa

/-- The lesser one of two lists of numbers, number by number. -/
def cmpI : List Int → List Int → Int
  | [], [] => 0
  | [], _ :: _ => -1
  | _ :: _, [] => 1
  | a :: as0, b :: bs => if a < b then -1 else if b < a then 1 else cmpI as0 bs

theorem toU8_lt {a b : Int} (ha : 0 ≤ a ∧ a < 256) (hb : 0 ≤ b ∧ b < 256) : UInt8.ofNat a.toNat < UInt8.ofNat b.toNat ↔ a < b := by
  rw [UInt8.lt_iff_toNat_lt, UInt8.toNat_ofNat', UInt8.toNat_ofNat', Nat.mod_eq_of_lt (by omega), Nat.mod_eq_of_lt (by omega)]
  omega

theorem compare_eq : ∀ xs ys : List Int, (∀ x ∈ xs, 0 ≤ x ∧ x < 256) → (∀ x ∈ ys, 0 ≤ x ∧ x < 256) → Lib.compareBytes (Lib.bytesOf xs) (Lib.bytesOf ys) = cmpI xs ys
  | [], [], _, _ => rfl
  | [], _ :: _, _, _ => rfl
  | _ :: _, [], _, _ => rfl
  | a :: as0, b :: bs, h1, h2 => by
    have ha := h1 a (by simp)
    have hb := h2 b (by simp)
    have ih := compare_eq as0 bs (fun x h => h1 x (by simp [h])) (fun x h => h2 x (by simp [h]))
    simp only [Lib.bytesOf, List.map_cons, Lib.compareBytes, cmpI] at ih ⊢
    simp only [toU8_lt ha hb, toU8_lt hb ha]
    rw [ih]

/-- Which of two numbers is the lesser one. -/
def sgn (a b : Nat) : Int := if a < b then -1 else if b < a then 1 else 0

theorem cmp_be (a b : Nat) : ∀ k, a / 256 ^ k = b / 256 ^ k → cmpI (be a k) (be b k) = sgn a b
  | 0, h => by
    simp only [Nat.pow_zero, Nat.div_one] at h
    subst h
    simp [be, cmpI, sgn]
  | k + 1, h => by
    have e : ∀ u : Nat, (u : Int) / 2 ^ (8 * k) % 256 = ((u / 256 ^ k % 256 : Nat) : Int) := by
      intro u
      have : ((2 : Int) ^ (8 * k)) = ((256 ^ k : Nat) : Int) := by rw [Int.pow_mul]; simp
      rw [this]; simp
    have hs : ∀ u : Nat, u / 256 ^ k = u / 256 ^ (k + 1) * 256 + u / 256 ^ k % 256 := by
      intro u
      rw [Nat.pow_succ, ← Nat.div_div_eq_div_mul]
      generalize u / 256 ^ k = q
      omega
    have ha := hs a
    have hb := hs b
    rw [h] at ha
    simp only [be, cmpI, e]
    by_cases h1 : a / 256 ^ k % 256 < b / 256 ^ k % 256
    · rw [if_pos (by omega)]
      have : a < b := by
        apply Nat.lt_of_not_le
        intro hle
        have := Nat.div_le_div_right (c := 256 ^ k) hle
        omega
      simp [sgn, this]
    by_cases h2 : b / 256 ^ k % 256 < a / 256 ^ k % 256
    · rw [if_neg (by omega), if_pos (by omega)]
      have : b < a := by
        apply Nat.lt_of_not_le
        intro hle
        have := Nat.div_le_div_right (c := 256 ^ k) hle
        omega
      rw [sgn, if_neg (by omega), if_pos this]
    rw [if_neg (by omega), if_neg (by omega)]
    exact cmp_be a b k (by omega)

theorem bitLen_zero : Lib.bitLen 0 = 0 := rfl

theorem wide_step (u : Nat) (h0 : 0 < u) (h : u < 18446744073709551616) : wide u = wide (u / 256) + 1 := by
  unfold wide
  by_cases h1 : 256 ≤ u
  · rw [Lib.bitLen_shift8 u h1 h]; omega
  · have e : u / 256 = 0 := by omega
    have h8 := Lib.bitLen_le u 8 (by omega) (by omega)
    have hp : Lib.bitLen u = 1 + Lib.bitLen (u / 2) := Lib.bitLen_half u (by omega) (by omega)
    rw [e, bitLen_zero]; omega

theorem wide_zero : wide 0 = 0 := rfl

theorem wide_bound : ∀ (n u : Nat), u ≤ n → u < 18446744073709551616 → u < 256 ^ wide u ∧ (0 < u → 256 ^ (wide u - 1) ≤ u)
  | 0, u, h, _ => by
    obtain rfl : u = 0 := by omega
    simp [wide_zero]
  | n + 1, u, h, hu => by
    rcases Nat.eq_zero_or_pos u with h0 | h0
    · subst h0; simp [wide_zero]
    · have ih := wide_bound n (u / 256) (by omega) (by omega)
      rw [wide_step u h0 hu, Nat.add_sub_cancel]
      refine ⟨?_, fun _ => ?_⟩
      · rw [Nat.pow_succ]; omega
      · rcases Nat.eq_zero_or_pos (u / 256) with h1 | h1
        · rw [h1, wide_zero]; simp; omega
        · have h2 := ih.2 h1
          have hw : wide (u / 256) = wide (u / 256) - 1 + 1 := by
            have := wide_step (u / 256) h1 (by omega)
            omega
          rw [hw, Nat.pow_succ]; omega

theorem wide_mono (a b : Nat) (hb : b < 18446744073709551616) (h : a ≤ b) : wide a ≤ wide b := by
  rcases Nat.eq_zero_or_pos a with h0 | h0
  · subst h0; rw [wide_zero]; omega
  · apply Nat.le_of_not_lt
    intro hlt
    have h1 := (wide_bound a a (by omega) (by omega)).2 h0
    have h2 := (wide_bound b b (by omega) hb).1
    have h3 : 256 ^ wide b ≤ 256 ^ (wide a - 1) := Nat.pow_le_pow_right (by omega) (by omega)
    omega

theorem cmp_num (a b : Nat) (ha : a < 18446744073709551616) (hb : b < 18446744073709551616) : cmpI (num a) (num b) = sgn a b := by
  simp only [num, cmpI]
  by_cases h1 : wide a < wide b
  · rw [if_pos (by omega)]
    have : a < b := Nat.lt_of_not_le fun hle => by have := wide_mono b a ha hle; omega
    simp [sgn, this]
  by_cases h2 : wide b < wide a
  · rw [if_neg (by omega), if_pos (by omega)]
    have : b < a := Nat.lt_of_not_le fun hle => by have := wide_mono a b hb hle; omega
    rw [sgn, if_neg (by omega), if_pos this]
  rw [if_neg (by omega), if_neg (by omega)]
  have e : wide a = wide b := by omega
  rw [e]
  refine cmp_be a b _ ?_
  have h3 := (wide_bound a a (by omega) ha).1
  have h4 := (wide_bound b b (by omega) hb).1
  rw [e] at h3
  rw [Nat.div_eq_of_lt h3, Nat.div_eq_of_lt h4]

theorem cmp_be8 (a b : Nat) (ha : a < 18446744073709551616) (hb : b < 18446744073709551616) : cmpI (be a 8) (be b 8) = sgn a b :=
  cmp_be a b 8 (by rw [Nat.div_eq_of_lt (by simpa using ha), Nat.div_eq_of_lt (by simpa using hb)])

end Go.Proofs.Ytdgnjalbpiciiaa.Wi

/- WM7 -/
namespace Go.Proofs.Ytdgnjalbpiciiaa.Wi
set_option linter.unusedVariables false
set_option linter.unusedSimpArgs false
open Go.Proofs.Ytdgnjalbpiciiaa

/-- One bit of a sum. -/
def bitstep (c : Nat) : Nat := if c % 2 = 1 then c / 2 ^^^ 3370071343 else c / 2

def bitsteps : Nat → Nat → Nat
  | 0, c => c
  | k + 1, c => bitstep (bitsteps k c)

theorem bitstep_eq (c : Nat) : bitstep c = c / 2 ^^^ (if c % 2 = 1 then 3370071343 else 0) := by
  unfold bitstep
  split <;> simp

theorem xor_parity (x y : Nat) : (x ^^^ y) % 2 = (x % 2 + y % 2) % 2 := by
  have h := Nat.testBit_xor x y 0
  simp only [Nat.testBit_zero] at h
  have hx : x % 2 = 0 ∨ x % 2 = 1 := by omega
  have hy : y % 2 = 0 ∨ y % 2 = 1 := by omega
  have hz : (x ^^^ y) % 2 = 0 ∨ (x ^^^ y) % 2 = 1 := by omega
  rcases hx with hx | hx <;> rcases hy with hy | hy <;> rcases hz with hz | hz <;> simp [hx, hy, hz] at h ⊢

theorem half_xor (x y : Nat) : (x ^^^ y) / 2 = x / 2 ^^^ y / 2 := by
  have h : ∀ z : Nat, z / 2 = z >>> 1 := fun z => by rw [Nat.shiftRight_eq_div_pow]
  rw [h, h, h, Nat.shiftRight_xor_distrib]

theorem bitstep_xor (x y : Nat) : bitstep (x ^^^ y) = bitstep x ^^^ bitstep y := by
  rw [bitstep_eq, bitstep_eq, bitstep_eq, half_xor, xor_parity]
  have hx : x % 2 = 0 ∨ x % 2 = 1 := by omega
  have hy : y % 2 = 0 ∨ y % 2 = 1 := by omega
  generalize x / 2 = a
  generalize y / 2 = b
  rcases hx with hx | hx <;> rcases hy with hy | hy <;> simp only [hx, hy]
  · simp
  · simp [Nat.xor_assoc]
  · simp only [if_true, if_false, Nat.zero_ne_one, Nat.xor_zero]
    rw [Nat.xor_assoc, Nat.xor_assoc, Nat.xor_comm b]
  · simp only [Nat.reduceAdd, Nat.reduceMod, if_true, if_false, Nat.zero_ne_one, Nat.xor_zero]
    rw [Nat.xor_assoc, ← Nat.xor_assoc 3370071343, Nat.xor_comm 3370071343 b, Nat.xor_assoc b, Nat.xor_self, Nat.xor_zero]

theorem bitsteps_xor (x y : Nat) : ∀ k, bitsteps k (x ^^^ y) = bitsteps k x ^^^ bitsteps k y
  | 0 => rfl
  | k + 1 => by rw [bitsteps, bitsteps_xor x y k, bitstep_xor]; rfl

theorem bitstep_even (a : Nat) : bitstep (2 * a) = a := by
  unfold bitstep
  rw [if_neg (by omega)]; omega

theorem bitsteps_low : ∀ r : Fin 16, bitsteps 4 r.val = tabAt r.val := by decide

theorem four_bits (c : Nat) : bitsteps 4 c = four c := by
  have e : c = c / 16 * 2 ^ 4 ^^^ c % 16 := by
    have h := Nat.two_pow_add_eq_or_of_lt (show c % 16 < 2 ^ 4 by omega) (c / 16)
    have h2 : 2 ^ 4 * (c / 16) ^^^ c % 16 = 2 ^ 4 * (c / 16) + c % 16 := by
      apply Nat.eq_of_testBit_eq
      intro i
      rw [h]
      simp only [Nat.testBit_xor, Nat.testBit_or]
      rw [Nat.testBit_two_pow_mul]
      by_cases hi : 4 ≤ i
      · have : (c % 16).testBit i = false := Nat.testBit_lt_two_pow (Nat.lt_of_lt_of_le (show c % 16 < 2 ^ 4 by omega) (Nat.pow_le_pow_right (by omega) hi))
        simp [this]
      · simp [hi]
    rw [Nat.mul_comm, h2]; omega
  have h4 : bitsteps 4 (c / 16 * 2 ^ 4) = c / 16 := by
    have e1 : c / 16 * 2 ^ 4 = 2 * (2 * (2 * (2 * (c / 16)))) := by omega
    rw [e1]
    simp only [bitsteps, bitstep_even]
  have hl := bitsteps_low ⟨c % 16, by omega⟩
  conv => lhs; rw [e]
  rw [bitsteps_xor, h4]
  show _ ^^^ bitsteps 4 (c % 16) = _
  rw [hl]; rfl

theorem bitsteps_add (c : Nat) (j : Nat) : ∀ k, bitsteps (j + k) c = bitsteps k (bitsteps j c)
  | 0 => rfl
  | k + 1 => by rw [← Nat.add_assoc, bitsteps, bitsteps_add c j k]; rfl

theorem eight_bits (c : Nat) : bitsteps 8 c = four (four c) := by
  rw [show (8 : Nat) = 4 + 4 from rfl, bitsteps_add, four_bits, four_bits]

theorem bitstep_lt (c : Nat) (h : c < 4294967296) : bitstep c < 4294967296 := by
  unfold bitstep
  split
  · exact xor_u32_lt _ _ (by omega) (by omega)
  · omega
theorem bitsteps_lt (c : Nat) (h : c < 4294967296) : ∀ k, bitsteps k c < 4294967296
  | 0 => h
  | k + 1 => bitstep_lt _ (bitsteps_lt c h k)

end Go.Proofs.Ytdgnjalbpiciiaa.Wi

/- WB1 -/
namespace Go.Proofs.Ytdgnjalbpiciiaa.Wi
set_option linter.unusedVariables false
set_option linter.unusedSimpArgs false
open Go.Proofs.Ytdgnjalbpiciiaa
open Go.RowKit

theorem Try.infoU8 : (Try.prog.info? 5).map (fun i => (i.zero, i.size, i.bytes)) = some (some (.int .u8 0), 1, 1) := by kernel_rfl

/-- A new slice of bytes: it lies from block B on, holds just xs, and nothing below B has turned. -/
def Made (B : Nat) (w : World) (xs : List Int) (e : Ending) (w' : World) : Prop :=
  ∃ g n cap, e = .returned (.slice (some ⟨g, 0, none⟩) n cap) ∧ w'.ownsRow B 5 1 (.slice (some ⟨g, 0, none⟩) n cap) n (xs.map (Value.int .u8)) ∧ Below B w w'

theorem owns_len {w : World} {B n : Nat} {v : Value} {xs : List Int} (h : w.ownsRow B 5 1 v n (xs.map (Value.int .u8))) : xs.length = n := by simpa using h.1


theorem addLit (b o j : Nat) : (⟨b, o, none⟩ : Addr).add j = ⟨b, o + j, none⟩ := by unfold Addr.add; split <;> simp_all

theorem later {w w' : World} {p : Option Addr} {n : Nat} {xs : List Int} (h : Lib.BytesIn w p n xs) (hb : Below w.heap.size w w') : Lib.BytesIn w' p n xs := by
  intro hn
  obtain ⟨b, o, rfl, hc⟩ := h hn
  exact ⟨b, o, rfl, fun i hi => (hb.cell (p := ⟨b, o + i, none⟩) (World.block_lt_of_cell? w _ (hc i hi))).trans (hc i hi)⟩

theorem news_of {w : World} {p : Option Addr} {n : Nat} {xs : List Int} (h : Lib.BytesIn w p n xs) (hx : xs.length = n) : ∀ ad, p = some ad → ∀ j u, (xs.map (Value.int .u8))[j]? = some u → w.cell? (ad.add j) = some u := by
  intro ad hp j u hu
  have hj : j < xs.length := by have := (List.getElem?_eq_some_iff.1 hu).1; simpa using this
  obtain ⟨b, o, hb, hc⟩ := h.at (by omega)
  rw [hp] at hb
  obtain rfl := Option.some.inj hb
  have := hc j (by omega)
  rw [addLit, this]
  simp only [List.getElem?_map] at hu
  rw [List.getElem?_eq_getElem hj] at hu
  simp only [Option.map_some, Option.some.injEq] at hu
  rw [← hu, List.getD_eq_getElem?_getD, List.getElem?_eq_getElem hj]; rfl

theorem oneU8 (xs : List Int) : ∀ u ∈ xs.map (Value.int .u8), u.oneCell' = true := by
  intro u hu
  obtain ⟨x, _, rfl⟩ := List.mem_map.1 hu
  rfl

theorem below_none {w w' : World} (hg : w.grownBy w' none) : Below w.heap.size w w' := (Below.refl _ _).grown hg (Nat.le_refl _) (fun _ h => by cases h)

theorem made_grown {B : Nat} {w w1 w2 : World} {g : Nat} (h1 : Below B w w1) (hg : w1.grownBy w2 (some g)) (hB : B ≤ w1.heap.size) (hgB : B ≤ g) : Below B w w2 :=
  h1.grown hg hB (fun k hk => by obtain rfl := Option.some.inj hk; exact hgB)

theorem owns_at {w : World} {B g n cap : Nat} {xs : List Value} (h : w.ownsRow B 5 1 (.slice (some ⟨g, 0, none⟩) n cap) n xs) : B ≤ g ∧ g < w.heap.size := h.lt g rfl

theorem owns_in {w : World} {B g n cap : Nat} {xs : List Int} (h : w.ownsRow B 5 1 (.slice (some ⟨g, 0, none⟩) n cap) n (xs.map (Value.int .u8))) : Lib.BytesIn w (some ⟨g, 0, none⟩) n xs := by
  refine Lib.BytesIn.of_cells fun i hi => ?_
  have hl : xs.length = n := by simpa using h.1
  rw [addLit, Nat.zero_add, h.cellAt i (by omega), List.getElem?_map, List.getElem?_eq_getElem (by omega), List.getD_eq_getElem?_getD, List.getElem?_eq_getElem (by omega)]
  rfl

set_option maxHeartbeats 400000 in
theorem own_any (p : Option Addr) (n c : Nat) (xs : List Int) (more : Int) (w : World) (hx : xs.length = n) (hb : Lib.BytesIn w p n xs) (hp : p = none → n = 0 ∧ c = 0) (h0 : 0 ≤ more) (h1 : n + more ≤ 140737488355328) :
    Calls Try.prog 87 #[.slice p n c, .int .i64 more] w (Made w.heap.size w xs) := by
  obtain ⟨m, rfl⟩ := Int.eq_ofNat_of_zero_le h0
  obtain ⟨i0, hi, hz0, hz1, hz2⟩ := info_parts Try.infoU8
  subst hx
  go_enter Try.func87, Try.ntmps87
  go_wp2_with (first
    | (at_make; refine wpList_make_own _ rfl _ _ 66 rfl w.heap.size 5 i0 (.int .u8 0) 1 Try.underlying66 hi hz0 hz1 .i64 .i64 _ (xs.length + m) rfl rfl (by first | omega | (simp; done) | (push_cast; omega)) (by rw [hz2]; omega) (by unfold maxLen; omega) (Nat.le_refl _) ?_; intro w1 hown1 hgrow1)
    | (at_builtin; (refine wpList_append_fits_any _ rfl _ _ 66 rfl w.heap.size 5 i0 1 Try.underlying66 hi hz1 w.heap.size 0 (xs.length + m) [] rfl hown1 p xs.length c (xs.map (Value.int .u8)) rfl (by simp) hp (news_of (later hb (below_none hgrow1)) rfl) (oneU8 xs) (by omega) ?_; intro w2 hown2 hgrow2)))
  go_ret
  exact ⟨w.heap.size, xs.length, xs.length + m, by simp, by simpa using hown2, made_grown (below_none hgrow1) hgrow2 hgrow1.size (Nat.le_refl _)⟩



/-- What the call owns, of at least one cell or not nil, is at an address. -/
theorem owns_open {w : World} {B n : Nat} {v : Value} {xs : List Value} (h : w.ownsRow B 5 1 v n xs) (hv : v ≠ .slice none 0 0) : ∃ g cap, v = .slice (some ⟨g, 0, none⟩) n cap := by
  rcases h.2 with ⟨rfl, _⟩ | ⟨g, cap, cur, rfl, _⟩
  · exact absurd rfl hv
  · exact ⟨g, cap, rfl⟩

/-- 'append' of bytes (nil, empty, or at an address) onto a slice that the call owns. -/
theorem wpList_push {w : World} {ops : Array Oper} {rest : List Oper} {o : Oper} {a : Act} {Q : Exit → Act → World → Prop} (hgd : o.guard = none) (s x : Operand)
    (ho : o.op = .call { callee := .builtin .append, args := #[s, x], argTypes := #[66, 66] })
    (B g n cap : Nat) (xs : List Int) (hs : a.eval s = .slice (some ⟨g, 0, none⟩) n cap) (hown : w.ownsRow B 5 1 (.slice (some ⟨g, 0, none⟩) n cap) n (xs.map (Value.int .u8)))
    (p : Option Addr) (m c : Nat) (news : List Int) (hx : a.eval x = .slice p m c) (hin : Lib.BytesIn w p m news) (hl : news.length = m) (hp : p = none → m = 0 ∧ c = 0)
    (hbytes : n + m ≤ 140737488355328) (hB : B ≤ w.heap.size)
    (h : ∀ g' c' w', w'.ownsRow B 5 1 (.slice (some ⟨g', 0, none⟩) (n + m) c') (n + m) ((xs ++ news).map (Value.int .u8)) → w.grownBy w' (some g) → wpList Try.prog ops Q rest (a.put o.dst (.slice (some ⟨g', 0, none⟩) (n + m) c')) w') :
    wpList Try.prog ops Q (o :: rest) a w := by
  obtain ⟨i0, hi, hz0, hz1, hz2⟩ := info_parts Try.infoU8
  cases p with
  | none =>
    obtain ⟨rfl, rfl⟩ := hp rfl
    obtain rfl := List.eq_nil_of_length_eq_zero hl
    exact wpList_append_own_none hgd s x 66 ho B 5 i0 1 Try.underlying66 hi _ n _ hs hown hx (by simpa using h g cap w (by simpa using hown) (World.grownBy.refl _ _))
  | some ad =>
    refine wpList_append_own w hgd s x 66 ho B 5 i0 (.int .u8 0) 1 1 Try.underlying66 hi hz0 hz1 hz2 rfl (by decide) _ n _ hs hown ad m c (news.map (Value.int .u8)) hx (by simp [hl]) (news_of hin hl ad rfl) (oneU8 _) (by unfold maxLen; omega) (by omega) hB ?_
    intro v' w' hown' hgrow hnil
    obtain ⟨g', c', rfl⟩ := owns_open hown' (fun e => by have := (hnil.1 e).1; cases this)
    exact h g' c' w' (by simpa using hown') hgrow

/-- A single byte in a new block of its own, as 'append(b, x)' lays it. -/
theorem in_one (w : World) (x : Int) : Lib.BytesIn (w.alloc (.cells #[.int .u8 x] 5)) (some ⟨w.heap.size, 0, none⟩) 1 [x] := by
  refine Lib.BytesIn.of_cells fun i hi => ?_
  obtain rfl : i = 0 := by omega
  rw [addLit, World.cell?_alloc_at _ _ _ _ rfl]; rfl

theorem below_push {B g : Nat} {w wr w1 : World} {x : Int} (h : Below B w wr) (hg : (wr.alloc (.cells #[.int .u8 x] 5)).grownBy w1 (some g)) (hB : B ≤ wr.heap.size) (hgB : B ≤ g) : Below B w w1 :=
  made_grown (h.alloc hB _) hg (by simp; omega) hgB

set_option maxHeartbeats 400000 in
theorem addBytes_any (B g n cap : Nat) (xs : List Int) (u k : Nat) (w : World) (hx : xs.length = n) (hown : w.ownsRow B 5 1 (.slice (some ⟨g, 0, none⟩) n cap) n (xs.map (Value.int .u8)))
    (_hu : u < 18446744073709551616) (hk : k ≤ 8) (h1 : n + k ≤ 140737488355328) (_hB : B ≤ w.heap.size) :
    Calls Try.prog 104 #[.slice (some ⟨g, 0, none⟩) n cap, .int .u64 u, .int .i64 k] w (Made B w (xs ++ be u k)) := by
  obtain ⟨i0, hi, hz0, hz1, hz2⟩ := info_parts Try.infoU8
  subst hx
  go_enter Try.func104, Try.ntmps104
  go_wp2
  go_loopw [0, 7] (fun v i wr => ∃ (m : Nat) (ys : List Int) (g' c' : Nat), m ≤ k ∧ i = .int .i64 ((m : Int) - 1) ∧ v = .slice (some ⟨g', 0, none⟩) ys.length c' ∧ wr.ownsRow B 5 1 (.slice (some ⟨g', 0, none⟩) ys.length c') ys.length (ys.map (Value.int .u8)) ∧ Below B w wr ∧ Hid (ys ++ be u m = xs ++ be u k))
    (fun _ i _ => (intOf i + 1).toNat)
  case atStart => exact ⟨k, xs, g, cap, Nat.le_refl _, rfl, rfl, hown, Below.refl _ _, rfl⟩
  case round =>
    obtain ⟨m, ys, g', c', hm, rfl, rfl, hown', hbel, hys⟩ := hrel
    by_cases h0 : m = 0
    · subst h0
      go_wp2
      go_ret
      have e := hys.out
      simp only [be, List.append_nil] at e
      rw [← e]
      exact ⟨g', _, c', rfl, hown', hbel⟩
    · obtain ⟨m, rfl⟩ := Nat.exists_eq_succ_of_ne_zero h0
      have hlen : ys.length + (m + 1) = xs.length + k := by have := congrArg List.length hys.out; simpa [be_length] using this
      have hat := owns_at hown'
      have hBr : B ≤ wr.heap.size := by omega
      have hsz : ys.length + 1 ≤ 140737488355328 := by omega
      have Hlen : Hid (ys.length + (m + 1) = xs.length + k) := hlen
      clear hlen
      go_wp2_with (at_builtin; (refine wpList_push rfl _ _ rfl B g' ys.length c' ys rfl (hown'.alloc _) (some ⟨wr.heap.size, 0, none⟩) 1 1 [(u : Int) / 2 ^ (8 * m) % 256] rfl (in_one _ _) rfl (by intro h; cases h) hsz (by simp; omega) ?_; intro g1 c1 w1 hown1 hgrow1))
      go_roundw
      case rel => exact ⟨m, ys ++ [(u : Int) / 2 ^ (8 * m) % 256], g1, c1, by omega, by go_num, by simp, by simpa using hown1, below_push hbel hgrow1 hBr hat.1, by have := hys.out; simpa [Hid, be] using this⟩
      case measure => simp [intOf]



theorem addBytes_int (B g n cap : Nat) (xs : List Int) (u : Nat) (k : Int) (w : World) (hx : xs.length = n) (hown : w.ownsRow B 5 1 (.slice (some ⟨g, 0, none⟩) n cap) n (xs.map (Value.int .u8)))
    (hu : u < 18446744073709551616) (h0 : 0 ≤ k) (hk : k ≤ 8) (h1 : n + 8 ≤ 140737488355328) (hB : B ≤ w.heap.size) :
    Calls Try.prog 104 #[.slice (some ⟨g, 0, none⟩) n cap, .int .u64 u, .int .i64 k] w (Made B w (xs ++ be u k.toNat)) := by
  obtain ⟨m, rfl⟩ := Int.eq_ofNat_of_zero_le h0
  exact addBytes_any B g n cap xs u m w hx hown hu (by omega) (by omega) hB

theorem addBytes_zero (B g n cap : Nat) (xs : List Int) (w : World) (hown : w.ownsRow B 5 1 (.slice (some ⟨g, 0, none⟩) n cap) n (xs.map (Value.int .u8)))
    (h1 : n + 8 ≤ 140737488355328) (hB : B ≤ w.heap.size) :
    Calls Try.prog 104 #[.slice (some ⟨g, 0, none⟩) n cap, .int .u64 0, .int .i64 0] w (Made B w xs) := by
  have h := addBytes_any B g n cap xs 0 0 w (owns_len hown) hown (by omega) (by omega) (by omega) hB
  simp only [be, List.append_nil] at h
  exact h

theorem len64_any (u : Nat) (hu : u ≤ 9223372036854775807) (w : World) :
    Calls Try.prog 103 #[.int .u64 u] w fun e w' => e = .returned (.int .i64 (Lib.bitLen u)) ∧ w = w' :=
  (Try.bits_Len64 u w (by omega) (by omega)).mono fun _ _ ⟨h, e⟩ => ⟨by simpa using h, e.symm⟩

theorem len64_zero (w : World) :
    Calls Try.prog 103 #[.int .u64 0] w fun e w' => e = .returned (.int .i64 0) ∧ w = w' :=
  (Try.bits_Len64 0 w (by omega) (by omega)).mono fun _ _ ⟨h, e⟩ => ⟨h, e.symm⟩

set_option maxHeartbeats 400000 in
theorem add_any (B g n cap : Nat) (xs : List Int) (u : Nat) (w : World) (hown : w.ownsRow B 5 1 (.slice (some ⟨g, 0, none⟩) n cap) n (xs.map (Value.int .u8)))
    (hu : u ≤ 9223372036854775807) (h1 : n + 9 ≤ 140737488355328) (hB : B ≤ w.heap.size) :
    Calls Try.prog 86 #[.slice (some ⟨g, 0, none⟩) n cap, .int .i64 u] w (Made B w (xs ++ num u)) := by
  have hb := Lib.bitLen_le u 64 (by omega) (by omega)
  have hat := owns_at hown
  have Hx : Hid (xs.length = n) := owns_len hown
  have E : Hid (xs ++ [((Lib.bitLen u : Int) + 7) / 8] ++ be u (((Lib.bitLen u : Int) + 7) / 8).toNat = xs ++ num u) := by
    have : (((Lib.bitLen u : Int) + 7) / 8) = (wide u : Int) := by unfold wide; omega
    simp [Hid, this, num]
  go_enter Try.func86, Try.ntmps86
  go_wp2_with (first
    | (go_at_call 103; refine (len64_any _ hu _).mono ?_; rintro e w' ⟨rfl, rfl⟩)
    | (at_builtin; refine wpList_push rfl _ _ rfl B g n cap xs rfl (hown.alloc _) (some ⟨w.heap.size, 0, none⟩) 1 1 [((Lib.bitLen u : Int) + 7) / 8] rfl (in_one _ _) rfl (by intro h; cases h) (by omega) (by simp; omega) ?_; intro g1 c1 w1 hown1 hgrow1)
    | (go_at_call 104; refine (addBytes_int B g1 (n + 1) c1 (xs ++ [((Lib.bitLen u : Int) + 7) / 8]) u _ _ (owns_len hown1) hown1 (by omega) (by omega) (by omega) (by omega) (by have := hgrow1.size; simp at this; omega)).mono ?_; rintro e w2 ⟨g2, n2, c2, rfl, hown2, hbel2⟩))
  go_ret
  rw [E.out] at hown2
  exact ⟨g2, n2, c2, rfl, hown2, (below_push (Below.refl _ _) hgrow1 hB hat.1).trans hbel2⟩

set_option maxHeartbeats 400000 in
theorem add_neg (B g n cap : Nat) (xs : List Int) (u : Int) (w : World) (hown : w.ownsRow B 5 1 (.slice (some ⟨g, 0, none⟩) n cap) n (xs.map (Value.int .u8)))
    (hu : u < 0) (h1 : n + 9 ≤ 140737488355328) (hB : B ≤ w.heap.size) :
    Calls Try.prog 86 #[.slice (some ⟨g, 0, none⟩) n cap, .int .i64 u] w (Made B w (xs ++ num 0)) := by
  have hat := owns_at hown
  have hmax : max u 0 = 0 := by omega
  have E : Hid (num 0 = [0]) := by simp [Hid, num, be, wide, Lib.bitLen, Lib.bitLenAux]
  go_enter Try.func86, Try.ntmps86
  go_wp2_with fail
  go_fit (len64_zero _)
  rintro e w' ⟨rfl, rfl⟩
  go_wp2_with (at_builtin; refine wpList_push rfl _ _ rfl B g n cap xs rfl (hown.alloc _) (some ⟨w.heap.size, 0, none⟩) 1 1 [0] rfl (in_one _ _) rfl (by intro h; cases h) (by omega) (by simp; omega) ?_; intro g1 c1 w1 hown1 hgrow1)
  go_wp2_with fail
  go_fit (addBytes_zero B g1 (n + 1) c1 (xs ++ [0]) _ hown1 (by omega) (by have := hgrow1.size; simp at this; omega))
  rintro e w2 ⟨g2, n2, c2, rfl, hown2, hbel2⟩
  go_wp2_with fail
  go_ret
  rw [E.out]
  exact ⟨g2, n2, c2, rfl, hown2, (below_push (Below.refl _ _) hgrow1 hB hat.1).trans hbel2⟩

/-- 'add' at whatever int. -/
theorem add_int (B g n cap : Nat) (xs : List Int) (u : Int) (w : World) (hown : w.ownsRow B 5 1 (.slice (some ⟨g, 0, none⟩) n cap) n (xs.map (Value.int .u8)))
    (hu : u ≤ 9223372036854775807) (h1 : n + 9 ≤ 140737488355328) (hB : B ≤ w.heap.size) :
    Calls Try.prog 86 #[.slice (some ⟨g, 0, none⟩) n cap, .int .i64 u] w (Made B w (xs ++ num u.toNat)) := by
  by_cases h0 : 0 ≤ u
  · obtain ⟨m, rfl⟩ := Int.eq_ofNat_of_zero_le h0
    exact add_any B g n cap xs m w hown (by omega) h1 hB
  · rw [show u.toNat = 0 from by omega]
    exact add_neg B g n cap xs u w hown (by omega) h1 hB

set_option maxHeartbeats 400000 in
theorem Number_any (p : Option Addr) (n c : Nat) (xs : List Int) (u : Int) (w : World) (hx : xs.length = n) (hb : Lib.BytesIn w p n xs) (hp : p = none → n = 0 ∧ c = 0) (hu : u ≤ 9223372036854775807) (h1 : n + 9 ≤ 140737488355328) :
    Calls Try.prog 70 #[.slice p n c, .int .i64 u] w (Made w.heap.size w (xs ++ num u.toNat)) := by
  have Hx : Hid (xs.length = n) := hx
  have hc1 := own_any p n c xs 9 w hx hb hp (by omega) (by omega)
  have Hc1 := Lib.hid hc1
  clear hx hc1
  go_enter Try.func70, Try.ntmps70
  go_wp2_with fail
  go_fit Hc1.out
  rintro e w1 ⟨g1, n1, c1, rfl, hown1, hb1⟩
  have hn1 : n1 ≤ n := by rw [← owns_len hown1, Hx.out]; exact Nat.le_refl _
  go_wp2_with fail
  go_fit (add_int w.heap.size g1 n1 c1 xs u _ hown1 hu (by omega) hb1.size)
  rintro e w2 ⟨g2, n2, c2, rfl, hown2, hb2⟩
  go_wp2_with fail
  go_ret
  exact ⟨g2, n2, c2, rfl, hown2, hb1.trans hb2⟩

end Go.Proofs.Ytdgnjalbpiciiaa.Wi

/- WB2 -/
namespace Go.Proofs.Ytdgnjalbpiciiaa.Wi
set_option linter.unusedVariables false
set_option linter.unusedSimpArgs false
open Go.Proofs.Ytdgnjalbpiciiaa
open Go.RowKit

/-- What numbers are as bytes, one behind the other. -/
def nums (l : List Int) : List Int := (l.map fun z => num z.toNat).flatten

theorem be_le (u k : Nat) : (be u k).length ≤ k := by rw [be_length]; exact Nat.le_refl _
theorem num_le (u : Nat) : u ≤ 9223372036854775807 → (num u).length ≤ 9 := by
  intro hu
  have hb := Lib.bitLen_le u 64 (by omega) (by omega)
  simp only [num, List.length_cons, be_length, wide]; omega
theorem nums_snoc (l : List Int) (k : Nat) (h : k < l.length) : nums (l.take (k + 1)) = nums (l.take k) ++ num (l.getD k 0).toNat := by
  unfold nums
  rw [List.take_succ_eq_append_getElem h]
  simp only [List.map_append, List.map_cons, List.map_nil, List.flatten_append, List.flatten_cons, List.flatten_nil, List.append_nil, List.getD_eq_getElem?_getD, List.getElem?_eq_getElem h, Option.getD_some]
theorem nums_le (l : List Int) (hl : ∀ z ∈ l, z ≤ 9223372036854775807) : (nums l).length ≤ 9 * l.length := by
  unfold nums
  induction l with
  | nil => simp
  | cons z l ih =>
    have h1 := num_le z.toNat (by have := hl z (by simp); omega)
    have h2 := ih (fun y hy => hl y (by simp [hy]))
    simp only [List.map_cons, List.flatten_cons, List.length_append, List.length_cons]; omega

/-- A slice of ints that reads so. -/
def IntsIn (w : World) (p : Option Addr) (n : Nat) (xs : List Int) : Prop := 0 < n → ∃ b o, p = some ⟨b, o, none⟩ ∧ ∀ i, i < n → w.cell? ⟨b, o + i, none⟩ = some (.int .i64 (xs.getD i 0))

/-- A number with a sign, modulo 2^64. -/
def u64 (v : Int) : Nat := (v % 18446744073709551616).toNat
theorem u64_lt (v : Int) : u64 v < 18446744073709551616 := by unfold u64; omega
theorem wrap_u64 (v : Int) : IntKind.u64.wrap v = (u64 v : Int) := by
  have : IntKind.u64.wrap v = v % 18446744073709551616 := by simp [IntKind.wrap, IntKind.bits, IntKind.signed]
  rw [this]; unfold u64; omega

/-- A string's bytes as numbers. -/
def sb (s : ByteArray) : List Int := s.data.toList.map fun b => (b.toNat : Int)
theorem sb_length (s : ByteArray) : (sb s).length = s.size := by simp [sb]
theorem sb_cells (s : ByteArray) : Lib.strCells s = (sb s).map (Value.int .u8) := by simp [Lib.strCells, sb, Function.comp_def]

/-- 'append' of a string's bytes onto a slice that the call owns. -/
theorem wpList_pushs {w : World} {ops : Array Oper} {rest : List Oper} {o : Oper} {a : Act} {Q : Exit → Act → World → Prop} (hgd : o.guard = none) (sl x : Operand)
    (ho : o.op = .call { callee := .builtin .append, args := #[sl, x], argTypes := #[66, 9] })
    (B g n cap : Nat) (xs : List Int) (hs : a.eval sl = .slice (some ⟨g, 0, none⟩) n cap) (hown : w.ownsRow B 5 1 (.slice (some ⟨g, 0, none⟩) n cap) n (xs.map (Value.int .u8)))
    (s : ByteArray) (hx : a.eval x = .string s)
    (hbytes : n + s.size ≤ 140737488355328) (hB : B ≤ w.heap.size)
    (h : ∀ g' c' w', w'.ownsRow B 5 1 (.slice (some ⟨g', 0, none⟩) (n + s.size) c') (n + s.size) ((xs ++ sb s).map (Value.int .u8)) → w.grownBy w' (some g) → wpList Try.prog ops Q rest (a.put o.dst (.slice (some ⟨g', 0, none⟩) (n + s.size) c')) w') :
    wpList Try.prog ops Q (o :: rest) a w := by
  obtain ⟨i0, hi, hz0, hz1, hz2⟩ := info_parts Try.infoU8
  refine Lib.wpList_append_own_string w hgd sl x 66 9 ho B 5 i0 Try.underlying66 Try.underlying9 hi hz0 hz1 hz2 _ n _ hs hown s hx (by unfold maxLen; omega) hbytes hB ?_
  intro v' w' hown' hgrow hnil
  obtain ⟨g', c', rfl⟩ := owns_open hown' (fun e => by have := (hnil.1 e).1; cases this)
  exact h g' c' w' (by rw [List.map_append, ← sb_cells]; exact hown') hgrow

set_option maxHeartbeats 400000 in
theorem Text_any (p : Option Addr) (n c : Nat) (xs : List Int) (s : ByteArray) (w : World) (hx : xs.length = n) (hb : Lib.BytesIn w p n xs) (hp : p = none → n = 0 ∧ c = 0) (h1 : n + s.size + 9 ≤ 140737488355328) :
    Calls Try.prog 89 #[.slice p n c, .string s] w (Made w.heap.size w (xs ++ num s.size ++ sb s)) := by
  have Hx : Hid (xs.length = n) := hx
  have Hc1 := Lib.hid (own_any p n c xs (9 + s.size) w hx hb hp (by omega) (by omega))
  have hnl := num_le s.size (by omega)
  clear hx
  go_enter Try.func89, Try.ntmps89
  go_wp2_with fail
  go_fit Hc1.out
  rintro e w1 ⟨g1, n1, c1, rfl, hown1, hb1⟩
  have hn1 : n1 ≤ n := by rw [← owns_len hown1, Hx.out]; exact Nat.le_refl _
  go_wp2_with fail
  go_fit (add_any w.heap.size g1 n1 c1 xs s.size w1 hown1 (by omega) (by omega) hb1.size)
  rintro e w2 ⟨g2, n2, c2, rfl, hown2, hb2⟩
  have hn2 : n2 ≤ n + 9 := by rw [← owns_len hown2, List.length_append, Hx.out]; omega
  have hB2 : w.heap.size ≤ w2.heap.size := Nat.le_trans hb1.size hb2.size
  have hat2 := owns_at hown2
  go_wp2_with (at_builtin; refine wpList_pushs rfl _ _ rfl w.heap.size g2 n2 c2 _ rfl hown2 s rfl (by omega) hB2 ?_; intro g3 c3 w3 hown3 hgrow3)
  go_ret
  exact ⟨g3, _, c3, rfl, hown3, made_grown (hb1.trans hb2) hgrow3 hB2 hat2.1⟩

end Go.Proofs.Ytdgnjalbpiciiaa.Wi

/- WB4 -/
namespace Go.Proofs.Ytdgnjalbpiciiaa.Wi
set_option linter.unusedVariables false
set_option linter.unusedSimpArgs false
open Go.Proofs.Ytdgnjalbpiciiaa
open Go.RowKit

/-- A sum's four bytes, the lowest one first. -/
def sum4 (c : Nat) : List Int := [(c : Int) % 256, (c : Int) / 256 % 256, (c : Int) / 65536 % 256, (c : Int) / 16777216]
def sumOf (xs : List Int) : Nat := 4294967295 - crc xs
def frame (p : List Int) : List Int := num p.length ++ p ++ sum4 (sumOf (num p.length ++ p))

theorem in_four (w : World) (x0 x1 x2 x3 : Int) : Lib.BytesIn (w.alloc (.cells #[.int .u8 x0, .int .u8 x1, .int .u8 x2, .int .u8 x3] 5)) (some ⟨w.heap.size, 0, none⟩) 4 [x0, x1, x2, x3] := by
  refine Lib.BytesIn.of_cells fun i hi => ?_
  rw [addLit, World.cell?_alloc_at _ _ _ _ rfl]
  match i, hi with
  | 0, _ => rfl
  | 1, _ => rfl
  | 2, _ => rfl
  | 3, _ => rfl

theorem below_push' {B g : Nat} {w wr w1 : World} {o : Obj} (h : Below B w wr) (hg : (wr.alloc o).grownBy w1 (some g)) (hB : B ≤ wr.heap.size) (hgB : B ≤ g) : Below B w w1 :=
  made_grown (h.alloc hB _) hg (by simp; omega) hgB

/-- Two results, of which the first one is a new slice of bytes. -/
def MadeE (B : Nat) (w : World) (xs : List Int) (err : Int) (e : Ending) (w' : World) : Prop :=
  ∃ g n cap, e = .returned (.tuple #[.slice (some ⟨g, 0, none⟩) n cap, .int .i64 err]) ∧ w'.ownsRow B 5 1 (.slice (some ⟨g, 0, none⟩) n cap) n (xs.map (Value.int .u8)) ∧ Below B w w'

theorem num_byte (u : Nat) (hu : u ≤ 9223372036854775807) : ∀ x ∈ num u, 0 ≤ x ∧ x < 256 := by
  intro x hx
  have hb := Lib.bitLen_le u 64 (by omega) (by omega)
  rcases List.mem_cons.1 hx with rfl | hx
  · unfold wide; omega
  · exact be_byte _ _ x hx

theorem sumOf_lt (xs : List Int) : sumOf xs < 4294967296 := by unfold sumOf; omega

end Go.Proofs.Ytdgnjalbpiciiaa.Wi

/- WB5 -/
namespace Go.Proofs.Ytdgnjalbpiciiaa.Wi
set_option linter.unusedVariables false
set_option linter.unusedSimpArgs false
open Go.Proofs.Ytdgnjalbpiciiaa
open Go.RowKit

/-- Bytes, the highest one first, as a number. -/
def ofBe (l : List Int) : Nat := l.foldl (fun a x => a * 256 + x.toNat) 0

/-- With which number bytes begin, how many bytes it has, and why there is none. -/
def numAt (xs : List Int) : Nat × Nat × Int :=
  if xs.length = 0 then (0, 0, 2) else
  let k := xs.getD 0 0
  if 8 < k then (0, 0, 11) else
  if (xs.length : Int) ≤ k then (0, 0, 2) else
  if 0 < k ∧ xs.getD 1 0 = 0 then (0, 0, 11) else
  if k = 8 ∧ 127 < xs.getD 1 0 then (0, 0, 5) else
  (ofBe ((xs.drop 1).take k.toNat), 1 + k.toNat, 0)

theorem ofBe_snoc (l : List Int) (i : Nat) (h : i < l.length) : ofBe (l.take (i + 1)) = ofBe (l.take i) * 256 + (l.getD i 0).toNat := by
  unfold ofBe
  rw [List.take_succ_eq_append_getElem h, List.foldl_append, List.getD_eq_getElem?_getD, List.getElem?_eq_getElem h]; rfl

theorem fold_be (l : List Int) : ∀ a : Nat, l.foldl (fun a x => a * 256 + x.toNat) a = a * 256 ^ l.length + ofBe l := by
  unfold ofBe
  induction l with
  | nil => intro a; simp
  | cons x l ih =>
    intro a
    simp only [List.foldl_cons, List.length_cons]
    rw [ih (a * 256 + x.toNat), ih (0 * 256 + x.toNat), Nat.pow_succ]
    simp only [Nat.add_mul, Nat.zero_mul, Nat.zero_add, Nat.add_assoc, Nat.mul_assoc, Nat.mul_comm 256]

theorem ofBe_cons (x : Int) (l : List Int) : ofBe (x :: l) = x.toNat * 256 ^ l.length + ofBe l := by
  have := fold_be l (0 * 256 + x.toNat)
  simpa [ofBe] using this

theorem ofBe_lt (l : List Int) (hl : ∀ x ∈ l, x < 256) : ofBe l < 256 ^ l.length := by
  induction l with
  | nil => simp [ofBe]
  | cons x l ih =>
    rw [ofBe_cons, List.length_cons, Nat.pow_succ]
    have h1 := ih (fun y hy => hl y (by simp [hy]))
    have h2 : x.toNat + 1 ≤ 256 := by have := hl x (by simp); omega
    have h3 := Nat.mul_le_mul_right (256 ^ l.length) h2
    rw [Nat.add_mul] at h3
    omega

/-- A beginning of a number, and 256 times it, are not above the number. -/
theorem ofBe_front (l : List Int) (i : Nat) (h : i < l.length) : ofBe (l.take i) * 256 + (l.getD i 0).toNat ≤ ofBe l := by
  rw [← ofBe_snoc l i h]
  have e : ofBe l = ofBe (l.take (i + 1)) * 256 ^ (l.drop (i + 1)).length + ofBe (l.drop (i + 1)) := by
    have := fold_be (l.drop (i + 1)) (ofBe (l.take (i + 1)))
    rw [← this]
    unfold ofBe
    rw [← List.foldl_append, List.take_append_drop]
  rw [e]
  have := Nat.le_mul_of_pos_right (ofBe (l.take (i + 1))) (Nat.pow_pos (a := 256) (n := (l.drop (i + 1)).length) (by omega))
  omega

theorem ofBe_bound (l : List Int) (hl : ∀ x ∈ l, 0 ≤ x ∧ x < 256) (h8 : l.length ≤ 8) (hh : l.length = 8 → l.getD 0 0 ≤ 127) : ofBe l ≤ 9223372036854775807 := by
  rcases Nat.lt_or_ge l.length 8 with h | h
  · have h1 := ofBe_lt l (fun x hx => (hl x hx).2)
    have h2 : 256 ^ l.length ≤ 256 ^ 7 := Nat.pow_le_pow_right (by omega) (by omega)
    omega
  · have e8 : l.length = 8 := by omega
    cases l with
    | nil => simp at e8
    | cons x r =>
      have h1 := ofBe_lt r (fun y hy => (hl y (by simp [hy])).2)
      have er : r.length = 7 := by simpa using e8
      have hx := hh e8
      simp only [List.getD_cons_zero] at hx
      have h0 := (hl x (by simp)).1
      rw [ofBe_cons, er]
      rw [er] at h1
      have : x.toNat ≤ 127 := by omega
      omega

/-- Three ints. -/
def Three (t : Nat × Nat × Int) (w : World) (e : Ending) (w' : World) : Prop := e = .returned (.tuple #[.int .i64 t.1, .int .i64 t.2.1, .int .i64 t.2.2]) ∧ w = w'

theorem three_ret {a b c a' b' c' : Int} (h1 : a = a') (h2 : b = b') (h3 : c = c') : Ending.returned (.tuple #[.int .i64 a, .int .i64 b, .int .i64 c]) = .returned (.tuple #[.int .i64 a', .int .i64 b', .int .i64 c']) := by rw [h1, h2, h3]

theorem byte_at {w : World} {b o n : Nat} {xs : List Int} (hc : ∀ i, i < n → w.cell? ⟨b, o + i, none⟩ = some (.int .u8 (xs.getD i 0))) (hx : xs.length = n) (hr : ∀ x ∈ xs, 0 ≤ x ∧ x < 256) (i : Nat) (hi : i < n) :
    ∃ y : Nat, xs.getD i 0 = (y : Int) ∧ y < 256 ∧ w.cell? ⟨b, o + i, none⟩ = some (.int .u8 y) := by
  have h := hr (xs.getD i 0) (by rw [List.getD_eq_getElem?_getD, List.getElem?_eq_getElem (by omega)]; simp)
  refine ⟨(xs.getD i 0).toNat, by omega, by omega, ?_⟩
  rw [hc i hi]; congr 2; omega

theorem quiet_left {P : Program} {f : FuncId} {args : Array Value} {w : World} {n : Nat} {v : Value}
    (h : Calls P f args (w.drewN n) fun e w' => e = .returned v ∧ w.drewN n = w') : Calls P f args (w.drewN n) fun e w'' => e = .returned v ∧ ∃ m, w'' = w.drewN m :=
  h.mono fun _ _ ⟨he, hm⟩ => ⟨he, n, hm.symm⟩

theorem numAt_ok (xs : List Int) (hr : ∀ x ∈ xs, 0 ≤ x ∧ x < 256) (h : (numAt xs).2.2 = 0) : 1 ≤ (numAt xs).2.1 ∧ (numAt xs).2.1 ≤ 9 ∧ (numAt xs).2.1 ≤ xs.length := by
  revert h
  unfold numAt
  by_cases h0 : xs.length = 0
  · rw [if_pos h0]; intro h; cases h
  rw [if_neg h0]
  have hk := hr (xs.getD 0 0) (by rw [List.getD_eq_getElem?_getD, List.getElem?_eq_getElem (by omega)]; simp)
  simp only []
  split
  · intro h; cases h
  split
  · intro h; cases h
  split
  · intro h; cases h
  split
  · intro h; cases h
  intro _
  simp only []
  omega

theorem drewN_zero (w : World) : ∃ q, w = w.drewN q := ⟨0, rfl⟩

end Go.Proofs.Ytdgnjalbpiciiaa.Wi

/- WM8 -/
namespace Go.Proofs.Ytdgnjalbpiciiaa.Wi
set_option linter.unusedVariables false
set_option linter.unusedSimpArgs false
open Go.Proofs.Ytdgnjalbpiciiaa

theorem wide_pos (u : Nat) : 0 < wide u → 0 < u := by
  intro h
  rcases Nat.eq_zero_or_pos u with h0 | h0
  · subst h0; rw [wide_zero] at h; omega
  · exact h0


theorem be_at (u k : Nat) : (u : Int) / 2 ^ (8 * k) % 256 = ((u / 256 ^ k % 256 : Nat) : Int) := by
  have : ((2 : Int) ^ (8 * k)) = ((256 ^ k : Nat) : Int) := by rw [Int.pow_mul]; simp
  rw [this]; simp



theorem be_mod (a b : Nat) : ∀ k, be (a * 256 ^ k + b) k = be b k := by
  have aux : ∀ k j, k ≤ j → be (a * 256 ^ j + b) k = be b k := by
    intro k
    induction k with
    | zero => intros; rfl
    | succ k ih =>
      intro j hj
      rw [be, be, ih j (by omega), be_at, be_at]
      obtain ⟨d, rfl⟩ : ∃ d, j = k + 1 + d := ⟨j - (k + 1), by omega⟩
      have e : a * 256 ^ (k + 1 + d) = a * 256 ^ d * 256 * 256 ^ k := by
        rw [Nat.pow_add, Nat.pow_succ]
        simp only [Nat.mul_assoc, Nat.mul_comm, Nat.mul_left_comm]
      rw [e, Nat.add_comm, Nat.add_mul_div_right _ _ (Nat.pow_pos (by omega)), Nat.add_mul_mod_self_right]
  intro k
  exact aux k k (Nat.le_refl _)

theorem be_ofBe (l : List Int) (hl : ∀ x ∈ l, 0 ≤ x ∧ x < 256) : be (ofBe l) l.length = l := by
  induction l with
  | nil => rfl
  | cons x l ih =>
    have hx := hl x (by simp)
    have hb := ofBe_lt l (fun y hy => (hl y (by simp [hy])).2)
    rw [ofBe_cons, List.length_cons, be, be_mod, ih (fun y hy => hl y (by simp [hy])), be_at]
    have : (x.toNat * 256 ^ l.length + ofBe l) / 256 ^ l.length = x.toNat := by
      rw [Nat.mul_comm, Nat.mul_add_div (Nat.pow_pos (by omega)), Nat.div_eq_of_lt hb]; rfl
    rw [this, Nat.mod_eq_of_lt (by omega)]
    congr 1; omega

theorem wide_of (u k : Nat) (hu : u < 18446744073709551616) (h1 : u < 256 ^ k) (h2 : 0 < k → 256 ^ (k - 1) ≤ u) : wide u = k := by
  have hb := wide_bound u u (by omega) hu
  rcases Nat.lt_trichotomy (wide u) k with h | h | h
  · exfalso
    have h3 := h2 (by omega)
    have h4 : 256 ^ wide u ≤ 256 ^ (k - 1) := Nat.pow_le_pow_right (by omega) (by omega)
    omega
  · exact h
  · exfalso
    have hp := wide_pos u (by omega)
    have h3 := hb.2 hp
    have h4 : 256 ^ k ≤ 256 ^ (wide u - 1) := Nat.pow_le_pow_right (by omega) (by omega)
    omega

/-- What is read as a number is that number's bytes. -/
theorem numAt_back (xs : List Int) (hr : ∀ x ∈ xs, 0 ≤ x ∧ x < 256) (N S : Nat) (ht : numAt xs = (N, S, 0)) : num N = xs.take S ∧ N ≤ 9223372036854775807 := by
  unfold numAt at ht
  split at ht
  · simp at ht
  simp only [] at ht
  split at ht
  · simp at ht
  split at ht
  · simp at ht
  split at ht
  · simp at ht
  split at ht
  · simp at ht
  rename_i hl h8 hk h1 h127
  simp only [Prod.mk.injEq] at ht
  obtain ⟨rfl, rfl, _⟩ := ht
  match xs, hl with
  | x :: r, _ =>
    have hx := hr x (by simp)
    simp only [List.getD_cons_zero, List.length_cons] at h8 hk h1 h127 ⊢
    simp only [List.drop_succ_cons, List.drop_zero]
    have hlen : (r.take x.toNat).length = x.toNat := by simp only [List.length_take]; omega
    have hrr : ∀ z ∈ r.take x.toNat, 0 ≤ z ∧ z < 256 := fun z hz => hr z (by simp [List.mem_of_mem_take hz])
    have hg : 0 < x.toNat → (r.take x.toNat).getD 0 0 = (x :: r).getD 1 0 := by
      intro h
      simp only [List.getD_eq_getElem?_getD, List.getElem?_take]
      rw [if_pos h]; rfl
    have hb := ofBe_lt (r.take x.toNat) (fun z hz => (hrr z hz).2)
    have hmax : ofBe (r.take x.toNat) ≤ 9223372036854775807 := by
      refine ofBe_bound _ hrr (by omega) (fun e => ?_)
      rw [hlen] at e
      rw [hg (by omega)]; omega
    have hlow : 0 < x.toNat → 256 ^ (x.toNat - 1) ≤ ofBe (r.take x.toNat) := by
      intro h
      have hz := hg h
      match hq : r.take x.toNat with
      | [] => rw [hq] at hlen; simp at hlen; omega
      | z :: q =>
        rw [hq] at hlen hz
        simp only [List.getD_cons_zero] at hz
        simp only [List.length_cons] at hlen
        rw [ofBe_cons]
        have hzz := hrr z (by rw [hq]; simp)
        have : 1 ≤ z.toNat := by omega
        have h2 := Nat.mul_le_mul_right (256 ^ q.length) this
        rw [Nat.one_mul] at h2
        rw [show x.toNat - 1 = q.length from by omega]
        omega
    rw [hlen] at hb
    have hw := wide_of _ _ (by omega) hb hlow
    refine ⟨?_, hmax⟩
    have hbe := be_ofBe (r.take x.toNat) hrr
    rw [hlen] at hbe
    unfold num
    rw [hw, hbe]
    have : ((x.toNat : Nat) : Int) = x := by omega
    rw [this, Nat.add_comm 1, List.take_succ_cons]

end Go.Proofs.Ytdgnjalbpiciiaa.Wi

/- WR1 -/
namespace Go.Proofs.Ytdgnjalbpiciiaa.Wi
set_option linter.unusedVariables false
set_option linter.unusedSimpArgs false
open Go.Proofs.Ytdgnjalbpiciiaa
open Go.RowKit

theorem own_lit {w : World} (B : Nat) (C : Array Value) (l : List Int) (hC : C = (l.map (Value.int .u8)).toArray) (hB : B ≤ w.heap.size) (hl : l.length ≤ 1000) :
    (w.alloc (.cells C 5)).ownsRow B 5 1 (.slice (some ⟨w.heap.size, 0, none⟩) l.length l.length) l.length (l.map (Value.int .u8)) := by
  subst hC
  refine ⟨by simp, .inr ⟨w.heap.size, l.length, _, rfl, hB, heap_alloc_new w _, Nat.le_refl _, by unfold maxLen; omega, by simp, ?_⟩⟩
  simp [List.take_of_length_le]

theorem owns_weaken {w : World} {B B' n : Nat} {v : Value} {xs : List Value} (h : w.ownsRow B' 5 1 v n xs) (hB : B ≤ B') : w.ownsRow B 5 1 v n xs := by
  refine ⟨h.1, ?_⟩
  rcases h.2 with h2 | ⟨g, cap, cur, h1, hb, r⟩
  · exact .inl h2
  · exact .inr ⟨g, cap, cur, h1, Nat.le_trans hB hb, r⟩

theorem be_snoc (u : Nat) : ∀ k, be u (k + 1) = be (u / 256) k ++ [(u : Int) % 256]
  | 0 => by simp [be]
  | k + 1 => by
    have e : (u : Int) / 2 ^ (8 * (k + 1)) % 256 = ((u / 256 : Nat) : Int) / 2 ^ (8 * k) % 256 := by
      have h1 : ((2 : Int) ^ (8 * (k + 1))) = 256 * 2 ^ (8 * k) := by rw [Nat.mul_add, Int.pow_add]; simp; rw [Int.mul_comm]
      rw [h1, ← Int.ediv_ediv_of_nonneg (by omega)]; simp
    rw [be, be_snoc u k, be, e, List.cons_append]

/-- A number's digits by 256: the last one apart. -/
theorem digits_step (u : Nat) (h0 : 0 < u) (h : u < 18446744073709551616) : be u (wide u) = be (u / 256) (wide (u / 256)) ++ [(u : Int) % 256] := by
  rw [wide_step u h0 h, be_snoc]

end Go.Proofs.Ytdgnjalbpiciiaa.Wi

/- WR2 -/
namespace Go.Proofs.Ytdgnjalbpiciiaa.Wi
set_option linter.unusedVariables false
set_option linter.unusedSimpArgs false
open Go.Proofs.Ytdgnjalbpiciiaa
open Go.RowKit

end Go.Proofs.Ytdgnjalbpiciiaa.Wi
