/-
  Plain facts on 32 bits and the sum: no program in it.
-/
import Derived.Laws.Bits64b
namespace Go.Proofs.Ytnfpobbdcjfcoaa
set_option linter.unusedVariables false
set_option linter.unusedSimpArgs false

theorem wrap_u32 (n : Int) : IntKind.u32.wrap n = n % 4294967296 := by simp [IntKind.wrap, IntKind.bits, IntKind.signed]

theorem ofInt_u32 (a : Nat) (ha : a < 4294967296) : (BitVec.ofInt 32 (a : Int)).toNat = a := by
  rw [BitVec.ofInt_natCast, BitVec.toNat_ofNat]; exact Nat.mod_eq_of_lt (by omega)

theorem xor_u32_lt (a b : Nat) (ha : a < 4294967296) (hb : b < 4294967296) : a ^^^ b < 4294967296 := Nat.xor_lt_two_pow (n := 32) (by omega) (by omega)

theorem xor_u32 (a b : Nat) (ha : a < 4294967296) (hb : b < 4294967296) : bits .xor .u32 (a : Int) (b : Int) = ((a ^^^ b : Nat) : Int) := by
  have hx := xor_u32_lt a b ha hb
  show IntKind.u32.wrap ((BitVec.ofInt 32 (a : Int) ^^^ BitVec.ofInt 32 (b : Int)).toNat : Int) = _
  rw [BitVec.toNat_xor, ofInt_u32 a ha, ofInt_u32 b hb, wrap_u32]
  omega

theorem and15_u32 (a : Nat) (ha : a < 4294967296) : bits .and .u32 (a : Int) 15 = ((a % 16 : Nat) : Int) := by
  show IntKind.u32.wrap ((BitVec.ofInt 32 (a : Int) &&& BitVec.ofInt 32 ((15 : Nat) : Int)).toNat : Int) = _
  rw [BitVec.toNat_and, ofInt_u32 a ha, ofInt_u32 15 (by omega), show a &&& 15 = a % 16 from Nat.and_two_pow_sub_one_eq_mod a 4, wrap_u32]
  omega

/-- The table's numbers. -/
def tab : List Nat := [0, 724315118, 1448630236, 2104785970, 2897260472, 2275181654, 4209571940, 3519337354, 3370071343, 3824361153, 2659672819, 3047901469, 1685035671, 1329836409, 842517835, 421258917]

def tabAt (i : Nat) : Nat := tab.getD i 0

/-- Four bits of a sum; a byte; all of them. -/
def four (c : Nat) : Nat := c / 16 ^^^ tabAt (c % 16)
def upd (c : Nat) (x : Int) : Nat := four (four (c ^^^ x.toNat))
def crc (l : List Int) : Nat := l.foldl upd 4294967295

theorem tabAt_lt (i : Nat) : tabAt i < 4294967296 := by
  unfold tabAt
  by_cases h : i < 16
  · have : ∀ j : Fin 16, tab.getD j.val 0 < 4294967296 := by decide
    exact this ⟨i, h⟩
  · rw [List.getD_eq_getElem?_getD, List.getElem?_eq_none (by simp [tab]; omega)]; decide
theorem four_lt (c : Nat) (h : c < 4294967296) : four c < 4294967296 := xor_u32_lt _ _ (by omega) (tabAt_lt _)
theorem upd_lt (c : Nat) (x : Int) (h : c < 4294967296) (h1 : x < 256) : upd c x < 4294967296 := four_lt _ (four_lt _ (xor_u32_lt _ _ h (by omega)))
theorem fold_lt (l : List Int) (hl : ∀ x ∈ l, x < 256) : ∀ c, c < 4294967296 → l.foldl upd c < 4294967296 := by
  induction l with
  | nil => intro c h; exact h
  | cons x l ih => intro c h; exact ih (fun y hy => hl y (by simp [hy])) _ (upd_lt c x h (hl x (by simp)))
theorem crc_lt (l : List Int) (hl : ∀ x ∈ l, x < 256) : crc l < 4294967296 := fold_lt l hl _ (by decide)
theorem fold_snoc (l : List Int) (k c : Nat) (h : k < l.length) : (l.take (k + 1)).foldl upd c = upd ((l.take k).foldl upd c) (l.getD k 0) := by
  rw [List.take_succ_eq_append_getElem h, List.foldl_append, List.getD_eq_getElem?_getD, List.getElem?_eq_getElem h]; rfl
theorem not_u32 (a : Nat) (ha : a < 4294967296) : bits .xor .u32 IntKind.u32.max (a : Int) = ((4294967295 - a : Nat) : Int) := by
  show IntKind.u32.wrap ((BitVec.ofInt 32 IntKind.u32.max ^^^ BitVec.ofInt 32 (a : Int)).toNat : Int) = _
  have h1 : BitVec.ofInt 32 IntKind.u32.max = BitVec.allOnes 32 := by decide
  rw [h1, BitVec.allOnes_xor, BitVec.toNat_not, ofInt_u32 a ha, wrap_u32]
  omega

theorem or_u32 (a b : Nat) (ha : a < 4294967296) (hb : b < 4294967296) : bits .or .u32 (a : Int) (b : Int) = ((a ||| b : Nat) : Int) := by
  have hx : a ||| b < 2 ^ 32 := Nat.or_lt_two_pow (by omega) (by omega)
  show IntKind.u32.wrap ((BitVec.ofInt 32 (a : Int) ||| BitVec.ofInt 32 (b : Int)).toNat : Int) = _
  rw [BitVec.toNat_or, ofInt_u32 a ha, ofInt_u32 b hb, wrap_u32]
  omega

/-- A low part beside a high one. -/
theorem or_add (k a y : Nat) (ha : a < 2 ^ k) : a ||| y * 2 ^ k = a + y * 2 ^ k := by
  rw [Nat.or_comm, Nat.mul_comm, ← Nat.two_pow_add_eq_or_of_lt ha, Nat.add_comm]

theorem or_u32_8 (a y : Nat) (ha : a < 256) (hy : y < 256) : bits .or .u32 (a : Int) ((y : Int) * 256) = ((a + y * 256 : Nat) : Int) := by
  rw [show (y : Int) * 256 = ((y * 256 : Nat) : Int) by omega, or_u32 _ _ (by omega) (by omega), or_add 8 a y ha]
theorem or_u32_16 (a y : Nat) (ha : a < 65536) (hy : y < 256) : bits .or .u32 (a : Int) ((y : Int) * 65536) = ((a + y * 65536 : Nat) : Int) := by
  rw [show (y : Int) * 65536 = ((y * 65536 : Nat) : Int) by omega, or_u32 _ _ (by omega) (by omega), or_add 16 a y ha]
theorem or_u32_24 (a y : Nat) (ha : a < 16777216) (hy : y < 256) : bits .or .u32 (a : Int) ((y : Int) * 16777216) = ((a + y * 16777216 : Nat) : Int) := by
  rw [show (y : Int) * 16777216 = ((y * 16777216 : Nat) : Int) by omega, or_u32 _ _ (by omega) (by omega), or_add 24 a y ha]

theorem wrap_i64 (n : Int) (h0 : 0 ≤ n) (h1 : n ≤ 9223372036854775807) : IntKind.i64.wrap n = n := by
  simp [IntKind.wrap, IntKind.bits, IntKind.signed]; omega
theorem or_i64_8 (a y : Nat) (ha : a * 256 + y ≤ 9223372036854775807) (hy : y < 256) : bits .or .i64 ((a : Int) * 256) (y : Int) = ((a * 256 + y : Nat) : Int) := by
  have hx := or_add 8 y a hy
  rw [Nat.or_comm] at hx
  have h1 : (BitVec.ofInt 64 ((a * 256 : Nat) : Int)).toNat = a * 256 := by
    rw [BitVec.ofInt_natCast, BitVec.toNat_ofNat]; exact Nat.mod_eq_of_lt (by omega)
  have h2 : (BitVec.ofInt 64 (y : Int)).toNat = y := by
    rw [BitVec.ofInt_natCast, BitVec.toNat_ofNat]; exact Nat.mod_eq_of_lt (by omega)
  show IntKind.i64.wrap ((BitVec.ofInt 64 ((a : Int) * 256) ||| BitVec.ofInt 64 (y : Int)).toNat : Int) = _
  rw [show (a : Int) * 256 = ((a * 256 : Nat) : Int) by omega, BitVec.toNat_or, h1, h2, hx, wrap_i64 _ (by omega) (by omega)]
  omega

end Go.Proofs.Ytnfpobbdcjfcoaa
