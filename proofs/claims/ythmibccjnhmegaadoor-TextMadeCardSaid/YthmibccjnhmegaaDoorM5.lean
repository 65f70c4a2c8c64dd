/-
  Plain facts: the number that a text is, or why it is none.
-/
import Derived.Test.YthmibccjnhmegaaDoorM4
namespace Go.Proofs.YthmibccjnhmegaaDoor
set_option linter.unusedVariables false
set_option linter.unusedSimpArgs false

def isDigit (b : Nat) : Bool := decide (48 ≤ b) && decide (b ≤ 57)
def byteAt (s : ByteArray) (k : Nat) : Nat := (s.get! k).toNat

theorem byteAt_eq (s : ByteArray) (k : Nat) (h : k < s.size) : byteAt s k = (s[k]'h).toNat := by
  unfold byteAt; rw [show s.get! k = s[k]'h from get_at s k h]
theorem byteAt_lt (s : ByteArray) (k : Nat) : byteAt s k < 256 := by unfold byteAt; exact UInt8.toNat_lt _

/-- A predicate that holds of ASCII alone, over the runes and over the bytes. -/
theorem ascii_bytes (q : Nat → Bool) (hq : ∀ r, 128 ≤ r → q r = false) (s : ByteArray) : ∀ f p, s.size ≤ p + f → p ≤ s.size →
    ((steps s f p).all (fun x => q x.2) = true ↔ ∀ i, p ≤ i → i < s.size → q (byteAt s i) = true)
  | 0, p, hf, hp => by
    have : p = s.size := by omega
    subst this
    simp [steps]
    intro i h1 h2; omega
  | f + 1, p, hf, hp => by
    by_cases h : p < s.size
    · rw [steps_cons s f p h]
      have e1 : q (Utf8.decode s p).1 = q (byteAt s p) ∧ (q (byteAt s p) = true → (Utf8.decode s p).2 = 1) := by
        rw [byteAt_eq s p h]
        by_cases hl : (s[p]'h).toNat < 128
        · rw [decode_ascii s p h hl]; exact ⟨rfl, fun _ => rfl⟩
        · have h1 := (decode_high s p h (by omega)).1
          rw [hq _ h1, hq _ (by omega)]
          exact ⟨rfl, fun h => by cases h⟩
      obtain ⟨e1, e2⟩ := e1
      have hi := dec_in s p h
      have i1 := ascii_bytes q hq s f (p + (Utf8.decode s p).2) (by have := dec_pos s p h; omega) hi
      simp only [List.all_cons, Bool.and_eq_true]
      constructor
      · rintro ⟨a, b⟩ i h1 h2
        rw [e1] at a
        have w1 := e2 a
        rw [w1] at b i1
        by_cases hip : i = p
        · rw [hip]; exact a
        · exact i1.1 b i (by omega) h2
      · intro hall
        have a := hall p (Nat.le_refl _) h
        have w1 := e2 a
        refine ⟨by rw [e1]; exact a, ?_⟩
        rw [w1] at i1 ⊢
        exact i1.2 fun i h1 h2 => hall i (by omega) h2
    · have : p = s.size := by omega
      subst this
      rw [steps_end s _ _ h]
      simp
      intro i h1 h2; omega

theorem isDigit_high (r : Nat) (h : 128 ≤ r) : isDigit r = false := by unfold isDigit; simp; omega

def allDig (s : ByteArray) : Bool := (List.range s.size).all fun i => isDigit (byteAt s i)
theorem allDig_iff (s : ByteArray) : allDig s = true ↔ ∀ i, i < s.size → isDigit (byteAt s i) = true := by
  unfold allDig; simp [List.all_eq_true]
theorem allDig_runes (s : ByteArray) : (steps s s.size 0).all (fun x => isDigit x.2) = allDig s := by
  rw [Bool.eq_iff_iff]
  refine (ascii_bytes isDigit isDigit_high s s.size 0 (by omega) (Nat.zero_le _)).trans ?_
  rw [allDig_iff]
  exact ⟨fun h i hi => h i (Nat.zero_le _) hi, fun h i _ hi => h i hi⟩

def lead0 (s : ByteArray) : Bool := decide (1 < s.size) && decide (byteAt s 0 = 48)
def digB (s : ByteArray) : Bool := decide (1 ≤ s.size) && decide (s.size ≤ 19) && !lead0 s && allDig s

def valN (s : ByteArray) : Nat → Nat
  | 0 => 0
  | k + 1 => valN s k * 10 + (byteAt s k - 48)
def valB (s : ByteArray) : Nat := valN s s.size

theorem valN_lt (s : ByteArray) (h : allDig s = true) : ∀ k, k ≤ s.size → valN s k < 10 ^ k
  | 0, _ => by simp [valN]
  | k + 1, hk => by
    have ih := valN_lt s h k (by omega)
    have hd := (allDig_iff s).1 h k (by omega)
    unfold isDigit at hd
    simp only [Bool.and_eq_true, decide_eq_true_eq] at hd
    show valN s k * 10 + (byteAt s k - 48) < 10 ^ (k + 1)
    rw [Nat.pow_succ]
    omega
theorem valN_18 (s : ByteArray) (h : allDig s = true) (k : Nat) (hk : k ≤ s.size) (h18 : k ≤ 18) : valN s k ≤ 999999999999999999 := by
  have h1 := valN_lt s h k hk
  have h2 : 10 ^ k ≤ 10 ^ 18 := Nat.pow_le_pow_right (by decide) h18
  have h3 : (10 : Nat) ^ 18 = 1000000000000000000 := by decide
  omega
theorem valN_mono (s : ByteArray) : ∀ j k, k ≤ k + j → valN s k ≤ valN s (k + j)
  | 0, k, _ => Nat.le_refl _
  | j + 1, k, _ => by
    have := valN_mono s j k (by omega)
    show valN s k ≤ valN s (k + j) * 10 + (byteAt s (k + j) - 48)
    omega
theorem valN_le (s : ByteArray) (k : Nat) (h : k ≤ s.size) : valN s k ≤ valB s := by
  have := valN_mono s (s.size - k) k (by omega)
  rw [show k + (s.size - k) = s.size by omega] at this
  exact this
theorem valB_19 (s : ByteArray) (h : allDig s = true) (h19 : s.size ≤ 19) : valB s ≤ 9999999999999999999 := by
  have h1 := valN_lt s h s.size (Nat.le_refl _)
  have h2 : 10 ^ s.size ≤ 10 ^ 19 := Nat.pow_le_pow_right (by decide) h19
  have h3 : (10 : Nat) ^ 19 = 10000000000000000000 := by decide
  unfold valB
  omega

def minusB (s : ByteArray) : Bool := decide (0 < s.size) && decide (byteAt s 0 = 45)
def bodyB (s : ByteArray) : ByteArray := if minusB s = true then s.extract 1 s.size else s

theorem bytes_head (s : ByteArray) (h : 0 < s.size) : s.data.toList = s.get! 0 :: s.data.toList.drop 1 := by
  have h1 := get_list s 0 h
  cases hs : s.data.toList with
  | nil => rw [hs] at h1; cases h1
  | cons a l => rw [hs] at h1; simp at h1; rw [h1]; rfl

theorem prefix_minus (s : ByteArray) : Lib.hasPrefix s.data.toList [45] = minusB s := by
  unfold Lib.hasPrefix minusB
  by_cases h : 0 < s.size
  · rw [bytes_head s h]
    rw [decide_eq_true h, Bool.true_and]
    unfold byteAt
    rw [Bool.eq_iff_iff]
    simp [List.isPrefixOf]
    constructor
    · intro e; rw [← e]; rfl
    · intro e; exact UInt8.toNat_inj.1 e.symm
  · have : s.data.toList = [] := by
      apply List.eq_nil_of_length_eq_zero
      rw [← Lib.size_eq]; omega
    rw [this, decide_eq_false h]; rfl

theorem trim_body (s : ByteArray) : (⟨(Lib.trimPrefix s.data.toList [45]).toArray⟩ : ByteArray) = bodyB s := by
  unfold Lib.trimPrefix bodyB
  rw [prefix_minus]
  by_cases h : minusB s = true
  · rw [if_pos h, if_pos h]
    apply toList_inj
    rw [extract_list]
    simp only [List.length_singleton]
    rw [List.take_of_length_le]
    rw [List.length_drop, ← Lib.size_eq]; exact Nat.le_refl _
  · rw [if_neg h, if_neg h, bytes_back]

def tooBig (s : ByteArray) : Bool := (minusB s && decide (9223372036854775808 < valB (bodyB s))) || (!minusB s && decide (9223372036854775808 ≤ valB (bodyB s)))
def zeroB (d : ByteArray) : Bool := decide (d = ⟨#[48]⟩)
def badNum (s : ByteArray) : Bool := !digB (bodyB s) || (minusB s && zeroB (bodyB s))
def numE (s : ByteArray) : Int := if badNum s = true then 23 else if tooBig s = true then 5 else 0
def numV (s : ByteArray) : Int := if badNum s = true then 0 else if tooBig s = true then 0 else if minusB s = true then -(valB (bodyB s) : Int) else (valB (bodyB s) : Int)

end Go.Proofs.YthmibccjnhmegaaDoor
