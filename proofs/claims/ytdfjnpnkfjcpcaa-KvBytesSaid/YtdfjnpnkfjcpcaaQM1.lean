/-
  Plain facts: a text's runes, one behind the other, and its stretches between runes of a kind.
-/
import Derived.Lib.RuneCountTail
import Derived.Laws.RangeAny
namespace Go.Proofs.Ytdfjnpnkfjcpcaa.Tx
open Go.Proofs.Ytdfjnpnkfjcpcaa
set_option linter.unusedVariables false
set_option linter.unusedSimpArgs false

/-- Where each rune of a text begins, and which it is. -/
def steps (s : ByteArray) : Nat → Nat → List (Nat × Nat)
  | 0, _ => []
  | f + 1, p => if p < s.size then (p, (Utf8.decode s p).1) :: steps s f (p + (Utf8.decode s p).2) else []
def runesOf (s : ByteArray) : List Nat := (steps s s.size 0).map (·.2)
def placesOf (s : ByteArray) : List Nat := (steps s s.size 0).map (·.1)

theorem dec_pos (s : ByteArray) (p : Nat) (h : p < s.size) : 1 ≤ (Utf8.decode s p).2 := Lib.decode_width_pos s p h

theorem dec_in (s : ByteArray) (p : Nat) (h : p < s.size) : p + (Utf8.decode s p).2 ≤ s.size := by
  simp only [Utf8.decode]
  repeat' split
  all_goals simp_all
  all_goals omega

theorem dec_ascii (s : ByteArray) (p : Nat) (h : p < s.size) (ha : (Utf8.decode s p).1 < 128) : Utf8.decode s p = ((s[p]'h).toNat, 1) ∧ (s[p]'h).toNat < 128 := by
  by_cases hl : (s[p]'h).toNat < 128
  · exact ⟨decode_ascii s p h hl, hl⟩
  · have := (decode_high s p h (by omega)).1; omega

theorem steps_end (s : ByteArray) (f p : Nat) (h : ¬ p < s.size) : steps s f p = [] := by
  cases f <;> simp [steps, h]

theorem steps_cons (s : ByteArray) (f p : Nat) (h : p < s.size) : steps s (f + 1) p = (p, (Utf8.decode s p).1) :: steps s f (p + (Utf8.decode s p).2) := by
  simp [steps, h]

theorem steps_fuel (s : ByteArray) : ∀ f g p, s.size - p ≤ f → s.size - p ≤ g → steps s f p = steps s g p
  | 0, g, p, hf, _ => by rw [steps_end s g p (by omega)]; rfl
  | f + 1, 0, p, _, hg => by rw [steps_end s (f + 1) p (by omega)]; rfl
  | f + 1, g + 1, p, hf, hg => by
    unfold steps
    by_cases h : p < s.size
    · have hw := dec_pos s p h
      rw [if_pos h, if_pos h, steps_fuel s f g _ (by omega) (by omega)]
    · rw [if_neg h, if_neg h]

theorem steps_length (s : ByteArray) : ∀ f p, (steps s f p).length ≤ f
  | 0, _ => Nat.le_refl _
  | f + 1, p => by
    unfold steps
    by_cases h : p < s.size
    · rw [if_pos h]; have := steps_length s f (p + (Utf8.decode s p).2); simp only [List.length_cons]; omega
    · rw [if_neg h]; simp

theorem steps_rune_le (s : ByteArray) : ∀ f p, ∀ x ∈ steps s f p, x.2 ≤ 2147483647
  | 0, _ => by intro x hx; cases hx
  | f + 1, p => by
    intro x hx
    unfold steps at hx
    by_cases h : p < s.size
    · rw [if_pos h] at hx
      rcases List.mem_cons.1 hx with rfl | hx
      · exact decode_le s p
      · exact steps_rune_le s f _ x hx
    · rw [if_neg h] at hx; cases hx

/-- A text's stretches between runes of a kind, from a stretch's begin and a place on. -/
def partsFrom (s : ByteArray) (r : Int) : Nat → Nat → Nat → List ByteArray
  | 0, a, _ => [s.extract a s.size]
  | f + 1, a, p => if p < s.size then (if ((Utf8.decode s p).1 : Int) = r then s.extract a p :: partsFrom s r f (p + (Utf8.decode s p).2) (p + (Utf8.decode s p).2) else partsFrom s r f a (p + (Utf8.decode s p).2)) else [s.extract a s.size]
def partsOf (s : ByteArray) (r : Int) : List ByteArray := partsFrom s r s.size 0 0

theorem partsFrom_end (s : ByteArray) (r : Int) (f a p : Nat) (h : ¬ p < s.size) : partsFrom s r f a p = [s.extract a s.size] := by
  cases f <;> simp [partsFrom, h]
theorem partsFrom_hit (s : ByteArray) (r : Int) (f a p : Nat) (h : p < s.size) (hr : ((Utf8.decode s p).1 : Int) = r) : partsFrom s r (f + 1) a p = s.extract a p :: partsFrom s r f (p + (Utf8.decode s p).2) (p + (Utf8.decode s p).2) := by
  simp [partsFrom, h, hr]
theorem partsFrom_miss (s : ByteArray) (r : Int) (f a p : Nat) (h : p < s.size) (hr : ((Utf8.decode s p).1 : Int) ≠ r) : partsFrom s r (f + 1) a p = partsFrom s r f a (p + (Utf8.decode s p).2) := by
  simp [partsFrom, h, hr]
theorem partsFrom_length (s : ByteArray) (r : Int) : ∀ f a p, 1 ≤ (partsFrom s r f a p).length ∧ (partsFrom s r f a p).length ≤ f + 1
  | 0, a, p => by simp [partsFrom]
  | f + 1, a, p => by
    by_cases h : p < s.size
    · by_cases hr : ((Utf8.decode s p).1 : Int) = r
      · rw [partsFrom_hit s r f a p h hr]
        have := partsFrom_length s r f (p + (Utf8.decode s p).2) (p + (Utf8.decode s p).2)
        simp only [List.length_cons]; omega
      · rw [partsFrom_miss s r f a p h hr]
        have := partsFrom_length s r f a (p + (Utf8.decode s p).2)
        omega
    · rw [partsFrom_end s r _ a p h]; simp

theorem partsFrom_fuel (s : ByteArray) (r : Int) : ∀ f g a p, s.size - p ≤ f → s.size - p ≤ g → partsFrom s r f a p = partsFrom s r g a p
  | 0, g, a, p, hf, _ => by rw [partsFrom_end s r g a p (by omega)]; rfl
  | f + 1, 0, a, p, _, hg => by rw [partsFrom_end s r (f + 1) a p (by omega)]; rfl
  | f + 1, g + 1, a, p, hf, hg => by
    by_cases h : p < s.size
    · have hw := dec_pos s p h
      by_cases hr : ((Utf8.decode s p).1 : Int) = r
      · rw [partsFrom_hit s r f a p h hr, partsFrom_hit s r g a p h hr, partsFrom_fuel s r f g _ _ (by omega) (by omega)]
      · rw [partsFrom_miss s r f a p h hr, partsFrom_miss s r g a p h hr, partsFrom_fuel s r f g _ _ (by omega) (by omega)]
    · rw [partsFrom_end s r _ a p h, partsFrom_end s r _ a p h]

/-- At a place in the midst: what went ahead, and how many. -/
theorem places_at (s : ByteArray) {pre : List (Nat × Nat)} {b p : Nat} (h : steps s s.size 0 = pre ++ steps s b p) (hb : s.size ≤ p + b) (hp : p < s.size) :
    (placesOf s ++ [s.size])[pre.length]? = some p ∧ (placesOf s ++ [s.size])[pre.length + 1]? = some (p + (Utf8.decode s p).2) ∧ pre.length < (placesOf s).length := by
  have hw := dec_pos s p hp
  have hi := dec_in s p hp
  obtain ⟨b, rfl⟩ : ∃ c, b = c + 1 := ⟨b - 1, by omega⟩
  rw [steps_cons s b p hp] at h
  unfold placesOf
  rw [h]
  refine ⟨by simp, ?_, by simp⟩
  by_cases hq : p + (Utf8.decode s p).2 < s.size
  · obtain ⟨b, rfl⟩ : ∃ c, b = c + 1 := ⟨b - 1, by omega⟩
    rw [steps_cons s b _ hq]
    simp
  · rw [steps_end s b _ hq]
    simp only [List.map_append, List.map_cons, List.map_nil, List.append_assoc, List.cons_append, List.nil_append]
    rw [List.getElem?_append_right (by simp)]
    simp
    omega

theorem all_at_end (s : ByteArray) {pre : List (Nat × Nat)} {b p : Nat} (h : steps s s.size 0 = pre ++ steps s b p) (hp : ¬ p < s.size) : steps s s.size 0 = pre := by
  rw [steps_end s b p hp, List.append_nil] at h; exact h

theorem step_on (s : ByteArray) {pre : List (Nat × Nat)} {b p : Nat} (h : steps s s.size 0 = pre ++ steps s (b + 1) p) (hp : p < s.size) :
    steps s s.size 0 = (pre ++ [(p, (Utf8.decode s p).1)]) ++ steps s b (p + (Utf8.decode s p).2) := by
  rw [steps_cons s b p hp] at h; rw [h]; simp

end Go.Proofs.Ytdfjnpnkfjcpcaa.Tx
