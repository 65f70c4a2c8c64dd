/-
  Plain facts: a text of letters alone, by runes and by bytes.
-/
import Derived.Test.YtdfjnpnkfjcpcaaQB3
namespace Go.Proofs.Ytdfjnpnkfjcpcaa.Tx
open Go.Proofs.Ytdfjnpnkfjcpcaa
set_option linter.unusedVariables false
set_option linter.unusedSimpArgs false

theorem dec_of_byte (s : ByteArray) (p : Nat) (h : p < s.size) : letterB (Utf8.decode s p).1 = letterB (s.get! p).toNat ∧ (letterB (s.get! p).toNat = true → (Utf8.decode s p).2 = 1) := by
  have e : s.get! p = s[p]'h := get_at s p h
  rw [e]
  by_cases hl : (s[p]'h).toNat < 128
  · rw [decode_ascii s p h hl]; exact ⟨rfl, fun _ => rfl⟩
  · have h1 := (decode_high s p h (by omega)).1
    have a1 : letterB (Utf8.decode s p).1 = false := by unfold letterB; simp; omega
    have a2 : letterB (s[p]'h).toNat = false := by unfold letterB; simp; omega
    rw [a1, a2]
    exact ⟨rfl, fun h => by cases h⟩

theorem letters_bytes (s : ByteArray) : ∀ f p, s.size ≤ p + f → p ≤ s.size →
    ((steps s f p).all (fun x => letterB x.2) = true ↔ ∀ i, p ≤ i → i < s.size → letterB (s.get! i).toNat = true) ∧ ((steps s f p).all (fun x => letterB x.2) = true → (steps s f p).length = s.size - p)
  | 0, p, hf, hp => by
    have : p = s.size := by omega
    subst this
    simp [steps]
    intro i h1 h2; omega
  | f + 1, p, hf, hp => by
    by_cases h : p < s.size
    · rw [steps_cons s f p h]
      obtain ⟨e1, e2⟩ := dec_of_byte s p h
      have hi := dec_in s p h
      have hw := dec_pos s p h
      obtain ⟨i1, i2⟩ := letters_bytes s f (p + (Utf8.decode s p).2) (by omega) hi
      simp only [List.all_cons, Bool.and_eq_true, List.length_cons]
      constructor
      · constructor
        · rintro ⟨a, b⟩ i h1 h2
          rw [e1] at a
          have w1 := e2 a
          rw [w1] at b i1
          by_cases hip : i = p
          · rw [hip]; exact a
          · exact i1.1 b i (by omega) h2
        · intro hall
          have a := hall p (Nat.le_refl _) h
          have w1 := e2 a
          refine ⟨by rw [e1]; exact a, ?_⟩
          rw [w1] at i1 ⊢
          exact i1.2 fun i h1 h2 => hall i (by omega) h2
      · rintro ⟨a, b⟩
        rw [e1] at a
        have w1 := e2 a
        rw [w1] at b i2 ⊢
        have := i2 b
        omega
    · have : p = s.size := by omega
      subst this
      rw [steps_end s _ _ h]
      simp
      intro i h1 h2; omega

def nacc (s : ByteArray) (k : Nat) : Bool := decide (1 ≤ s.size) && decide (s.size ≤ 8) && (List.range k).all (fun i => letterB (s.get! i).toNat)
theorem nacc_zero (s : ByteArray) : nacc s 0 = (decide (1 ≤ s.size) && decide (s.size ≤ 8)) := by simp [nacc]
theorem nacc_succ (s : ByteArray) (k : Nat) : nacc s (k + 1) = (nacc s k && letterB (s.get! k).toNat) := by
  unfold nacc
  rw [List.range_succ, List.all_append]
  simp [Bool.and_assoc]
theorem nacc_all (s : ByteArray) : nacc s s.size = madeB s 1 8 letterB := by
  obtain ⟨a, b⟩ := letters_bytes s s.size 0 (by omega) (by omega)
  unfold nacc madeB runesOf
  simp only [List.length_map, List.all_map]
  have ha : (steps s s.size 0).all (letterB ∘ fun x => x.2) = (List.range s.size).all (fun i => letterB (s.get! i).toNat) := by
    rw [Bool.eq_iff_iff]
    refine Iff.trans a ?_
    simp [List.all_eq_true]
  rw [ha]
  cases hc : (List.range s.size).all (fun i => letterB (s.get! i).toNat) with
  | false => simp
  | true =>
    rw [b (by rw [← hc]; exact ha)]
    simp

end Go.Proofs.Ytdfjnpnkfjcpcaa.Tx
