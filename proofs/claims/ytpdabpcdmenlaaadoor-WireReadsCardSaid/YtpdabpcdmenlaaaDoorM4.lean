/-
  Plain facts: a number's bytes are read as it, whatever stands behind; what is cut off is too short.
-/
import Derived.Test.YtpdabpcdmenlaaaDoorB6
import Derived.Test.YtpdabpcdmenlaaaDoorM3
namespace Go.Proofs.YtpdabpcdmenlaaaDoor
set_option linter.unusedVariables false
set_option linter.unusedSimpArgs false

theorem be_at (u k : Nat) : (u : Int) / 2 ^ (8 * k) % 256 = ((u / 256 ^ k % 256 : Nat) : Int) := by
  have : ((2 : Int) ^ (8 * k)) = ((256 ^ k : Nat) : Int) := by rw [Int.pow_mul]; simp
  rw [this]; simp

theorem ofBe_be (u : Nat) : ∀ k, ofBe (be u k) = u % 256 ^ k
  | 0 => by simp [be, ofBe, Nat.mod_one]
  | k + 1 => by
    rw [be, ofBe_cons, be_length, ofBe_be u k, be_at, Int.toNat_natCast, Nat.pow_succ, Nat.mod_mul]
    rw [Nat.mul_comm, Nat.add_comm]

theorem wide_le (u : Nat) (hu : u ≤ 9223372036854775807) : wide u ≤ 8 := by
  have hb := Lib.bitLen_le u 64 (by omega) (by omega)
  unfold wide; omega

/-- The first byte of a number's bytes. -/
theorem be_first (u : Nat) (h : 0 < wide u) : (be u (wide u)).getD 0 0 = ((u / 256 ^ (wide u - 1) % 256 : Nat) : Int) := by
  obtain ⟨k, hk⟩ : ∃ k, wide u = k + 1 := ⟨wide u - 1, by omega⟩
  rw [hk, be, List.getD_cons_zero, be_at, Nat.add_sub_cancel]

theorem wide_pos (u : Nat) : 0 < wide u → 0 < u := by
  intro h
  rcases Nat.eq_zero_or_pos u with h0 | h0
  · subst h0; rw [wide_zero] at h; omega
  · exact h0

theorem first_pos (u : Nat) (hu : u ≤ 9223372036854775807) (h : 0 < wide u) : 0 < u / 256 ^ (wide u - 1) ∧ u / 256 ^ (wide u - 1) < 256 := by
  have hb := wide_bound u u (by omega) (by omega)
  have h1 := hb.2 (wide_pos u h)
  refine ⟨Nat.div_pos h1 (Nat.pow_pos (by omega)), ?_⟩
  rw [Nat.div_lt_iff_lt_mul (Nat.pow_pos (by omega))]
  have : 256 ^ wide u = 256 * 256 ^ (wide u - 1) := by
    rw [Nat.mul_comm, ← Nat.pow_succ]; congr 1; omega
  omega

theorem numAt_num (u : Nat) (r : List Int) (hu : u ≤ 9223372036854775807) : numAt (num u ++ r) = (u, 1 + wide u, 0) := by
  have hw := wide_le u hu
  unfold numAt
  have hl : (num u ++ r).length = 1 + wide u + r.length := by simp [num, be_length]; omega
  have h0 : (num u ++ r).getD 0 0 = (wide u : Int) := by simp [num]
  have hd : ((num u ++ r).drop 1).take (wide u) = be u (wide u) := by
    simp [num, be_length]
  rw [if_neg (by omega)]
  simp only [h0]
  rw [if_neg (by omega), if_neg (by omega)]
  have h1 : 0 < wide u → (num u ++ r).getD 1 0 = ((u / 256 ^ (wide u - 1) % 256 : Nat) : Int) := by
    intro h
    rw [← be_first u h]
    have hlen := be_length u (wide u)
    simp only [num, List.cons_append, List.getD_eq_getElem?_getD]
    show (be u (wide u) ++ r)[0]?.getD 0 = _
    rw [List.getElem?_append_left (by omega)]
  rw [if_neg (fun ⟨ha, hb⟩ => by
    have hp := first_pos u hu (by omega)
    rw [h1 (by omega)] at hb
    have := Nat.mod_eq_of_lt hp.2
    omega)]
  rw [if_neg (fun ⟨ha, hb⟩ => by
    have h8 : wide u = 8 := by omega
    rw [h1 (by omega), h8] at hb
    have : u / 256 ^ 7 ≤ 127 := by omega
    have h2 : u / 256 ^ (8 - 1) % 256 ≤ u / 256 ^ (8 - 1) := Nat.mod_le _ _
    omega)]
  rw [Int.toNat_natCast, hd, ofBe_be, Nat.mod_eq_of_lt (wide_bound u u (by omega) (by omega)).1]

theorem numAt_cut (u : Nat) (r : List Int) (hu : u ≤ 9223372036854775807) (j : Nat) (hj : j ≤ wide u) : numAt ((num u ++ r).take j) = (0, 0, 2) := by
  have hw := wide_le u hu
  unfold numAt
  rcases Nat.eq_zero_or_pos j with h | h
  · subst h; simp
  have hl : ((num u ++ r).take j).length = j := by simp [num, be_length]; omega
  have h0 : ((num u ++ r).take j).getD 0 0 = (wide u : Int) := by
    obtain ⟨k, rfl⟩ : ∃ k, j = k + 1 := ⟨j - 1, by omega⟩
    simp [num]
  rw [if_neg (by omega)]
  simp only [h0]
  rw [if_neg (by omega), if_pos (by omega)]

theorem num_length (u : Nat) : (num u).length = 1 + wide u := by simp [num, be_length]; omega
theorem frame_length (p : List Int) : (frame p).length = 1 + wide p.length + p.length + 4 := by simp [frame, num_length, sum4]; omega

/-- What a frame that is cut off begins with. -/
theorem frame_cut (p : List Int) (hp : p.length ≤ 32768) (j : Nat) (hj : j < (frame p).length) :
    numAt ((frame p).take j) = (0, 0, 2) ∨ (numAt ((frame p).take j) = (p.length, 1 + wide p.length, 0) ∧ j < 1 + wide p.length + p.length + 4) := by
  rw [frame_length] at hj
  unfold frame
  rw [List.append_assoc]
  by_cases h : j ≤ wide p.length
  · exact .inl (numAt_cut _ _ (by omega) j h)
  · refine .inr ⟨?_, hj⟩
    have e : (num p.length ++ (p ++ sum4 (sumOf (num p.length ++ p)))).take j = num p.length ++ (p ++ sum4 (sumOf (num p.length ++ p))).take (j - (1 + wide p.length)) := by
      rw [List.take_append, num_length, List.take_of_length_le (by rw [num_length]; omega)]
    rw [e]
    exact numAt_num _ _ (by omega)

theorem wide_len (u : Nat) (hu : u ≤ 32768) : 1 + wide u ≤ 3 := by
  have hb := Lib.bitLen_le u 16 (by omega) (by omega)
  unfold wide; omega

theorem sum4_byte (c : Nat) (hc : c < 4294967296) : ∀ x ∈ sum4 c, 0 ≤ x ∧ x < 256 := by
  intro x hx
  simp only [sum4, List.mem_cons, List.not_mem_nil, or_false] at hx
  rcases hx with rfl | rfl | rfl | rfl <;> omega

theorem frame_bytes (p : List Int) (hl : p.length ≤ 32768) (hr : ∀ x ∈ p, 0 ≤ x ∧ x < 256) : ∀ x ∈ frame p, 0 ≤ x ∧ x < 256 := by
  intro x hx
  simp only [frame, List.mem_append] at hx
  rcases hx with (h | h) | h
  · exact num_byte _ (by omega) x h
  · exact hr x h
  · exact sum4_byte _ (sumOf_lt _) x h

end Go.Proofs.YtpdabpcdmenlaaaDoor
