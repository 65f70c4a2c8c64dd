/-
  Plain facts: a number, and a frame, has one form.
-/
import Derived.Test.YtnfpobbdcjfcoaaWb5
namespace Go.Proofs.Ytnfpobbdcjfcoaa
set_option linter.unusedVariables false
set_option linter.unusedSimpArgs false

theorem bitLen_zero : Lib.bitLen 0 = 0 := rfl

theorem wide_zero : wide 0 = 0 := rfl

theorem wide_step (u : Nat) (h0 : 0 < u) (h : u < 18446744073709551616) : wide u = wide (u / 256) + 1 := by
  unfold wide
  by_cases h1 : 256 ≤ u
  · rw [Lib.bitLen_shift8 u h1 h]; omega
  · have e : u / 256 = 0 := by omega
    have h8 := Lib.bitLen_le u 8 (by omega) (by omega)
    have hp : Lib.bitLen u = 1 + Lib.bitLen (u / 2) := Lib.bitLen_half u (by omega) (by omega)
    rw [e, bitLen_zero]; omega

theorem wide_pos (u : Nat) : 0 < wide u → 0 < u := by
  intro h
  rcases Nat.eq_zero_or_pos u with h0 | h0
  · subst h0; rw [wide_zero] at h; omega
  · exact h0


theorem be_at (u k : Nat) : (u : Int) / 2 ^ (8 * k) % 256 = ((u / 256 ^ k % 256 : Nat) : Int) := by
  have : ((2 : Int) ^ (8 * k)) = ((256 ^ k : Nat) : Int) := by rw [Int.pow_mul]; simp
  rw [this]; simp

theorem wide_bound : ∀ (n u : Nat), u ≤ n → u < 18446744073709551616 → u < 256 ^ wide u ∧ (0 < u → 256 ^ (wide u - 1) ≤ u)
  | 0, u, h, _ => by
    obtain rfl : u = 0 := by omega
    simp [wide_zero]
  | n + 1, u, h, hu => by
    rcases Nat.eq_zero_or_pos u with h0 | h0
    · subst h0; simp [wide_zero]
    · have ih := wide_bound n (u / 256) (by omega) (by omega)
      rw [wide_step u h0 hu, Nat.add_sub_cancel]
      refine ⟨?_, fun _ => ?_⟩
      · rw [Nat.pow_succ]; omega
      · rcases Nat.eq_zero_or_pos (u / 256) with h1 | h1
        · rw [h1, wide_zero]; simp; omega
        · have h2 := ih.2 h1
          have hw : wide (u / 256) = wide (u / 256) - 1 + 1 := by
            have := wide_step (u / 256) h1 (by omega)
            omega
          rw [hw, Nat.pow_succ]; omega

theorem be_mod (a b : Nat) : ∀ k, be (a * 256 ^ k + b) k = be b k := by
  have aux : ∀ k j, k ≤ j → be (a * 256 ^ j + b) k = be b k := by
    intro k
    induction k with
    | zero => intros; rfl
    | succ k ih =>
      intro j hj
      rw [be, be, ih j (by omega), be_at, be_at]
      obtain ⟨d, rfl⟩ : ∃ d, j = k + 1 + d := ⟨j - (k + 1), by omega⟩
      have e : a * 256 ^ (k + 1 + d) = a * 256 ^ d * 256 * 256 ^ k := by
        rw [Nat.pow_add, Nat.pow_succ]
        simp only [Nat.mul_assoc, Nat.mul_comm, Nat.mul_left_comm]
      rw [e, Nat.add_comm, Nat.add_mul_div_right _ _ (Nat.pow_pos (by omega)), Nat.add_mul_mod_self_right]
  intro k
  exact aux k k (Nat.le_refl _)

theorem be_ofBe (l : List Int) (hl : ∀ x ∈ l, 0 ≤ x ∧ x < 256) : be (ofBe l) l.length = l := by
  induction l with
  | nil => rfl
  | cons x l ih =>
    have hx := hl x (by simp)
    have hb := ofBe_lt l (fun y hy => (hl y (by simp [hy])).2)
    rw [ofBe_cons, List.length_cons, be, be_mod, ih (fun y hy => hl y (by simp [hy])), be_at]
    have : (x.toNat * 256 ^ l.length + ofBe l) / 256 ^ l.length = x.toNat := by
      rw [Nat.mul_comm, Nat.mul_add_div (Nat.pow_pos (by omega)), Nat.div_eq_of_lt hb]; rfl
    rw [this, Nat.mod_eq_of_lt (by omega)]
    congr 1; omega

theorem wide_of (u k : Nat) (hu : u < 18446744073709551616) (h1 : u < 256 ^ k) (h2 : 0 < k → 256 ^ (k - 1) ≤ u) : wide u = k := by
  have hb := wide_bound u u (by omega) hu
  rcases Nat.lt_trichotomy (wide u) k with h | h | h
  · exfalso
    have h3 := h2 (by omega)
    have h4 : 256 ^ wide u ≤ 256 ^ (k - 1) := Nat.pow_le_pow_right (by omega) (by omega)
    omega
  · exact h
  · exfalso
    have hp := wide_pos u (by omega)
    have h3 := hb.2 hp
    have h4 : 256 ^ k ≤ 256 ^ (wide u - 1) := Nat.pow_le_pow_right (by omega) (by omega)
    omega

/-- What is read as a number is that number's bytes. -/
theorem numAt_back (xs : List Int) (hr : ∀ x ∈ xs, 0 ≤ x ∧ x < 256) (N S : Nat) (ht : numAt xs = (N, S, 0)) : num N = xs.take S ∧ N ≤ 9223372036854775807 := by
  unfold numAt at ht
  split at ht
  · simp at ht
  simp only [] at ht
  split at ht
  · simp at ht
  split at ht
  · simp at ht
  split at ht
  · simp at ht
  split at ht
  · simp at ht
  rename_i hl h8 hk h1 h127
  simp only [Prod.mk.injEq] at ht
  obtain ⟨rfl, rfl, _⟩ := ht
  match xs, hl with
  | x :: r, _ =>
    have hx := hr x (by simp)
    simp only [List.getD_cons_zero, List.length_cons] at h8 hk h1 h127 ⊢
    simp only [List.drop_succ_cons, List.drop_zero]
    have hlen : (r.take x.toNat).length = x.toNat := by simp only [List.length_take]; omega
    have hrr : ∀ z ∈ r.take x.toNat, 0 ≤ z ∧ z < 256 := fun z hz => hr z (by simp [List.mem_of_mem_take hz])
    have hg : 0 < x.toNat → (r.take x.toNat).getD 0 0 = (x :: r).getD 1 0 := by
      intro h
      simp only [List.getD_eq_getElem?_getD, List.getElem?_take]
      rw [if_pos h]; rfl
    have hb := ofBe_lt (r.take x.toNat) (fun z hz => (hrr z hz).2)
    have hmax : ofBe (r.take x.toNat) ≤ 9223372036854775807 := by
      refine ofBe_bound _ hrr (by omega) (fun e => ?_)
      rw [hlen] at e
      rw [hg (by omega)]; omega
    have hlow : 0 < x.toNat → 256 ^ (x.toNat - 1) ≤ ofBe (r.take x.toNat) := by
      intro h
      have hz := hg h
      match hq : r.take x.toNat with
      | [] => rw [hq] at hlen; simp at hlen; omega
      | z :: q =>
        rw [hq] at hlen hz
        simp only [List.getD_cons_zero] at hz
        simp only [List.length_cons] at hlen
        rw [ofBe_cons]
        have hzz := hrr z (by rw [hq]; simp)
        have : 1 ≤ z.toNat := by omega
        have h2 := Nat.mul_le_mul_right (256 ^ q.length) this
        rw [Nat.one_mul] at h2
        rw [show x.toNat - 1 = q.length from by omega]
        omega
    rw [hlen] at hb
    have hw := wide_of _ _ (by omega) hb hlow
    refine ⟨?_, hmax⟩
    have hbe := be_ofBe (r.take x.toNat) hrr
    rw [hlen] at hbe
    unfold num
    rw [hw, hbe]
    have : ((x.toNat : Nat) : Int) = x := by omega
    rw [this, Nat.add_comm 1, List.take_succ_cons]

end Go.Proofs.Ytnfpobbdcjfcoaa
