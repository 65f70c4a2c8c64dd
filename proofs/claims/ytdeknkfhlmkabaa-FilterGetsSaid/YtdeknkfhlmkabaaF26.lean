/-
  What was read is the filter's bytes.
-/
import Derived.Test.YtdeknkfhlmkabaaF25
namespace Go.Proofs.Ytdeknkfhlmkabaa
set_option linter.unusedVariables false
set_option linter.unusedSimpArgs false
open Go.RowKit

theorem sb_strOf (l : List Int) (h : ∀ x ∈ l, 0 ≤ x ∧ x < 256) : Wi.sb (strOfNums l) = l := by
  unfold Wi.sb
  rw [strOfNums_data, List.map_map]
  conv => rhs; rw [← List.map_id l]
  apply List.map_congr_left
  intro x hx
  have := h x hx
  show ((UInt8.ofNat x.toNat).toNat : Int) = x
  rw [UInt8.toNat_ofNat']
  omega
section
variable {xs : List Int} (hr : ∀ x ∈ xs, 0 ≤ x ∧ x < 256)
include hr
theorem drop_num {i N S : Nat} (ht : Wi.numAt (xs.drop i) = (N, S, 0)) : xs.drop i = Wi.num N ++ xs.drop (i + S) ∧ i + S ≤ xs.length ∧ N ≤ 9223372036854775807 := by
  have hb := Wi.numAt_back (xs.drop i) (fun x hx => hr x (List.mem_of_mem_drop hx)) N S ht
  have ho := Wi.numAt_ok (xs.drop i) (fun x hx => hr x (List.mem_of_mem_drop hx)) (by rw [ht])
  rw [ht, List.length_drop] at ho
  simp only at ho
  refine ⟨?_, by omega, hb.2⟩
  rw [hb.1, ← List.drop_drop, List.take_append_drop]
theorem nm_read {p : Nat × Int} (h : (nmF xs p).2.2 = 0) : p.2 = 0 ∧ xs.drop p.1 = Wi.num (nmF xs p).1.toNat ++ xs.drop (nmF xs p).2.1 ∧ p.1 ≤ (nmF xs p).2.1 ∧ (nmF xs p).2.1 ≤ xs.length ∧ 0 ≤ (nmF xs p).1 ∧ (nmF xs p).1 ≤ 9223372036854775807 := by
  unfold nmF at *
  by_cases h0 : p.2 = 0
  · rw [if_neg (by simp [h0])] at h ⊢
    obtain ⟨N, S, E, ht⟩ : ∃ N S E, Wi.numAt (xs.drop p.1) = (N, S, E) := ⟨_, _, _, rfl⟩
    simp only [ht] at h ⊢
    by_cases h1 : E = 0
    · subst h1
      rw [if_pos rfl]
      obtain ⟨a, b, c⟩ := drop_num hr ht
      simp only [Int.toNat_natCast]
      exact ⟨h0, a, by omega, b, by omega, by omega⟩
    · rw [if_neg h1] at h
      exact absurd h h1
  · rw [if_pos h0] at h
    exact absurd h h0
theorem tx_read {most : Nat} {p : Nat × Int} (h : (txF xs most p).2.2 = 0) : p.2 = 0 ∧ xs.drop p.1 = (Wi.num (txF xs most p).1.size ++ Wi.sb (txF xs most p).1) ++ xs.drop (txF xs most p).2.1 ∧ p.1 ≤ (txF xs most p).2.1 ∧ (txF xs most p).2.1 ≤ xs.length := by
  unfold txF at *
  by_cases h0 : p.2 = 0
  · rw [if_neg (by simp [h0])] at h ⊢
    obtain ⟨N, S, E, ht⟩ : ∃ N S E, Wi.numAt (xs.drop p.1) = (N, S, E) := ⟨_, _, _, rfl⟩
    simp only [ht] at h ⊢
    by_cases h1 : E = 0
    · subst h1
      rw [if_neg (by simp)] at h ⊢
      by_cases h2 : most < N
      · rw [if_pos h2] at h; simp at h
      · rw [if_neg h2] at h ⊢
        by_cases h3 : p.1 + S + N ≤ xs.length
        · rw [if_pos h3]
          obtain ⟨a, b, c⟩ := drop_num hr ht
          simp only
          refine ⟨h0, ?_, by omega, h3⟩
          rw [strOfNums_size, List.length_take, List.length_drop, Nat.min_eq_left (by omega), sb_strOf _ (fun x hx => hr x (List.mem_of_mem_drop (List.mem_of_mem_take hx))), a, List.append_assoc]
          congr 1
          have hh : xs.drop (p.1 + S + N) = (xs.drop (p.1 + S)).drop N := by rw [List.drop_drop]
          rw [hh, List.take_append_drop]
        · rw [if_neg h3] at h; simp at h
    · rw [if_pos (by simpa using h1)] at h
      exact absurd h h1
  · rw [if_pos h0] at h
    exact absurd h h0
theorem tk_bytes : ∀ (m : Nat) (st : Nat × Int) (ah : Nat), ah ≤ 24 → (tk xs m st ah).ok = true → st.2 = 0 ∧ xs.drop st.1 = flB m (tk xs m st ah).f ++ xs.drop (tk xs m st ah).st.1 ∧ st.1 ≤ (tk xs m st ah).st.1 ∧ (tk xs m st ah).st.1 ≤ xs.length
  | 0, st, ah, _, h => by simp [tk] at h
  | m + 1, st, ah, hah, h => by
    obtain ⟨h1, h2, h3, h4⟩ := tk_parts h
    have h5 := rd4_ok h3
    rw [h4]
    simp only [flB, headB, Fl.kind, Fl.name, Fl.text, Fl.kids]
    have r4 := nm_read hr (show (nmF xs (rd3 xs st).2).2.2 = 0 from h5)
    have r3 := tx_read hr (show (txF xs 192 (rd2 xs st).2).2.2 = 0 from r4.1)
    have r2 := tx_read hr (show (txF xs 192 (rd1 xs st).2).2.2 = 0 from r3.1)
    have r1 := nm_read hr (show (nmF xs st).2.2 = 0 from r2.1)
    have hN := tks_ah (tk xs m) (tk_ah xs m) _ _ (ah + 1) (by omega) h2
    have hk : ∀ j, j ≤ (rd4 xs st).1.toNat → xs.drop (rd4 xs st).2.1 = (tks (tk xs m) j (rd4 xs st).2 (ah + 1)).ks.flatMap (flB m) ++ xs.drop (tks (tk xs m) j (rd4 xs st).2 (ah + 1)).st.1 ∧ (rd4 xs st).2.1 ≤ (tks (tk xs m) j (rd4 xs st).2 (ah + 1)).st.1 ∧ (tks (tk xs m) j (rd4 xs st).2 (ah + 1)).st.1 ≤ xs.length ∧ (tks (tk xs m) j (rd4 xs st).2 (ah + 1)).ks.length = j := by
      intro j
      induction j with
      | zero => intro _; exact ⟨by simp [tks], Nat.le_refl _, r4.2.2.2.1, by simp [tks]⟩
      | succ j ih =>
        intro hj
        obtain ⟨i1, i2, i3, i4⟩ := ih (by omega)
        have hp := tks_prefix h2 (show j ≤ _ by omega)
        obtain ⟨k1, k2⟩ := tks_kid (tks_prefix h2 hj)
        have hb := (tks_ah (tk xs m) (tk_ah xs m) j _ (ah + 1) (by omega) hp).2
        obtain ⟨b1, b2, b3, b4⟩ := tk_bytes m _ _ hb k1
        rw [k2]
        simp only
        refine ⟨?_, by omega, b4, by simp [i4]⟩
        rw [List.flatMap_append, i1, b2]
        simp
    obtain ⟨k1, k2, k3, k4⟩ := hk _ (Nat.le_refl _)
    refine ⟨r1.1, ?_, ?_, k3⟩
    · rw [k4, r1.2.1]
      rw [show xs.drop (nmF xs st).2.1 = xs.drop (rd1 xs st).2.1 from rfl, r2.2.1]
      rw [show xs.drop (txF xs 192 (rd1 xs st).2).2.1 = xs.drop (rd2 xs st).2.1 from rfl, r3.2.1]
      rw [show xs.drop (txF xs 192 (rd2 xs st).2).2.1 = xs.drop (rd3 xs st).2.1 from rfl, r4.2.1]
      rw [show xs.drop (nmF xs (rd3 xs st).2).2.1 = xs.drop (rd4 xs st).2.1 from rfl, k1]
      simp only [List.append_assoc]
      rfl
    · have a1 := r1.2.2.1
      have a2 := r2.2.2.1
      have a3 := r3.2.2.1
      have a4 := r4.2.2.1
      have e1 : (rd1 xs st).2.1 = (nmF xs st).2.1 := rfl
      have e2 : (rd2 xs st).2.1 = (txF xs 192 (rd1 xs st).2).2.1 := rfl
      have e3 : (rd3 xs st).2.1 = (txF xs 192 (rd2 xs st).2).2.1 := rfl
      have e4 : (rd4 xs st).2.1 = (nmF xs (rd3 xs st).2).2.1 := rfl
      omega
end
/-- The bytes between the two places. -/
theorem tk_between {xs : List Int} (hr : ∀ x ∈ xs, 0 ≤ x ∧ x < 256) {m ah : Nat} {st : Nat × Int} (hah : ah ≤ 24) (h : (tk xs m st ah).ok = true) : (xs.drop st.1).take ((tk xs m st ah).st.1 - st.1) = flB m (tk xs m st ah).f := by
  obtain ⟨_, h1, h2, h3⟩ := tk_bytes hr m st ah hah h
  have hl := congrArg List.length h1
  rw [List.length_append, List.length_drop, List.length_drop] at hl
  rw [h1, List.take_append_of_le_length (by omega), List.take_of_length_le (by omega)]
end Go.Proofs.Ytdeknkfhlmkabaa
