/-
  Plain facts: how long keys, values and names are; that they are UTF-8; their last rune.
-/
import Derived.Test.YthmibccjnhmegaaDoorM6
import Derived.Test.YthmibccjnhmegaaDoorM2
import Derived.Lib.ValidU
import Derived.Lib.SpaceU
namespace Go.Proofs.YthmibccjnhmegaaDoor
set_option linter.unusedVariables false
set_option linter.unusedSimpArgs false

theorem dec_w4 (s : ByteArray) (p : Nat) : (Utf8.decode s p).2 ≤ 4 := by
  simp only [Utf8.decode]
  repeat' split
  all_goals simp

theorem size_le4 (s : ByteArray) : ∀ f p, s.size ≤ p + f → s.size - p ≤ 4 * (steps s f p).length
  | 0, p, h => by omega
  | f + 1, p, h => by
    by_cases hp : p < s.size
    · rw [steps_cons s f p hp, List.length_cons]
      have := size_le4 s f (p + (Utf8.decode s p).2) (by have := dec_pos s p hp; omega)
      have := dec_w4 s p
      omega
    · omega

theorem mk_drop (s : ByteArray) (p : Nat) : (⟨(s.data.toList.drop p).toArray⟩ : ByteArray) = s.extract p s.size := by
  apply toList_inj
  rw [extract_list, List.take_of_length_le (by rw [List.length_drop, ← Lib.size_eq]; exact Nat.le_refl _)]

theorem decodeL_drop (s : ByteArray) (p : Nat) : Lib.decodeL (s.data.toList.drop p) = Utf8.decode s p := by
  unfold Lib.decodeL
  rw [mk_drop, Lib.tail_decode]; rfl

theorem valid_from (s : ByteArray) : ∀ n p, (∀ x ∈ steps s n p, x.2 ≠ 65533) → Lib.validGoD n (s.data.toList.drop p) = true
  | 0, p, _ => rfl
  | n + 1, p, h => by
    unfold Lib.validGoD
    by_cases hp : p < s.size
    · rw [steps_cons s n p hp] at h
      have h1 := h _ (List.mem_cons_self ..)
      have hne : s.data.toList.drop p ≠ [] := by
        intro e
        have := congrArg List.length e
        rw [List.length_drop, ← Lib.size_eq] at this
        simp at this; omega
      rw [if_neg hne, decodeL_drop, if_neg (fun e => h1 e.1), List.drop_drop]
      exact valid_from s n _ fun x hx => h x (List.mem_cons_of_mem _ hx)
    · have e : s.data.toList.drop p = [] := by
        apply List.drop_eq_nil_of_le; rw [← Lib.size_eq]; omega
      rw [e]; rfl

theorem plain_valid (s : ByteArray) (h : (runesOf s).all plainB = true) : Lib.validD s.data.toList = true := by
  have := valid_from s s.size 0 (fun x hx => by
    intro e
    have h1 := List.all_eq_true.1 h x.2 (List.mem_map.2 ⟨x, hx, rfl⟩)
    rw [e] at h1
    revert h1; decide)
  rw [List.drop_zero] at this
  unfold Lib.validD
  rw [← Lib.size_eq]; exact this

theorem made_parts {s : ByteArray} {lo hi : Nat} {p : Nat → Bool} (h : madeB s lo hi p = true) : lo ≤ (runesOf s).length ∧ (runesOf s).length ≤ hi ∧ (runesOf s).all p = true := by
  unfold madeB at h
  simp only [Bool.and_eq_true, decide_eq_true_eq] at h
  exact ⟨h.1.1, h.1.2, h.2⟩
theorem made_of {s : ByteArray} {lo hi : Nat} {p : Nat → Bool} (h1 : lo ≤ (runesOf s).length) (h2 : (runesOf s).length ≤ hi) (h3 : (runesOf s).all p = true) : madeB s lo hi p = true := by
  unfold madeB; rw [decide_eq_true h1, decide_eq_true h2, h3]; rfl
theorem made_size {s : ByteArray} {lo hi : Nat} {p : Nat → Bool} (h : madeB s lo hi p = true) : s.size ≤ 4 * hi := by
  have h1 := (made_parts h).2.1
  have h2 := size_le4 s s.size 0 (by omega)
  unfold runesOf at h1
  rw [List.length_map] at h1
  omega
theorem made_some {s : ByteArray} {lo hi : Nat} {p : Nat → Bool} (h : madeB s lo hi p = true) (hl : 1 ≤ lo) : 0 < s.size := by
  have h1 := (made_parts h).1
  rcases Nat.eq_zero_or_pos s.size with h0 | h0
  · unfold runesOf at h1
    rw [steps_end s _ _ (by omega)] at h1
    simp at h1; omega
  · exact h0
theorem letter_plain (s : ByteArray) (h : (runesOf s).all letterB = true) : (runesOf s).all plainB = true := by
  rw [List.all_eq_true] at h ⊢
  intro x hx
  have := h x hx
  unfold letterB at this
  simp only [Bool.and_eq_true, decide_eq_true_eq] at this
  unfold plainB
  simp; omega
theorem name_key {s : ByteArray} (h : madeB s 1 8 letterB = true) : madeB s 1 24 plainB = true := by
  obtain ⟨h1, h2, h3⟩ := made_parts h
  exact made_of h1 (by omega) (letter_plain s h3)
theorem key_value {s : ByteArray} (h : madeB s 1 24 plainB = true) : madeB s 0 48 plainB = true := by
  obtain ⟨h1, h2, h3⟩ := made_parts h
  exact made_of (Nat.zero_le _) (by omega) h3
theorem name_size {s : ByteArray} (h : madeB s 1 8 letterB = true) : s.size ≤ 8 := by
  have := nacc_all s
  rw [h] at this
  unfold nacc at this
  simp only [Bool.and_eq_true, decide_eq_true_eq] at this
  exact this.1.2

/-! The last rune. -/

theorem dec_tail2 (s : ByteArray) (p k : Nat) (h1 : 1 ≤ k) (h2 : k < (Utf8.decode s p).2) : (s.get! (p + k)).toNat / 64 = 2 := by
  simp only [Utf8.decode] at h2
  repeat' split at h2
  all_goals simp only [] at h2
  all_goals first | omega | skip
  all_goals
    rename_i hc _
    simp only [Bool.and_eq_true, decide_eq_true_eq, beq_iff_eq] at hc
  all_goals
    have : k = 1 ∨ k = 2 ∨ k = 3 := by omega
    rcases this with rfl | rfl | rfl <;> omega

theorem dec_lead (s : ByteArray) (p : Nat) (h : 1 < (Utf8.decode s p).2) : (s.get! p).toNat / 64 = 3 := by
  simp only [Utf8.decode, Nat.add_zero] at h
  have hb := (s.get! p).toNat_lt
  repeat' split at h
  all_goals simp only [] at h
  all_goals first | omega | skip
  all_goals
    rename_i hc _
    simp only [Bool.and_eq_true, decide_eq_true_eq, beq_iff_eq] at hc
    omega

theorem dec_high1 (s : ByteArray) (p : Nat) (hb : 128 ≤ (s.get! p).toNat) (h : (Utf8.decode s p).2 = 1) : (Utf8.decode s p).1 = 65533 := by
  generalize hx : Utf8.decode s p = x at h ⊢
  simp only [Utf8.decode, Nat.add_zero, Utf8.runeError] at hx
  repeat' split at hx
  all_goals subst hx
  all_goals first | rfl | (exfalso; simp only at h; omega) | (exfalso; omega)

/-- A byte that goes on no rune begins one. -/
theorem visited (s : ByteArray) (i : Nat) (hi : i < s.size) (hb : (s.get! i).toNat / 64 ≠ 2) : ∀ f p, p ≤ i → s.size ≤ p + f → (i, (Utf8.decode s i).1) ∈ steps s f p
  | 0, p, h1, h2 => by omega
  | f + 1, p, h1, h2 => by
    have hp : p < s.size := by omega
    rw [steps_cons s f p hp]
    by_cases e : p = i
    · subst e; exact List.mem_cons_self ..
    · refine List.mem_cons_of_mem _ (visited s i hi hb f _ ?_ (by have := dec_pos s p hp; omega))
      rcases Nat.lt_or_ge i (p + (Utf8.decode s p).2) with h | h
      · exfalso
        apply hb
        have := dec_tail2 s p (i - p) (by omega) (by omega)
        rw [show p + (i - p) = i by omega] at this
        exact this
      · exact h

theorem append_get (s t : ByteArray) : (s ++ t).get! s.size = t.get! 0 := by
  rw [← Lib.getD_get!', ← Lib.getD_get!']
  rw [show (s ++ t).data.toList = s.data.toList ++ t.data.toList by simp]
  rw [List.getD_eq_getElem?_getD, List.getD_eq_getElem?_getD, List.getElem?_append_right (by rw [← Lib.size_eq]; exact Nat.le_refl _), ← Lib.size_eq, Nat.sub_self]

theorem behind_bad (s : ByteArray) (b : UInt8) (hb : b.toNat / 64 ≠ 2) (hd : ∀ t : ByteArray, ∀ p, p < t.size → t.get! p = b → plainB (Utf8.decode t p).1 = false) (lo hi : Nat) : madeB (s ++ ⟨#[b]⟩) lo hi plainB = false := by
  have hz : (s ++ (⟨#[b]⟩ : ByteArray)).size = s.size + 1 := by rw [ByteArray.size_append]; rfl
  have hg : (s ++ (⟨#[b]⟩ : ByteArray)).get! s.size = b := append_get s ⟨#[b]⟩
  have hv := visited (s ++ (⟨#[b]⟩ : ByteArray)) s.size (by omega) (by rw [hg]; exact hb) (s ++ (⟨#[b]⟩ : ByteArray)).size 0 (Nat.zero_le _) (by omega)
  have hp := hd (s ++ (⟨#[b]⟩ : ByteArray)) s.size (by omega) hg
  cases hm : madeB (s ++ ⟨#[b]⟩) lo hi plainB with
  | false => rfl
  | true =>
    have := List.all_eq_true.1 (made_parts hm).2.2 _ (List.mem_map.2 ⟨_, hv, rfl⟩)
    rw [hp] at this; cases this

theorem behind1 (s : ByteArray) (lo hi : Nat) : madeB (s ++ ⟨#[1]⟩) lo hi plainB = false :=
  behind_bad s 1 (by decide) (fun t p h e => by
    have e' : t[p]'h = 1 := (get_at t p h).symm.trans e
    rw [decode_ascii t p h (by rw [e']; decide), e']; decide) lo hi
theorem behind255 (s : ByteArray) (lo hi : Nat) : madeB (s ++ ⟨#[255]⟩) lo hi plainB = false :=
  behind_bad s 255 (by decide) (fun t p h e => by
    have e1 : (t.get! p).toNat = 255 := by rw [e]; rfl
    have : Utf8.decode t p = (65533, 1) := by
      simp only [Utf8.decode, Nat.add_zero, e1]; rfl
    rw [this]; decide) lo hi

/-- From a place on to another one, rune by rune. -/
inductive Reach (s : ByteArray) (p : Nat) : Nat → List (Nat × Nat) → Prop
  | here : Reach s p p []
  | step {q : Nat} {l : List (Nat × Nat)} : q < p → Reach s p (q + (Utf8.decode s q).2) l → Reach s p q ((q, (Utf8.decode s q).1) :: l)

theorem Reach.le {s : ByteArray} {p q : Nat} {l : List (Nat × Nat)} (h : Reach s p q l) : q ≤ p := by
  cases h with
  | here => exact Nat.le_refl _
  | step h1 _ => omega

theorem Reach.pos {s : ByteArray} {p q : Nat} {l : List (Nat × Nat)} (h : Reach s p q l) : 0 < l.length ↔ q < p := by
  cases h with
  | here => simp
  | step h1 _ => simp; exact h1

theorem reach_of (s : ByteArray) : ∀ (pre : List (Nat × Nat)) (f q : Nat) (x : Nat × Nat), steps s f q = pre ++ [x] → s.size ≤ q + f → q ≤ s.size → Reach s x.1 q pre ∧ x.1 < s.size ∧ x.2 = (Utf8.decode s x.1).1 ∧ x.1 + (Utf8.decode s x.1).2 = s.size
  | [], f, q, x, h, hf, hq => by
    rw [List.nil_append] at h
    cases f with
    | zero => simp [steps] at h
    | succ f =>
      by_cases hp : q < s.size
      · rw [steps_cons s f q hp] at h
        simp only [List.cons.injEq] at h
        obtain ⟨rfl, h2⟩ := h
        have hi := dec_in s q hp
        refine ⟨.here, hp, rfl, ?_⟩
        show q + (Utf8.decode s q).2 = s.size
        rcases Nat.lt_or_ge (q + (Utf8.decode s q).2) s.size with h3 | h3
        · have hw := dec_pos s q hp
          obtain ⟨f, rfl⟩ : ∃ c, f = c + 1 := ⟨f - 1, by omega⟩
          rw [steps_cons s f _ h3] at h2; cases h2
        · omega
      · rw [steps_end s _ q hp] at h; cases h
  | y :: pre, f, q, x, h, hf, hq => by
    cases f with
    | zero => simp [steps] at h
    | succ f =>
      by_cases hp : q < s.size
      · rw [steps_cons s f q hp] at h
        simp only [List.cons_append, List.cons.injEq] at h
        obtain ⟨rfl, h2⟩ := h
        have hi := dec_in s q hp
        have hw := dec_pos s q hp
        obtain ⟨a, b, c⟩ := reach_of s pre f _ x h2 (by omega) hi
        exact ⟨.step (by have := a.le; omega) a, b, c⟩
      · rw [steps_end s _ q hp] at h; cases h

theorem Reach.front {s : ByteArray} {p q : Nat} {l : List (Nat × Nat)} (h : Reach s p q l) (hp : p ≤ s.size) : ∀ f, p ≤ q + f → steps (s.extract 0 p) f q = l := by
  induction h with
  | here => intro f _; exact steps_end _ _ _ (by rw [ext_size s 0 p hp]; omega)
  | step h1 h2 ih =>
    rename_i q l
    intro f hf
    have hle := h2.le
    have e := ext_decode s 0 p q hp (Nat.zero_le _) h1 hle
    rw [Nat.sub_zero] at e
    obtain ⟨f, rfl⟩ : ∃ c, f = c + 1 := ⟨f - 1, by omega⟩
    rw [steps_cons _ _ _ (by rw [ext_size s 0 p hp]; omega), e, ih f (by have := dec_pos s q (by omega); omega)]

theorem list_get (s : ByteArray) (p : Nat) : s.data.toList.getD p 0 = s.get! p := Lib.getD_get!' s p

/-- The last rune's width, of a text whose runes are all plain. -/
theorem last_width (s : ByteArray) (p : Nat) (hp : p < s.size) (hend : p + (Utf8.decode s p).2 = s.size) (hr : (Utf8.decode s p).1 ≠ 65533) : (Lib.decodeLastL s.data.toList).2 = (Utf8.decode s p).2 := by
  have hw := dec_pos s p hp
  have hw4 := dec_w4 s p
  have hne : s.data.toList ≠ [] := by
    intro e
    have h0 : s.size = 0 := by rw [Lib.size_eq, e]; rfl
    omega
  unfold Lib.decodeLastL
  rw [if_neg hne, ← Lib.size_eq, list_get]
  by_cases h1 : (Utf8.decode s p).2 = 1
  · have e : s.size - 1 = p := by omega
    rw [e]
    have hb : (s.get! p).toNat < 128 := by
      rcases Nat.lt_or_ge (s.get! p).toNat 128 with h | h
      · exact h
      · exact absurd (dec_high1 s p h h1) hr
    rw [if_pos hb, h1]
  · have h2 : 1 < (Utf8.decode s p).2 := by omega
    have hlast := dec_tail2 s p ((Utf8.decode s p).2 - 1) (by omega) (by omega)
    rw [show p + ((Utf8.decode s p).2 - 1) = s.size - 1 by omega] at hlast
    rw [if_neg (by omega)]
    have hls : Lib.lastStart s.data.toList = p := by
      have hl := dec_lead s p h2
      have t1 : 2 < (Utf8.decode s p).2 → (s.get! (p + 1)).toNat / 64 = 2 := fun h => dec_tail2 s p 1 (by omega) (by omega)
      have t2 : 3 < (Utf8.decode s p).2 → (s.get! (p + 2)).toNat / 64 = 2 := fun h => dec_tail2 s p 2 (by omega) (by omega)
      unfold Lib.lastStart Lib.runeStartB
      simp only [← Lib.size_eq, list_get]
      have hc : (Utf8.decode s p).2 = 2 ∨ (Utf8.decode s p).2 = 3 ∨ (Utf8.decode s p).2 = 4 := by omega
      rcases hc with hc | hc | hc
      · have e2 : s.size - 2 = p := by omega
        rw [if_neg (by omega), e2, hl]; rfl
      · have e2 : s.size - 2 = p + 1 := by omega
        have e3 : s.size - 3 = p := by omega
        have n3 : ¬ s.size < 3 := by omega
        rw [if_neg (by omega), e2, e3, t1 (by omega), hl, if_neg (by decide), if_neg n3, if_pos (by decide)]
      · have e2 : s.size - 2 = p + 2 := by omega
        have e3 : s.size - 3 = p + 1 := by omega
        have e4 : s.size - 4 = p := by omega
        have n3 : ¬ s.size < 3 := by omega
        have n4 : ¬ s.size < 4 := by omega
        rw [if_neg (by omega), e2, e3, e4, t1 (by omega), t2 (by omega), hl, if_neg (by decide), if_neg n3, if_neg (by decide), if_neg n4, if_pos (by decide)]
    rw [hls, decodeL_drop]
    simp only [hend, if_true]

/-- Of a key: its last rune's width, and what is left without it. -/
theorem key_cut (s : ByteArray) (h : madeB s 1 24 plainB = true) : ∃ p, p < s.size ∧ (Lib.decodeLastL s.data.toList).2 = s.size - p ∧ madeB (s.extract 0 p) 1 24 plainB = decide (0 < p) := by
  obtain ⟨h1, h2, h3⟩ := made_parts h
  unfold runesOf at h1 h2 h3
  rw [List.length_map] at h1 h2
  rw [List.all_map] at h3
  have hne : steps s s.size 0 ≠ [] := by intro e; rw [e] at h1; simp at h1
  obtain ⟨pre, x, hx⟩ : ∃ pre x, steps s s.size 0 = pre ++ [x] := ⟨_, _, (List.dropLast_concat_getLast hne).symm⟩
  obtain ⟨a, b, c, d⟩ := reach_of s pre s.size 0 x hx (by omega) (Nat.zero_le _)
  rw [hx] at h2 h3
  rw [List.all_append, Bool.and_eq_true] at h3
  have hpx : plainB x.2 = true := by simpa using h3.2
  refine ⟨x.1, b, ?_, ?_⟩
  · rw [last_width s x.1 b d (by intro e; rw [← c] at e; rw [e] at hpx; revert hpx; decide)]
    omega
  · have hf := a.front (by omega) (s.extract 0 x.1).size (by rw [ext_size s 0 x.1 (by omega)]; omega)
    unfold madeB runesOf
    rw [hf]
    simp only [List.length_map, List.all_map]
    rw [show pre.all (plainB ∘ fun x => x.2) = true from h3.1]
    simp only [List.length_append, List.length_singleton] at h2
    rw [decide_eq_true (show pre.length ≤ 24 by omega)]
    simp only [Bool.and_true]
    rw [decide_eq_decide]
    have := a.pos
    omega

end Go.Proofs.YthmibccjnhmegaaDoor
