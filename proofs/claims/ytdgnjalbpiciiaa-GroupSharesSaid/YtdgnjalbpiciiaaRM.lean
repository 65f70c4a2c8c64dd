/-
  The document's Share, plainly: the best come in order, and what they may have.
-/
import Derived.Test.YtdgnjalbpiciiaaRT
namespace Go.Proofs.Ytdgnjalbpiciiaa
set_option linter.unusedVariables false
set_option linter.unusedSimpArgs false

theorem rank_inj {o t : List Int} {x y : Int} (hx : x ∈ t) (hy : y ∈ t) (h : rank o t x = rank o t y) : x = y := by
  refine Classical.byContradiction fun hne => ?_
  cases hb : better o x y with
  | true => have := rank_lt_of_better hx hb; omega
  | false => have := rank_lt_of_better hy (better_total hne hb); omega
/-- Who is the best of the first so many of a team, those that were taken aside: its place, or -1. -/
def BestAt (o t : List Int) (k j : Nat) (b : Int) : Prop :=
  (b = -1 ∧ ∀ (i : Nat) (x : Int), i < j → t[i]? = some x → rank o t x < k) ∨
  ∃ (c : Nat) (y : Int), b = c ∧ c < j ∧ t[c]? = some y ∧ k ≤ rank o t y ∧ ∀ (i : Nat) (x : Int), i < j → t[i]? = some x → k ≤ rank o t x → i ≠ c → better o y x = true
theorem best_none (o t : List Int) (k : Nat) : BestAt o t k 0 (-1) := .inl ⟨rfl, fun i x h => by omega⟩
theorem best_skip {o t : List Int} {k j : Nat} {b x : Int} (h : BestAt o t k j b) (hx : t[j]? = some x) (hr : rank o t x < k) : BestAt o t k (j + 1) b := by
  rcases h with ⟨rfl, h⟩ | ⟨c, y, rfl, hc, hy, hk, h⟩
  · refine .inl ⟨rfl, fun i z hi hz => ?_⟩
    rcases Nat.lt_or_ge i j with h1 | h1
    · exact h i z h1 hz
    · obtain rfl : i = j := by omega
      rw [hx] at hz; cases hz; exact hr
  · refine .inr ⟨c, y, rfl, by omega, hy, hk, fun i z hi hz hkz hne => ?_⟩
    rcases Nat.lt_or_ge i j with h1 | h1
    · exact h i z h1 hz hkz hne
    · obtain rfl : i = j := by omega
      rw [hx] at hz; cases hz; omega
theorem best_first {o t : List Int} {k j : Nat} {x : Int} (h : BestAt o t k j (-1)) (hx : t[j]? = some x) (hr : k ≤ rank o t x) : BestAt o t k (j + 1) j := by
  rcases h with ⟨_, h⟩ | ⟨c, y, e, _⟩
  · refine .inr ⟨j, x, rfl, by omega, hx, hr, fun i z hi hz hkz hne => ?_⟩
    have := h i z (by omega) hz
    omega
  · omega
theorem best_new {o t : List Int} (ha : t.Pairwise (· < ·)) {k j c : Nat} {x y : Int} (h : BestAt o t k j c) (hx : t[j]? = some x) (hr : k ≤ rank o t x) (hy : t[c]? = some y) (hb : o.count y < o.count x) : BestAt o t k (j + 1) j := by
  rcases h with ⟨e, _⟩ | ⟨c', y', e, hc, hy', hk, h⟩
  · omega
  · obtain rfl : c' = c := by omega
    rw [hy] at hy'; cases hy'
    have hxy : better o x y = true := by simp only [better, decide_eq_true_eq]; omega
    refine .inr ⟨j, x, rfl, by omega, hx, hr, fun i z hi hz hkz hne => ?_⟩
    by_cases e1 : i = c'
    · subst e1; rw [hy] at hz; cases hz; exact hxy
    · exact better_trans hxy (h i z (by omega) hz hkz e1)
theorem best_old {o t : List Int} (ha : t.Pairwise (· < ·)) {k j c : Nat} {x y : Int} (h : BestAt o t k j c) (hx : t[j]? = some x) (hy : t[c]? = some y) (hb : ¬ o.count y < o.count x) : BestAt o t k (j + 1) c := by
  rcases h with ⟨e, _⟩ | ⟨c', y', e, hc, hy', hk, h⟩
  · omega
  · obtain rfl : c' = c := by omega
    rw [hy] at hy'; cases hy'
    refine .inr ⟨c', y, rfl, by omega, hy, hk, fun i z hi hz hkz hne => ?_⟩
    rcases Nat.lt_or_ge i j with h1 | h1
    · exact h i z h1 hz hkz hne
    · obtain rfl : i = j := by omega
      rw [hx] at hz; cases hz
      obtain ⟨l1, e1⟩ := List.getElem?_eq_some_iff.1 hy
      obtain ⟨l2, e2⟩ := List.getElem?_eq_some_iff.1 hx
      have := List.pairwise_iff_getElem.1 ha c' i l1 l2 hc
      simp only [better, decide_eq_true_eq]
      omega
theorem taken_count {o t : List Int} (hn : t.Nodup) : ∀ k, k ≤ t.length → t.countP (fun x => decide (rank o t x < k)) = k := by
  intro k hk
  exact rank_count hn k hk
theorem best_end {o t : List Int} (hn : t.Nodup) {k : Nat} {b : Int} (h : BestAt o t k t.length b) (hk : k < t.length) : ∃ (c : Nat) (y : Int), b = c ∧ t[c]? = some y ∧ rank o t y = k := by
  have hcnt := taken_count (o := o) hn k (by omega)
  rcases h with ⟨_, h⟩ | ⟨c, y, e, hc, hy, hky, h⟩
  · exfalso
    have : t.countP (fun x => decide (rank o t x < k)) = t.length := List.countP_eq_length.2 fun x hx => by
      obtain ⟨i, hi⟩ := List.mem_iff_getElem?.1 hx
      have := h i x (List.getElem?_eq_some_iff.1 hi).1 hi
      simpa using this
    omega
  · refine ⟨c, y, e, hy, ?_⟩
    have hym := List.mem_of_getElem? hy
    refine rank_next (E := fun x => decide (rank o t x < k)) (fun x _ => by simp) hcnt hym (by simp; omega) (fun x hx he hne => ?_)
    obtain ⟨i, hi⟩ := List.mem_iff_getElem?.1 hx
    have hi' := (List.getElem?_eq_some_iff.1 hi).1
    refine h i x hi' hi (by simpa using he) fun e' => ?_
    subst e'
    rw [hy] at hi; cases hi; exact hne rfl
/-- What is marked, and what each may have, when so many of the best were taken. -/
def exR (o t : List Int) (k : Nat) : List Bool := t.map fun x => decide (rank o t x < k)
def mayR (o t : List Int) (k : Nat) : List Int := t.map fun x => ((o.length / t.length + (if rank o t x < k then 1 else 0) : Nat) : Int)
theorem exR_step {o t : List Int} {k c : Nat} {y : Int} (hy : t[c]? = some y) (hr : rank o t y = k) (hn : t.Nodup) : exR o t (k + 1) = (exR o t k).set c true := by
  apply List.ext_getElem?
  intro i
  unfold exR
  rw [List.getElem?_set, List.getElem?_map, List.getElem?_map, List.length_map]
  have hc := (List.getElem?_eq_some_iff.1 hy).1
  by_cases e : c = i
  · subst e
    rw [if_pos rfl, if_pos hc, hy]
    simp; omega
  · rw [if_neg e]
    cases hi : t[i]? with
    | none => rfl
    | some x =>
      have hne : rank o t x ≠ k := fun e' => by
        have exy := rank_inj (List.mem_of_getElem? hi) (List.mem_of_getElem? hy) (e'.trans hr.symm)
        subst exy
        exact e ((List.getElem?_inj hc hn).1 (hy.trans hi.symm))
      simp only [Option.map_some, Option.some.injEq]
      by_cases h1 : rank o t x < k
      · rw [decide_eq_true h1, decide_eq_true (by omega)]
      · rw [decide_eq_false h1, decide_eq_false (by omega)]
theorem mayR_step {o t : List Int} {k c : Nat} {y : Int} (hy : t[c]? = some y) (hr : rank o t y = k) (hn : t.Nodup) : mayR o t (k + 1) = (mayR o t k).set c (((o.length / t.length : Nat) : Int) + 1) ∧ (mayR o t k)[c]? = some ((o.length / t.length : Nat) : Int) := by
  have hc := (List.getElem?_eq_some_iff.1 hy).1
  constructor
  · apply List.ext_getElem?
    intro i
    unfold mayR
    rw [List.getElem?_set, List.getElem?_map, List.getElem?_map, List.length_map]
    by_cases e : c = i
    · subst e
      rw [if_pos rfl, if_pos hc, hy]
      simp only [Option.map_some, Option.some.injEq]
      rw [if_pos (by omega)]; omega
    · rw [if_neg e]
      cases hi : t[i]? with
      | none => rfl
      | some x =>
        have hne : rank o t x ≠ k := fun e' => by
          have exy := rank_inj (List.mem_of_getElem? hi) (List.mem_of_getElem? hy) (e'.trans hr.symm)
          subst exy
          exact e ((List.getElem?_inj hc hn).1 (hy.trans hi.symm))
        simp only [Option.map_some, Option.some.injEq]
        by_cases h1 : rank o t x < k
        · rw [if_pos h1, if_pos (by omega)]
        · rw [if_neg h1, if_neg (by omega)]
  · unfold mayR
    rw [List.getElem?_map, hy]
    simp only [Option.map_some, Option.some.injEq]
    rw [if_neg (by omega)]; rfl
theorem mayR_zero (o t : List Int) : mayR o t 0 = List.replicate t.length ((o.length / t.length : Nat) : Int) := by
  unfold mayR
  apply List.ext_getElem?
  intro i
  rw [List.getElem?_map, List.getElem?_replicate]
  by_cases h : i < t.length
  · rw [List.getElem?_eq_getElem h, if_pos h]; simp
  · rw [List.getElem?_eq_none (by omega), if_neg h]; rfl
theorem mayR_end (o t : List Int) : mayR o t (o.length % t.length) = t.map fun x => ((room o t x : Nat) : Int) := by
  unfold mayR
  refine List.map_congr_left fun x hx => ?_
  unfold room
  rw [if_pos hx]
end Go.Proofs.Ytdgnjalbpiciiaa
