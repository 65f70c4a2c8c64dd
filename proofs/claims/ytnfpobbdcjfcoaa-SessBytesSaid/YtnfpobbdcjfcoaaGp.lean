/-
  Plain facts: what a table is read from.
-/
import Derived.Test.YtnfpobbdcjfcoaaPut
import Derived.Test.YtnfpobbdcjfcoaaWxs2
namespace Go.Proofs.Ytnfpobbdcjfcoaa
set_option linter.unusedVariables false
set_option linter.unusedSimpArgs false
open Go.RowKit

/-- The next number, from lo to hi: it, where the reader stands, its error. -/
def wn (xs : List Int) (lo hi : Int) (p : Nat × Int) : Int × Nat × Int :=
  if p.2 ≠ 0 then (0, p.1, p.2) else (((withinOf lo hi (numAt (xs.drop p.1))).1 : Int), p.1 + (withinOf lo hi (numAt (xs.drop p.1))).2.1, (withinOf lo hi (numAt (xs.drop p.1))).2.2)
theorem wn_err {xs : List Int} {lo hi : Int} {p : Nat × Int} (h : p.2 ≠ 0) : wn xs lo hi p = (0, p.1, p.2) := by unfold wn; rw [if_pos h]
theorem wn_ok {xs : List Int} {lo hi : Int} {i : Nat} {e : Int} (h : (wn xs lo hi (i, e)).2.2 = 0) : e = 0 ∧ ∃ N S, numAt (xs.drop i) = (N, S, 0) ∧ wn xs lo hi (i, e) = ((N : Int), i + S, 0) ∧ lo ≤ N ∧ (N : Int) ≤ hi := by
  by_cases he : e = 0
  · subst he
    refine ⟨rfl, ?_⟩
    obtain ⟨N, S, E, ht⟩ : ∃ N S E, numAt (xs.drop i) = (N, S, E) := ⟨_, _, _, rfl⟩
    unfold wn at h ⊢
    simp only [ne_eq, not_true_eq_false, if_false, ht] at h ⊢
    unfold withinOf at h ⊢
    simp only at h ⊢
    by_cases hE : E = 0
    · subst hE
      simp only [ne_eq, not_true_eq_false, if_false] at h ⊢
      by_cases hr : (N : Int) < lo ∨ hi < (N : Int)
      · rw [if_pos hr] at h; simp at h
      · rw [if_neg hr]
        exact ⟨N, S, rfl, rfl, by omega, by omega⟩
    · rw [if_pos hE] at h; exact absurd h hE
  · rw [wn_err (p := (i, e)) he] at h; exact absurd h he
theorem wn_range {xs : List Int} {lo hi : Int} {p : Nat × Int} (h0 : lo ≤ hi ∨ True) : 0 ≤ (wn xs lo hi p).1 ∧ ((wn xs lo hi p).1 = 0 ∨ (wn xs lo hi p).1 ≤ hi) := by
  unfold wn
  split
  · simp
  · unfold withinOf
    split
    · simp
    · split
      · simp
      · rename_i h1 h2
        exact ⟨by omega, .inr (by omega)⟩
theorem wn_le {xs : List Int} {lo hi : Int} {p : Nat × Int} (hr : ∀ x ∈ xs, 0 ≤ x ∧ x < 256) (hp : p.1 ≤ xs.length) : (wn xs lo hi p).2.1 ≤ xs.length := by
  unfold wn
  split
  · exact hp
  · unfold withinOf
    split
    · simpa using hp
    · split
      · simpa using hp
      · rename_i h1 _
        have h2 := numAt_ok (xs.drop p.1) (fun x hx => hr x (List.mem_of_mem_drop hx)) (Decidable.not_not.1 h1)
        rw [List.length_drop] at h2
        simp only; omega

def top40 : Int := 1099511627776
def lid (l : List Se) : Int := match l.getLast? with | some s => s.id | none => 0
theorem lid_snoc (l : List Se) (s : Se) : lid (l ++ [s]) = s.id := by unfold lid; simp
/-- A session that is read. -/
def gRow (xs : List Int) (lo hi : Int) (p : Nat × Int) : Se × Nat × Int :=
  (⟨(wn xs lo hi p).1, (wn xs 0 top40 (wn xs lo hi p).2).1, (wn xs 0 1000 (wn xs 0 top40 (wn xs lo hi p).2).2).1, (wn xs 0 top40 (wn xs 0 1000 (wn xs 0 top40 (wn xs lo hi p).2).2).2).1⟩, (wn xs 0 top40 (wn xs 0 1000 (wn xs 0 top40 (wn xs lo hi p).2).2).2).2)
/-- Sessions that are read: the program's. -/
def gRows (xs : List Int) (bg : Int) (p : Nat × Int) : Nat → List Se × Nat × Int
  | 0 => ([], p)
  | k + 1 => ((gRows xs bg p k).1 ++ [(gRow xs (lid (gRows xs bg p k).1 + 1) bg (gRows xs bg p k).2).1], (gRow xs (lid (gRows xs bg p k).1 + 1) bg (gRows xs bg p k).2).2)
/-- The document's: and whether they may be. -/
def xRows (xs : List Int) (bg : Int) (p : Nat × Int) : Nat → (List Se × Nat × Int) × Bool
  | 0 => (([], p), true)
  | k + 1 => (((xRows xs bg p k).1.1 ++ [(gRow xs 0 9223372036854775807 (xRows xs bg p k).1.2).1], (gRow xs 0 9223372036854775807 (xRows xs bg p k).1.2).2),
      (xRows xs bg p k).2 && decide (lid (xRows xs bg p k).1.1 < (gRow xs 0 9223372036854775807 (xRows xs bg p k).1.2).1.id) && decide ((gRow xs 0 9223372036854775807 (xRows xs bg p k).1.2).1.id ≤ bg))
theorem gRows_length (xs : List Int) (bg : Int) (p : Nat × Int) : ∀ k, (gRows xs bg p k).1.length = k
  | 0 => rfl
  | k + 1 => by simp [gRows, gRows_length xs bg p k]
theorem xRows_length (xs : List Int) (bg : Int) (p : Nat × Int) : ∀ k, (xRows xs bg p k).1.1.length = k
  | 0 => rfl
  | k + 1 => by simp [xRows, xRows_length xs bg p k]
theorem gRow_err {xs : List Int} {lo hi : Int} {p : Nat × Int} (h : p.2 ≠ 0) : (gRow xs lo hi p).2.2 = p.2 := by
  unfold gRow
  simp only
  have h1 : (wn xs lo hi p).2 = p := by rw [wn_err h]
  rw [h1]
  have h2 : ∀ a b, (wn xs a b p).2 = p := fun a b => by rw [wn_err h]
  rw [h2, h2, h2]
theorem numAt_max {xs : List Int} (hr : ∀ x ∈ xs, 0 ≤ x ∧ x < 256) {i N S : Nat} (h : numAt (xs.drop i) = (N, S, 0)) : N ≤ 9223372036854775807 :=
  (numAt_back _ (fun x hx => hr x (List.mem_of_mem_drop hx)) N S h).2
theorem wn_err_cases {xs : List Int} {lo hi : Int} {i : Nat} (h : (wn xs lo hi (i, 0)).2.2 ≠ 0) : (numAt (xs.drop i)).2.2 ≠ 0 ∨ ∃ N S, numAt (xs.drop i) = (N, S, 0) ∧ ((N : Int) < lo ∨ hi < (N : Int)) := by
  obtain ⟨N, S, E, ht⟩ : ∃ N S E, numAt (xs.drop i) = (N, S, E) := ⟨_, _, _, rfl⟩
  rw [ht]
  by_cases hE : E = 0
  · subst hE
    right
    refine ⟨N, S, rfl, Decidable.byContradiction fun hr => h ?_⟩
    unfold wn
    simp only [ne_eq, not_true_eq_false, if_false, ht]
    unfold withinOf
    simp only [ne_eq, not_true_eq_false, if_false]
    rw [if_neg hr]
  · exact .inl hE
theorem wn_of {xs : List Int} {lo hi : Int} {i N S : Nat} (h : numAt (xs.drop i) = (N, S, 0)) (h1 : lo ≤ N) (h2 : (N : Int) ≤ hi) : wn xs lo hi (i, 0) = ((N : Int), i + S, 0) := by
  unfold wn
  simp only [ne_eq, not_true_eq_false, if_false, h]
  unfold withinOf
  simp only [ne_eq, not_true_eq_false, if_false]
  rw [if_neg (by omega)]
theorem wn_bad {xs : List Int} {lo hi : Int} {i : Nat} (h : (numAt (xs.drop i)).2.2 ≠ 0) : (wn xs lo hi (i, 0)).2.2 ≠ 0 := by
  unfold wn
  simp only [ne_eq, not_true_eq_false, if_false]
  unfold withinOf
  rw [if_pos h]; exact h
set_option maxHeartbeats 1600000 in
/-- The two go on alike, as long as they may; then neither is OK any more. -/
theorem rows_alike {xs : List Int} (hr : ∀ x ∈ xs, 0 ≤ x ∧ x < 256) (bg : Int) (hbg : bg ≤ 9223372036854775807) (p : Nat × Int) : ∀ k,
    ((gRows xs bg p k).2.2 = 0 ∧ xRows xs bg p k = (gRows xs bg p k, true)) ∨ ((gRows xs bg p k).2.2 ≠ 0 ∧ ((xRows xs bg p k).1.2.2 ≠ 0 ∨ (xRows xs bg p k).2 = false))
  | 0 => by
    by_cases h : p.2 = 0
    · exact .inl ⟨h, rfl⟩
    · exact .inr ⟨h, .inl h⟩
  | k + 1 => by
    rcases rows_alike hr bg hbg p k with ⟨h0, hx⟩ | ⟨h0, hx⟩
    · have hid : 0 ≤ lid (gRows xs bg p k).1 := by
        unfold lid
        cases hl : (gRows xs bg p k).1.getLast? with
        | none => simp
        | some s =>
          simp only
          cases k with
          | zero => simp [gRows] at hl
          | succ j =>
            simp only [gRows, List.getLast?_append, List.getLast?_singleton, Option.some_or, Option.some.injEq] at hl
            subst hl
            exact (wn_range (.inr trivial)).1
      simp only [gRows, xRows, hx]
      obtain ⟨i, e, hp⟩ : ∃ i e, (gRows xs bg p k).2 = (i, e) := ⟨_, _, rfl⟩
      rw [hp] at h0 ⊢
      simp only at h0
      subst h0
      generalize (gRows xs bg p k).1 = l at *
      by_cases hn : (numAt (xs.drop i)).2.2 = 0
      · obtain ⟨N, S, E, ht⟩ : ∃ N S E, numAt (xs.drop i) = (N, S, E) := ⟨_, _, _, rfl⟩
        rw [ht] at hn
        simp only at hn
        subst hn
        have hmax := numAt_max hr ht
        have hxw : wn xs 0 9223372036854775807 (i, 0) = ((N : Int), i + S, 0) := wn_of ht (by omega) (by omega)
        by_cases hin : lid l + 1 ≤ N ∧ (N : Int) ≤ bg
        · have hgw : wn xs (lid l + 1) bg (i, 0) = ((N : Int), i + S, 0) := wn_of ht hin.1 hin.2
          have hrow : gRow xs (lid l + 1) bg (i, 0) = gRow xs 0 9223372036854775807 (i, 0) := by unfold gRow; rw [hgw, hxw]
          rw [hrow]
          have hid2 : (gRow xs 0 9223372036854775807 (i, 0)).1.id = N := by unfold gRow; rw [hxw]
          by_cases he : (gRow xs 0 9223372036854775807 (i, 0)).2.2 = 0
          · left
            refine ⟨he, ?_⟩
            rw [hid2, decide_eq_true (by omega), decide_eq_true (by omega)]; rfl
          · exact .inr ⟨he, .inl he⟩
        · right
          have hg : (wn xs (lid l + 1) bg (i, 0)).2.2 ≠ 0 := fun h => by
            obtain ⟨_, N', S', h1, _, h2, h3⟩ := wn_ok h
            rw [ht] at h1
            simp only [Prod.mk.injEq] at h1
            obtain ⟨rfl, _⟩ := h1
            exact hin ⟨h2, h3⟩
          refine ⟨?_, .inr ?_⟩
          · have := gRow_err (xs := xs) (lo := 0) (hi := top40) hg
            intro h
            unfold gRow at h
            simp only at h
            have h2 : ∀ a b, (wn xs a b (wn xs (lid l + 1) bg (i, 0)).2).2 = (wn xs (lid l + 1) bg (i, 0)).2 := fun a b => by rw [wn_err hg]
            rw [h2, h2, h2] at h
            exact hg h
          · have hid2 : (gRow xs 0 9223372036854775807 (i, 0)).1.id = N := by unfold gRow; rw [hxw]
            rw [hid2]
            by_cases h1 : lid l < (N : Int)
            · rw [decide_eq_true h1, decide_eq_false (by omega)]; rfl
            · rw [decide_eq_false h1]; rfl
      · right
        have hb : ∀ lo hi, (wn xs lo hi (i, 0)).2.2 ≠ 0 := fun lo hi => wn_bad hn
        have he : ∀ lo hi, (gRow xs lo hi (i, 0)).2.2 ≠ 0 := fun lo hi h => by
          unfold gRow at h
          simp only at h
          have h2 : ∀ a b, (wn xs a b (wn xs lo hi (i, 0)).2).2 = (wn xs lo hi (i, 0)).2 := fun a b => by rw [wn_err (hb lo hi)]
          rw [h2, h2, h2] at h
          exact hb lo hi h
        exact ⟨he _ _, .inl (he _ _)⟩
    · right
      simp only [gRows, xRows]
      refine ⟨by rw [gRow_err h0]; exact h0, ?_⟩
      rcases hx with h | h
      · left; rw [gRow_err h]; exact h
      · right; rw [h]; rfl
end Go.Proofs.Ytnfpobbdcjfcoaa
