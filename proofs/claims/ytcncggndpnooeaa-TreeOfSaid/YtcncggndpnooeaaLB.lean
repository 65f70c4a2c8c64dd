/-
  A list of pairs that is being written. (Written by genl.py.)
-/
import Derived.Test.YtcncggndpnooeaaL1
namespace Go.Proofs.Ytcncggndpnooeaa
set_option linter.unusedVariables false
set_option linter.unusedSimpArgs false
open Go.RowKit

/-- What is told: a list of pairs. -/
def Lists (xs : List Pr) (w : World) (e : Ending) (w' : World) : Prop := ∃ v, e = .returned v ∧ PairsIn w' v xs ∧ Below w.heap.size w w'
theorem Scanned.lists {w w' : World} {e : Ending} {xs : List Pr} (h : Scanned w.heap.size (.slice none 0 0) xs w e w') : Lists xs w e w' := by
  obtain ⟨v, rfl, hown, hg, _⟩ := h
  exact ⟨v, rfl, pairs_row hown rfl, grown_below hg⟩
theorem Lists.behind {w w1 w' : World} {e : Ending} {xs : List Pr} (h : Lists xs w1 e w') (hb : Below w.heap.size w w1) : Lists xs w e w' := by
  obtain ⟨v, he, hp, h⟩ := h
  exact ⟨v, he, hp, hb.trans (h.mono hb.size)⟩
/-- A list that is being written, in a block of its own. -/
structure Row (w0 w : World) (v : Value) (ys : List Pr) : Prop where
  own : w.ownsRow w0.heap.size 34 2 v ys.length (prs ys)
  grown : w0.grownBy w none
  new : v.ownBlock = none ∨ ∀ g, v.ownBlock = some g → w0.heap.size ≤ g
theorem Row.nil (w : World) : Row w w (.slice none 0 0) [] := ⟨World.ownsRow_nil _ _ _ _, grown_refl _ _, .inl rfl⟩
theorem Row.alloc {w0 w : World} {v : Value} {ys : List Pr} (h : Row w0 w v ys) (o : Obj) : Row w0 (w.alloc o) v ys := ⟨h.own.alloc o, grown_alloc h.grown o, h.new⟩
theorem Row.slice {w0 w : World} {v : Value} {ys : List Pr} (h : Row w0 w v ys) : ∃ a c, v = .slice a ys.length c := by
  obtain ⟨a, c, e, _⟩ := row_slice h.own
  exact ⟨a, c, e⟩
theorem Row.pairs {w0 w : World} {v : Value} {ys : List Pr} (h : Row w0 w v ys) : PairsIn w v ys := pairs_row h.own rfl
theorem Row.below {w0 w : World} {v : Value} {ys : List Pr} (h : Row w0 w v ys) : Below w0.heap.size w0 w := grown_below h.grown
theorem Row.lists {w0 w : World} {v : Value} {ys : List Pr} (h : Row w0 w v ys) : Lists ys w0 (.returned v) w := ⟨v, rfl, h.pairs, h.below⟩
theorem Row.lt {w0 w : World} {v : Value} {ys : List Pr} (h : Row w0 w v ys) : ∀ g, v.ownBlock = some g → g < w.heap.size := by
  intro g hg
  rcases h.own.2 with ⟨rfl, _⟩ | ⟨g', cap, cur, rfl, _, hh, _⟩
  · cases hg
  · obtain rfl : g' = g := by simpa [Value.ownBlock] using hg
    by_cases e : g' < w.heap.size
    · exact e
    · rw [Array.getElem?_eq_none (by omega)] at hh; cases hh
theorem Row.ne_old {w0 w : World} {v : Value} {ys : List Pr} (h : Row w0 w v ys) {b : Nat} (hb : b < w0.heap.size) : some b ≠ v.ownBlock := by
  intro e
  rcases h.new with h | h
  · rw [h] at e; cases e
  · have := h b e.symm; omega
theorem Row.ne_new {w0 w : World} {v : Value} {ys : List Pr} (h : Row w0 w v ys) {b : Nat} (hb : w.heap.size ≤ b) : some b ≠ v.ownBlock := by
  intro e
  have := h.lt b e.symm; omega
/-- A row that was at hand, behind an append. -/
theorem Row.push {w0 w w2 : World} {v : Value} {g c2 : Nat} {ys : List Pr} (p : Pr) (h : Row w0 w v ys)
    (hown : w2.ownsRow w0.heap.size 34 2 (.slice (some ⟨g, 0, none⟩) (ys.length + 1) c2) (ys.length + 1) (prs ys ++ [.string p.1, .string p.2]))
    (hg : w.grownBy w2 v.ownBlock) (hat : v.ownBlock = some g ∨ w.heap.size ≤ g) : Row w0 w2 (.slice (some ⟨g, 0, none⟩) (ys.length + 1) c2) (ys ++ [p]) := by
  refine ⟨by rw [prs_app, List.length_append]; exact hown, grown_seq h.grown hg h.new, .inr fun g' hg' => ?_⟩
  simp [Value.ownBlock] at hg'; subst hg'
  rcases hat with e | e
  · exact (h.new.resolve_left (by rw [e]; simp)) _ e
  · exact Nat.le_trans h.grown.size e
theorem Row.base {w0 w1 w : World} {v : Value} {ys : List Pr} (h : Row w1 w v ys) (hb : w0.grownBy w1 none) : Row w0 w v ys :=
  ⟨row_base hb.size h.own, grown_seq hb h.grown (.inl rfl), h.new.imp id fun h g hg => Nat.le_trans hb.size (h g hg)⟩
end Go.Proofs.Ytcncggndpnooeaa
