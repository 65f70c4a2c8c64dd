/-
  Rows that a call owns beside others: what an append leaves as it was.
-/
import Derived.Test.YthmibccjnhmegaaDoorB5
namespace Go.Proofs.YthmibccjnhmegaaDoor
set_option linter.unusedVariables false
set_option linter.unusedSimpArgs false
open Go.RowKit

/-- 'append(l, x)', x in a new block of its own: and what it leaves. -/
theorem wpList_push1g {P : Program} {w0 : World} {ops : Array Oper} {rest : List Oper} {o : Oper} {a : Act} {Q : Exit → Act → World → Prop} (hgd : o.guard = none) (s x : Operand) (T E : TypeId) (zero : Value) (bytes : Nat)
    (ho : o.op = .call { callee := .builtin .append, args := #[s, x], argTypes := #[T, T] })
    (hT : P.underlying T = some (.slice E)) (hinfo : (P.info? E).map (fun i => (i.zero, i.size, i.bytes)) = some (some zero, 1, bytes)) (hz : zero.cells.size = 1)
    (B n : Nat) (v : Value) (xs : List Value) (hs : a.eval s = v) (hown : w0.ownsRow B E 1 v n xs)
    (u : Value) (hu : u.oneCell' = true) (hx : a.eval x = .slice (some ⟨w0.heap.size, 0, none⟩) 1 1) (h63 : n + 1 ≤ 2147483648) (hb : bytes ≤ 65536) (hB : B ≤ w0.heap.size)
    (h : ∀ g c w', w'.ownsRow B E 1 (.slice (some ⟨g, 0, none⟩) (n + 1) c) (n + 1) (xs ++ [u]) → w0.grownBy w' v.ownBlock → w0.heap.size < w'.heap.size → wpList P ops Q rest (a.put o.dst (.slice (some ⟨g, 0, none⟩) (n + 1) c)) w') :
    wpList P ops Q (o :: rest) a (w0.alloc (.cells #[u] E)) := by
  obtain ⟨i0, hi, hz0, hz1, hz2⟩ := info_parts hinfo
  have hsz : (w0.alloc (.cells #[u] E)).heap.size = w0.heap.size + 1 := by simp
  refine wpList_append_own _ hgd s x T ho B E i0 zero 1 bytes hT hi hz0 hz1 hz2 hz (by decide) v n xs hs (hown.alloc _) ⟨w0.heap.size, 0, none⟩ 1 1 [u] hx rfl ?_ ?_ (by unfold maxLen; omega) (Nat.le_trans (Nat.mul_le_mul h63 hb) (by decide)) (by omega) ?_
  · intro j y hy
    match j, hy with
    | 0, hy => rw [addLit, World.cell?_alloc_at _ _ _ _ rfl, ← hy]; rfl
  · intro y hy
    obtain rfl := List.mem_singleton.1 hy
    exact hu
  · intro v' w' hown' hgrow hnil
    have hg0 : w0.grownBy w' v.ownBlock := ⟨hgrow.os, hgrow.tape, hgrow.output, by have := hgrow.size; omega, fun k hk hne => (hgrow.block k (by omega) hne).trans (Below.heap_alloc _ _ _ hk)⟩
    rcases hown'.2 with ⟨h0, _⟩ | ⟨g, cap, cur, hv, _⟩
    · exact absurd (hnil.1 h0).2 (by decide)
    · subst hv
      exact h g cap w' hown' hg0 (by have := hgrow.size; omega)

theorem own_kind {w : World} {B n g : Nat} {E : TypeId} {v : Value} {xs : List Value} (h : w.ownsRow B E 1 v n xs) (hg : v.ownBlock = some g) : ∃ cur, w.heap[g]? = some (.cells cur E (0, 0)) := by
  rcases h.2 with ⟨rfl, _⟩ | ⟨g', cap, cur, rfl, _, hh, _⟩
  · simp [Value.ownBlock] at hg
  · simp only [Value.ownBlock, Option.some.injEq] at hg; subst hg; exact ⟨cur, hh⟩

/-- An iterator is no row. -/
theorem iter_grown {w w' : World} {B n k : Nat} {E : TypeId} {v : Value} {xs : List Value} {s : ByteArray} {pos : Nat} (hk : w.heap[k]? = some (.stringIter s pos)) (h : w.ownsRow B E 1 v n xs) (hg : w.grownBy w' v.ownBlock) : w'.heap[k]? = some (.stringIter s pos) := by
  have hlt : k < w.heap.size := by
    rcases Nat.lt_or_ge k w.heap.size with h1 | h1
    · exact h1
    · rw [Array.getElem?_eq_none h1] at hk; cases hk
  rw [hg.block k hlt ?_]; exact hk
  intro e
  obtain ⟨cur, hc⟩ := own_kind h e.symm
  rw [hk] at hc; cases hc

/-- A row of one kind stands where a row of another kind grows. -/
theorem owns_grown {w w' : World} {B B' n n' : Nat} {E E' : TypeId} {v v' : Value} {xs xs' : List Value} (h : w.ownsRow B E 1 v n xs) (h' : w.ownsRow B' E' 1 v' n' xs') (hne : E ≠ E') (hg : w.grownBy w' v'.ownBlock) : w'.ownsRow B E 1 v n xs := by
  refine h.kept hg ?_
  cases hv : v.ownBlock with
  | none => exact .inl rfl
  | some g =>
    refine .inr fun e => ?_
    obtain ⟨c1, h1⟩ := own_kind h hv
    obtain ⟨c2, h2⟩ := own_kind h' e.symm
    rw [h1] at h2
    simp only [Option.some.injEq, Obj.cells.injEq] at h2
    exact hne h2.2.1

theorem below_grown {w0 w w' : World} {B C n : Nat} {E : TypeId} {v : Value} {xs : List Value} (hb : Below C w0 w) (h : w.ownsRow B E 1 v n xs) (hg : w.grownBy w' v.ownBlock) (hC : C ≤ B) (hs : C ≤ w.heap.size) : Below C w0 w' :=
  hb.grown hg hs (fun k hk => Nat.le_trans hC (h.lt k hk).1)

theorem owns_under {w w' : World} {B B' n : Nat} {E : TypeId} {v : Value} {xs : List Value} (h : w.ownsRow B E 1 v n xs) (hb : Below B' w w') (hv : ∀ k, v.ownBlock = some k → k < B') : w'.ownsRow B E 1 v n xs := by
  refine ⟨h.1, ?_⟩
  rcases h.2 with h2 | ⟨g, cap, cur, rfl, a, b, c⟩
  · exact .inl h2
  · exact .inr ⟨g, cap, cur, rfl, a, by rw [hb.block g (hv g rfl)]; exact b, c⟩

/-- A step of an iterator leaves every row. -/
theorem owns_iterAt {w : World} {B n k : Nat} {E : TypeId} {v : Value} {xs : List Value} {s : ByteArray} {pos : Nat} (h : w.ownsRow B E 1 v n xs) (hk : w.heap[k]? = some (.stringIter s pos)) (p : Nat) : (w.iterAt k s p).ownsRow B E 1 v n xs := by
  refine ⟨h.1, ?_⟩
  rcases h.2 with h2 | ⟨g, cap, cur, rfl, a, b, c⟩
  · exact .inl h2
  · refine .inr ⟨g, cap, cur, rfl, a, ?_, c⟩
    rw [Lib.iterAt_other]; exact b
    intro e; subst e; rw [hk] at b; cases b

end Go.Proofs.YthmibccjnhmegaaDoor
