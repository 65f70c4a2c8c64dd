/-
  Told entries whose data is written over: what stays.
-/
import Derived.Test.YtcmfnokpbgfioaaE5
namespace Go.Proofs.Ytcmfnokpbgfioaa
set_option linter.unusedVariables false
set_option linter.unusedSimpArgs false
open Go.RowKit

theorem row_store {w : World} {B n sz g j : Nat} {E : TypeId} {v u : Value} {xs : List Value} (h : w.ownsRow B E sz v n xs) : (w.setCell ⟨g, j, none⟩ u).ownsRow B E sz v n (if v.ownBlock = some g then xs.set j u else xs) := by
  by_cases e : v.ownBlock = some g
  · rw [if_pos e]
    rcases h.2 with ⟨rfl, _⟩ | ⟨g', cap, cur, rfl, _⟩
    · cases e
    · obtain rfl : g' = g := by simpa [Value.ownBlock] using e
      exact (h.stored j u).1
  · rw [if_neg e]
    exact row_put h e
def isU8 (y : Value) : Prop := ∃ z, y = .int .u8 z
/-- Entries of which the data may have been written over, in a world from another one on. -/
structure XI (w0 wr : World) (B : Nat) (v : Value) (ls : List En) (es : List Er) : Prop where
  below : Below B w0 wr
  list : wr.ownsRow B 44 enL.sz v ls.length (enL.all ls)
  len : ls.length = es.length
  data : ∀ (k : Nat) (x : En) (e : Er), ls[k]? = some x → es[k]? = some e → ∃ ys, wr.ownsRow B 5 1 x.s.v e.d.length ys ∧ ∀ y ∈ ys, isU8 y
theorem EInB.xi {w0 w : World} {B : Nat} {v : Value} {es : List Er} (h : EInB w B v es) (hb : Below B w0 w) : ∃ ls, XI w0 w B v ls es := by
  obtain ⟨ls, h1, h2, h3⟩ := h
  refine ⟨ls, hb, h1, h2, fun k x e hx he => ⟨_, (h3 k x e hx he).2.2, fun y hy => ?_⟩⟩
  obtain ⟨z, _, rfl⟩ := List.mem_map.1 hy
  exact ⟨z, rfl⟩
theorem XI.put {w0 wr : World} {B g j : Nat} {v : Value} {z : Int} {ls : List En} {es : List Er} (h : XI w0 wr B v ls es) {k : Nat} {x : En} {e : Er} {ys : List Value} {n c : Nat} (hx : ls[k]? = some x) (hxs : wr.ownsRow B 5 1 x.s.v e.d.length ys) (hg : x.s.v.ownBlock = some g) : XI w0 (wr.setCell ⟨g, j, none⟩ (.int .u8 z)) B v ls es := by
  obtain ⟨cs, hh, hB⟩ : ∃ cs, wr.heap[g]? = some (.cells cs 5 (0, 0)) ∧ B ≤ g := by
    rcases hxs.2 with ⟨h0, _⟩ | ⟨g', cap, cur, hv, hb, hg', _⟩
    · rw [h0] at hg; cases hg
    · rw [hv] at hg
      obtain rfl : g' = g := by simpa [Value.ownBlock] using hg
      exact ⟨cur, hg', hb⟩
  refine ⟨h.below.setCell (p := ⟨g, j, none⟩) hB _, row_put h.list ?_, h.len, fun q y f hy hf => ?_⟩
  · intro e
    rcases h.list.2 with ⟨h0, _⟩ | ⟨g', cap, cur, hv, hb, hg', _⟩
    · rw [h0] at e; cases e
    · rw [hv] at e
      obtain rfl : g' = g := by simpa [Value.ownBlock] using e
      rw [hg'] at hh
      simp at hh
  · obtain ⟨zs, h1, h2⟩ := h.data q y f hy hf
    refine ⟨_, row_store h1, fun u hu => ?_⟩
    split at hu
    · rcases List.mem_or_eq_of_mem_set hu with hu | rfl
      · exact h2 u hu
      · exact ⟨z, rfl⟩
    · exact h2 u hu
/-- An entry's data and its bytes. -/
theorem XI.at {w0 wr : World} {B k : Nat} {a : Option Addr} {n c : Nat} {ls : List En} {es : List Er} {e : Er} (h : XI w0 wr B (.slice a n c) ls es) (he : es[k]? = some e) :
    ∃ g x ys p c', a = some ⟨g, 0, none⟩ ∧ ls[k]? = some x ∧ x.s.v = .slice p e.d.length c' ∧ wr.cell? ⟨g, k * 3 + 2, none⟩ = some (.slice p e.d.length c') ∧ wr.ownsRow B 5 1 x.s.v e.d.length ys := by
  have hl : k < ls.length := by rw [h.len]; exact (List.getElem?_eq_some_iff.1 he).1
  have hx : ls[k]? = some ls[k] := List.getElem?_eq_getElem hl
  obtain ⟨ys, h1, _⟩ := h.data k _ _ hx he
  obtain ⟨p, c', hs⟩ := row_slice1 h1
  rcases h.list.2 with ⟨h0, h00⟩ | ⟨g, cap, cur, hv, _⟩
  · omega
  · simp only [Value.slice.injEq] at hv
    obtain ⟨rfl, _, rfl⟩ := hv
    refine ⟨g, ls[k], ys, p, c', rfl, hx, hs, ?_, h1⟩
    have hj : (enL.all ls)[k * 3 + 2]? = some (.slice p e.d.length c') := by
      have := Lay.all_at enL ls k 2 (by decide)
      rw [show k * enL.sz + 2 = k * 3 + 2 from rfl] at this
      rw [this, hx, ← hs]; rfl
    have := h.list.cells (g := g) rfl _ _ hj
    rw [lay_add, Nat.zero_add] at this
    exact this
theorem XI.byte {w0 wr : World} {B k j c' : Nat} {v : Value} {p : Option Addr} {ls : List En} {es : List Er} {x : En} {e : Er} (h : XI w0 wr B v ls es) (hx : ls[k]? = some x) (he : es[k]? = some e) (hs : x.s.v = .slice p e.d.length c') (hj : j < e.d.length) :
    ∃ g z, p = some ⟨g, 0, none⟩ ∧ x.s.v.ownBlock = some g ∧ wr.cell? ⟨g, j, none⟩ = some (.int .u8 z) ∧ wr.frozen? ⟨g, j, none⟩ = false := by
  obtain ⟨ys, h1, h2⟩ := h.data k _ _ hx he
  rcases h1.2 with ⟨h0, h00⟩ | ⟨g, cap, cur, hv, _, hh, _⟩
  · omega
  · have hyl : ys.length = e.d.length * 1 := h1.1
    have hyj : ys[j]? = some ys[j] := List.getElem?_eq_getElem (by omega)
    obtain ⟨z, hz⟩ := h2 ys[j] (List.getElem_mem _)
    rw [hz] at hyj
    have hob : x.s.v.ownBlock = some g := by rw [hv]; rfl
    have := h1.cells (g := g) hob _ _ hyj
    rw [lay_add, Nat.zero_add] at this
    refine ⟨g, z, ?_, hob, this, frozen_of_row wr g j _ _ hh⟩
    rw [hv] at hs
    simp only [Value.slice.injEq] at hs
    exact hs.1.symm
end Go.Proofs.Ytcmfnokpbgfioaa
