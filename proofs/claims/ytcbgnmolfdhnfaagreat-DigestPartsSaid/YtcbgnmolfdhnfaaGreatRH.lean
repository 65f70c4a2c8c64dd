/-
  What the laws share.
-/
import Derived.Test.YtcbgnmolfdhnfaaGreatRT
import Derived.Test.YtcbgnmolfdhnfaaGreatHQ
import Derived.Test.YtcbgnmolfdhnfaaGreatRQ
namespace Go.Proofs.YtcbgnmolfdhnfaaGreat
set_option linter.unusedVariables false
set_option linter.unusedSimpArgs false
open Go.RowKit Go.Joins

theorem fineL_slim {ls : List (List Pr)} {l : List Pr} (h : FineL ls) (hl : l ∈ ls) (hz : ∀ p ∈ l, PrSz p) : Slim l ∧ l.length ≤ 60 := ⟨slim_of hz fun p hp => (h l hl).2 p hp, (h l hl).1⟩
theorem lists_one {W : World} {v : Value} {l : List Pr} (h : prL.In W v l) : LsIn (W.alloc (.cells #[v] 25)) (.slice (some ⟨W.heap.size, 0, none⟩) 1 1) [l] := by
  refine ⟨_, 1, rfl, .inr ⟨W.heap.size, 0, rfl, fun i x hl => ?_⟩⟩
  rcases i with _ | i
  · cases hl
    exact ⟨v, by go_simp, h.later (below_alloc _ _)⟩
  · simp at hl
theorem un_mem {l : List Pr} {p : Pr} (h : p ∈ un [] l) : p ∈ l := by
  have h1 := look_mem (un_sorted l (a := []) trivial) h
  rw [un_lv] at h1
  unfold lv at h1
  obtain ⟨q, hq, hv⟩ := Option.map_eq_some_iff.1 h1
  have hm := List.mem_filter.1 (List.mem_of_getLast? hq)
  have hk : q.1 = p.1 := by simpa using hm.2
  have : q = p := Prod.ext hk hv
  rw [← this]; exact hm.1
/-- The keys of a list that is its own, to be written over. -/
def Gv (w : World) (lo B : Nat) (a : Option Addr) (n : Nat) : Prop := ∀ i, i < n → ∃ g, a = some ⟨g, 0, none⟩ ∧ lo ≤ g ∧ g < B ∧ (∃ x, w.cell? ⟨g, i * 2, none⟩ = some (.string x)) ∧ ∀ j, w.frozen? ⟨g, j, none⟩ = false
theorem Gv.later {w w' : World} {lo B n : Nat} {a : Option Addr} (h : Gv w lo B a n) (hb : Below w.heap.size w w') : Gv w' lo B a n := fun i hi => by
  obtain ⟨g, ha, hl, hB, ⟨x, hx⟩, hz⟩ := h i hi
  exact ⟨g, ha, hl, hB, ⟨x, cell_later hb hx⟩, fun j => (hb.frozen (p := ⟨g, j, none⟩) (show g < w.heap.size from World.block_lt_of_cell? w _ hx)).trans (hz j)⟩
theorem Gv.set {w : World} {lo B n g i : Nat} {s : ByteArray} {a : Option Addr} (h : Gv w lo B a n) (ha : a = some ⟨g, 0, none⟩) (hi : i < n) : Gv (w.setCell ⟨g, i * 2, none⟩ (.string s)) lo B a n := fun k hk => by
  obtain ⟨g', ha', hl, hB, ⟨x, hx⟩, hz⟩ := h k hk
  obtain rfl : g' = g := by rw [ha] at ha'; simpa using ha'.symm
  refine ⟨g', ha, hl, hB, ?_, fun j => (World.frozen?_setCell _ _ _ _).trans (hz j)⟩
  by_cases e : k = i
  · subst e; exact ⟨s, World.cell?_setCell_same _ _ _ hx⟩
  · exact ⟨x, (World.cell?_setCell_other _ _ _ _ (by simp <;> omega)).trans hx⟩
theorem gv_of {w0 w : World} {a : Option Addr} {n c : Nat} {l : List Pr} (h : Rw prL 44 w0 w (.slice a n c) l) (hn : n = l.length) : Gv w w0.heap.size w.heap.size a n := fun i hi => by
  subst hn
  obtain ⟨p, hp⟩ : ∃ p, l[i]? = some p := ⟨_, List.getElem?_eq_getElem hi⟩
  have hlt := h.own
  rcases h.own.2 with ⟨h0, h1⟩ | ⟨g, cap, cur, hv, hg, hh, _⟩
  · omega
  · simp only [Value.slice.injEq] at hv
    obtain ⟨rfl, _, rfl⟩ := hv
    have hc := h.told
    obtain ⟨g2, off, e, _, hat⟩ := hc.cells hp
    simp only [Option.some.injEq, Addr.mk.injEq] at e
    obtain ⟨rfl, rfl, _⟩ := e
    have h0 := hat 0 _ rfl
    refine ⟨g, rfl, hg, (h.lt g rfl).2, ⟨p.1, ?_⟩, fun j => h.own.frozenAt j⟩
    have e2 : prL.sz = 2 := rfl
    rw [e2] at h0
    simpa using h0

end Go.Proofs.YtcbgnmolfdhnfaaGreat
