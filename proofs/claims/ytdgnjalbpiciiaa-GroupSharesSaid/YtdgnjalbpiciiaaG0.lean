/-
  Rows of one's own, told by their cells: kept, written, turned to what the library's laws say.
-/
import Derived.Test.YtdgnjalbpiciiaaLi
import Derived.Test.YtdgnjalbpiciiaaE0
namespace Go.Proofs.Ytdgnjalbpiciiaa
set_option linter.unusedVariables false
set_option linter.unusedSimpArgs false
open Go.RowKit Go.Shelf

/-- A slice value. -/
structure Sl where
  a : Option Addr
  n : Nat
  c : Nat
def Sl.v (s : Sl) : Value := .slice s.a s.n s.c
def sl0 : Sl := ⟨none, 0, 0⟩
/-- The block of a slice. -/
def blk (s : Sl) : List Nat := match s.a with | some p => [p.block] | none => []
theorem blk_some {s : Sl} {g : Nat} (h : s.a = some ⟨g, 0, none⟩) : blk s = [g] := by unfold blk; rw [h]
theorem blk_none {s : Sl} (h : s.a = none) : blk s = [] := by unfold blk; rw [h]
/-- A block of cells, so many, none of them frozen. -/
def Shape (w : World) (g : Nat) (E : TypeId) (n : Nat) : Prop := ∃ cur, w.heap[g]? = some (.cells cur E (0, 0)) ∧ cur.size = n
theorem Shape.lt {w : World} {g : Nat} {E : TypeId} {n : Nat} (h : Shape w g E n) : g < w.heap.size := by obtain ⟨cur, h, _⟩ := h; exact (Array.getElem?_eq_some_iff.1 h).1
theorem Shape.kept {w w' : World} {g : Nat} {E : TypeId} {n : Nat} (h : Shape w g E n) (hk : w'.heap[g]? = w.heap[g]?) : Shape w' g E n := by obtain ⟨cur, h, hn⟩ := h; exact ⟨cur, hk.trans h, hn⟩
theorem Shape.fz {w : World} {g : Nat} {E : TypeId} {n : Nat} (h : Shape w g E n) (i : Nat) : w.frozen? ⟨g, i, none⟩ = false := by obtain ⟨cur, h, hn⟩ := h; exact frozen_of_row w g i _ _ h
theorem Shape.set {w : World} {g : Nat} {E : TypeId} {n : Nat} (h : Shape w g E n) (i : Nat) (v : Value) : Shape (w.setCell ⟨g, i, none⟩ v) g E n := by
  obtain ⟨cur, h, hn⟩ := h
  exact ⟨_, heap_setCell_same w g i _ _ _ h, by simpa using hn⟩
variable {α : Type} {I : Lay α} {E : TypeId}
/-- A list's items in a row of its own. -/
def Own (I : Lay α) (E : TypeId) (w : World) (s : Sl) (l : List α) : Prop :=
  s.n = l.length ∧ s.n ≤ s.c ∧ s.c ≤ 9223372036854775807 ∧ ((s = sl0) ∨ ∃ g, s.a = some ⟨g, 0, none⟩ ∧ Shape w g E (s.c * I.sz) ∧ I.At w g 0 l)
theorem Own.nil (w : World) : Own I E w sl0 ([] : List α) := ⟨rfl, Nat.le_refl _, by decide, .inl rfl⟩
theorem Own.lt {w : World} {s : Sl} {l : List α} (h : Own I E w s l) : ∀ k ∈ blk s, k < w.heap.size := by
  obtain ⟨_, _, _, h⟩ := h
  rcases h with rfl | ⟨g, ha, hs, _⟩
  · intro k hk; cases hk
  · rw [blk_some ha]; intro k hk; rw [List.mem_singleton.1 hk]; exact hs.lt
theorem Own.kept {w w' : World} {s : Sl} {l : List α} (h : Own I E w s l) (hk : ∀ k ∈ blk s, w'.heap[k]? = w.heap[k]?) : Own I E w' s l := by
  obtain ⟨h1, h2, h3, h⟩ := h
  refine ⟨h1, h2, h3, h.imp id ?_⟩
  rintro ⟨g, ha, hs, hat⟩
  have := hk g (by rw [blk_some ha]; simp)
  exact ⟨g, ha, hs.kept this, hat.block this⟩
theorem Own.below {w w' : World} {s : Sl} {l : List α} (h : Own I E w s l) (hb : Below w.heap.size w w') : Own I E w' s l := h.kept fun k hk => hb.block k (h.lt k hk)
theorem Own.told {w : World} {s : Sl} {l : List α} (h : Own I E w s l) : I.In w s.v l := by
  obtain ⟨h1, h2, h3, h⟩ := h
  refine ⟨s.a, s.c, by unfold Sl.v; rw [h1], by omega, h3, ?_⟩
  rcases h with rfl | ⟨g, ha, hs, hat⟩
  · exact .inl (List.eq_nil_of_length_eq_zero h1.symm)
  · exact .inr ⟨g, 0, ha, hs.lt, hat⟩
/-- What lies in a block, by the cells that are told. -/
theorem take_at {w : World} {g : Nat} {cur : Array Value} {l : List α} {m : Nat} (hg : w.heap[g]? = some (.cells cur E (0, 0))) (hm : l.length * I.sz ≤ cur.size) (hat : I.At w g 0 l) : cur.toList.take (l.length * I.sz) = I.all l := by
  apply List.ext_getElem?
  intro j
  rw [List.getElem?_take]
  by_cases hj : j < l.length * I.sz
  · rw [if_pos hj]
    have hc : (I.all l)[j]? = some ((I.all l)[j]'(by rw [Lay.all_len]; exact hj)) := List.getElem?_eq_getElem _
    have hsz : 0 < I.sz := by
      rcases Nat.eq_zero_or_pos I.sz with e | e
      · rw [e] at hj; omega
      · exact e
    have hd : j / I.sz < l.length := by rw [Nat.div_lt_iff_lt_mul hsz]; exact hj
    have hmm : j % I.sz < I.sz := Nat.mod_lt _ hsz
    have e : j / I.sz * I.sz + j % I.sz = j := by rw [Nat.mul_comm]; exact Nat.div_add_mod j I.sz
    have h2 := Lay.all_at I l (j / I.sz) (j % I.sz) hmm
    rw [e, hc, List.getElem?_eq_getElem hd] at h2
    have h3 := hat (j / I.sz) _ (List.getElem?_eq_getElem hd) (j % I.sz) _ h2.symm
    rw [Nat.zero_add, e, cell_of_row w g j _ _ _ hg] at h3
    rw [hc, Array.getElem?_toList]
    rw [Array.getElem?_eq_getElem (by omega)] at h3 ⊢
    exact h3
  · rw [if_neg hj, List.getElem?_eq_none (by rw [Lay.all_len]; omega)]
theorem Own.row {w : World} {s : Sl} {l : List α} (h : Own I E w s l) {B : Nat} (hB : ∀ k ∈ blk s, B ≤ k) : w.ownsRow B E I.sz s.v l.length (I.all l) := by
  obtain ⟨h1, h2, h3, h⟩ := h
  refine ⟨Lay.all_len _ _, ?_⟩
  rcases h with rfl | ⟨g, ha, ⟨cur, hg, hs⟩, hat⟩
  · exact .inl ⟨rfl, h1.symm⟩
  · refine .inr ⟨g, s.c, cur, by unfold Sl.v; rw [ha, h1], hB g (by rw [blk_some ha]; simp), hg, by omega, by unfold maxLen; omega, hs, ?_⟩
    exact take_at (m := 0) hg (by rw [hs]; exact Nat.mul_le_mul_right _ (by omega)) hat
theorem own_row {w : World} {B : Nat} {v : Value} {l : List α} (h : w.ownsRow B E I.sz v l.length (I.all l)) : ∃ s : Sl, v = s.v ∧ Own I E w s l ∧ (∀ k ∈ blk s, B ≤ k) ∧ v.ownBlock = (blk s).head? := by
  rcases h.2 with ⟨rfl, h0⟩ | ⟨g, cap, cur, rfl, hB, hg, hnc, hcm, hs, ht⟩
  · refine ⟨sl0, rfl, ?_, (fun k hk => by cases hk), rfl⟩
    rw [List.eq_nil_of_length_eq_zero h0]; exact Own.nil w
  · refine ⟨⟨some ⟨g, 0, none⟩, l.length, cap⟩, rfl, ⟨rfl, hnc, by unfold maxLen at hcm; exact hcm, .inr ⟨g, rfl, ⟨cur, hg, hs⟩, ?_⟩⟩, fun k hk => ?_, rfl⟩
    · intro i x hx j u hu
      have hj : j < I.sz := by rw [← I.len x]; exact (List.getElem?_eq_some_iff.1 hu).1
      have h1 := h.cells (g := g) rfl (i * I.sz + j) u (by rw [Lay.all_at I _ _ _ hj, hx]; exact hu)
      rw [lay_add] at h1
      rw [Nat.zero_add] at h1 ⊢
      exact h1
    · have : k = g := by simpa [blk] using hk
      rw [this]; exact hB
theorem Rw.own' {w0 w : World} {v : Value} {l : List α} (h : Rw I E w0 w v l) : ∃ s : Sl, v = s.v ∧ Own I E w s l ∧ (∀ k ∈ blk s, w0.heap.size ≤ k) ∧ v.ownBlock = (blk s).head? := own_row h.own
/-- An item's cell is written. -/
theorem Lay.At.set {w : World} {g off : Nat} {ys : List α} (h : I.At w g off ys) {i j : Nat} {x x' : α} (hi : ys[i]? = some x) (hj : j < I.sz) (v : Value) (hx : I.enc x' = (I.enc x).set j v) : I.At (w.setCell ⟨g, off + i * I.sz + j, none⟩ v) g off (ys.set i x') := by
  intro i' y hy j' u hu
  have hj' : j' < I.sz := by rw [← I.len y]; exact (List.getElem?_eq_some_iff.1 hu).1
  by_cases e : i = i'
  · subst e
    rw [List.getElem?_set_self (List.getElem?_eq_some_iff.1 hi).1] at hy
    obtain rfl : x' = y := by simpa using hy
    rw [hx] at hu
    by_cases ej : j = j'
    · subst ej
      rw [List.getElem?_set_self (by rw [I.len]; exact hj)] at hu
      obtain rfl : v = u := by simpa using hu
      obtain ⟨u0, hu0⟩ : ∃ u0, (I.enc x)[j]? = some u0 := ⟨_, List.getElem?_eq_getElem (by rw [I.len]; exact hj)⟩
      exact World.cell?_setCell_same _ _ _ (h i x hi j u0 hu0)
    · rw [List.getElem?_set_ne ej] at hu
      rw [World.cell?_setCell_other _ _ _ _ (by intro he; injection he with h1 h2; omega)]
      exact h i x hi j' u hu
  · rw [List.getElem?_set_ne e] at hy
    have hne : ¬ off + i' * I.sz + j' = off + i * I.sz + j := by
      intro he
      have h1 : i' * I.sz + j' = i * I.sz + j := by omega
      have h2 : (i' * I.sz + j') / I.sz = (i * I.sz + j) / I.sz := by rw [h1]
      have hp : 0 < I.sz := by omega
      rw [Nat.mul_comm i', Nat.mul_comm i, Nat.mul_add_div hp, Nat.mul_add_div hp, Nat.div_eq_of_lt hj', Nat.div_eq_of_lt hj] at h2
      omega
    rw [World.cell?_setCell_other _ _ _ _ (by intro he; injection he with h1 h2; omega)]
    exact h i' y hy j' u hu
theorem Own.set {w : World} {s : Sl} {g : Nat} {ys : List α} (h : Own I E w s ys) (ha : s.a = some ⟨g, 0, none⟩) {i j : Nat} {x x' : α} (hi : ys[i]? = some x) (hj : j < I.sz) (v : Value) (hx : I.enc x' = (I.enc x).set j v) : Own I E (w.setCell ⟨g, i * I.sz + j, none⟩ v) s (ys.set i x') := by
  obtain ⟨h1, h2, h3, h⟩ := h
  refine ⟨by rw [List.length_set]; exact h1, h2, h3, .inr ?_⟩
  rcases h with rfl | ⟨g', ha', hs, hat⟩
  · cases ha
  · rw [ha] at ha'
    obtain rfl : g = g' := by simpa using ha'
    refine ⟨g, ha, hs.set _ _, ?_⟩
    have := hat.set hi hj v hx
    rwa [Nat.zero_add] at this
theorem Own.cell {w : World} {s : Sl} {g : Nat} {ys : List α} (h : Own I E w s ys) (ha : s.a = some ⟨g, 0, none⟩) {i j : Nat} {x : α} {u : Value} (hi : ys[i]? = some x) (hu : (I.enc x)[j]? = some u) : w.cell? ⟨g, i * I.sz + j, none⟩ = some u := by
  obtain ⟨h1, h2, h3, h⟩ := h
  rcases h with rfl | ⟨g', ha', hs, hat⟩
  · cases ha
  · rw [ha] at ha'
    obtain rfl : g = g' := by simpa using ha'
    have := hat i x hi j u hu
    rwa [Nat.zero_add] at this
theorem Own.fz {w : World} {s : Sl} {g : Nat} {ys : List α} (h : Own I E w s ys) (ha : s.a = some ⟨g, 0, none⟩) (k : Nat) : w.frozen? ⟨g, k, none⟩ = false := by
  obtain ⟨h1, h2, h3, h⟩ := h
  rcases h with rfl | ⟨g', ha', hs, hat⟩
  · cases ha
  · rw [ha] at ha'
    obtain rfl : g = g' := by simpa using ha'
    exact hs.fz k
theorem Own.some {w : World} {s : Sl} {ys : List α} (h : Own I E w s ys) (hne : ys ≠ []) : ∃ g, s.a = .some ⟨g, 0, none⟩ := by
  obtain ⟨h1, h2, h3, h⟩ := h
  rcases h with rfl | ⟨g', ha', hs, hat⟩
  · exact absurd (List.eq_nil_of_length_eq_zero h1.symm) hne
  · exact ⟨g', ha'⟩

/-- The world behind a call that may write into some blocks. -/
structure Ext (w : World) (L : List Nat) (w' : World) (L' : List Nat) : Prop where
  os : w'.os = w.os
  tape : w'.tape = w.tape
  output : w'.output = w.output
  size : w.heap.size ≤ w'.heap.size
  block : ∀ k, k < w.heap.size → k ∉ L → w'.heap[k]? = w.heap[k]?
  new : ∀ k ∈ L', k ∈ L ∨ w.heap.size ≤ k
theorem Ext.refl (w : World) (L : List Nat) : Ext w L w L := ⟨rfl, rfl, rfl, Nat.le_refl _, fun _ _ _ => rfl, fun k hk => .inl hk⟩
theorem Ext.trans {w w1 w2 : World} {L L1 L2 : List Nat} (h1 : Ext w L w1 L1) (h2 : Ext w1 L1 w2 L2) : Ext w L w2 L2 :=
  ⟨h2.os.trans h1.os, h2.tape.trans h1.tape, h2.output.trans h1.output, Nat.le_trans h1.size h2.size,
   fun k hk hn => (h2.block k (Nat.lt_of_lt_of_le hk h1.size) (fun hm => (h1.new k hm).elim hn (fun h => by omega))).trans (h1.block k hk hn),
   fun k hk => (h2.new k hk).elim (h1.new k) (fun h => .inr (Nat.le_trans h1.size h))⟩
theorem Ext.of_below {w w' : World} {L : List Nat} (h : Below w.heap.size w w') : Ext w L w' L := ⟨h.os, h.tape, h.output, h.size, fun k hk _ => h.block k hk, fun k hk => .inl hk⟩
theorem Ext.below {w w' : World} {L L' : List Nat} {B : Nat} (h : Ext w L w' L') (hB : B ≤ w.heap.size) (hl : ∀ k ∈ L, B ≤ k) : Below B w w' :=
  ⟨h.os, h.tape, h.output, h.size, fun k hk => h.block k (Nat.lt_of_lt_of_le hk hB) (fun hm => by have := hl k hm; omega)⟩

/-- A block's cells. -/
structure DC (w : World) (b : Nat) (cs : List Value) : Prop where
  cells : ∀ i v, cs[i]? = some v → w.cell? ⟨b, i, none⟩ = some v
  fz : ∀ i, w.frozen? ⟨b, i, none⟩ = false
  lt : b < w.heap.size
theorem DC.alloc (w : World) (cs : List Value) (t : TypeId) : DC (w.alloc (.cells cs.toArray t)) w.heap.size cs :=
  ⟨fun i v h => by rw [World.cell?_alloc_at _ _ _ _ rfl]; simpa using h, fun i => World.frozen?_alloc_at _ _ _ _ rfl, by simp⟩
theorem DC.keep {w w' : World} {b : Nat} {cs : List Value} (h : DC w b cs) (hs : w.heap.size ≤ w'.heap.size) (hk : w'.heap[b]? = w.heap[b]?) : DC w' b cs :=
  ⟨fun i v hv => (World.cell?_of_block (a := ⟨b, i, none⟩) hk).trans (h.cells i v hv), fun i => (World.frozen?_of_block (a := ⟨b, i, none⟩) hk).trans (h.fz i), Nat.lt_of_lt_of_le h.lt hs⟩
theorem DC.below {w w' : World} {b : Nat} {cs : List Value} (h : DC w b cs) (hb : Below w.heap.size w w') : DC w' b cs := h.keep hb.size (hb.block b h.lt)
theorem DC.set {w : World} {b : Nat} {cs : List Value} (h : DC w b cs) (i : Nat) (x : Value) (hi : i < cs.length) : DC (w.setCell ⟨b, i, none⟩ x) b (cs.set i x) := by
  refine ⟨fun j v hv => ?_, fun j => (World.frozen?_setCell _ _ _ _).trans (h.fz j), by simpa [World.setCell] using h.lt⟩
  by_cases e : i = j
  · subst e
    rw [List.getElem?_set_self hi] at hv
    obtain rfl := Option.some.inj hv
    exact World.cell?_setCell_same _ _ _ (h.cells i _ (List.getElem?_eq_getElem hi))
  · rw [List.getElem?_set_ne e] at hv
    exact (World.cell?_setCell_other _ _ _ _ (by simp [Ne.symm e])).trans (h.cells j v hv)
end Go.Proofs.Ytdgnjalbpiciiaa
