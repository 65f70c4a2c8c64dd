/-
  Lists of structs in memory, whatever the struct: told, being written, kept.
-/
import Derived.Test.YtdgnjalbpiciiaaProg
import Derived.WalkKit
import Derived.WalkSpells
import Derived.WalkLawsBesides
import Derived.Laws.AppendOwnNone
import Derived.Laws.OwnMore
import Derived.Deep.DeepFit
import Derived.Lib.Hide
import Derived.IntWalk
import Derived.Deep.RegionLaw
import Derived.Deep.AppendLies
import Derived.Deep.RegionHeld3
import Derived.Deep.RegionWith
import Derived.Deep.QuietTactic
import Derived.BigQuiet
namespace Go.Proofs.Ytdgnjalbpiciiaa
set_option linter.unusedVariables false
set_option linter.unusedSimpArgs false
open Go.RowKit

/-- How an item lies in cells. -/
structure Lay (α : Type) where
  enc : α → List Value
  sz : Nat
  len : ∀ x, (enc x).length = sz
  one : ∀ x, ∀ u ∈ enc x, u.oneCell' = true
variable {α : Type} {I : Lay α}
def Lay.all (I : Lay α) (l : List α) : List Value := l.flatMap I.enc
theorem Lay.all_nil : I.all [] = [] := rfl
theorem Lay.all_one (x : α) : I.all [x] = I.enc x := by simp [Lay.all]
theorem Lay.all_app (a b : List α) : I.all (a ++ b) = I.all a ++ I.all b := List.flatMap_append
theorem Lay.all_len (I : Lay α) : ∀ l : List α, (I.all l).length = l.length * I.sz
  | [] => by simp [Lay.all]
  | x :: l => by
    have ih := Lay.all_len I l
    have e : I.all (x :: l) = I.enc x ++ I.all l := rfl
    rw [e, List.length_append, ih, I.len, List.length_cons, Nat.add_mul]
    omega
theorem Lay.all_at (I : Lay α) : ∀ (l : List α) (i j : Nat), j < I.sz → (I.all l)[i * I.sz + j]? = (l[i]?).bind fun x => (I.enc x)[j]?
  | [], i, j, _ => by simp [Lay.all]
  | x :: l, 0, j, hj => by
    have e : I.all (x :: l) = I.enc x ++ I.all l := rfl
    rw [e, List.getElem?_append_left (by rw [I.len]; omega)]
    simp
  | x :: l, i + 1, j, hj => by
    have e : I.all (x :: l) = I.enc x ++ I.all l := rfl
    rw [e, List.getElem?_append_right (by rw [I.len, Nat.add_mul]; omega), I.len, List.getElem?_cons_succ, ← Lay.all_at I l i j hj]
    congr 1
    rw [Nat.add_mul]; omega
theorem Lay.all_ones (I : Lay α) (l : List α) : ∀ u ∈ I.all l, u.oneCell' = true := by
  intro u hu
  obtain ⟨x, _, hx⟩ := List.mem_flatMap.1 hu
  exact I.one x u hx

theorem lay_later {w w' : World} (hb : Below w.heap.size w w') {p : Addr} {v : Value} (h : w.cell? p = some v) : w'.cell? p = some v := (hb.cell (World.block_lt_of_cell? w _ h)).trans h
theorem lay_alloc (w : World) (o : Obj) : Below w.heap.size w (w.alloc o) := (Below.refl _ _).alloc (Nat.le_refl _) _
theorem lay_drew {B : Nat} {w w' : World} (h : Below B w w') : Below B w w'.drew := ⟨h.os, h.tape, h.output, h.size, h.block⟩

/-- Items from a place on. -/
def Lay.At (I : Lay α) (w : World) (g off : Nat) (l : List α) : Prop := ∀ i x, l[i]? = some x → ∀ j v, (I.enc x)[j]? = some v → w.cell? ⟨g, off + i * I.sz + j, none⟩ = some v
/-- A list of items is told. -/
def Lay.In (I : Lay α) (w : World) (v : Value) (l : List α) : Prop := ∃ a c, v = .slice a l.length c ∧ l.length ≤ c ∧ c ≤ 9223372036854775807 ∧ (l = [] ∨ ∃ g off, a = some ⟨g, off, none⟩ ∧ g < w.heap.size ∧ I.At w g off l)
theorem Lay.At.block {w w' : World} {g off : Nat} {l : List α} (h : I.At w g off l) (hk : w'.heap[g]? = w.heap[g]?) : I.At w' g off l := fun i x hx j v hv =>
  (World.cell?_of_block (w := w) (w' := w') (a := ⟨g, _, none⟩) hk).trans (h i x hx j v hv)
theorem Lay.At.later {w w' : World} {g off : Nat} {l : List α} (h : I.At w g off l) (hb : Below w.heap.size w w') : I.At w' g off l := fun i x hx j v hv => lay_later hb (h i x hx j v hv)
theorem Lay.In.later {w w' : World} {v : Value} {l : List α} (h : I.In w v l) (hb : Below w.heap.size w w') : I.In w' v l := by
  obtain ⟨a, c, hv, h1, h2, h⟩ := h
  refine ⟨a, c, hv, h1, h2, h.imp id ?_⟩
  rintro ⟨g, off, ha, hg, h⟩
  exact ⟨g, off, ha, Nat.lt_of_lt_of_le hg hb.size, h.later hb⟩
theorem Lay.In.nil (w : World) : I.In w (.slice none 0 0) ([] : List α) := ⟨none, 0, rfl, Nat.le_refl _, by decide, .inl rfl⟩
theorem Lay.In.slice {w : World} {v : Value} {l : List α} (h : I.In w v l) : ∃ a c, v = .slice a l.length c ∧ l.length ≤ c ∧ c ≤ 9223372036854775807 := by
  obtain ⟨a, c, hv, h1, h2, _⟩ := h
  exact ⟨a, c, hv, h1, h2⟩
theorem Lay.In.cells {w : World} {a : Option Addr} {n c : Nat} {l : List α} (h : I.In w (.slice a n c) l) {i : Nat} {x : α} (hx : l[i]? = some x) : ∃ g off, a = some ⟨g, off, none⟩ ∧ n = l.length ∧ ∀ j v, (I.enc x)[j]? = some v → w.cell? ⟨g, off + i * I.sz + j, none⟩ = some v := by
  obtain ⟨a', c', hv, _, _, h⟩ := h
  simp only [Value.slice.injEq] at hv
  obtain ⟨rfl, rfl, rfl⟩ := hv
  obtain ⟨g, off, ha, _, h⟩ := h.resolve_left (fun e => by rw [e] at hx; simp at hx)
  exact ⟨g, off, ha, rfl, h i x hx⟩
/-- A beginning of a list. -/
theorem Lay.In.take {w : World} {a : Option Addr} {n c : Nat} {l : List α} (h : I.In w (.slice a n c) l) (k : Nat) (hk : k ≤ n) : I.In w (.slice a k c) (l.take k) := by
  obtain ⟨a', c', hv, h1, h2, h⟩ := h
  simp only [Value.slice.injEq] at hv
  obtain ⟨rfl, rfl, rfl⟩ := hv
  have hl : (l.take k).length = k := by simp; omega
  refine ⟨a, c, by rw [hl], by omega, h2, ?_⟩
  rcases h with rfl | ⟨g, off, ha, hg, h⟩
  · exact .inl (by simp)
  · refine .inr ⟨g, off, ha, hg, fun i x hx j v hv => h i x ?_ j v hv⟩
    rw [List.getElem?_take] at hx
    split at hx
    · exact hx
    · cases hx
theorem lay_add (b o j : Nat) : (⟨b, o, none⟩ : Addr).add j = ⟨b, o + j, none⟩ := by unfold Addr.add; split <;> simp_all

/-- A list that is being written, in a block of its own, since a world. -/
structure Rw (I : Lay α) (E : TypeId) (w0 w : World) (v : Value) (ys : List α) : Prop where
  own : w.ownsRow w0.heap.size E I.sz v ys.length (I.all ys)
  grown : Below w0.heap.size w0 w
variable {E : TypeId} {w0 w : World} {v : Value} {ys : List α}
theorem Rw.nil (w : World) : Rw I E w w (.slice none 0 0) [] := ⟨World.ownsRow_nil _ _ _ _, Below.refl _ _⟩
theorem Rw.slice (h : Rw I E w0 w v ys) : ∃ a c, v = .slice a ys.length c ∧ ys.length ≤ c ∧ c ≤ 9223372036854775807 := by
  rcases h.own.2 with ⟨h0, h1⟩ | ⟨g', cap, cur, hv, _, _, hn, hm, _⟩
  · exact ⟨none, 0, by rw [h0, h1], by omega, by decide⟩
  · exact ⟨_, cap, hv, hn, by unfold maxLen at hm; exact hm⟩
theorem Lay.in_own {B n : Nat} (h : w.ownsRow B E I.sz v n (I.all ys)) (hn : n = ys.length) : I.In w v ys := by
  subst hn
  rcases h.2 with ⟨rfl, h0⟩ | ⟨g, cap, cur, rfl, _, hg, hnc, hcm, _⟩
  · exact ⟨none, 0, by rw [h0], by omega, by decide, .inl (List.eq_nil_of_length_eq_zero h0)⟩
  · refine ⟨_, cap, rfl, hnc, by unfold maxLen at hcm; omega, .inr ⟨g, 0, rfl, ?_, fun i x hx j u hu => ?_⟩⟩
    · by_cases e : g < w.heap.size
      · exact e
      · rw [Array.getElem?_eq_none (by omega)] at hg; cases hg
    · have hj : j < I.sz := by rw [← I.len x]; exact (List.getElem?_eq_some_iff.1 hu).1
      have := h.cells (g := g) rfl (i * I.sz + j) u (by rw [Lay.all_at I _ _ _ hj, hx]; exact hu)
      rw [lay_add] at this
      rw [← this]; congr 2; omega
theorem Rw.told (h : Rw I E w0 w v ys) : I.In w v ys := Lay.in_own h.own rfl
theorem Rw.lt (h : Rw I E w0 w v ys) : ∀ g, v.ownBlock = some g → w0.heap.size ≤ g ∧ g < w.heap.size := h.own.lt
theorem Rw.below {w' : World} (h : Rw I E w0 w v ys) (hb : Below w.heap.size w w') : Rw I E w0 w' v ys :=
  ⟨h.own.kept (row := none) ⟨hb.os, hb.tape, hb.output, hb.size, fun k hk _ => hb.block k hk⟩ (by cases v.ownBlock <;> simp), h.grown.trans (hb.mono h.grown.size)⟩
theorem Rw.alloc (h : Rw I E w0 w v ys) (o : Obj) : Rw I E w0 (w.alloc o) v ys := h.below (lay_alloc w o)
theorem Rw.drew (h : Rw I E w0 w v ys) : Rw I E w0 w.drew v ys := ⟨h.own, lay_drew h.grown⟩
/-- Behind an append. -/
theorem Rw.push {w2 : World} {g c2 : Nat} (x : α) (h : Rw I E w0 w v ys)
    (hown : w2.ownsRow w0.heap.size E I.sz (.slice (some ⟨g, 0, none⟩) (ys.length + 1) c2) (ys.length + 1) (I.all ys ++ I.enc x))
    (hg : w.grownBy w2 v.ownBlock) : Rw I E w0 w2 (.slice (some ⟨g, 0, none⟩) (ys.length + 1) c2) (ys ++ [x]) := by
  refine ⟨by rw [Lay.all_app, Lay.all_one, List.length_append]; exact hown, h.grown.trans ⟨hg.os, hg.tape, hg.output, hg.size, fun k hk => hg.block k (Nat.lt_of_lt_of_le hk h.grown.size) fun e => ?_⟩⟩
  have := (h.lt k e.symm).1; omega
/-- Whoever lies below the beginning is kept by an append. -/
theorem Rw.kept {w2 : World} (h : Rw I E w0 w v ys) (hg : w.grownBy w2 v.ownBlock) {k : Nat} (hk : k < w.heap.size) (hn : k < w0.heap.size ∨ some k ≠ v.ownBlock) : w2.heap[k]? = w.heap[k]? :=
  hg.block k hk (hn.elim (fun h1 e => by have := (h.lt k e.symm).1; omega) id)
/-- The row's base: a world ahead. -/
theorem Rw.base {w1 : World} (h : Rw I E w1 w v ys) (hb : Below w0.heap.size w0 w1) : Rw I E w0 w v ys := by
  refine ⟨⟨h.own.1, h.own.2.imp id ?_⟩, hb.trans (h.grown.mono hb.size)⟩
  rintro ⟨g, cap, cur, hv, hg, rest⟩
  exact ⟨g, cap, cur, hv, Nat.le_trans hb.size hg, rest⟩

/-- 'append(l, x)', x a struct in a new block of its own. -/
theorem wpList_pushI {P : Program} {w0 : World} {ops : Array Oper} {rest : List Oper} {o : Oper} {a : Act} {Q : Exit → Act → World → Prop} (hgd : o.guard = none) (s x : Operand) (T E : TypeId) (zero : Value) (size bytes : Nat)
    (ho : o.op = .call { callee := .builtin .append, args := #[s, x], argTypes := #[T, T] })
    (hT : P.underlying T = some (.slice E)) (hinfo : (P.info? E).map (fun i => (i.zero, i.size, i.bytes)) = some (some zero, size, bytes)) (hz : zero.cells.size = size) (hsz : 0 < size)
    (B n : Nat) (v : Value) (xs : List Value) (hs : a.eval s = v) (hown : w0.ownsRow B E size v n xs)
    (us : Array Value) (hul : us.size = size) (hu : ∀ u ∈ us.toList, u.oneCell' = true) (hx : a.eval x = .slice (some ⟨w0.heap.size, 0, none⟩) 1 1) (h63 : n + 1 ≤ 1073741825) (hb : bytes ≤ 65536) (hB : B ≤ w0.heap.size)
    (h : ∀ g c w', w'.ownsRow B E size (.slice (some ⟨g, 0, none⟩) (n + 1) c) (n + 1) (xs ++ us.toList) → w0.grownBy w' v.ownBlock → (v.ownBlock = some g ∨ w0.heap.size ≤ g) → w0.heap.size < w'.heap.size → wpList P ops Q rest (a.put o.dst (.slice (some ⟨g, 0, none⟩) (n + 1) c)) w') :
    wpList P ops Q (o :: rest) a (w0.alloc (.cells us E)) := by
  obtain ⟨i0, hi, hz0, hz1, hz2⟩ := info_parts hinfo
  have hwz : (w0.alloc (.cells us E)).heap.size = w0.heap.size + 1 := by simp
  refine wpList_append_lies _ hgd s x T ho B E i0 zero size bytes hT hi hz0 hz1 hz2 hz hsz v n xs hs (hown.alloc _) ⟨w0.heap.size, 0, none⟩ 1 1 us.toList hx (by simp [hul]) (World.news_of_block (Go.heap_alloc_new w0 _)) hu (by omega) (by unfold maxLen; omega)
    (Nat.le_trans (Nat.mul_le_mul h63 hb) (by decide)) (by omega) (w0.heap.size + 1) hwz ?_
  intro g cap w' hown' hgrow hat hlt
  have hg0 : w0.grownBy w' v.ownBlock := ⟨hgrow.os, hgrow.tape, hgrow.output, by have := hgrow.size; omega, fun k hk hne => (hgrow.block k (by omega) hne).trans (Below.heap_alloc _ _ _ hk)⟩
  exact h g cap w' hown' hg0 (hat.imp id (fun e => by omega)) (by have := hgrow.size; omega)
end Go.Proofs.Ytdgnjalbpiciiaa
