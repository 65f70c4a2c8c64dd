/-
  Filters in memory; whether they are light.
-/
import Derived.Test.YtdeknkfhlmkabaaF1
import Derived.Lib.MinMax
namespace Go.Proofs.Ytdeknkfhlmkabaa
set_option linter.unusedVariables false
set_option linter.unusedSimpArgs false
open Go.RowKit

/-- Kids are told, in blocks below B. -/
inductive KidsIn (w : World) (B : Nat) : Value → List Fl → Prop
  | nul (a : Option Addr) (c : Nat) (hc : c ≤ 9223372036854775807) : KidsIn w B (.slice a 0 c) []
  | more (g off c : Nat) (ks : List Fl) (us : Nat → Value) (hg : g < B) (h0 : 0 < ks.length) (hc1 : ks.length ≤ c) (hc2 : c ≤ 9223372036854775807)
      (hcell : ∀ i k, ks[i]? = some k → w.cell? ⟨g, off + i * 4, none⟩ = some (.int .i64 k.kind) ∧ w.cell? ⟨g, off + i * 4 + 1, none⟩ = some (.string k.name) ∧ w.cell? ⟨g, off + i * 4 + 2, none⟩ = some (.string k.text) ∧ w.cell? ⟨g, off + i * 4 + 3, none⟩ = some (us i))
      (hk : ∀ i k, ks[i]? = some k → KidsIn w B (us i) k.kids) : KidsIn w B (.slice (some ⟨g, off, none⟩) ks.length c) ks
theorem KidsIn.slice {w : World} {B : Nat} {v : Value} {ks : List Fl} (h : KidsIn w B v ks) : ∃ a c, v = .slice a ks.length c ∧ ks.length ≤ c ∧ c ≤ 9223372036854775807 := by
  cases h with
  | nul a c hc => exact ⟨a, c, rfl, by simp, hc⟩
  | more g off c ks us hg h0 hc1 hc2 hcell hk => exact ⟨_, c, rfl, hc1, hc2⟩
theorem KidsIn.at_ {w : World} {B n c : Nat} {a : Option Addr} {ks : List Fl} (h : KidsIn w B (.slice a n c) ks) {i : Nat} {k : Fl} (hi : ks[i]? = some k) :
    ∃ g off u, a = some ⟨g, off, none⟩ ∧ n = ks.length ∧ g < B ∧ w.cell? ⟨g, off + i * 4, none⟩ = some (.int .i64 k.kind) ∧ w.cell? ⟨g, off + i * 4 + 1, none⟩ = some (.string k.name) ∧ w.cell? ⟨g, off + i * 4 + 2, none⟩ = some (.string k.text) ∧ w.cell? ⟨g, off + i * 4 + 3, none⟩ = some u ∧ KidsIn w B u k.kids := by
  cases h with
  | nul => simp at hi
  | more g off c ks us hg h0 hc1 hc2 hcell hk =>
    obtain ⟨e0, e1, e2, e3⟩ := hcell i k hi
    exact ⟨g, off, us i, rfl, rfl, hg, e0, e1, e2, e3, hk i k hi⟩
theorem KidsIn.keep {w w' : World} {B : Nat} {v : Value} {ks : List Fl} (h : KidsIn w B v ks) (hb : ∀ k, k < B → w'.heap[k]? = w.heap[k]?) : KidsIn w' B v ks := by
  induction h with
  | nul a c hc => exact .nul a c hc
  | more g off c ks us hg h0 hc1 hc2 hcell hk ih =>
    have e : ∀ o, w'.cell? ⟨g, o, none⟩ = w.cell? ⟨g, o, none⟩ := fun o => World.cell?_of_block (a := ⟨g, o, none⟩) (hb g hg)
    exact .more g off c ks us hg h0 hc1 hc2 (fun i k hi => by rw [e, e, e, e]; exact hcell i k hi) ih
theorem KidsIn.later {w w' : World} {B : Nat} {v : Value} {ks : List Fl} (h : KidsIn w B v ks) (hb : Below B w w') : KidsIn w' B v ks := h.keep hb.block
theorem KidsIn.wider {w : World} {B B' : Nat} {v : Value} {ks : List Fl} (h : KidsIn w B v ks) (hb : B ≤ B') : KidsIn w B' v ks := by
  induction h with
  | nul a c hc => exact .nul a c hc
  | more g off c ks us hg h0 hc1 hc2 hcell hk ih => exact .more g off c ks us (by omega) h0 hc1 hc2 hcell ih
theorem KidsIn.grown {w w' : World} {B nb : Nat} {v : Value} {ks : List Fl} (h : KidsIn w B v ks) (hg : w.grownBy w' (some nb)) (hn : B ≤ nb) (hB : B ≤ w.heap.size) : KidsIn w' B v ks :=
  h.keep (fun k hk => hg.block k (by omega) (fun e => by cases e; omega))

/-- A filter of few bytes. -/
inductive Light : Fl → Prop
  | mk (f : Fl) (h1 : f.name.size ≤ 8192) (h2 : f.text.size ≤ 8192) (h3 : f.kids.length ≤ 1000) (hk : ∀ k ∈ f.kids, Light k) : Light f
theorem Light.name {f : Fl} (h : Light f) : f.name.size ≤ 8192 := by cases h; assumption
theorem Light.text {f : Fl} (h : Light f) : f.text.size ≤ 8192 := by cases h; assumption
theorem Light.kids {f : Fl} (h : Light f) : f.kids.length ≤ 1000 := by cases h; assumption
theorem Light.kid {f k : Fl} (h : Light f) (hk : k ∈ f.kids) : Light k := by
  cases h with
  | mk f h1 h2 h3 hh => exact hh k hk

theorem grown_trans {w w1 w2 : World} {b : Nat} (h1 : w.grownBy w1 (some b)) (h2 : w1.grownBy w2 (some b)) : w.grownBy w2 (some b) :=
  ⟨h2.os.trans h1.os, h2.tape.trans h1.tape, h2.output.trans h1.output, Nat.le_trans h1.size h2.size, fun k hk hn => (h2.block k (Nat.lt_of_lt_of_le hk h1.size) hn).trans (h1.block k hk hn)⟩
theorem grown_below {w w' : World} (h : Below w.heap.size w w') (row : Option Nat) : w.grownBy w' row := ⟨h.os, h.tape, h.output, h.size, fun k hk _ => h.block k hk⟩
theorem grown_alloc (w : World) (o : Obj) (row : Option Nat) : w.grownBy (w.alloc o) row := grown_below (lay_alloc w o) row
theorem grown_put (w : World) (b o : Nat) (x : Value) : w.grownBy (w.setCell ⟨b, o, none⟩ x) (some b) :=
  ⟨rfl, rfl, rfl, by simp [World.setCell], fun k _ hne => Below.heap_setCell _ _ _ _ (fun e => hne (by rw [e]))⟩
theorem grown_cell {w w' : World} {b : Nat} (h : w.grownBy w' (some b)) {g o : Nat} {v : Value} (hne : g ≠ b) (hc : w.cell? ⟨g, o, none⟩ = some v) : w'.cell? ⟨g, o, none⟩ = some v := h.cell hc (by simpa using hne)
/-- A block's cells. -/
structure DC (w : World) (b : Nat) (cs : List Value) : Prop where
  cells : ∀ i v, cs[i]? = some v → w.cell? ⟨b, i, none⟩ = some v
  fz : ∀ i, w.frozen? ⟨b, i, none⟩ = false
  lt : b < w.heap.size
theorem DC.alloc (w : World) (cs : List Value) (t : TypeId) : DC (w.alloc (.cells cs.toArray t)) w.heap.size cs :=
  ⟨fun i v h => by rw [World.cell?_alloc_at _ _ _ _ rfl]; simpa using h, fun i => World.frozen?_alloc_at _ _ _ _ rfl, by simp⟩
theorem DC.keep {w w' : World} {b : Nat} {cs : List Value} (h : DC w b cs) (hs : w.heap.size ≤ w'.heap.size) (hk : w'.heap[b]? = w.heap[b]?) : DC w' b cs :=
  ⟨fun i v hv => (World.cell?_of_block (a := ⟨b, i, none⟩) hk).trans (h.cells i v hv), fun i => (World.frozen?_of_block (a := ⟨b, i, none⟩) hk).trans (h.fz i), Nat.lt_of_lt_of_le h.lt hs⟩
theorem DC.below {w w' : World} {b : Nat} {cs : List Value} (h : DC w b cs) (hb : Below w.heap.size w w') : DC w' b cs := h.keep hb.size (hb.block b h.lt)
theorem DC.set {w : World} {b : Nat} {cs : List Value} (h : DC w b cs) (i : Nat) (x : Value) (hi : i < cs.length) : DC (w.setCell ⟨b, i, none⟩ x) b (cs.set i x) := by
  refine ⟨fun j v hv => ?_, fun j => (World.frozen?_setCell _ _ _ _).trans (h.fz j), by simpa [World.setCell] using h.lt⟩
  by_cases e : i = j
  · subst e
    rw [List.getElem?_set_self hi] at hv
    obtain rfl := Option.some.inj hv
    exact World.cell?_setCell_same _ _ _ (h.cells i _ (List.getElem?_eq_getElem hi))
  · rw [List.getElem?_set_ne e] at hv
    exact (World.cell?_setCell_other _ _ _ _ (by simp [Ne.symm e])).trans (h.cells j v hv)
theorem DC.other {w : World} {b k o : Nat} {x : Value} {cs : List Value} (h : DC w b cs) (hk : b ≠ k) : DC (w.setCell ⟨k, o, none⟩ x) b cs :=
  h.keep (by simp [World.setCell]) (Below.heap_setCell _ _ _ _ hk)

theorem DC.grown {w w' : World} {b nb : Nat} {cs : List Value} (h : DC w b cs) (hg : w.grownBy w' (some nb)) (hn : b ≠ nb) : DC w' b cs := h.keep hg.size (hg.block b h.lt (by simpa using hn))
end Go.Proofs.Ytdeknkfhlmkabaa
