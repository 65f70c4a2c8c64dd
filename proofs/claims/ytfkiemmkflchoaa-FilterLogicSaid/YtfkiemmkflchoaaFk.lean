/-
  What the operations of a law's region yield, of filters: kinds of values, and which blocks they avoid.
-/
import Derived.Test.YtfkiemmkflchoaaFl
import Derived.Test.YtfkiemmkflchoaaFf
import Derived.Test.YtfkiemmkflchoaaF18
import Derived.Test.YtfkiemmkflchoaaFlow5
namespace Go.Proofs.Ytfkiemmkflchoaa
set_option linter.unusedVariables false
set_option linter.unusedSimpArgs false
open Go.RowKit

inductive Kl where
  | val (v : Value)
  | fil (f : Fl)
  | kids (l : List Fl)
  | fresh (B : Nat)
  | when (b : Bool) (k : Kl)
def SKl : Kl → World → Value → Prop
  | .val u, _, v => v = u
  | .fil f, w, v => ∃ a c, v = flV f (.slice a f.kids.length c) ∧ KidsIn w w.heap.size (.slice a f.kids.length c) f.kids
  | .kids l, w, v => ∃ g, v = .slice (some ⟨g, 0, none⟩) l.length l.length ∧ KidsIn w w.heap.size (.slice (some ⟨g, 0, none⟩) l.length l.length) l
  | .fresh B, w, v => ∃ g, v = .pointer (some ⟨g, 0, none⟩) ∧ B ≤ g ∧ ∃ c0 c1 c2 c3, DC w g [c0, c1, c2, c3]
  | .when b k, w, v => b = true → SKl k w v
def SLl (ks : List Kl) (i : Nat) (w : World) (v : Value) : Prop := match ks[i]? with
  | some k => SKl k w v
  | none => True
theorem SKl_stable {w w' : World} (hb : Below w.heap.size w w') : ∀ (k : Kl) (v : Value), SKl k w v → SKl k w' v
  | .val u, v, h => h
  | .fil f, v, ⟨a, c, e, h⟩ => ⟨a, c, e, h.on hb⟩
  | .kids l, v, ⟨g, e, h⟩ => ⟨g, e, h.on hb⟩
  | .fresh B, v, ⟨g, e, h, c0, c1, c2, c3, hd⟩ => ⟨g, e, h, c0, c1, c2, c3, hd.below hb⟩
  | .when b k, v, h => fun hb' => SKl_stable hb k v (h hb')
theorem SLl_stable (ks : List Kl) (i : Nat) (w w' : World) (v : Value) (h : SLl ks i w v) (hb : Below w.heap.size w w') : SLl ks i w' v := by
  unfold SLl at *
  cases hk : ks[i]? with
  | none => trivial
  | some k => rw [hk] at h; exact SKl_stable hb k v h
/-- Kids that lie in blocks below one. -/
theorem KidsIn.below_s {w : World} {B : Nat} {v : Value} {ks : List Fl} (h : KidsIn w B v ks) (hB : B ≤ w.heap.size) : KidsS w (fun b => b < B) v ks := by
  induction h with
  | nul a c hc => exact .nul a c hc
  | more g off c ks us hg h0 hc1 hc2 hcell hk ih => exact .more g off c ks us hg (Nat.lt_of_lt_of_le hg hB) h0 hc1 hc2 hcell ih
theorem KidsS.wide {w : World} {S S' : Nat → Prop} {v : Value} {ks : List Fl} (h : KidsS w S v ks) (hS : ∀ k, S k → S' k) : KidsS w S' v ks := h.keep (Nat.le_refl _) (fun _ _ _ => rfl) (fun k hk _ => hS k hk)
theorem kidsE1_in {w : World} {S : Nat → Prop} {g : Nat} {f : Fl} {u : Value} (h : DC w g [.int .i64 f.kind, .string f.name, .string f.text, u]) (hS : S g) (hk : KidsS w S u f.kids) : KidsS w S (.slice (some ⟨g, 0, none⟩) 1 1) [f] := by
  refine .more g 0 1 [f] (fun _ => u) hS h.lt (by simp) (by simp) (by decide) ?_ ?_
  · intro i k hi
    match i with
    | 0 => simp only [List.getElem?_cons_zero, Option.some.injEq] at hi; subst hi; exact ⟨h.cells 0 _ rfl, h.cells 1 _ rfl, h.cells 2 _ rfl, h.cells 3 _ rfl⟩
    | n + 1 => simp at hi
  · intro i k hi
    match i with
    | 0 => simp only [List.getElem?_cons_zero, Option.some.injEq] at hi; subst hi; exact hk
    | n + 1 => simp at hi
theorem kidsE2_in {w : World} {S : Nat → Prop} {g : Nat} {f f2 : Fl} {u u2 : Value} (h : DC w g [.int .i64 f.kind, .string f.name, .string f.text, u, .int .i64 f2.kind, .string f2.name, .string f2.text, u2]) (hS : S g) (hk : KidsS w S u f.kids) (hk2 : KidsS w S u2 f2.kids) : KidsS w S (.slice (some ⟨g, 0, none⟩) 2 2) [f, f2] := by
  refine .more g 0 2 [f, f2] (fun i => if i = 0 then u else u2) hS h.lt (by simp) (by simp) (by decide) ?_ ?_
  · intro i k hi
    match i with
    | 0 => simp only [List.getElem?_cons_zero, Option.some.injEq] at hi; subst hi; exact ⟨h.cells 0 _ rfl, h.cells 1 _ rfl, h.cells 2 _ rfl, h.cells 3 _ rfl⟩
    | 1 => simp only [List.getElem?_cons_succ, List.getElem?_cons_zero, Option.some.injEq] at hi; subst hi; exact ⟨h.cells 4 _ rfl, h.cells 5 _ rfl, h.cells 6 _ rfl, h.cells 7 _ rfl⟩
    | n + 2 => simp at hi
  · intro i k hi
    match i with
    | 0 => simp only [List.getElem?_cons_zero, Option.some.injEq] at hi; subst hi; exact hk
    | 1 => simp only [List.getElem?_cons_succ, List.getElem?_cons_zero, Option.some.injEq] at hi; subst hi; exact hk2
    | n + 2 => simp at hi
/-- A value of a kind reaches no cell of a block. -/
def AVk : Kl → World → Nat → Value → Prop
  | .fil f, w, g, v => ∃ a c, v = flV f (.slice a f.kids.length c) ∧ KidsS w (fun b => b ≠ g) (.slice a f.kids.length c) f.kids
  | .kids l, w, g, v => KidsS w (fun b => b ≠ g) v l
  | .fresh _, _, g, v => v ≠ .pointer (some ⟨g, 0, none⟩)
  | _, _, _, _ => True
theorem AVk_later {w w' : World} (hb : Below w.heap.size w w') {g : Nat} : ∀ {k : Kl} {v : Value}, AVk k w g v → AVk k w' g v
  | .val _, _, _ => trivial
  | .when _ _, _, _ => trivial
  | .fil f, _, ⟨a, c, e, h⟩ => ⟨a, c, e, h.later hb⟩
  | .kids _, _, h => KidsS.later h hb
  | .fresh _, _, h => h
/-- What lies in a world reaches no later block. -/
theorem AVk_new {w : World} : ∀ {k : Kl} {v : Value}, SKl k w v → AVk k w w.heap.size v
  | .val _, _, _ => trivial
  | .when _ _, _, _ => trivial
  | .fil f, _, ⟨a, c, e, h⟩ => ⟨a, c, e, (h.below_s (Nat.le_refl _)).wide fun k hk => Nat.ne_of_lt hk⟩
  | .kids l, _, ⟨g, e, h⟩ => by subst e; exact (h.below_s (Nat.le_refl _)).wide fun k hk => Nat.ne_of_lt hk
  | .fresh B, _, ⟨g, e, hB, c0, c1, c2, c3, hd⟩ => by
    subst e
    intro h
    injection h with h; injection h with h; injection h with h
    have := hd.lt; omega
def DLl (ks : List Kl) (m : Nat) (i j : Nat) (w : World) (v u : Value) : Prop := m ≤ i → ∀ g, v = .pointer (some ⟨g, 0, none⟩) → match ks[j]? with
  | some k => AVk k w g u
  | none => True
theorem DLl_stable (ks : List Kl) (m i j : Nat) (w w' : World) (v u : Value) (h : DLl ks m i j w v u) (hb : Below w.heap.size w w') : DLl ks m i j w' v u := by
  intro hi g hg
  have := h hi g hg
  cases hk : ks[j]? with
  | none => trivial
  | some k => rw [hk] at this; exact AVk_later hb this
theorem evl1_in {w : World} {g : Nat} {e : Kev} (h : DC w g [.int .i64 e.pos, .string e.key, .bool e.had, .string e.old, .bool e.has, .string e.now]) : evL.In w (.slice (some ⟨g, 0, none⟩) 1 1) [e] := by
  refine ⟨some ⟨g, 0, none⟩, 1, rfl, Nat.le_refl _, by decide, .inr ⟨g, 0, rfl, h.lt, fun i x hx j u hu => ?_⟩⟩
  match i, hx with
  | 0, hx =>
    simp only [List.getElem?_cons_zero, Option.some.injEq] at hx
    subst hx
    have := h.cells j u hu
    simpa using this
  | n + 1, hx => simp at hx
end Go.Proofs.Ytfkiemmkflchoaa
