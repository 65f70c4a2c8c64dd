/-
  Filters made of filters, plainly; kids in a fresh array.
-/
import Derived.Test.YtfkiemmkflchoaaFf
import Derived.Test.YtfkiemmkflchoaaFm
namespace Go.Proofs.Ytfkiemmkflchoaa
set_option linter.unusedVariables false
set_option linter.unusedSimpArgs false
open Go.RowKit

def notF (f : Fl) : Fl := .mk 4 ByteArray.empty ByteArray.empty [f]
def andF (ks : List Fl) : Fl := .mk 5 ByteArray.empty ByteArray.empty ks
def orF (ks : List Fl) : Fl := .mk 6 ByteArray.empty ByteArray.empty ks
theorem not_light {f : Fl} (h : Light f) : Light (notF f) := .mk _ (by show 0 ≤ _; omega) (by show 0 ≤ _; omega) (by show 1 ≤ 1000; omega) (fun k hk => by
  obtain rfl := List.mem_singleton.1 hk
  exact h)
theorem kk_light {k : Int} {ks : List Fl} (h : ∀ f ∈ ks, Light f) (hl : ks.length ≤ 1000) : Light (.mk k ByteArray.empty ByteArray.empty ks) := .mk _ (by show 0 ≤ _; omega) (by show 0 ≤ _; omega) hl h
/-- How a filter holds, wherever it stands where it may be. -/
theorem hold_at {m a : Nat} {f : Fl} (e : Kev) (hm : m ≤ 6) (h : (ec m f a).2 = 0) : ckF f = 0 ∧ hold m f e = hold 6 f e :=
  ⟨(ec_mono m 6 f a 0 hm (Nat.zero_le _) h).1, (hold_mono e m 6 f a hm h).symm⟩
theorem holds_ok {f : Fl} (e : Kev) (h : ckF f = 0) : holdsF f e = hold 6 f e := by unfold holdsF; rw [decide_eq_true h]; rfl
theorem hold_not (m : Nat) (f : Fl) (e : Kev) : hold (m + 1) (notF f) e = !(hold m f e) := by
  simp [hold, notF, Fl.kind, Fl.kids]
theorem hold_and (m : Nat) (ks : List Fl) (e : Kev) : hold (m + 1) (andF ks) e = ks.all (hold m · e) := by
  simp [hold, andF, Fl.kind, Fl.kids]
theorem hold_or (m : Nat) (ks : List Fl) (e : Kev) : hold (m + 1) (orF ks) e = ks.any (hold m · e) := by
  simp [hold, orF, Fl.kind, Fl.kids]
theorem and0 (e : Kev) : holdsF (andF []) e = true := by rw [holds_ok e (by decide +kernel), hold_and]; rfl
theorem or0 (e : Kev) : holdsF (orF []) e = false := by rw [holds_ok e (by decide +kernel), hold_or]; rfl
theorem twice_law {f : Fl} (e : Kev) (h : ckF (notF (notF f)) = 0) : holdsF (notF (notF f)) e = holdsF f e := by
  obtain ⟨a1, h1⟩ := ok_kid (m := 5) (ah := 0) (k := notF f) h (by simp [notF, Fl.kids])
  obtain ⟨a2, h2⟩ := ok_kid (m := 4) (k := f) h1 (by simp [notF, Fl.kids])
  obtain ⟨c1, c2⟩ := hold_at e (by omega) h2
  rw [holds_ok e h, holds_ok e c1, hold_not, hold_not, c2]
  simp
theorem morgan {f g : Fl} (e : Kev) (ha : ckF (notF (andF [f, g])) = 0) (hb : ckF (orF [notF f, notF g]) = 0) :
    holdsF (notF (andF [f, g])) e = holdsF (orF [notF f, notF g]) e ∧ holdsF (andF [f, g]) e = (holdsF f e && holdsF g e) := by
  obtain ⟨a1, h1⟩ := ok_kid (m := 5) (ah := 0) (k := andF [f, g]) ha (by simp [notF, Fl.kids])
  obtain ⟨a2, h2⟩ := ok_kid (m := 4) (k := f) h1 (by simp [andF, Fl.kids])
  obtain ⟨a3, h3⟩ := ok_kid (m := 4) (k := g) h1 (by simp [andF, Fl.kids])
  obtain ⟨c1, c2⟩ := hold_at e (by omega) h2
  obtain ⟨d1, d2⟩ := hold_at e (by omega) h3
  obtain ⟨b1, b2⟩ := hold_at e (by omega) h1
  rw [holds_ok e ha, holds_ok e hb, holds_ok e b1, holds_ok e c1, holds_ok e d1, ← b2, hold_not, hold_or, hold_and]
  simp only [List.all_cons, List.all_nil, List.any_cons, List.any_nil, Bool.and_true, Bool.or_false, hold_not, c2, d2]
  simp
theorem kids1_in {w : World} {g : Nat} {f : Fl} {u : Value} (h : DC w g [.int .i64 f.kind, .string f.name, .string f.text, u]) (hk : KidsIn w w.heap.size u f.kids) : KidsIn w w.heap.size (.slice (some ⟨g, 0, none⟩) 1 1) [f] := by
  refine .more g 0 1 [f] (fun _ => u) h.lt (by simp) (by simp) (by decide) ?_ ?_
  · intro i k hi
    match i with
    | 0 => simp only [List.getElem?_cons_zero, Option.some.injEq] at hi; subst hi; exact ⟨h.cells 0 _ rfl, h.cells 1 _ rfl, h.cells 2 _ rfl, h.cells 3 _ rfl⟩
    | n + 1 => simp at hi
  · intro i k hi
    match i with
    | 0 => simp only [List.getElem?_cons_zero, Option.some.injEq] at hi; subst hi; exact hk
    | n + 1 => simp at hi
theorem kids2_in {w : World} {g : Nat} {f f2 : Fl} {u u2 : Value} (h : DC w g [.int .i64 f.kind, .string f.name, .string f.text, u, .int .i64 f2.kind, .string f2.name, .string f2.text, u2]) (hk : KidsIn w w.heap.size u f.kids) (hk2 : KidsIn w w.heap.size u2 f2.kids) : KidsIn w w.heap.size (.slice (some ⟨g, 0, none⟩) 2 2) [f, f2] := by
  refine .more g 0 2 [f, f2] (fun i => if i = 0 then u else u2) h.lt (by simp) (by simp) (by decide) ?_ ?_
  · intro i k hi
    match i with
    | 0 => simp only [List.getElem?_cons_zero, Option.some.injEq] at hi; subst hi; exact ⟨h.cells 0 _ rfl, h.cells 1 _ rfl, h.cells 2 _ rfl, h.cells 3 _ rfl⟩
    | 1 => simp only [List.getElem?_cons_succ, List.getElem?_cons_zero, Option.some.injEq] at hi; subst hi; exact ⟨h.cells 4 _ rfl, h.cells 5 _ rfl, h.cells 6 _ rfl, h.cells 7 _ rfl⟩
    | n + 2 => simp at hi
  · intro i k hi
    match i with
    | 0 => simp only [List.getElem?_cons_zero, Option.some.injEq] at hi; subst hi; exact hk
    | 1 => simp only [List.getElem?_cons_succ, List.getElem?_cons_zero, Option.some.injEq] at hi; subst hi; exact hk2
    | n + 2 => simp at hi
end Go.Proofs.Ytfkiemmkflchoaa
