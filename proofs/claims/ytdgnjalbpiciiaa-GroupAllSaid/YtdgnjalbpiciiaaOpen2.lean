/-
  Arguments opened: events and their sizes.
-/
import Derived.Test.YtdgnjalbpiciiaaOpen
import Derived.Test.YtdgnjalbpiciiaaEe
namespace Go.Proofs.Ytdgnjalbpiciiaa
set_option linter.unusedVariables false
set_option linter.unusedSimpArgs false
set_option maxRecDepth 100000
open Go.ChangeShapes Go.WideShapes Go.ChangeAt Go.WideMaps Go.WideElems Go.RowKit

def FitE (e : Kev) : Prop := e.key.size ≤ 9223372036854775807 ∧ e.old.size ≤ 9223372036854775807 ∧ e.now.size ≤ 9223372036854775807
section
variable {H : Type} {enc : TypeId × Value → H} {W : World}
theorem c_str : Try.prog.cellsOf 9 = 1 := by kernel_rfl
theorem c_bool : Try.prog.cellsOf 4 = 1 := by kernel_rfl
theorem c_ev : Try.prog.cellsOf 51 = 6 := by kernel_rfl
theorem list6 {α : Type} {cs : List α} (h : cs.length = 6) : ∃ c0 c1 c2 c3 c4 c5, cs = [c0, c1, c2, c3, c4, c5] := by
  match cs, h with
  | [c0, c1, c2, c3, c4, c5], _ => exact ⟨c0, c1, c2, c3, c4, c5, rfl⟩
theorem opened_evf {n : Nat} {cs : List Value} {y : DataW H × List MemPlace} (hf : DataW.trod enc Try.prog W 0 (fun _ => true) true n 51 cs = some y) : ∃ o, cs = evL.enc o ∧ FitE o := by
  obtain ⟨xs, m, _, rfl, hl, hlen, hfs⟩ := DataW.trod_struct Try.underlying51 hf
  rw [c_ev] at hl
  obtain ⟨v0, v1, v2, v3, v4, v5, rfl⟩ := list6 hl
  obtain ⟨y0, y1, y2, y3, y4, y5, rfl⟩ := list6 hlen
  obtain ⟨x0, e0, _, _⟩ := DataW.trod_int Try.underlying3 (hfs 0 _ rfl)
  obtain ⟨x1, e1, _, z1⟩ := DataW.trod_string Try.underlying9 (hfs 1 _ rfl)
  obtain ⟨x2, e2, _⟩ := DataW.trod_bool Try.underlying4 (hfs 2 _ rfl)
  obtain ⟨x3, e3, _, z3⟩ := DataW.trod_string Try.underlying9 (hfs 3 _ rfl)
  obtain ⟨x4, e4, _⟩ := DataW.trod_bool Try.underlying4 (hfs 4 _ rfl)
  obtain ⟨x5, e5, _, z5⟩ := DataW.trod_string Try.underlying9 (hfs 5 _ rfl)
  simp [c_str, c_bool, c_int] at e0 e1 e2 e3 e4 e5
  subst e0 e1 e2 e3 e4 e5
  unfold maxLen at z1 z3 z5
  exact ⟨⟨x0, x1, x2, x3, x4, x5⟩, rfl, by show x1.size ≤ _; omega, by show x3.size ≤ _; omega, by show x5.size ≤ _; omega⟩
theorem opened_evsf {n : Nat} {v : Value} {y : DataW H × List MemPlace} (hf : DataW.trod enc Try.prog W 0 (fun _ => true) true n 49 [v] = some y) : ∃ l, evL.In W v l ∧ ∀ e ∈ l, FitE e :=
  opened_list (I := evL) (Q := FitE) Try.underlying49 c_ev (by decide) (fun n cs y h => opened_evf h) hf
theorem open_evs {v : Value} {d : DataW H} {p : List MemPlace} {r : Reach} {b0 : Nat} (hv : Value.okWide Try.prog W r b0 49 v) (h : DataW.Trod enc Try.prog W 0 (fun _ => true) true 49 v d p) : ∃ l, evL.In W v l ∧ ∀ e ∈ l, e.key.size ≤ 9223372036854775807 := by
  obtain ⟨a, len, cap, rfl⟩ := okWide_slice Try.underlying49 hv
  obtain ⟨fuel, hf⟩ := h
  obtain ⟨l, h1, h2⟩ := opened_evsf (by simpa [Value.cells] using hf)
  exact ⟨l, h1, fun e he => (h2 e he).1⟩
end
end Go.Proofs.Ytdgnjalbpiciiaa
