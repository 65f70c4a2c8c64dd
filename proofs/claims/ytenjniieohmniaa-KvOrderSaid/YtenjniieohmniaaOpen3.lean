/-
  Arguments opened: ints.
-/
import Derived.Test.YtenjniieohmniaaOpen
import Derived.Test.YtenjniieohmniaaK18
namespace Go.Proofs.Ytenjniieohmniaa
set_option linter.unusedVariables false
set_option linter.unusedSimpArgs false
open Go.ChangeShapes Go.WideShapes Go.ChangeAt Go.WideMaps Go.WideElems Go.RowKit
section
variable {H : Type} {enc : TypeId × Value → H} {W : World}
theorem opened_ints {n : Nat} {v : Value} {y : DataW H × List MemPlace} (hf : DataW.trod enc Try.prog W 0 (fun _ => true) true n 57 [v] = some y) : ∃ l, intL.In W v l := by
  obtain ⟨l, h, _⟩ := opened_list (I := intL) (Q := fun _ => True) Try.underlying57 c_int (by decide) (fun n cs y h => by
    obtain ⟨x, e, _, _⟩ := DataW.trod_int Try.underlying3 h
    exact ⟨x, e, trivial⟩) hf
  exact ⟨l, h⟩
end
end Go.Proofs.Ytenjniieohmniaa
