/-
  An argument of type []int, opened.
-/
import Derived.Test.YtdihjidbcagplaaDoorPost
import Derived.Test.YtdihjidbcagplaaDoorNumbersW
namespace Go.Proofs.YtdihjidbcagplaaDoor
open Go.ChangeShapes Go.WideShapes Go.ChangeAt Go.WideMaps Go.WideElems Go.RowKit

/-- An argument of type []int, opened, nil or not. -/
theorem opened_ints {H : Type} {enc : TypeId × Value → H} {W : World} {a0 : Option Addr} {len cap : Nat} {d0 : DataW H} {p : List MemPlace}
    (h0 : DataW.Trod enc Tryd.prog W 0 (fun _ => true) true 23 (.slice a0 len cap) d0 p) :
    ∃ xs : List Int, xs.length = len ∧ len ≤ cap ∧ IntsIn W a0 len xs ∧ (∀ x ∈ xs, x ≤ 9223372036854775807) := by
  obtain ⟨fuel, hf⟩ := h0
  rcases open_ints Tryd.underlying23 Tryd.underlying3 (by kernel_rfl) hf with ⟨hcs, _⟩ | ⟨a, len', cap', zs, hcs, _, hl, hm, hz, _, hcell, hwz⟩
  · simp [Value.cells] at hcs
    obtain ⟨rfl, rfl, rfl⟩ := hcs
    exact ⟨[], rfl, Nat.le_refl _, fun h => absurd h (by omega), by simp⟩
  · simp [Value.cells] at hcs
    obtain ⟨rfl, rfl, rfl⟩ := hcs
    simp only [if_true] at hz
    refine ⟨zs.take len, by simp; omega, by omega, fun hn => ?_, fun x hx => ?_⟩
    · have hb := hcell 0 (by omega)
      obtain ⟨b, o, t⟩ := a
      obtain rfl : t = none := by simpa [Addr.add] using World.cell?_spot hb
      exact ⟨b, o, rfl, fun i hi => by
        have := hcell i (by omega)
        rw [addLit] at this
        rw [this]; simp [List.getD, hi]⟩
    · have h := hwz x (List.mem_of_mem_take hx)
      simp only [Lit.wf, Bool.and_eq_true, decide_eq_true_eq] at h
      exact h.2

end Go.Proofs.YtdihjidbcagplaaDoor
