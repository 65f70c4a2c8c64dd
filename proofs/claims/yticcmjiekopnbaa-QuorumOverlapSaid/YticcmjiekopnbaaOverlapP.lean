/-
  QuorumOverlap proved: two majorities share a voter. Conditions: none of the arguments. (Written by genqp.py.)
-/
import Derived.Test.YticcmjiekopnbaaOpen
import Derived.Test.YticcmjiekopnbaaOverlapW
namespace Go.Proofs.Yticcmjiekopnbaa
set_option linter.unusedVariables false
set_option linter.unusedSimpArgs false
open Go.ChangeShapes Go.WideShapes Go.ChangeAt Go.WideMaps Go.WideElems Go.RowKit

set_option maxRecDepth 100000 in
theorem overlap_lifted (os : Os) (started : os.Started) (H : Type) (enc : TypeId × Value → H) :
    ReturnsInHanded {} Try.checked os 8 .any (Rows.quorumOverlapSpec.pre6 enc Try.prog Try.f8 [] false)
      (Rows.quorumOverlapSpec.post enc Try.prog Try.f8 false true false false) := by
  refine returnsInHanded_of_change (C := Try.checked) own started (by kernel_rfl) Try.func8
    (ChangeSpec.witness6 (enc := enc) (C := Try.checked) false ⟨#[], #[.agg #[.slice none 0 0, .slice none 0 0], .agg #[.slice none 0 0, .slice none 0 0], .slice none 0 0, .slice none 0 0], []⟩ 8 (by kernel_rfl) (by kernel_rfl) (by kernel_rfl) (by kernel_rfl)) ?_
  intro W base args ds gs before hval0 hW _ _
  have hval : ∀ (j : Nat) t v, Try.f8.params[j]? = some t → args[j]? = some v → Value.okWide Try.prog W .any base t v := hval0
  have hW' := hW
  obtain ⟨p, q, hA0, hV, rfl, hfz, hnd⟩ := hW
  have hA : DataW.TrodAll enc Try.prog W 0 (fun _ => true) true Try.f8.params.toList args.toList ds p := hA0
  rw [Try.params8] at hA hval
  obtain ⟨v0, v1, v2, v3, d0, d1, d2, d3, p0, p1, p2, p3, rfl, rfl, rfl, h0, h1, h2, h3⟩ := trodAll_four hA
  obtain ⟨rfl, rfl⟩ := trodVars_none hV
  obtain ⟨x0, y0, vs0, ls0, rfl, hr0⟩ := open_ro (hval 0 24 v0 rfl rfl) h0
  obtain ⟨x1, y1, vs1, ls1, rfl, hr1⟩ := open_ro (hval 1 24 v1 rfl rfl) h1
  obtain ⟨ts2, hts2⟩ := open_ints' (hval 2 22 v2 rfl rfl) h2
  obtain ⟨ts3, hts3⟩ := open_ints' (hval 3 22 v3 rfl rfl) h3
  refine (show Calls Try.prog 8 _ W (BoolP true W) from Overlap_law hr0 hr1 hts2 hts3).mono fun e W' ⟨he, hw⟩ => ?_
  subst he
  exact ⟨_, rfl, post_law rfl (by kernel_rfl) (by kernel_rfl) rfl hW' hw⟩

theorem overlap_holds : Rows.QuorumOverlapSaid :=
  OpenClaim.holds_of_wide 8 Try.f8 rfl rfl rfl rfl rfl rfl rfl ⟨rfl, rfl, rfl, rfl, rfl⟩ rfl rfl rfl rfl rfl (by kernel_rfl) Try.func8 (by kernel_rfl)
    (of_decide_eq_true (by kernel_rfl)) (by unfold Func.isWrapper; first | (rw [if_pos (by decide +kernel)]; kernel_rfl) | (rw [if_neg (by decide +kernel)]; exact ⟨rfl, rfl⟩))
    (fun os started H enc _ => overlap_lifted os started H enc)
#print axioms overlap_holds
end Go.Proofs.Yticcmjiekopnbaa
