/-
  What every statement's proof shares: the table as the program's text lays it.
-/
import Derived.Test.YtpdabpcdmenlaaaDoorAw
import Derived.Test.YtpdabpcdmenlaaaDoorCards
import Derived.Test.YtpdabpcdmenlaaaDoorTie
import Derived.ProofKit
import Derived.LaidMore
import Derived.OpenShut
import Derived.Stop.Joined
import Derived.SevenTiedAt
namespace Go.Proofs.YtpdabpcdmenlaaaDoor
set_option linter.unusedVariables false
set_option linter.unusedSimpArgs false
open Go.ChangeShapes Go.WideShapes Go.ChangeAt Go.WideMaps Go.WideElems Go.RowKit

theorem own : ownKnob Tryd.prog.godebug = none := by kernel_rfl
abbrev laidL : List (String × DataW Unit) := [("tidemark/wire.fourBits", Rows.laid_tidemark_wire_fourBits)]

theorem door_met (os : Os) (args : Array Value) : laidMetH Tryd.prog laidL ((World.doorLaid Tryd.prog 14 os).forCall (fun _ _ => 0) ⟨#[], args, []⟩).memory :=
  laidMetH_of_parts3 (fuel := 8) (laidMet_of_run' 8 (by kernel_rfl) (by kernel_rfl)) (by kernel_rfl) (by kernel_rfl)

theorem tab_of_laid {W : World} (h : laidMetH Tryd.prog laidL W) : TabIn W := by
  rw [MakeChecks.laidMetH_plain _ _ _ (by kernel_rfl)] at h
  have hT := Lib.tabIs_of_head (n := 16) (k := .u32) (zs := tab.map fun (z : Nat) => (z : Int)) (show Tryd.prog.globalNamed "tidemark/wire.fourBits" = some 0 by kernel_rfl) (show (Tryd.prog.globals[0]?).map (·.type) = some 73 by kernel_rfl) Tryd.underlying73 Tryd.underlying37 (by kernel_rfl) (by kernel_rfl) h
  intro i hi
  have := Lib.TabIs.cell hT (show Tryd.prog.globalNamed "tidemark/wire.fourBits" = some 0 by kernel_rfl) i (by simpa [tab] using hi)
  rw [this]
  simp only [tabAt, List.getD_eq_getElem?_getD, List.getElem?_map]
  cases tab[i]? <;> rfl

end Go.Proofs.YtpdabpcdmenlaaaDoor
