/-
  Walks: union and minus of two trees that are no one tree. (Written by gentree9.py.)
-/
import Derived.Test.YtenjniieohmniaaTB8
namespace Go.Proofs.Ytenjniieohmniaa
set_option linter.unusedVariables false
set_option linter.unusedSimpArgs false
open Go.RowKit

end Go.Proofs.Ytenjniieohmniaa
