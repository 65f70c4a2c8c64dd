/-
  Walks: union and minus of two trees that are no one tree. (Written by gentree9.py.)
-/
import Derived.Test.YtdfjnpnkfjcpcaaTB8
namespace Go.Proofs.Ytdfjnpnkfjcpcaa
set_option linter.unusedVariables false
set_option linter.unusedSimpArgs false
open Go.RowKit

end Go.Proofs.Ytdfjnpnkfjcpcaa
