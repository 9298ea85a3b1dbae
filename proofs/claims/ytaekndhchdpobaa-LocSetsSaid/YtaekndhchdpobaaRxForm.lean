
/-
  The document's own answer for layer 1: the walks of Form, Shortest, Put.
-/
import Derived.Test.YtaekndhchdpobaaRxMem
set_option linter.unusedVariables false
set_option linter.unusedSimpArgs false
namespace Go.Proofs.Ytaekndhchdpobaa
open Go.RowKit

end Go.Proofs.Ytaekndhchdpobaa
