
/-
  Layer 1: the walks of Fixed, Read and Narrow.
-/
import Derived.Test.YtffcbekogpgciaaPxMem
set_option linter.unusedVariables false
set_option linter.unusedSimpArgs false
namespace Go.Proofs.Ytffcbekogpgciaa
open Go.RowKit

end Go.Proofs.Ytffcbekogpgciaa
