
/-
  Layer 1: the walks of Fixed, Read and Narrow.
-/
import Derived.Test.YtikdpldfklbdoaaPxMem
set_option linter.unusedVariables false
set_option linter.unusedSimpArgs false
namespace Go.Proofs.Ytikdpldfklbdoaa
open Go.RowKit

end Go.Proofs.Ytikdpldfklbdoaa
