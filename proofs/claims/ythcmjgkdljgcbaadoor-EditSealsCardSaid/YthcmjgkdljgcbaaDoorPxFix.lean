
/-
  Layer 1: the walks of Fixed, Read and Narrow.
-/
import Derived.Test.YthcmjgkdljgcbaaDoorPxMem
set_option linter.unusedVariables false
set_option linter.unusedSimpArgs false
namespace Go.Proofs.YthcmjgkdljgcbaaDoor
open Go.RowKit

end Go.Proofs.YthcmjgkdljgcbaaDoor
