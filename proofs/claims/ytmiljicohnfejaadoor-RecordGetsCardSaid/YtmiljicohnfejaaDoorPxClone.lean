
/-
  The contract of bytes.Clone: new memory with the same bytes.
-/
import Derived.Test.YtmiljicohnfejaaDoorPxOrd
set_option linter.unusedVariables false
set_option linter.unusedSimpArgs false
namespace Go.Proofs.YtmiljicohnfejaaDoor
open Go.RowKit

end Go.Proofs.YtmiljicohnfejaaDoor
