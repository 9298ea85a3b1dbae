
/-
  The contract of bytes.Clone: new memory with the same bytes.
-/
import Derived.Test.YtggijjknfcofoaaDoorPxOrd
set_option linter.unusedVariables false
set_option linter.unusedSimpArgs false
namespace Go.Proofs.YtggijjknfcofoaaDoor
open Go.RowKit

end Go.Proofs.YtggijjknfcofoaaDoor
