
/-
  The document's own answer for layer 1: the walk of Get.
-/
import Derived.Test.YtaekndhchdpobaaRxGetP
import Derived.Test.YtaekndhchdpobaaRxRead
import Derived.Test.YtaekndhchdpobaaRegion
set_option linter.unusedVariables false
set_option linter.unusedSimpArgs false
namespace Go.Proofs.Ytaekndhchdpobaa
open Go.RowKit

end Go.Proofs.Ytaekndhchdpobaa
