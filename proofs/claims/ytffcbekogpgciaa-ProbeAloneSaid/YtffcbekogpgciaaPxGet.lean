
/-
  Layer 1: the walk of Get.
-/
import Derived.Test.YtffcbekogpgciaaPxMem
set_option linter.unusedVariables false
set_option linter.unusedSimpArgs false
namespace Go.Proofs.Ytffcbekogpgciaa
open Go.RowKit

/-- what Get tells, as a value -/
def getV (l : List UInt8) : Value := .tuple #[.int .u64 (Px.getN l).1, .int .i64 (Px.getN l).2.1, .int .i64 (Px.getN l).2.2]

end Go.Proofs.Ytffcbekogpgciaa
