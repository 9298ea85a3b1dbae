
/-
  The document's own answer for layer 1: the walks of Fold, Unfold, Fixed, Read, Narrow.
-/
import Derived.Test.YtggijjknfcofoaaDoorRxForm
set_option linter.unusedVariables false
set_option linter.unusedSimpArgs false
namespace Go.Proofs.YtggijjknfcofoaaDoor
open Go.RowKit

/-- Fixed, where the size may be: the bytes, or that the number is too long -/
def FixedPost (w : World) (l : List UInt8) (n k : Nat) (e : Ending) (w' : World) : Prop :=
  Below w.heap.size w w' ∧ ((n / 2 ^ (8 * k) = 0 ∧ ∃ v, e = .returned (.tuple #[v, .int .i64 0]) ∧ w'.ownsRow w.heap.size 5 1 v (l.length + k) (bvs (l ++ Px.leL n k))) ∨
    (n / 2 ^ (8 * k) ≠ 0 ∧ e = .returned (.tuple #[.slice none 0 0, .int .i64 3])))

end Go.Proofs.YtggijjknfcofoaaDoor
