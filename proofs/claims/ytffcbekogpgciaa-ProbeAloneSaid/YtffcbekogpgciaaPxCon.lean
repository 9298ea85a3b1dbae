
/-
  Layer 1: the contracts over slices that are values, and of 'wakes'.
-/
import Derived.Test.YtffcbekogpgciaaPxGet
import Derived.Test.YtffcbekogpgciaaPxFix
set_option linter.unusedVariables false
set_option linter.unusedSimpArgs false
namespace Go.Proofs.Ytffcbekogpgciaa
open Go.RowKit

theorem equal_b (v v' : Value) (l l' : List UInt8) (B B' : Nat) (w : World) (h : Bs w B v l) (h' : Bs w B' v' l') :
    Calls Try.prog 44 #[v, v'] w fun e w' => e = .returned (.bool (l == l')) ∧ w = w' := by
  obtain ⟨A, c, rfl, _, hr⟩ := h
  obtain ⟨A', c', rfl, _, hr'⟩ := h'
  exact equal_any A A' l l' c c' B B' w hr hr'

end Go.Proofs.Ytffcbekogpgciaa
