
/-
  Layer 1: the contracts over slices that are values, and of 'wakes'.
-/
import Derived.Test.YtaekndhchdpobaaPxGet
import Derived.Test.YtaekndhchdpobaaPxFix
set_option linter.unusedVariables false
set_option linter.unusedSimpArgs false
namespace Go.Proofs.Ytaekndhchdpobaa
open Go.RowKit

theorem equal_b (v v' : Value) (l l' : List UInt8) (B B' : Nat) (w : World) (h : Bs w B v l) (h' : Bs w B' v' l') :
    Calls Try.prog 29 #[v, v'] w fun e w' => e = .returned (.bool (l == l')) ∧ w = w' := by
  obtain ⟨A, c, rfl, _, hr⟩ := h
  obtain ⟨A', c', rfl, _, hr'⟩ := h'
  exact equal_any A A' l l' c c' B B' w hr hr'

theorem put_b (v : Value) (l : List UInt8) (n : Int) (w : World) (h : Bs w w.heap.size v l) (h0 : 0 ≤ n) (h1 : n < 18446744073709551616) (hm : l.length + 9 ≤ 140737488355328) :
    Calls Try.prog 56 #[v, .int .u64 n] w fun e w' => ∃ r, e = .returned r ∧ w'.ownsRow w.heap.size 5 1 r (l.length + Px.sizeN n.toNat) (bvs (l ++ Px.formL n.toNat)) ∧ Below w.heap.size w w' := by
  obtain ⟨A, c, rfl, _, hr⟩ := h
  exact put_any A l c n w hr h0 h1 hm

end Go.Proofs.Ytaekndhchdpobaa
