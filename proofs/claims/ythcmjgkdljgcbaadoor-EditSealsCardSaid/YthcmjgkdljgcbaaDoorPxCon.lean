
/-
  Layer 1: the contracts over slices that are values, and of 'wakes'.
-/
import Derived.Test.YthcmjgkdljgcbaaDoorPxGet
import Derived.Test.YthcmjgkdljgcbaaDoorPxFix
set_option linter.unusedVariables false
set_option linter.unusedSimpArgs false
namespace Go.Proofs.YthcmjgkdljgcbaaDoor
open Go.RowKit

theorem equal_b (v v' : Value) (l l' : List UInt8) (B B' : Nat) (w : World) (h : Bs w B v l) (h' : Bs w B' v' l') :
    Calls Tryd.prog 12 #[v, v'] w fun e w' => e = .returned (.bool (l == l')) ∧ w = w' := by
  obtain ⟨A, c, rfl, _, hr⟩ := h
  obtain ⟨A', c', rfl, _, hr'⟩ := h'
  exact equal_any A A' l l' c c' B B' w hr hr'

theorem get_b (v : Value) (l : List UInt8) (B : Nat) (w : World) (h : Bs w B v l) (hl : l.length ≤ 9223372036854775807) :
    Calls Tryd.prog 59 #[v] w fun e w' => e = .returned (getV l) ∧ Below w.heap.size w w' := by
  obtain ⟨A, c, rfl, _, hr⟩ := h
  refine (get_any A l c B w hr hl).mono ?_
  rintro e w1 ⟨he, m, rfl⟩
  exact ⟨he, below_drewN (Below.refl _ _) m⟩

theorem put_b (v : Value) (l : List UInt8) (n : Int) (w : World) (h : Bs w w.heap.size v l) (h0 : 0 ≤ n) (h1 : n < 18446744073709551616) (hm : l.length + 9 ≤ 140737488355328) :
    Calls Tryd.prog 38 #[v, .int .u64 n] w fun e w' => ∃ r, e = .returned r ∧ w'.ownsRow w.heap.size 5 1 r (l.length + Px.sizeN n.toNat) (bvs (l ++ Px.formL n.toNat)) ∧ Below w.heap.size w w' := by
  obtain ⟨A, c, rfl, _, hr⟩ := h
  exact put_any A l c n w hr h0 h1 hm

end Go.Proofs.YthcmjgkdljgcbaaDoor
