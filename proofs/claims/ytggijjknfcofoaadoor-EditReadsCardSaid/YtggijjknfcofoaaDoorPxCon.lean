
/-
  Layer 1: the contracts over slices that are values, and of 'wakes'.
-/
import Derived.Test.YtggijjknfcofoaaDoorPxGet
import Derived.Test.YtggijjknfcofoaaDoorPxFix
set_option linter.unusedVariables false
set_option linter.unusedSimpArgs false
namespace Go.Proofs.YtggijjknfcofoaaDoor
open Go.RowKit

theorem equal_b (v v' : Value) (l l' : List UInt8) (B B' : Nat) (w : World) (h : Bs w B v l) (h' : Bs w B' v' l') :
    Calls Tryd.prog 11 #[v, v'] w fun e w' => e = .returned (.bool (l == l')) ∧ w = w' := by
  obtain ⟨A, c, rfl, _, hr⟩ := h
  obtain ⟨A', c', rfl, _, hr'⟩ := h'
  exact equal_any A A' l l' c c' B B' w hr hr'

theorem get_b (v : Value) (l : List UInt8) (B : Nat) (w : World) (h : Bs w B v l) (hl : l.length ≤ 9223372036854775807) :
    Calls Tryd.prog 75 #[v] w fun e w' => e = .returned (getV l) ∧ Below w.heap.size w w' := by
  obtain ⟨A, c, rfl, _, hr⟩ := h
  refine (get_any A l c B w hr hl).mono ?_
  rintro e w1 ⟨he, m, rfl⟩
  exact ⟨he, below_drewN (Below.refl _ _) m⟩

theorem put_b (v : Value) (l : List UInt8) (n : Int) (w : World) (h : Bs w w.heap.size v l) (h0 : 0 ≤ n) (h1 : n < 18446744073709551616) (hm : l.length + 9 ≤ 140737488355328) :
    Calls Tryd.prog 49 #[v, .int .u64 n] w fun e w' => ∃ r, e = .returned r ∧ w'.ownsRow w.heap.size 5 1 r (l.length + Px.sizeN n.toNat) (bvs (l ++ Px.formL n.toNat)) ∧ Below w.heap.size w w' := by
  obtain ⟨A, c, rfl, _, hr⟩ := h
  exact put_any A l c n w hr h0 h1 hm

theorem fixed_b (v : Value) (l : List UInt8) (n b : Int) (w : World) (h : Bs w w.heap.size v l) (h0 : 0 ≤ n) (h1 : n < 18446744073709551616) (hb : 1 ≤ b) (hb2 : b ≤ 8) (hf : n / 2 ^ (8 * b).toNat = 0) (hm : l.length + 8 ≤ 140737488355328) :
    Calls Tryd.prog 42 #[v, .int .u64 n, .int .i64 b] w fun e w' => ∃ r, e = .returned (.tuple #[r, .int .i64 0]) ∧ w'.ownsRow w.heap.size 5 1 r (l.length + b.toNat) (bvs (l ++ Px.leL n.toNat b.toNat)) ∧ Below w.heap.size w w' := by
  obtain ⟨A, c, rfl, _, hr⟩ := h
  exact fixed_ok A l c n b w hr h0 h1 hb hb2 hf hm

theorem read_b (v : Value) (l : List UInt8) (B : Nat) (b : Int) (w : World) (h : Bs w B v l) (hb : 1 ≤ b) (hb2 : b ≤ 8) (hl : b.toNat ≤ l.length) (hm : l.length ≤ 9223372036854775807) :
    Calls Tryd.prog 46 #[v, .int .i64 b] w fun e w' => e = .returned (.tuple #[.int .u64 (Px.rdN l b.toNat : Nat), .int .i64 0]) ∧ w = w' := by
  obtain ⟨A, c, rfl, _, hr⟩ := h
  exact read_ok A l c B b w hr hb hb2 hl hm

end Go.Proofs.YtggijjknfcofoaaDoor
