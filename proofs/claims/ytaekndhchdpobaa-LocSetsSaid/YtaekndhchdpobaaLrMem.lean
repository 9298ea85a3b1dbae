
/-
  Layer 3: the contracts of the reference over locs alone.
-/
import Derived.Test.YtaekndhchdpobaaLxMem
import Derived.Test.YtaekndhchdpobaaRxGet
set_option linter.unusedVariables false
set_option linter.unusedSimpArgs false
namespace Go.Proofs.Ytaekndhchdpobaa
open Go.RowKit

theorem r3within_any (s o : Int) (w : World) (h0 : 0 ≤ s) (h2 : 0 ≤ o) :
    Calls Try.prog 50 #[.int .u64 s, .int .u64 o] w fun e w' => e = .returned (.bool (Lx.mayB s o)) ∧ w = w' := by
  by_cases hs : s = 0
  · subst hs
    go_enter Try.func50, Try.ntmps50
    go_wp2
    go_ret
    refine ⟨ret_bool ?_, rfl⟩
    unfold Lx.mayB Lx.noneB Lx.standsB
    rw [Bool.eq_iff_iff]
    simp
  · have hs' : (s == 0) = false := by simpa using hs
    go_enter Try.func50, Try.ntmps50
    go_wp2
    all_goals go_ret
    all_goals refine ⟨ret_bool ?_, rfl⟩
    all_goals (unfold Lx.mayB Lx.noneB Lx.standsB; rw [Bool.eq_iff_iff]; simp; omega)
theorem r3within_b (s o : Int) (w : World) (h0 : 0 ≤ s) (h2 : 0 ≤ o) (b : Bool) (h : Lx.mayB s o = b) :
    Calls Try.prog 50 #[.int .u64 s, .int .u64 o] w fun e w' => e = .returned (.bool b) ∧ w = w' := h ▸ r3within_any s o w h0 h2
theorem r3may_any (s o : Int) (w : World) (h0 : 0 ≤ s) (h1 : s < 4294967296) (h2 : 0 ≤ o) (h3 : o < 4294967296) :
    Calls Try.prog 39 #[lv s o] w fun e w' => e = .returned (.bool (Lx.mayB s o)) ∧ Below w.heap.size w w' := by
  unfold lv
  go_enter Try.func39, Try.ntmps39
  go_wp2_with fail
  refine (r3within_any s o _ h0 h2).mono ?_
  rintro e w1 ⟨rfl, rfl⟩
  go_wp2_with fail
  go_ret
  exact ⟨rfl, bnew _ _⟩
theorem r3may_b (s o : Int) (w : World) (h0 : 0 ≤ s) (h1 : s < 4294967296) (h2 : 0 ≤ o) (h3 : o < 4294967296) (b : Bool) (h : Lx.mayB s o = b) :
    Calls Try.prog 39 #[lv s o] w fun e w' => e = .returned (.bool b) ∧ Below w.heap.size w w' := h ▸ r3may_any s o w h0 h1 h2 h3

end Go.Proofs.Ytaekndhchdpobaa
