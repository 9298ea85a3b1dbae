
/-
  Layer 4: the walks of May, MayValue, MayName, word.
-/
import Derived.Test.YtggijjknfcofoaaDoorKyP
import Derived.Test.YtggijjknfcofoaaDoorPxClone
import Derived.Test.YtggijjknfcofoaaDoorCut
import Derived.IntWalk
set_option linter.unusedVariables false
set_option linter.unusedSimpArgs false
namespace Go.Proofs.YtggijjknfcofoaaDoor
open Go.RowKit

/-- 's[:k]' of bytes -/
theorem cut_h (A : Option Addr) (n c k : Nat) (hk : k ≤ n) (hn : n ≤ c) : ∃ A' c', (∀ w, (Instr.sliceAt 30 (.slice A n c) none (some (.int .i64 (k : Int))) none).run Tryd.prog w = .ok (.slice A' k c') w) ∧
    k ≤ c' ∧ ∀ w B l, l.length = n → Rd w B A (bvs l) → Rd w B A' (bvs (l.take k)) := by
  refine ⟨if c = 0 then A else A.map (·.add 0), c, fun w => ?_, by omega, fun w B l hl hr => ?_⟩
  · rw [run_sliceAt_slice _ 30 _ _ _ _ elBytes, run_slice_h _ 30 A n c elBytes .i64 k (by omega) (by omega)]
    have : (sizeOf (Tryd.prog.elem 30)).run Tryd.prog w = .ok 1 w := by kernel_rfl
    rw [this]
    simp [Result.andThen, sliced]
  · rw [bvs_take]
    have := (hr.cut (k := 0) (cap := c) (by rw [bvs_length]; omega)).take k
    simpa using this
theorem mayName_any (s : ByteArray) (w : World) (b : Bool) (hd : (decide ((1 : Int) ≤ s.size) && decide ((s.size : Int) ≤ 32)) = b) (hb : s.size ≤ 9223372036854775807) :
    Calls Tryd.prog 66 #[.string s] w fun e w' => e = .returned (.bool b) ∧ w = w' := by
  by_cases h1 : 1 ≤ s.size
  · have d1 : (1 : Int) ≤ s.size := by omega
    by_cases h2 : s.size ≤ 32
    · have d2 : (s.size : Int) ≤ 32 := by omega
      have e : b = true := by rw [← hd]; simp; omega
      subst e
      clear hd
      go_enter Tryd.func66, Tryd.ntmps66
      go_wp2
      go_ret
      exact ⟨rfl, rfl⟩
    · have d2 : decide ((s.size : Int) ≤ 32) = false := by simp; omega
      have e : b = false := by rw [← hd]; simp; omega
      subst e
      clear hd
      go_enter Tryd.func66, Tryd.ntmps66
      go_wp2
      go_ret
      exact ⟨rfl, rfl⟩
  · have d1 : decide ((1 : Int) ≤ s.size) = false := by simp; omega
    have e : b = false := by rw [← hd]; simp; omega
    subst e
    clear hd
    go_enter Tryd.func66, Tryd.ntmps66
    go_wp2
    go_ret
    exact ⟨rfl, rfl⟩
end Go.Proofs.YtggijjknfcofoaaDoor
