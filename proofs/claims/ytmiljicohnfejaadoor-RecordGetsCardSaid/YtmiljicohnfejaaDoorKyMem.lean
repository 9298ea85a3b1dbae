
/-
  Layer 4: the walks of May, MayValue, MayName, word.
-/
import Derived.Test.YtmiljicohnfejaaDoorKyP
import Derived.Test.YtmiljicohnfejaaDoorPxClone
import Derived.Test.YtmiljicohnfejaaDoorCut
import Derived.IntWalk
set_option linter.unusedVariables false
set_option linter.unusedSimpArgs false
namespace Go.Proofs.YtmiljicohnfejaaDoor
open Go.RowKit

theorem may_yes (A : Option Addr) (n c : Nat) (w : World) (h0 : 0 < n) (h1 : n ≤ 64) :
    Calls Tryd.prog 39 #[.slice A n c] w fun e w' => e = .returned (.bool true) ∧ w = w' := by
  have d0 : (1 : Int) ≤ n := by omega
  have d1 : (n : Int) ≤ 64 := by omega
  go_enter Tryd.func39, Tryd.ntmps39
  go_wp2
  go_ret
  exact ⟨rfl, rfl⟩
theorem may_no (A : Option Addr) (n c : Nat) (w : World) (h : n = 0 ∨ 64 < n) (hb : n ≤ 9223372036854775807) :
    Calls Tryd.prog 39 #[.slice A n c] w fun e w' => e = .returned (.bool false) ∧ w = w' := by
  rcases h with rfl | h
  · go_enter Tryd.func39, Tryd.ntmps39
    go_wp2
    go_ret
    exact ⟨rfl, rfl⟩
  · have d0 : (1 : Int) ≤ n := by omega
    have d1 : decide ((n : Int) ≤ 64) = false := by simp; omega
    go_enter Tryd.func39, Tryd.ntmps39
    go_wp2
    go_ret
    exact ⟨rfl, rfl⟩
/-- 's[:k]' of bytes -/
theorem cut_h (A : Option Addr) (n c k : Nat) (hk : k ≤ n) (hn : n ≤ c) : ∃ A' c', (∀ w, (Instr.sliceAt 23 (.slice A n c) none (some (.int .i64 (k : Int))) none).run Tryd.prog w = .ok (.slice A' k c') w) ∧
    k ≤ c' ∧ ∀ w B l, l.length = n → Rd w B A (bvs l) → Rd w B A' (bvs (l.take k)) := by
  refine ⟨if c = 0 then A else A.map (·.add 0), c, fun w => ?_, by omega, fun w B l hl hr => ?_⟩
  · rw [run_sliceAt_slice _ 23 _ _ _ _ elBytes, run_slice_h _ 23 A n c elBytes .i64 k (by omega) (by omega)]
    have : (sizeOf (Tryd.prog.elem 23)).run Tryd.prog w = .ok 1 w := by kernel_rfl
    rw [this]
    simp [Result.andThen, sliced]
  · rw [bvs_take]
    have := (hr.cut (k := 0) (cap := c) (by rw [bvs_length]; omega)).take k
    simpa using this
/-- a row as a value that can be handed in -/
theorem may_yes_b (v : Value) (l : List UInt8) (B : Nat) (w : World) (h : Bs w B v l) (h0 : 0 < l.length) (h1 : l.length ≤ 64) :
    Calls Tryd.prog 39 #[v] w fun e w' => e = .returned (.bool true) ∧ w = w' := by
  obtain ⟨A, c, rfl, hc, hr⟩ := h
  exact may_yes _ _ _ _ h0 h1
theorem may_no_b (v : Value) (l : List UInt8) (B : Nat) (w : World) (h : Bs w B v l) (h0 : l.length = 0 ∨ 64 < l.length) (h1 : l.length ≤ 9223372036854775807) :
    Calls Tryd.prog 39 #[v] w fun e w' => e = .returned (.bool false) ∧ w = w' := by
  obtain ⟨A, c, rfl, hc, hr⟩ := h
  exact may_no _ _ _ _ h0 h1
theorem mayValue_any (A : Option Addr) (n c : Nat) (w : World) (b : Bool) (hd : decide ((n : Int) ≤ 1024) = b) (hb : n ≤ 9223372036854775807) :
    Calls Tryd.prog 38 #[.slice A n c] w fun e w' => e = .returned (.bool b) ∧ w = w' := by
  have Hd := Lib.hid hd
  clear hd
  go_enter Tryd.func38, Tryd.ntmps38
  go_wp2
  go_ret
  exact ⟨by rw [← Hd.out]; rfl, rfl⟩
end Go.Proofs.YtmiljicohnfejaaDoor
