
/-
  Cuts of a slice of bytes, as letters: 's[i:k]', 's[k:]' (one equation each, so that a walk does not part on where the array ends).
-/
import Derived.Test.YtffcbekogpgciaaProg
import Derived.Test.YtffcbekogpgciaaWords
import Derived.WalkKit
set_option linter.unusedVariables false
set_option linter.unusedSimpArgs false
namespace Go.Proofs.Ytffcbekogpgciaa
open Go.RowKit

theorem elBytes : Try.prog.underlying 30 = some (.slice (Try.prog.elem 30)) := by kernel_rfl
theorem run_cut_lh (A : Option Addr) (n c i k : Nat) (hik : i ≤ k) (hkc : k ≤ c) (w : World) :
    (Instr.sliceAt 30 (.slice A n c) (some (.int .i64 (i : Int))) (some (.int .i64 (k : Int))) none).run Try.prog w = .ok (.slice (if c = i then A else A.map (·.add i)) (k - i) (c - i)) w := by
  rw [run_sliceAt_slice _ 30 _ _ _ _ elBytes, run_slice_lh _ 30 A n c elBytes .i64 .i64 i k (by omega) (by omega) (by omega)]
  have : (sizeOf (Try.prog.elem 30)).run Try.prog w = .ok 1 w := by kernel_rfl
  rw [this]
  simp [Result.andThen, sliced]
theorem run_cut_l (A : Option Addr) (n c k : Nat) (hkn : k ≤ n) (w : World) :
    (Instr.sliceAt 30 (.slice A n c) (some (.int .i64 (k : Int))) none none).run Try.prog w = .ok (.slice (if c = k then A else A.map (·.add k)) (n - k) (c - k)) w := by
  rw [run_sliceAt_slice _ 30 _ _ _ _ elBytes, run_slice_l _ 30 A n c elBytes .i64 k (by omega) (by omega)]
  have : (sizeOf (Try.prog.elem 30)).run Try.prog w = .ok 1 w := by kernel_rfl
  rw [this]
  simp [Result.andThen, sliced]
/-- 's[i:k]' -/
theorem cut_lh (A : Option Addr) (n c i k m : Nat) (hk : k = i + m) (hkc : k ≤ c) : ∃ A' c', (∀ w, (Instr.sliceAt 30 (.slice A n c) (some (.int .i64 (i : Int))) (some (.int .i64 (k : Int))) none).run Try.prog w = .ok (.slice A' m c') w) ∧
    m ≤ c' ∧ ∀ w B l, l.length ≤ c → Rd w B A (bvs l) → Rd w B A' (bvs ((l.drop i).take m)) := by
  refine ⟨if c = i then A else A.map (·.add i), c - i, fun w => ?_, ?_, fun w B l hl hr => ?_⟩
  · rw [run_cut_lh A n c i k (by omega) hkc w, show k - i = m by omega]
  · omega
  · rw [bvs_take, bvs_drop]
    exact (hr.cut (by rw [bvs_length]; exact hl)).take m
/-- 's[k:]' -/
theorem cut_l (A : Option Addr) (n c k r : Nat) (hn : n = k + r) (hnc : n ≤ c) : ∃ A' c', (∀ w, (Instr.sliceAt 30 (.slice A n c) (some (.int .i64 (k : Int))) none none).run Try.prog w = .ok (.slice A' r c') w) ∧
    r ≤ c' ∧ ∀ w B l, l.length ≤ c → Rd w B A (bvs l) → Rd w B A' (bvs (l.drop k)) := by
  refine ⟨if c = k then A else A.map (·.add k), c - k, fun w => ?_, ?_, fun w B l hl hr => ?_⟩
  · rw [run_cut_l A n c k (by omega) w, show n - k = r by omega]
  · omega
  · rw [bvs_drop]
    exact hr.cut (by rw [bvs_length]; exact hl)
end Go.Proofs.Ytffcbekogpgciaa
