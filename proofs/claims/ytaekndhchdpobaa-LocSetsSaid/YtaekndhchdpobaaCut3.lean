
/-
  Cuts of a slice of locs (two cells each) and of the document's ones (three cells each), as letters: 's[:k]', 's[k:]'.
-/
import Derived.Test.YtaekndhchdpobaaProg
import Derived.Test.YtaekndhchdpobaaWords
import Derived.Test.YtaekndhchdpobaaLrSet
import Derived.WalkKit
set_option linter.unusedVariables false
set_option linter.unusedSimpArgs false
namespace Go.Proofs.Ytaekndhchdpobaa
open Go.RowKit

theorem Rd.cutN {w : World} {B : Nat} {A : Option Addr} {xs : List Value} (h : Rd w B A xs) {k cap : Nat} (z : Nat) (hc : xs.length ≤ cap * z) : Rd w B (if cap = k then A else A.map (·.add (k * z))) (xs.drop (k * z)) := fun hx => by
  have hk : k * z < xs.length := by
    rcases Nat.lt_or_ge (k * z) xs.length with h1 | h1
    · exact h1
    · exact absurd (List.drop_eq_nil_of_le h1) hx
  obtain ⟨b, o, rfl, hb, hcell⟩ := h (fun e => by simp [e] at hk)
  rw [if_neg (by rintro rfl; omega)]
  refine ⟨b, o + k * z, by simp [add_none], hb, fun j u hu => ?_⟩
  have := hcell (k * z + j) u (by rw [← hu, List.getElem?_drop])
  rw [Nat.add_assoc]
  exact this
theorem lvs_drop (l : List (Int × Int)) (k : Nat) (hk : k ≤ l.length) : lvs (l.drop k) = (lvs l).drop (k * 2) := by
  conv => rhs; rw [← List.take_append_drop k l, lvs_append]
  rw [List.drop_left' (by rw [lvs_length, List.length_take, Nat.min_eq_left hk])]
theorem lvs_take (l : List (Int × Int)) (k : Nat) (hk : k ≤ l.length) : lvs (l.take k) = (lvs l).take (k * 2) := by
  conv => rhs; rw [← List.take_append_drop k l, lvs_append]
  rw [List.take_left' (by rw [lvs_length, List.length_take, Nat.min_eq_left hk])]
theorem ovs_drop (l : List One3) (k : Nat) (hk : k ≤ l.length) : ovs (l.drop k) = (ovs l).drop (k * 3) := by
  conv => rhs; rw [← List.take_append_drop k l, ovs_append]
  rw [List.drop_left' (by rw [ovs_length, List.length_take, Nat.min_eq_left hk])]
theorem ovs_take (l : List One3) (k : Nat) (hk : k ≤ l.length) : ovs (l.take k) = (ovs l).take (k * 3) := by
  conv => rhs; rw [← List.take_append_drop k l, ovs_append]
  rw [List.take_left' (by rw [ovs_length, List.length_take, Nat.min_eq_left hk])]

theorem elLocs : Try.prog.underlying 48 = some (.slice (Try.prog.elem 48)) := by kernel_rfl
theorem elOnes : Try.prog.underlying 26 = some (.slice (Try.prog.elem 26)) := by kernel_rfl
/-- 's[:k]' of locs -/
theorem cutL_h (A : Option Addr) (n c k : Nat) (hk : k ≤ n) (hn : n ≤ c) : ∃ A' c', (∀ w, (Instr.sliceAt 48 (.slice A n c) none (some (.int .i64 (k : Int))) none).run Try.prog w = .ok (.slice A' k c') w) ∧
    ∀ w B l, l.length = n → Rd w B A (lvs l) → Rd w B A' (lvs (l.take k)) := by
  refine ⟨if c = 0 then A else A.map (·.add 0), c, fun w => ?_, fun w B l hl hr => ?_⟩
  · rw [run_sliceAt_slice _ 48 _ _ _ _ elLocs, run_slice_h _ 48 A n c elLocs .i64 k (by omega) (by omega)]
    have : (sizeOf (Try.prog.elem 48)).run Try.prog w = .ok 2 w := by kernel_rfl
    rw [this]
    simp [Result.andThen, sliced]
  · rw [lvs_take l k (by omega)]
    have := (hr.cutN (k := 0) (cap := c) 2 (by rw [lvs_length]; omega)).take (k * 2)
    simpa using this
/-- 's[k:]' of locs -/
theorem cutL_l (A : Option Addr) (n c k : Nat) (hk : k ≤ n) (hn : n ≤ c) : ∃ A' c', (∀ w, (Instr.sliceAt 48 (.slice A n c) (some (.int .i64 (k : Int))) none none).run Try.prog w = .ok (.slice A' (n - k) c') w) ∧
    ∀ w B l, l.length = n → Rd w B A (lvs l) → Rd w B A' (lvs (l.drop k)) := by
  refine ⟨if c = k then A else A.map (·.add (k * 2)), c - k, fun w => ?_, fun w B l hl hr => ?_⟩
  · rw [run_sliceAt_slice _ 48 _ _ _ _ elLocs, run_slice_l _ 48 A n c elLocs .i64 k (by omega) (by omega)]
    have : (sizeOf (Try.prog.elem 48)).run Try.prog w = .ok 2 w := by kernel_rfl
    rw [this]
    simp [Result.andThen, sliced]
  · rw [lvs_drop l k (by omega)]
    exact hr.cutN 2 (by rw [lvs_length]; omega)
/-- 's[:k]' of ones -/
theorem cutO_h (A : Option Addr) (n c k : Nat) (hk : k ≤ n) (hn : n ≤ c) : ∃ A' c', (∀ w, (Instr.sliceAt 26 (.slice A n c) none (some (.int .i64 (k : Int))) none).run Try.prog w = .ok (.slice A' k c') w) ∧
    ∀ w B l, l.length = n → Rd w B A (ovs l) → Rd w B A' (ovs (l.take k)) := by
  refine ⟨if c = 0 then A else A.map (·.add 0), c, fun w => ?_, fun w B l hl hr => ?_⟩
  · rw [run_sliceAt_slice _ 26 _ _ _ _ elOnes, run_slice_h _ 26 A n c elOnes .i64 k (by omega) (by omega)]
    have : (sizeOf (Try.prog.elem 26)).run Try.prog w = .ok 3 w := by kernel_rfl
    rw [this]
    simp [Result.andThen, sliced]
  · rw [ovs_take l k (by omega)]
    have := (hr.cutN (k := 0) (cap := c) 3 (by rw [ovs_length]; omega)).take (k * 3)
    simpa using this
/-- 's[k:]' of ones -/
theorem cutO_l (A : Option Addr) (n c k : Nat) (hk : k ≤ n) (hn : n ≤ c) : ∃ A' c', (∀ w, (Instr.sliceAt 26 (.slice A n c) (some (.int .i64 (k : Int))) none none).run Try.prog w = .ok (.slice A' (n - k) c') w) ∧
    ∀ w B l, l.length = n → Rd w B A (ovs l) → Rd w B A' (ovs (l.drop k)) := by
  refine ⟨if c = k then A else A.map (·.add (k * 3)), c - k, fun w => ?_, fun w B l hl hr => ?_⟩
  · rw [run_sliceAt_slice _ 26 _ _ _ _ elOnes, run_slice_l _ 26 A n c elOnes .i64 k (by omega) (by omega)]
    have : (sizeOf (Try.prog.elem 26)).run Try.prog w = .ok 3 w := by kernel_rfl
    rw [this]
    simp [Result.andThen, sliced]
  · rw [ovs_drop l k (by omega)]
    exact hr.cutN 3 (by rw [ovs_length]; omega)
theorem one_info : (Try.prog.info? 45).map (fun i => (i.zero, i.size, i.bytes)) = some (some (.agg #[.int .u32 0, .int .u32 0, .int .u64 0]), 3, 16) := by kernel_rfl
end Go.Proofs.Ytaekndhchdpobaa
