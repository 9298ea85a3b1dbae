
/-
  Layer 9: the walks of MaySeal (the program's, the document's).
-/
import Derived.Test.YtggijjknfcofoaaDoorEdMem
set_option linter.unusedVariables false
set_option linter.unusedSimpArgs false
namespace Go.Proofs.YtggijjknfcofoaaDoor
open Go.RowKit

set_option maxRecDepth 100000 in
set_option maxHeartbeats 4000000 in
theorem maySeal_i (i z m f l : Int) (w : World) (i0 : 0 ≤ i) (i1 : i < 4294967296) (z0 : 0 ≤ z) (z1 : z < 4294967296) (m0 : 0 ≤ m) (m1 : m < 4294967296) (f0 : 0 ≤ f) (f1 : f < 18446744073709551616) (l0 : 0 ≤ l) (l1 : l < 18446744073709551616) :
    Calls Tryd.prog 16 #[.agg #[.int .u32 i, .int .u32 z, .int .u32 m, .int .u64 f, .int .u64 l]] w fun e w' =>
      e = .returned (.bool (decide (1 ≤ i ∧ i ≤ 16777215 ∧ 16 ≤ z ∧ z ≤ 16777216 ∧ ((m = 0 ∧ f = 0 ∧ l = 0) ∨ (1 ≤ m ∧ 1 ≤ f ∧ l ≤ 1099511627776 ∧ f + m ≤ l + 1))))) ∧ Below w.heap.size w w' := by
  by_cases h1 : i < 1
  · skip
    rw [decide_eq_false (by omega)]
    go_enter Tryd.func16, Tryd.ntmps16
    go_wp2_with fail
    go_ret
    exact ⟨rfl, bnew w _⟩
  by_cases h2 : 16777215 < i
  · skip
    rw [decide_eq_false (by omega)]
    go_enter Tryd.func16, Tryd.ntmps16
    go_wp2_with fail
    go_ret
    exact ⟨rfl, bnew w _⟩
  by_cases h3 : z < 16
  · skip
    rw [decide_eq_false (by omega)]
    go_enter Tryd.func16, Tryd.ntmps16
    go_wp2_with fail
    go_ret
    exact ⟨rfl, bnew w _⟩
  by_cases h4 : 16777216 < z
  · skip
    rw [decide_eq_false (by omega)]
    go_enter Tryd.func16, Tryd.ntmps16
    go_wp2_with fail
    go_ret
    exact ⟨rfl, bnew w _⟩
  by_cases h5 : m = 0
  · skip
    subst h5
    by_cases h6 : ¬ f = 0
    · have ef : (f == 0) = false := by simp; omega
      rw [decide_eq_false (by omega)]
      go_enter Tryd.func16, Tryd.ntmps16
      go_wp2_with fail
      go_ret
      exact ⟨rfl, bnew w _⟩
    have h6' : f = 0 := by omega
    subst h6'
    by_cases h7 : ¬ l = 0
    · have el : (l == 0) = false := by simp; omega
      rw [decide_eq_false (by omega)]
      go_enter Tryd.func16, Tryd.ntmps16
      go_wp2_with fail
      go_ret
      exact ⟨rfl, bnew w _⟩
    have h7' : l = 0 := by omega
    subst h7'
    rw [decide_eq_true (by omega)]
    go_enter Tryd.func16, Tryd.ntmps16
    go_wp2_with fail
    go_ret
    exact ⟨rfl, bnew w _⟩
  have em : (m == 0) = false := by simp; omega
  by_cases h6 : ¬ 1 ≤ f
  · skip
    rw [decide_eq_false (by omega)]
    go_enter Tryd.func16, Tryd.ntmps16
    go_wp2_with fail
    go_ret
    exact ⟨rfl, bnew w _⟩
  by_cases h7 : ¬ f ≤ l
  · skip
    rw [decide_eq_false (by omega)]
    go_enter Tryd.func16, Tryd.ntmps16
    go_wp2_with fail
    go_ret
    exact ⟨rfl, bnew w _⟩
  by_cases h8 : ¬ l ≤ 1099511627776
  · skip
    rw [decide_eq_false (by omega)]
    go_enter Tryd.func16, Tryd.ntmps16
    go_wp2_with fail
    go_ret
    exact ⟨rfl, bnew w _⟩
  have w1 : IntKind.u64.wrap (l - f) = l - f := IntWalk.u64_in _ (by omega)
  have w2 : IntKind.u64.wrap (m - 1) = m - 1 := IntWalk.u64_in _ (by omega)
  by_cases h9 : m - 1 ≤ l - f
  · skip
    rw [decide_eq_true (by omega)]
    go_enter Tryd.func16, Tryd.ntmps16
    go_wp2_with fail
    go_ret
    exact ⟨rfl, bnew w _⟩
  rw [decide_eq_false (by omega)]
  go_enter Tryd.func16, Tryd.ntmps16
  go_wp2_with fail
  go_ret
  exact ⟨rfl, bnew w _⟩
set_option maxRecDepth 100000 in
set_option maxHeartbeats 4000000 in
theorem rmaySeal_i (i z m f l : Int) (w : World) (i0 : 0 ≤ i) (i1 : i < 4294967296) (z0 : 0 ≤ z) (z1 : z < 4294967296) (m0 : 0 ≤ m) (m1 : m < 4294967296) (f0 : 0 ≤ f) (f1 : f < 18446744073709551616) (l0 : 0 ≤ l) (l1 : l < 18446744073709551616) :
    Calls Tryd.prog 17 #[.agg #[.int .u32 i, .int .u32 z, .int .u32 m, .int .u64 f, .int .u64 l]] w fun e w' =>
      e = .returned (.bool (decide (1 ≤ i ∧ i ≤ 16777215 ∧ 16 ≤ z ∧ z ≤ 16777216 ∧ ((m = 0 ∧ f = 0 ∧ l = 0) ∨ (1 ≤ m ∧ 1 ≤ f ∧ l ≤ 1099511627776 ∧ f + m ≤ l + 1))))) ∧ Below w.heap.size w w' := by
  by_cases h1 : i = 0
  · have ei : (i == 0) = true := by simp; omega
    rw [decide_eq_false (by omega)]
    go_enter Tryd.func17, Tryd.ntmps17
    go_wp2_with fail
    go_ret
    exact ⟨rfl, bnew w _⟩
  have ei : (i == 0) = false := by simp; omega
  by_cases h2 : 16777215 < i
  · skip
    rw [decide_eq_false (by omega)]
    go_enter Tryd.func17, Tryd.ntmps17
    go_wp2_with fail
    go_ret
    exact ⟨rfl, bnew w _⟩
  by_cases h3 : z < 16
  · skip
    rw [decide_eq_false (by omega)]
    go_enter Tryd.func17, Tryd.ntmps17
    go_wp2_with fail
    go_ret
    exact ⟨rfl, bnew w _⟩
  by_cases h4 : 16777216 < z
  · skip
    rw [decide_eq_false (by omega)]
    go_enter Tryd.func17, Tryd.ntmps17
    go_wp2_with fail
    go_ret
    exact ⟨rfl, bnew w _⟩
  by_cases h5 : m = 0
  · skip
    subst h5
    by_cases h6 : ¬ f = 0
    · have ef : (f == 0) = false := by simp; omega
      rw [decide_eq_false (by omega)]
      go_enter Tryd.func17, Tryd.ntmps17
      go_wp2_with fail
      go_ret
      exact ⟨rfl, bnew w _⟩
    have h6' : f = 0 := by omega
    subst h6'
    by_cases h7 : ¬ l = 0
    · have el : (l == 0) = false := by simp; omega
      rw [decide_eq_false (by omega)]
      go_enter Tryd.func17, Tryd.ntmps17
      go_wp2_with fail
      go_ret
      exact ⟨rfl, bnew w _⟩
    have h7' : l = 0 := by omega
    subst h7'
    rw [decide_eq_true (by omega)]
    go_enter Tryd.func17, Tryd.ntmps17
    go_wp2_with fail
    go_ret
    exact ⟨rfl, bnew w _⟩
  have em : (m == 0) = false := by simp; omega
  by_cases h6 : f = 0
  · have ef : (f == 0) = true := by simp; omega
    rw [decide_eq_false (by omega)]
    go_enter Tryd.func17, Tryd.ntmps17
    go_wp2_with fail
    go_ret
    exact ⟨rfl, bnew w _⟩
  have ef : (f == 0) = false := by simp; omega
  by_cases h7 : l < f
  · skip
    rw [decide_eq_false (by omega)]
    go_enter Tryd.func17, Tryd.ntmps17
    go_wp2_with fail
    go_ret
    exact ⟨rfl, bnew w _⟩
  by_cases h8 : 1099511627776 < l
  · skip
    rw [decide_eq_false (by omega)]
    go_enter Tryd.func17, Tryd.ntmps17
    go_wp2_with fail
    go_ret
    exact ⟨rfl, bnew w _⟩
  have w1 : IntKind.u64.wrap (l - f) = l - f := IntWalk.u64_in _ (by omega)
  have w2 : IntKind.u64.wrap (l - f + 1) = l - f + 1 := IntWalk.u64_in _ (by omega)
  by_cases h9 : m ≤ l - f + 1
  · skip
    rw [decide_eq_true (by omega)]
    go_enter Tryd.func17, Tryd.ntmps17
    go_wp2_with fail
    go_ret
    exact ⟨rfl, bnew w _⟩
  rw [decide_eq_false (by omega)]
  go_enter Tryd.func17, Tryd.ntmps17
  go_wp2_with fail
  go_ret
  exact ⟨rfl, bnew w _⟩

theorem mayS_int (s : Ed.Sl) (f : Ed.FitS s) : decide (1 ≤ (s.id : Int) ∧ (s.id : Int) ≤ 16777215 ∧ 16 ≤ (s.size : Int) ∧ (s.size : Int) ≤ 16777216 ∧ (((s.many : Int) = 0 ∧ (s.first : Int) = 0 ∧ (s.last : Int) = 0) ∨ (1 ≤ (s.many : Int) ∧ 1 ≤ (s.first : Int) ∧ (s.last : Int) ≤ 1099511627776 ∧ (s.first : Int) + s.many ≤ s.last + 1))) = Ed.mayS s := by
  have := f.many
  unfold Ed.mayS
  rw [Bool.eq_iff_iff, decide_eq_true_eq, decide_eq_true_eq]
  constructor
  · rintro ⟨h1, h2, h3, h4, h5⟩
    refine ⟨by omega, by omega, by omega, by omega, by omega, ?_⟩
    rcases h5 with h5 | h5
    · left; omega
    · right; omega
  · rintro ⟨h1, h2, h3, h4, h5, h6⟩
    refine ⟨by omega, by omega, by omega, by omega, ?_⟩
    rcases h6 with h5 | h5
    · left; omega
    · right; omega
theorem maySeal_any (s : Ed.Sl) (w : World) (f : Ed.FitS s) : Calls Tryd.prog 16 #[slV s] w fun e w' => e = .returned (.bool (Ed.mayS s)) ∧ Below w.heap.size w w' := by
  have h := maySeal_i s.id s.size s.many s.first s.last w (by omega) (by have := f.id; omega) (by omega) (by have := f.size; omega) (by omega) (by have := f.many; omega) (by omega) (by have := f.first; omega) (by omega) (by have := f.last; omega)
  rw [mayS_int s f] at h
  exact h
theorem rmaySeal_any (s : Ed.Sl) (w : World) (f : Ed.FitS s) : Calls Tryd.prog 17 #[slV s] w fun e w' => e = .returned (.bool (Ed.mayS s)) ∧ Below w.heap.size w w' := by
  have h := rmaySeal_i s.id s.size s.many s.first s.last w (by omega) (by have := f.id; omega) (by omega) (by have := f.size; omega) (by omega) (by have := f.many; omega) (by omega) (by have := f.first; omega) (by omega) (by have := f.last; omega)
  rw [mayS_int s f] at h
  exact h
theorem maySeal_b (s : Ed.Sl) (w : World) (f : Ed.FitS s) (b : Bool) (h : Ed.mayS s = b) : Calls Tryd.prog 16 #[slV s] w fun e w' => e = .returned (.bool b) ∧ Below w.heap.size w w' := by
  subst h
  exact maySeal_any s w f
theorem rmaySeal_b (s : Ed.Sl) (w : World) (f : Ed.FitS s) (b : Bool) (h : Ed.mayS s = b) : Calls Tryd.prog 17 #[slV s] w fun e w' => e = .returned (.bool b) ∧ Below w.heap.size w w' := by
  subst h
  exact rmaySeal_any s w f
end Go.Proofs.YtggijjknfcofoaaDoor
