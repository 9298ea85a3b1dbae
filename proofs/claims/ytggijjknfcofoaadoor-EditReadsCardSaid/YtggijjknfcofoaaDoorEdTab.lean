
/-
  Layer 9: the table of the kinds' shapes; bounds.
-/
import Derived.Test.YtggijjknfcofoaaDoorEdMem
set_option linter.unusedVariables false
set_option linter.unusedSimpArgs false
namespace Go.Proofs.YtggijjknfcofoaaDoor
open Go.RowKit

/-- bounds as a value -/
def bdV (b : Nat × Nat) : Value := .agg #[.int .u64 b.1, .int .u64 b.2]
/-- what a way is given up with -/
abbrev gone (c : Nat) : Ending := .panicked [{ v := .iface 89 (.int .i64 (c : Nat)), recovered := false }]

theorem btold_any (lo hi : Int) (w : World) : Calls Tryd.prog 48 #[.agg #[.int .u64 lo, .int .u64 hi]] w fun e w' => e = .returned (.bool (lo != hi)) ∧ Below w.heap.size w w' := by
  go_enter Tryd.func48, Tryd.ntmps48
  go_wp2_with fail
  go_ret
  exact ⟨rfl, bnew w _⟩
theorem btold_b (b : Nat × Nat) (w : World) (q : Bool) (h : decide (b.1 ≠ b.2) = q) : Calls Tryd.prog 48 #[bdV b] w fun e w' => e = .returned (.bool q) ∧ Below w.heap.size w w' := by
  have := btold_any b.1 b.2 w
  rw [show ((b.1 : Int) != (b.2 : Int)) = q by rw [← h, Bool.eq_iff_iff]; simp; omega] at this
  exact this
theorem hold_ok (lo hi n : Int) (w : World) (h1 : ¬ n < lo) (h2 : ¬ hi < n) : Calls Tryd.prog 52 #[.agg #[.int .u64 lo, .int .u64 hi], .int .u64 n] w fun e w' => e = .returned (.tuple #[]) ∧ Below w.heap.size w w' := by
  go_enter Tryd.func52, Tryd.ntmps52
  go_wp2_with fail
  go_end0
  exact ⟨rfl, bnew w _⟩
theorem hold_lo (lo hi n : Int) (w : World) (h1 : n < lo) : Calls Tryd.prog 52 #[.agg #[.int .u64 lo, .int .u64 hi], .int .u64 n] w fun e w' => e = gone 5 ∧ Below w.heap.size w w' := by
  go_enter Tryd.func52, Tryd.ntmps52
  go_wp2_with fail
  exact ⟨rfl, rfl, bnew w _⟩
theorem hold_hi (lo hi n : Int) (w : World) (h1 : ¬ n < lo) (h2 : hi < n) : Calls Tryd.prog 52 #[.agg #[.int .u64 lo, .int .u64 hi], .int .u64 n] w fun e w' => e = gone 5 ∧ Below w.heap.size w w' := by
  go_enter Tryd.func52, Tryd.ntmps52
  go_wp2_with fail
  exact ⟨rfl, rfl, bnew w _⟩
theorem hold_yes (b : Nat × Nat) (n : Nat) (w : World) (h : Ed.inB b n = true) : Calls Tryd.prog 52 #[bdV b, .int .u64 n] w fun e w' => e = .returned (.tuple #[]) ∧ Below w.heap.size w w' := by
  simp only [Ed.inB, decide_eq_true_eq] at h
  exact hold_ok b.1 b.2 n w (by omega) (by omega)
theorem hold_no (b : Nat × Nat) (n : Nat) (w : World) (h : Ed.inB b n = false) : Calls Tryd.prog 52 #[bdV b, .int .u64 n] w fun e w' => e = gone 5 ∧ Below w.heap.size w w' := by
  simp only [Ed.inB, decide_eq_false_iff_not] at h
  by_cases h1 : n < b.1
  · exact hold_lo b.1 b.2 n w (by omega)
  · exact hold_hi b.1 b.2 n w (by omega) (by omega)

/-- a kind's shape: its cells -/
def shCs (k : Int) : List Value := [.int .u64 (Ed.seqB k).1, .int .u64 (Ed.seqB k).2, .bool (Ed.nameT k), .int .u64 (Ed.idB k).1, .int .u64 (Ed.idB k).2, .int .u64 (Ed.manyB k).1, .int .u64 (Ed.manyB k).2]
def shV (k : Int) : Value := .agg (shCs k).toArray
def tabVs : List Value := shCs 0 ++ (shCs 1 ++ (shCs 2 ++ (shCs 3 ++ (shCs 4 ++ (shCs 5 ++ shCs 6)))))
/-- the table -/
def ETab (w : World) : Prop := ∀ i v, tabVs[i]? = some v → w.cell? ⟨0, i, none⟩ = some v
theorem ETab.lt {w : World} (h : ETab w) : 0 < w.heap.size := block_lt_of_cell (h 0 _ rfl)
theorem ETab.on {w w' : World} (h : ETab w) (hb : Below w.heap.size w w') : ETab w' := fun i v hv => (hb.cell (p := ⟨0, i, none⟩) h.lt).trans (h i v hv)
theorem ETab.chg {w w' : World} (h : ETab w) (hb : ∀ p : Addr, p.block = 0 → w'.cell? p = w.cell? p) : ETab w' := fun i v hv => (hb ⟨0, i, none⟩ rfl).trans (h i v hv)
theorem ETab.alloc {w : World} (h : ETab w) (o : Obj) : ETab (w.alloc o) := h.on (bnew w o)
theorem kinds {k : Int} (h1 : 1 ≤ k) (h6 : k ≤ 6) : k = 1 ∨ k = 2 ∨ k = 3 ∨ k = 4 ∨ k = 5 ∨ k = 6 := by omega

theorem shapeOf_ok (k : Int) (w : World) (h1 : 1 ≤ k) (h6 : k ≤ 6) (ht : ETab w) : Calls Tryd.prog 51 #[.int .i64 k] w fun e w' => e = .returned (shV k) ∧ Below w.heap.size w w' := by
  have hg := ht.lt
  have Ht := Lib.hid ht
  clear ht
  rcases kinds h1 h6 with rfl | rfl | rfl | rfl | rfl | rfl
  · have c0 := Ht.out 7 _ rfl
    have c1 := Ht.out 8 _ rfl
    have c2 := Ht.out 9 _ rfl
    have c3 := Ht.out 10 _ rfl
    have c4 := Ht.out 11 _ rfl
    have c5 := Ht.out 12 _ rfl
    have c6 := Ht.out 13 _ rfl
    simp [Ed.seqB, Ed.nameT, Ed.idB, Ed.manyB] at c0 c1 c2 c3 c4 c5 c6
    go_enter Tryd.func51, Tryd.ntmps51
    go_wp2_with fail
    exact bodyPost_ret (v := shV 1) (by simp [results, Tryd.results51, go_sem]; rfl) rfl ⟨rfl, bnew w _⟩
  · have c0 := Ht.out 14 _ rfl
    have c1 := Ht.out 15 _ rfl
    have c2 := Ht.out 16 _ rfl
    have c3 := Ht.out 17 _ rfl
    have c4 := Ht.out 18 _ rfl
    have c5 := Ht.out 19 _ rfl
    have c6 := Ht.out 20 _ rfl
    simp [Ed.seqB, Ed.nameT, Ed.idB, Ed.manyB] at c0 c1 c2 c3 c4 c5 c6
    go_enter Tryd.func51, Tryd.ntmps51
    go_wp2_with fail
    exact bodyPost_ret (v := shV 2) (by simp [results, Tryd.results51, go_sem]; rfl) rfl ⟨rfl, bnew w _⟩
  · have c0 := Ht.out 21 _ rfl
    have c1 := Ht.out 22 _ rfl
    have c2 := Ht.out 23 _ rfl
    have c3 := Ht.out 24 _ rfl
    have c4 := Ht.out 25 _ rfl
    have c5 := Ht.out 26 _ rfl
    have c6 := Ht.out 27 _ rfl
    simp [Ed.seqB, Ed.nameT, Ed.idB, Ed.manyB] at c0 c1 c2 c3 c4 c5 c6
    go_enter Tryd.func51, Tryd.ntmps51
    go_wp2_with fail
    exact bodyPost_ret (v := shV 3) (by simp [results, Tryd.results51, go_sem]; rfl) rfl ⟨rfl, bnew w _⟩
  · have c0 := Ht.out 28 _ rfl
    have c1 := Ht.out 29 _ rfl
    have c2 := Ht.out 30 _ rfl
    have c3 := Ht.out 31 _ rfl
    have c4 := Ht.out 32 _ rfl
    have c5 := Ht.out 33 _ rfl
    have c6 := Ht.out 34 _ rfl
    simp [Ed.seqB, Ed.nameT, Ed.idB, Ed.manyB] at c0 c1 c2 c3 c4 c5 c6
    go_enter Tryd.func51, Tryd.ntmps51
    go_wp2_with fail
    exact bodyPost_ret (v := shV 4) (by simp [results, Tryd.results51, go_sem]; rfl) rfl ⟨rfl, bnew w _⟩
  · have c0 := Ht.out 35 _ rfl
    have c1 := Ht.out 36 _ rfl
    have c2 := Ht.out 37 _ rfl
    have c3 := Ht.out 38 _ rfl
    have c4 := Ht.out 39 _ rfl
    have c5 := Ht.out 40 _ rfl
    have c6 := Ht.out 41 _ rfl
    simp [Ed.seqB, Ed.nameT, Ed.idB, Ed.manyB] at c0 c1 c2 c3 c4 c5 c6
    go_enter Tryd.func51, Tryd.ntmps51
    go_wp2_with fail
    exact bodyPost_ret (v := shV 5) (by simp [results, Tryd.results51, go_sem]; rfl) rfl ⟨rfl, bnew w _⟩
  · have c0 := Ht.out 42 _ rfl
    have c1 := Ht.out 43 _ rfl
    have c2 := Ht.out 44 _ rfl
    have c3 := Ht.out 45 _ rfl
    have c4 := Ht.out 46 _ rfl
    have c5 := Ht.out 47 _ rfl
    have c6 := Ht.out 48 _ rfl
    simp [Ed.seqB, Ed.nameT, Ed.idB, Ed.manyB] at c0 c1 c2 c3 c4 c5 c6
    go_enter Tryd.func51, Tryd.ntmps51
    go_wp2_with fail
    exact bodyPost_ret (v := shV 6) (by simp [results, Tryd.results51, go_sem]; rfl) rfl ⟨rfl, bnew w _⟩
theorem ETab.at {w : World} (ht : ETab w) (k : Int) (h1 : 1 ≤ k) (h6 : k ≤ 6) (j : Nat) (hj : j < 7) : ∀ v, (shCs k)[j]? = some v → w.cell? ⟨0, 7 * k.toNat + j, none⟩ = some v := by
  intro v hv
  apply ht
  rcases kinds h1 h6 with rfl | rfl | rfl | rfl | rfl | rfl <;> (rcases j with _ | _ | _ | _ | _ | _ | _ | j <;> first | exact hv | omega)
theorem ETab.row {w : World} (ht : ETab w) (k : Nat) (h1 : 1 ≤ k) (h6 : k ≤ 6) : w.cell? ⟨0, k * 7, none⟩ = some (.int .u64 (Ed.seqB k).1) ∧ w.cell? ⟨0, k * 7 + 1, none⟩ = some (.int .u64 (Ed.seqB k).2) ∧
    w.cell? ⟨0, k * 7 + 2, none⟩ = some (.bool (Ed.nameT k)) ∧ w.cell? ⟨0, k * 7 + 3, none⟩ = some (.int .u64 (Ed.idB k).1) ∧ w.cell? ⟨0, k * 7 + 4, none⟩ = some (.int .u64 (Ed.idB k).2) ∧
    w.cell? ⟨0, k * 7 + 5, none⟩ = some (.int .u64 (Ed.manyB k).1) ∧ w.cell? ⟨0, k * 7 + 6, none⟩ = some (.int .u64 (Ed.manyB k).2) := by
  have h : ∀ j, j < 7 → ∀ v, (shCs k)[j]? = some v → w.cell? ⟨0, k * 7 + j, none⟩ = some v := fun j hj v hv => by
    have := ht.at k (by omega) (by omega) j hj v hv
    rw [Int.toNat_natCast, Nat.mul_comm] at this
    exact this
  exact ⟨h 0 (by omega) _ rfl, h 1 (by omega) _ rfl, h 2 (by omega) _ rfl, h 3 (by omega) _ rfl, h 4 (by omega) _ rfl, h 5 (by omega) _ rfl, h 6 (by omega) _ rfl⟩
theorem shapeOf_no (k : Int) (w : World) (h : k < 1 ∨ 6 < k) : Calls Tryd.prog 51 #[.int .i64 k] w fun e w' => e = gone 5 ∧ Below w.heap.size w w' := by
  by_cases h1 : k < 1
  · go_enter Tryd.func51, Tryd.ntmps51
    go_wp2_with fail
    exact ⟨rfl, rfl, bnew w _⟩
  · have h2 : 6 < k := by omega
    go_enter Tryd.func51, Tryd.ntmps51
    go_wp2_with fail
    exact ⟨rfl, rfl, bnew w _⟩
end Go.Proofs.YtggijjknfcofoaaDoor
