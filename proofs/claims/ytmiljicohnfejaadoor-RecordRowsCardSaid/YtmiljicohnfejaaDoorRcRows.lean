
/-
  Layer 8: runs, one behind the other, as plain mathematics; rows of the call's own beside each other.
-/
import Derived.Test.YtmiljicohnfejaaDoorRcBox
import Derived.Test.YtmiljicohnfejaaDoorArgsR
set_option linter.unusedVariables false
set_option linter.unusedSimpArgs false
namespace Go.Proofs.YtmiljicohnfejaaDoor
open Go.RowKit

namespace Rc
def nth (l : List Rec) (j : Nat) : Rec := made (l.getD j none)
theorem nth_may (l : List Rec) (j : Nat) : mayB (nth l j) = true := made_may _
def allL (l : List Rec) : Nat → List UInt8
  | 0 => []
  | j + 1 => allL l j ++ runL (nth l j)
def endN (l : List Rec) (j : Nat) : Nat := (allL l j).length
theorem endN_zero (l : List Rec) : endN l 0 = 0 := rfl
theorem endN_succ (l : List Rec) (j : Nat) : endN l (j + 1) = endN l j + sizeN (nth l j) := by
  unfold endN
  rw [allL, List.length_append, runL_length]
theorem endN_le (l : List Rec) (j : Nat) : endN l j ≤ 1113 * j := by
  induction j with
  | zero => simp [endN_zero]
  | succ j ih =>
    have := (may_size (nth_may l j)).2
    rw [endN_succ]
    omega
theorem allL_more (l : List Rec) (j : Nat) (d : Nat) : ∃ Y, allL l (j + d) = allL l j ++ Y := by
  induction d with
  | zero => exact ⟨[], by simp⟩
  | succ d ih =>
    obtain ⟨Y, hY⟩ := ih
    exact ⟨Y ++ runL (nth l (j + d)), by rw [← Nat.add_assoc, allL, hY, List.append_assoc]⟩
theorem allL_drop (l : List Rec) (j J : Nat) (h : j < J) : ∃ Y, (allL l J).drop (endN l j) = runL (nth l j) ++ Y := by
  obtain ⟨Y, hY⟩ := allL_more l (j + 1) (J - (j + 1))
  rw [show j + 1 + (J - (j + 1)) = J by omega, allL] at hY
  refine ⟨Y, ?_⟩
  rw [hY, List.append_assoc]
  exact List.drop_left' rfl
theorem endN_mono (l : List Rec) (j J : Nat) (h : j ≤ J) : endN l j ≤ endN l J := by
  obtain ⟨Y, hY⟩ := allL_more l j (J - j)
  rw [show j + (J - j) = J by omega] at hY
  unfold endN
  rw [hY, List.length_append]
  omega
/-- what is cut inside a run -/
theorem get_cut (l : List Rec) (j J k : Nat) (h : j < J) (hk : endN l j ≤ k) (hk2 : k < endN l (j + 1)) : getQ (((allL l J).drop (endN l j)).take (k - endN l j)) = (none, 0, 22) := by
  obtain ⟨Y, hY⟩ := allL_drop l j J h
  rw [endN_succ] at hk2
  rw [hY, List.take_append_of_le_length (by rw [runL_length]; omega)]
  exact get_torn (nth_may l j) _ (by omega)
/-- what is not -/
theorem get_next (l : List Rec) (j J k : Nat) (h : j < J) (hk2 : endN l (j + 1) ≤ k) : getQ (((allL l J).drop (endN l j)).take (k - endN l j)) = (nth l j, sizeN (nth l j), 0) := by
  obtain ⟨Y, hY⟩ := allL_drop l j J h
  rw [endN_succ] at hk2
  rw [hY, List.take_append, List.take_of_length_le (by rw [runL_length]; omega)]
  exact get_run (nth_may l j) _
theorem run_at (l : List Rec) (j J : Nat) (h : j < J) : ((allL l J).drop (endN l j)).take (endN l j + sizeN (nth l j) - endN l j) = runL (nth l j) := by
  obtain ⟨Y, hY⟩ := allL_drop l j J h
  rw [hY]
  exact List.take_left' (by rw [runL_length]; omega)
/-- the runs' ends, as cells -/
def endsV (l : List Rec) (j : Nat) : List Value := (List.range j).map fun i => .int .i64 ((endN l (i + 1) : Nat) : Int)
theorem endsV_succ (l : List Rec) (j : Nat) : endsV l (j + 1) = endsV l j ++ [.int .i64 ((endN l (j + 1) : Nat) : Int)] := by simp [endsV, List.range_succ]
theorem endsV_at (l : List Rec) (j J : Nat) (h : j < J) : (endsV l J)[j]? = some (.int .i64 ((endN l (j + 1) : Nat) : Int)) := by simp [endsV, h]
end Rc

/-- a row of the call's own beside another one that grows -/
theorem own_grown {w w' : World} {base n : Nat} {e : TypeId} {size : Nat} {v : Value} {xs : List Value} {row : Option Nat} (h : w.ownsRow base e size v n xs) (hg : w.grownBy w' row) (hne : ∀ k, v.ownBlock = some k → row ≠ some k) : w'.ownsRow base e size v n xs := by
  rcases h.2 with ⟨rfl, rfl⟩ | ⟨g, cap, cur, rfl, hb, hc, r⟩
  · exact ⟨h.1, .inl ⟨rfl, rfl⟩⟩
  · have hlt := (h.lt g rfl).2
    exact ⟨h.1, .inr ⟨g, cap, cur, rfl, hb, (hg.block g hlt (fun e => hne g rfl e.symm)).trans hc, r⟩⟩
theorem int_info : (Tryd.prog.info? 3).map (fun i => (i.zero, i.size, i.bytes)) = some (some (.int .i64 0), 1, 8) := by kernel_rfl
end Go.Proofs.YtmiljicohnfejaaDoor
