
/-
  Layer 6: the document's folder: May.
-/
import Derived.Test.YtpjmjcjikaekiaaDoorGxWith
set_option linter.unusedVariables false
set_option linter.unusedSimpArgs false
namespace Go.Proofs.YtpjmjcjikaekiaaDoor
open Go.RowKit

/-- a byte that a name may hold -/
def okB (c : UInt8) : Bool := (decide (97 ≤ c.toNat) && decide (c.toNat ≤ 122)) || (decide (48 ≤ c.toNat) && decide (c.toNat ≤ 57)) || decide (c.toNat = 45) || decide (c.toNat = 46)
def mayN (s : ByteArray) : Bool := decide (0 < s.size) && decide (s.size ≤ 32) && s.data.toList.all okB
theorem okB_iff (c : UInt8) : okB c = true ↔ (97 ≤ c.toNat ∧ c.toNat ≤ 122) ∨ (48 ≤ c.toNat ∧ c.toNat ≤ 57) ∨ c.toNat = 45 ∨ c.toNat = 46 := by
  unfold okB
  simp only [Bool.or_eq_true, Bool.and_eq_true, decide_eq_true_eq, or_assoc]
theorem okB_no {c : UInt8} (h : ¬ ((97 ≤ c.toNat ∧ c.toNat ≤ 122) ∨ (48 ≤ c.toNat ∧ c.toNat ≤ 57) ∨ c.toNat = 45 ∨ c.toNat = 46)) : okB c = false := by
  cases hh : okB c
  · rfl
  · exact absurd ((okB_iff c).1 hh) h
theorem mayN_no {s : ByteArray} {j : Nat} {c : UInt8} (hc : s.data.toList[j]? = some c) (ho : okB c = false) : mayN s = false := by
  have h : s.data.toList.all okB = false := by
    rw [List.all_eq_false]
    exact ⟨c, List.mem_of_getElem? hc, by simp [ho]⟩
  unfold mayN
  rw [h, Bool.and_false]
theorem all_next {s : ByteArray} {j : Nat} {c : UInt8} (hc : s.data.toList[j]? = some c) (h : (s.data.toList.take j).all okB = true) (ho : okB c = true) : (s.data.toList.take (j + 1)).all okB = true := by
  rw [take_next6 hc, List.all_append, h]
  simp [ho]
end Go.Proofs.YtpjmjcjikaekiaaDoor
