
/-
  Layer 6: the document's folder: May.
-/
import Derived.Test.YtpjmjcjikaekiaaGxWith
set_option linter.unusedVariables false
set_option linter.unusedSimpArgs false
namespace Go.Proofs.Ytpjmjcjikaekiaa
open Go.RowKit

/-- a byte that a name may hold -/
def okB (c : UInt8) : Bool := (decide (97 ≤ c.toNat) && decide (c.toNat ≤ 122)) || (decide (48 ≤ c.toNat) && decide (c.toNat ≤ 57)) || decide (c.toNat = 45) || decide (c.toNat = 46)
def mayN (s : ByteArray) : Bool := decide (0 < s.size) && decide (s.size ≤ 32) && s.data.toList.all okB
theorem okB_iff (c : UInt8) : okB c = true ↔ (97 ≤ c.toNat ∧ c.toNat ≤ 122) ∨ (48 ≤ c.toNat ∧ c.toNat ≤ 57) ∨ c.toNat = 45 ∨ c.toNat = 46 := by
  unfold okB
  simp only [Bool.or_eq_true, Bool.and_eq_true, decide_eq_true_eq, or_assoc]
theorem okB_no {c : UInt8} (h : ¬ ((97 ≤ c.toNat ∧ c.toNat ≤ 122) ∨ (48 ≤ c.toNat ∧ c.toNat ≤ 57) ∨ c.toNat = 45 ∨ c.toNat = 46)) : okB c = false := by
  cases hh : okB c
  · rfl
  · exact absurd ((okB_iff c).1 hh) h
theorem mayN_no {s : ByteArray} {j : Nat} {c : UInt8} (hc : s.data.toList[j]? = some c) (ho : okB c = false) : mayN s = false := by
  have h : s.data.toList.all okB = false := by
    rw [List.all_eq_false]
    exact ⟨c, List.mem_of_getElem? hc, by simp [ho]⟩
  unfold mayN
  rw [h, Bool.and_false]
theorem all_next {s : ByteArray} {j : Nat} {c : UInt8} (hc : s.data.toList[j]? = some c) (h : (s.data.toList.take j).all okB = true) (ho : okB c = true) : (s.data.toList.take (j + 1)).all okB = true := by
  rw [take_next6 hc, List.all_append, h]
  simp [ho]
set_option maxRecDepth 100000 in
theorem rmay_any (s : ByteArray) (w : World) (hs : s.size ≤ 9223372036854775807) : Calls Try.prog 23 #[.string s] w fun e w' => e = .returned (.bool (mayN s)) ∧ Below w.heap.size w w' := by
  rcases (show s.size = 0 ∨ 32 < s.size ∨ (0 < s.size ∧ s.size ≤ 32) by omega) with h | h | h
  · have hm : mayN s = false := by unfold mayN; simp [h]
    rw [hm]
    have h1 : ((s.size : Int) == 0) = true := by simp [h]
    go_enter Try.func23, Try.ntmps23
    go_wp2
    go_ret
    exact ⟨rfl, Below.refl _ _⟩
  · have hm : mayN s = false := by
      have h9 : decide (s.size ≤ 32) = false := by simp; omega
      unfold mayN; rw [h9]; simp
    rw [hm]
    have h1 : ((s.size : Int) == 0) = false := by
      have h9 : ¬ ((s.size : Int) = 0) := by omega
      simpa using h9
    have h2 : decide ((s.size : Int) > 32) = true := by
      have h9 : (s.size : Int) > 32 := by omega
      exact decide_eq_true h9
    go_enter Try.func23, Try.ntmps23
    go_wp2
    go_ret
    exact ⟨rfl, Below.refl _ _⟩
  · obtain ⟨h3, h4⟩ := h
    have h1 : ((s.size : Int) == 0) = false := by
      have h9 : ¬ ((s.size : Int) = 0) := by omega
      simpa using h9
    have h2 : decide ((s.size : Int) > 32) = false := by
      have h9 : ¬ ((s.size : Int) > 32) := by omega
      exact decide_eq_false h9
    go_enter Try.func23, Try.ntmps23
    go_wp2_with fail
    go_loopw [3] (fun i wr => ∃ j : Nat, j ≤ s.size ∧ i = .int .i64 j ∧ (s.data.toList.take j).all okB = true ∧ w = wr) (fun i _ => s.size - (intOf i).toNat)
    case atStart => exact ⟨0, by omega, rfl, by simp, rfl⟩
    case round =>
      obtain ⟨j, hj, rfl, hall, rfl⟩ := hrel
      have HA := Lib.hid hall
      clear hall
      by_cases hjl : j < s.size
      · obtain ⟨c, hc⟩ : ∃ c, s.data.toList[j]? = some c := ⟨s.data.toList[j]'(by simpa using hjl), List.getElem?_eq_getElem _⟩
        have Hc := Lib.hid hc
        have hsj : (s[j]'hjl).toNat = c.toNat := by
          have h9 := (List.getElem?_eq_some_iff.1 hc).2
          rw [← h9]
          rfl
        clear hc
        rcases (show (97 ≤ c.toNat ∧ c.toNat ≤ 122) ∨ (48 ≤ c.toNat ∧ c.toNat ≤ 57) ∨ c.toNat = 45 ∨ c.toNat = 46 ∨ (¬ (97 ≤ c.toNat ∧ c.toNat ≤ 122) ∧ ¬ (48 ≤ c.toNat ∧ c.toNat ≤ 57) ∧ c.toNat ≠ 45 ∧ c.toNat ≠ 46) by omega) with hq | hq | hq | hq | hq
        all_goals
          have Hq := Lib.hid hq
          go_wp2_with fail
        all_goals first
          | (exfalso; omega)
          | (exfalso; simp at *; omega)
          | (go_roundw
             case rel => exact ⟨j + 1, by omega, by go_num, all_next Hc.out HA.out ((okB_iff c).2 (by have h9 := Hq.out; omega)), by first | trivial | rfl⟩
             case measure => simp [intOf]; omega)
          | (go_ret
             exact ⟨by rw [mayN_no Hc.out (okB_no (by have h9 := Hq.out; omega))]; rfl, Below.refl _ _⟩)
      · obtain rfl : j = s.size := by omega
        have hl : s.data.toList.take s.size = s.data.toList := List.take_of_length_le (by rw [Array.length_toList]; exact Nat.le_refl _)
        have hm : mayN s = true := by
          have h9 := HA.out
          rw [hl] at h9
          unfold mayN
          rw [h9]
          simp
          omega
        have Hm := Lib.hid hm
        clear hm hl
        go_wp2_with fail
        go_ret
        exact ⟨by rw [Hm.out]; rfl, Below.refl _ _⟩
end Go.Proofs.Ytpjmjcjikaekiaa
