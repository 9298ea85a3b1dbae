/-
  The walk of the law PrefixFolds: it returns true, and writes nothing that was there.
-/
import Derived.Test.YtaocibomejjfjaaPxCon
import Derived.OpenShut
set_option linter.unusedVariables false
set_option linter.unusedSimpArgs false
namespace Go.Proofs.Ytaocibomejjfjaa.prefixFolds
open Go.RowKit

def farI (n : Int) : Int := if n < 0 then -n else n

theorem far_any (n : Int) (w : World) (h0 : -9223372036854775808 ≤ n) (h1 : n < 9223372036854775808) :
    Calls Try.prog 30 #[.int .i64 n] w fun e w' => e = .returned (.int .u64 (farI n)) ∧ w = w' := by
  unfold farI
  by_cases h : n < 0
  · have e : -(n % 18446744073709551616) % 18446744073709551616 = -n := by omega
    have He := Lib.hid e
    clear e
    rw [if_pos h]
    go_enter Try.func30, Try.ntmps30
    go_wp2
    go_ret
    refine ⟨ret_int ?_, rfl⟩
    simp only [IntKind.wrap_u64]
    exact He.out
  · rw [if_neg h]
    go_enter Try.func30, Try.ntmps30
    go_wp2
    go_ret
    exact ⟨rfl, rfl⟩

theorem fold_b (n : Int) (h0 : -9223372036854775808 ≤ n) (h1 : n ≤ 9223372036854775807) : 0 ≤ foldI n ∧ foldI n < 18446744073709551616 := by
  unfold foldI; split <;> omega
theorem unfold_b (n : Int) (h0 : 0 ≤ n) (h1 : n ≤ 18446744073709551615) : -9223372036854775808 ≤ unfoldI n ∧ unfoldI n < 9223372036854775808 := by
  unfold unfoldI; split <;> omega
theorem unfold_fold (n : Int) (h0 : -9223372036854775808 ≤ n) (h1 : n ≤ 9223372036854775807) : unfoldI (foldI n) = n := by
  unfold unfoldI foldI; (repeat' split) <;> omega
theorem fold_unfold (n : Int) (h0 : 0 ≤ n) (h1 : n ≤ 18446744073709551615) : foldI (unfoldI n) = n := by
  unfold unfoldI foldI; (repeat' split) <;> omega

set_option maxHeartbeats 4000000 in
theorem walk (a0 : Int) (a1 : Int) (a2 : Int) (w0 : (Lit.int .u64 a0).wf = true) (w1 : (Lit.int .i64 a1).wf = true) (w2 : (Lit.int .i64 a2).wf = true) (w : World) :
    Calls Try.prog 6 #[.int .u64 a0, .int .i64 a1, .int .i64 a2] w fun e w' => e = .returned (.bool true) ∧ Below w.heap.size w w' := by
  obtain ⟨p0, q0⟩ := bounds_u64 w0
  obtain ⟨p1, q1⟩ := bounds_i64 w1
  obtain ⟨p2, q2⟩ := bounds_i64 w2
  have fb1 := fold_b a1 p1 q1
  have fb2 := fold_b a2 p2 q2
  have ub := unfold_b a0 p0 q0
  have e1 := Lib.hid (unfold_fold a1 p1 q1)
  have e0 := Lib.hid (fold_unfold a0 p0 q0)
  have efar : farI a1 < farI a2 → foldI a1 < foldI a2 := by unfold farI foldI; intro h; (repeat' split at h) <;> (repeat' split) <;> omega
  have eeq : (foldI a1 == foldI a2) = (a1 == a2) := by
    rw [Bool.eq_iff_iff]; simp only [beq_iff_eq]; unfold foldI; (repeat' split) <;> omega
  have epos : 0 < a1 → 1 ≤ foldI a1 := by unfold foldI; intro h; (repeat' split) <;> omega
  have eneg : 0 < a1 → foldI (-a1) = foldI a1 - 1 := by unfold foldI; intro h; (repeat' split) <;> omega
  have eodd : decide (unfoldI a0 < 0) = (bits .and .u64 a0 1 == 1) := by
    obtain ⟨x, rfl⟩ := Int.eq_ofNat_of_zero_le p0
    rw [show (1 : Int) = ((1 : Nat) : Int) from rfl, u64_and_nat _ _ (by omega) (by omega), nat_mask1, Bool.eq_iff_iff]
    simp only [decide_eq_true_eq, beq_iff_eq]
    unfold unfoldI
    split <;> omega
  generalize hf1 : foldI a1 = f1 at *
  generalize hf2 : foldI a2 = f2 at *
  generalize hg1 : farI a1 = g1 at *
  generalize hg2 : farI a2 = g2 at *
  generalize hu : unfoldI a0 = u at *
  have Hf1 := Lib.hid hf1
  have Hf2 := Lib.hid hf2
  have Hg1 := Lib.hid hg1
  have Hg2 := Lib.hid hg2
  have Hu := Lib.hid hu
  have Heq := Lib.hid eeq
  have Hodd := Lib.hid eodd
  have Hneg := Lib.hid eneg
  clear hf1 hf2 hg1 hg2 hu eeq eodd eneg w0 w1 w2
  have hlt : g2 ≤ g1 ∨ (g1 < g2 ∧ f1 < f2) := by
    by_cases hfar : g1 < g2
    · exact .inr ⟨hfar, efar hfar⟩
    · exact .inl (by omega)
  clear efar
  have hsg : a1 ≤ 0 ∨ (0 < a1 ∧ 1 ≤ f1 ∧ decide (a1 ≤ 0) = false) := by
    by_cases h : a1 ≤ 0
    · exact .inl h
    · exact .inr ⟨by omega, epos (by omega), by simp; omega⟩
  clear epos
  rcases hlt with hlt | ⟨hlt, hlt2⟩ <;> rcases hsg with hsg | ⟨hsg, hsg1, hsg2⟩
  all_goals
    go_enter Try.func6, Try.ntmps6
    go_wp2_with fail
    refine (fold_any _ _ (by omega) (by omega)).mono ?_
    rintro e w1 ⟨rfl, rfl⟩
    rw [Hf1.out]
    go_wp2_with fail
    refine (fold_any _ _ (by omega) (by omega)).mono ?_
    rintro e w1 ⟨rfl, rfl⟩
    rw [Hf2.out]
    go_wp2_with fail
    refine (unfold_any _ _ (by omega) (by omega)).mono ?_
    rintro e w1 ⟨rfl, rfl⟩
    rw [e1.out]
    go_wp2_with fail
    refine (unfold_any _ _ (by omega) (by omega)).mono ?_
    rintro e w1 ⟨rfl, rfl⟩
    rw [Hu.out]
    go_wp2_with fail
    refine (fold_any _ _ (by omega) (by omega)).mono ?_
    rintro e w1 ⟨rfl, rfl⟩
    rw [e0.out]
    go_wp2_with fail
    refine (far_any _ _ (by omega) (by omega)).mono ?_
    rintro e w1 ⟨rfl, rfl⟩
    rw [Hg1.out]
    go_wp2_with fail
    refine (far_any _ _ (by omega) (by omega)).mono ?_
    rintro e w1 ⟨rfl, rfl⟩
    rw [Hg2.out]
    have eeq := Heq.out
    go_wp2_with fail
    clear eeq
    try
      refine (fold_any _ _ (by omega) (by omega)).mono ?_
      rintro e w1 ⟨rfl, rfl⟩
      rw [Hneg.out hsg]
      go_wp2_with fail
    refine (unfold_any _ _ (by omega) (by omega)).mono ?_
    rintro e w1 ⟨rfl, rfl⟩
    rw [Hu.out]
    have eodd := Hodd.out
    go_wp2_with fail
    clear eodd
    refine (wakes_any _).mono ?_
    rintro e w1 ⟨rfl, hb⟩
    go_wp2_with fail
    go_ret
    exact ⟨rfl, hb⟩
end Go.Proofs.Ytaocibomejjfjaa.prefixFolds
