
/-
  The document's own answer for layer 1: what Get reckons bit by bit is what it tells. Plain mathematics.
-/
import Derived.Test.YtggijjknfcofoaaDoorRxPlain
set_option linter.unusedVariables false
set_option linter.unusedSimpArgs false
namespace Go.Proofs.YtggijjknfcofoaaDoor.Rx
open Px (accN getN toldN sizeN formL)

/-- the number of the first j bytes, the highest one first -/
def beV (l : List UInt8) : Nat → Nat
  | 0 => 0
  | j + 1 => beV l j * 256 + (l.getD j 0).toNat
theorem beV_bits (l : List UInt8) (j : Nat) : bitsL (beV l (j + 1)) (8 * (j + 1)) = bitsL (beV l j) (8 * j) ++ bitsL (l.getD j 0).toNat 8 := by
  have := bitsL_append (beV l j) (l.getD j 0).toNat (8 * j) 8 (UInt8.toNat_lt _)
  rw [show 8 * (j + 1) = 8 * j + 8 by omega, ← this]
  rfl
theorem acc_beV (l : List UInt8) (k j : Nat) : accN l k j = beV l (j + 1) % 2 ^ (9 - k + 8 * j) := by
  induction j with
  | zero => simp [accN, beV]
  | succ j ih =>
    have hx := UInt8.toNat_lt (l.getD (j + 1) 0)
    have e0 : accN l k (j + 1) = accN l k j * 256 + (l.getD (j + 1) 0).toNat := rfl
    have e3 : beV l (j + 1 + 1) = beV l (j + 1) * 256 + (l.getD (j + 1) 0).toNat := rfl
    have e4 : 2 ^ (9 - k + 8 * (j + 1)) = 256 * 2 ^ (9 - k + 8 * j) := by
      rw [show 9 - k + 8 * (j + 1) = 9 - k + 8 * j + 8 by omega, Nat.pow_add, Nat.mul_comm]
    rw [e0, ih, e3, e4, Nat.mod_mul]
    generalize (l.getD (j + 1) 0).toNat = x at *
    generalize beV l (j + 1) = v at *
    have e1 : (v * 256 + x) % 256 = x := by omega
    have e2 : (v * 256 + x) / 256 = v := by omega
    rw [e1, e2]
    generalize v % 2 ^ (9 - k + 8 * j) = q
    omega
theorem beV_top (l : List UInt8) (j : Nat) : beV l (j + 1) / 2 ^ (8 * j) = (l.getD 0 0).toNat := by
  induction j with
  | zero => simp [beV]
  | succ j ih =>
    have hx := UInt8.toNat_lt (l.getD (j + 1) 0)
    rw [beV, Px.pow_step, ← Nat.div_div_eq_div_mul]
    have e2 : (beV l (j + 1) * 256 + (l.getD (j + 1) 0).toNat) / 256 = beV l (j + 1) := by omega
    rw [e2, ih]

/-- the first k - 1 bits of x are ones -/
def Lead (x k : Nat) : Prop := 1 ≤ k ∧ k ≤ 9 ∧ 256 - 2 ^ (9 - k) ≤ x ∧ x < 256
theorem lead_one (x : Nat) (h : x < 256) : Lead x 1 := ⟨by omega, by omega, by simp, h⟩
theorem Lead.step {x k : Nat} (h : Lead x k) (hk : k ≤ 8) : (x / 2 ^ (8 - k) % 2 = 1 → Lead x (k + 1)) ∧ (x / 2 ^ (8 - k) % 2 ≠ 1 → toldN x = k) := by
  obtain ⟨h1, h2, h3, h4⟩ := h
  have : k = 1 ∨ k = 2 ∨ k = 3 ∨ k = 4 ∨ k = 5 ∨ k = 6 ∨ k = 7 ∨ k = 8 := by omega
  unfold Lead toldN
  rcases this with rfl | rfl | rfl | rfl | rfl | rfl | rfl | rfl <;> simp only [Nat.reduceSub, Nat.reducePow, Nat.reduceAdd] at h3 ⊢ <;> refine ⟨fun h => by omega, fun h => ?_⟩ <;> (repeat' split) <;> omega
theorem Lead.nine {x : Nat} (h : Lead x 9) : toldN x = 9 := by
  obtain ⟨h1, h2, h3, h4⟩ := h
  simp at h3
  unfold toldN
  (repeat' split) <;> omega

theorem bit_get (x t : Nat) (ht : t < 8) : (bitsL x 8)[t]? = some (x / 2 ^ (7 - t) % 2) := by
  have : t = 0 ∨ t = 1 ∨ t = 2 ∨ t = 3 ∨ t = 4 ∨ t = 5 ∨ t = 6 ∨ t = 7 := by omega
  rcases this with rfl | rfl | rfl | rfl | rfl | rfl | rfl | rfl <;> rfl

/-- the number that is read -/
theorem num_acc (l : List UInt8) (k : Nat) (hk1 : 1 ≤ k) (hk8 : k ≤ 8) (ht : toldN (l.getD 0 0).toNat = k) : beV l k % 2 ^ (7 * k) = accN l k (k - 1) := by
  rw [acc_beV, show k - 1 + 1 = k by omega, show 9 - k + 8 * (k - 1) = 7 * k + 1 by omega, Nat.pow_succ, Nat.mod_mul]
  have htop := beV_top l (k - 1)
  rw [show k - 1 + 1 = k by omega] at htop
  have hx := UInt8.toNat_lt (l.getD 0 0)
  have hbit : beV l k / 2 ^ (7 * k) % 2 = 0 := by
    have e : 7 * k = 8 * (k - 1) + (8 - k) := by omega
    rw [e, Nat.pow_add, ← Nat.div_div_eq_div_mul, htop]
    generalize (l.getD 0 0).toNat = x at *
    unfold toldN at ht
    (repeat' split at ht) <;> subst ht <;> simp only [Nat.reduceSub, Nat.reducePow] <;> omega
  rw [hbit]
  simp
theorem num_acc9 (l : List UInt8) : beV l 9 % 2 ^ 64 = accN l 9 8 := by
  rw [acc_beV]

/-- the last test: the form of what was read is what was read -/
theorem get_form_iff (x : UInt8) (r : List UInt8) (hs : ¬ (x :: r).length < toldN x.toNat) :
    (sizeN (accN (x :: r) (toldN x.toNat) (toldN x.toNat - 1)) = toldN x.toNat) ↔ (formL (accN (x :: r) (toldN x.toNat) (toldN x.toNat - 1)) = (x :: r).take (toldN x.toNat)) := by
  constructor
  · intro h
    rcases Px.getN_cases (x :: r) with (hg | hg) | ⟨n, k, hg, _, _, _, hk, hf⟩
    · unfold getN at hg
      simp only at hg
      rw [if_neg hs, if_pos h] at hg
      simp at hg
    · unfold getN at hg
      simp only at hg
      rw [if_neg hs, if_pos h] at hg
      simp at hg
    · unfold getN at hg
      simp only at hg
      rw [if_neg hs, if_pos h] at hg
      simp only [Prod.mk.injEq] at hg
      rw [hg.1, hg.2.1]
      exact hf
  · intro h
    have := congrArg List.length h
    rw [Px.formL_length, List.length_take] at this
    omega
end Go.Proofs.YtggijjknfcofoaaDoor.Rx
