
/-
  Layer 1: the walks of the functions that only compute with numbers.
-/
import Derived.Test.YtffcbekogpgciaaProg
import Derived.Test.YtffcbekogpgciaaPxPlain
import Derived.WalkKit
import Derived.WalkLawsBesides
import Derived.WalkSpells
import Derived.Outline
import Derived.Laws.BitsAllLaws
import Derived.Lib.Hide
set_option linter.unusedVariables false
set_option linter.unusedSimpArgs false
namespace Go.Proofs.Ytffcbekogpgciaa
open Go.RowKit

theorem shr_zero (n j : Nat) : ((n : Int) / 2 ^ j == 0) = decide (n / 2 ^ j = 0) := by
  have h : ((n : Int) / 2 ^ j) = ((n / 2 ^ j : Nat) : Int) := by simp
  rw [h, Bool.eq_iff_iff]
  simp only [beq_iff_eq, decide_eq_true_eq]
  omega

theorem ret_int {k : IntKind} {a b : Int} (h : a = b) : Ending.returned (.int k a) = .returned (.int k b) := by rw [h]

theorem shr_zero' (n : Int) (h : 0 ≤ n) (j : Nat) : (n / 2 ^ j == 0) = decide (n.toNat / 2 ^ j = 0) := by
  obtain ⟨n, rfl⟩ := Int.eq_ofNat_of_zero_le h
  rw [Int.toNat_natCast]
  exact shr_zero n j

theorem xor_ones (a : Nat) (h : a < 18446744073709551616) : a ^^^ 18446744073709551615 = 18446744073709551615 - a := by
  have e := congrArg BitVec.toNat (BitVec.xor_allOnes (x := BitVec.ofNat 64 a))
  rw [BitVec.toNat_xor, BitVec.toNat_not, BitVec.toNat_allOnes, BitVec.toNat_ofNat, Nat.mod_eq_of_lt (by omega)] at e
  simpa using e

theorem xor_i64_zero (a : Nat) (h : a < 9223372036854775808) : bits .xor .i64 (a : Int) 0 = a := by
  show IntKind.i64.wrap ((BitVec.ofInt 64 (a : Int) ^^^ BitVec.ofInt 64 0).toNat : Int) = _
  have e : (BitVec.ofInt 64 (a : Int)).toNat = a := by
    rw [BitVec.ofInt_natCast, BitVec.toNat_ofNat]; exact Nat.mod_eq_of_lt (by omega)
  rw [BitVec.toNat_xor, e, IntKind.wrap_i64]
  simp
  omega

theorem xor_i64_ones (a : Nat) (h : a < 9223372036854775808) : bits .xor .i64 (a : Int) (-1) = -a - 1 := by
  show IntKind.i64.wrap ((BitVec.ofInt 64 (a : Int) ^^^ BitVec.ofInt 64 (-1)).toNat : Int) = _
  have e : (BitVec.ofInt 64 (a : Int)).toNat = a := by
    rw [BitVec.ofInt_natCast, BitVec.toNat_ofNat]; exact Nat.mod_eq_of_lt (by omega)
  have e2 : (BitVec.ofInt 64 (-1)).toNat = 18446744073709551615 := by decide
  rw [BitVec.toNat_xor, e, e2, xor_ones a (by omega), IntKind.wrap_i64]
  omega

/-- folded -/
def foldI (n : Int) : Int := if 0 ≤ n then 2 * n else -2 * n - 1
def unfoldI (n : Int) : Int := if n % 2 = 0 then n / 2 else - (n / 2) - 1

theorem fold_bits (n : Int) (h0 : -9223372036854775808 ≤ n) (h1 : n < 9223372036854775808) :
    bits BinOp.xor IntKind.u64 (IntKind.u64.wrap (wrap64 (n * 2))) (IntKind.u64.wrap (n / 9223372036854775808)) = foldI n := by
  have w1 : IntKind.u64.wrap (wrap64 (n * 2)) = (n * 2) % 18446744073709551616 := by rw [IntKind.wrap_u64]; unfold wrap64; omega
  rw [w1, IntKind.wrap_u64]
  unfold foldI
  by_cases h : 0 ≤ n
  · have e : n / 9223372036854775808 % 18446744073709551616 = ((0 : Nat) : Int) := by omega
    obtain ⟨a, rfl⟩ := Int.eq_ofNat_of_zero_le h
    have e2 : (a : Int) * 2 % 18446744073709551616 = ((2 * a : Nat) : Int) := by omega
    rw [e, e2, u64_xor_nat _ _ (by omega) (by omega), if_pos h, Nat.xor_zero]
    omega
  · have e : n / 9223372036854775808 % 18446744073709551616 = ((18446744073709551615 : Nat) : Int) := by omega
    have h2 : 0 ≤ n * 2 % 18446744073709551616 := by omega
    obtain ⟨a, ha⟩ := Int.eq_ofNat_of_zero_le h2
    rw [e, ha, u64_xor_nat _ _ (by omega) (by omega), if_neg h, xor_ones a (by omega)]
    omega

theorem unfold_bits (n : Int) (h0 : 0 ≤ n) (h1 : n < 18446744073709551616) :
    bits BinOp.xor IntKind.i64 (n / 2) (wrap64 (-wrap64 (bits BinOp.and IntKind.u64 n 1))) = unfoldI n := by
  obtain ⟨a, rfl⟩ := Int.eq_ofNat_of_zero_le h0
  rw [show (1 : Int) = ((1 : Nat) : Int) from rfl, u64_and_nat _ _ (by omega) (by omega), nat_mask1]
  rw [show ((a : Int) / 2) = ((a / 2 : Nat) : Int) by omega]
  unfold unfoldI
  by_cases h : a % 2 = 0
  · rw [h, show wrap64 (-wrap64 ((0 : Nat) : Int)) = 0 by unfold wrap64; rfl, xor_i64_zero _ (by omega), if_pos (by omega)]; omega
  · have h' : a % 2 = 1 := by omega
    rw [h', show wrap64 (-wrap64 ((1 : Nat) : Int)) = -1 by unfold wrap64; rfl, xor_i64_ones _ (by omega), if_neg (by omega)]; omega

theorem top_bit (x : Int) (h0 : 0 ≤ x) (h1 : x < 256) : (bits BinOp.and IntKind.u8 x 128 != 0) = decide (128 ≤ x) := by
  obtain ⟨a, rfl⟩ := Int.eq_ofNat_of_zero_le h0
  rw [show (128 : Int) = ((128 : Nat) : Int) from rfl, u8_and_nat _ _ (by omega) (by omega), show (128 : Nat) = 2 ^ 7 from rfl, nat_bit, Bool.eq_iff_iff]
  simp
  omega

end Go.Proofs.Ytffcbekogpgciaa
