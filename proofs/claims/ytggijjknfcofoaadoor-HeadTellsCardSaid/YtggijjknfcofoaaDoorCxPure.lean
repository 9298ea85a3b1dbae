
/-
  Layer 2: the walks of the functions that only compute with numbers.
-/
import Derived.Test.YtggijjknfcofoaaDoorProg
import Derived.Test.YtggijjknfcofoaaDoorCxPlain
import Derived.WalkKit
import Derived.WalkLawsBesides
import Derived.WalkSpells
import Derived.Outline
import Derived.Laws.BitsAllLaws
import Derived.Lib.Hide
import Derived.Deep.LoopGhost
import Derived.Test.YtggijjknfcofoaaDoorWords
set_option linter.unusedVariables false
set_option linter.unusedSimpArgs false
namespace Go.Proofs.YtggijjknfcofoaaDoor.Crc
open Go.RowKit

theorem ret_int {k : IntKind} {a b : Int} (h : a = b) : Ending.returned (.int k a) = .returned (.int k b) := by rw [h]

/-- numbers of 32 bits, as the walk spells what is done with them -/
theorem b_xor (x y : BitVec 32) : bits .xor .u32 (x.toNat : Int) (y.toNat : Int) = ((x ^^^ y).toNat : Int) := by
  rw [u32_xor_nat _ _ x.isLt y.isLt, BitVec.toNat_xor]
theorem b_and (x y : BitVec 32) : bits .and .u32 (x.toNat : Int) (y.toNat : Int) = ((x &&& y).toNat : Int) := by
  rw [u32_and_nat _ _ x.isLt y.isLt, BitVec.toNat_and]
theorem b_shr1 (x : BitVec 32) : (x.toNat : Int) / (2 : Int) = ((x >>> 1).toNat : Int) := by
  rw [BitVec.toNat_ushiftRight, Nat.shiftRight_eq_div_pow]; simp
theorem b_shr4 (x : BitVec 32) : (x.toNat : Int) / (16 : Int) = ((x >>> 4).toNat : Int) := by
  rw [BitVec.toNat_ushiftRight, Nat.shiftRight_eq_div_pow]; simp
theorem b_bit0 (x : BitVec 32) : (bits .and .u32 (x.toNat : Int) 1 != 0) = x.getLsbD 0 := by
  rw [show (1 : Int) = ((1 : Nat) : Int) by rfl, u32_and_nat _ _ x.isLt (by omega), nat_mask1, BitVec.getLsbD, Nat.testBit_zero]
  rw [Bool.eq_iff_iff]
  simp
  omega
theorem b_bit31 (x : BitVec 32) : (bits .and .u32 (x.toNat : Int) 2147483648 != 0) = x.getLsbD 31 := by
  rw [show (2147483648 : Int) = ((2 ^ 31 : Nat) : Int) by rfl, u32_and_nat _ _ x.isLt (by decide), nat_bit, BitVec.getLsbD, Nat.testBit_eq_decide_div_mod_eq]
  rw [Bool.eq_iff_iff]
  have := x.isLt
  simp
  omega
theorem b_shl1 (x : BitVec 32) : (x.toNat : Int) * (2 : Int) % (4294967296 : Int) = ((x <<< 1).toNat : Int) := by
  rw [BitVec.toNat_shiftLeft, Nat.shiftLeft_eq]; simp
theorem b_ne0 (x : BitVec 32) : ((x.toNat : Int) != 0) = (x != 0#32) := by
  rw [Bool.eq_iff_iff]
  simp only [bne_iff_ne, ne_eq]
  constructor
  · intro h h1; subst h1; exact h rfl
  · intro h h1; apply h; apply BitVec.eq_of_toNat_eq; simpa using h1

theorem shl_ge (a : BitVec 32) (k : Nat) (h : 32 ≤ k) : a <<< k = 0#32 := BitVec.shiftLeft_eq_zero h

theorem mulL_step (k : Nat) (x y : BitVec 32) : Cx.mulL (k + 1) x y = (if x.getLsbD 31 then y else 0#32) ^^^ Cx.mulL k (x <<< 1) (Cx.tx y) := rfl

end Go.Proofs.YtggijjknfcofoaaDoor.Crc
