/-
  Layer 2: the walks of the functions that only compute with numbers.
-/
import Derived.Test.YtcgcopkalcjmpaaDoorProg
import Derived.Test.YtcgcopkalcjmpaaDoorCxPlain
import Derived.WalkKit
import Derived.WalkLawsBesides
import Derived.WalkSpells
import Derived.Outline
import Derived.Laws.BitsAllLaws
import Derived.Lib.Hide
import Derived.Deep.LoopGhost
import Derived.Test.YtcgcopkalcjmpaaDoorWords
set_option linter.unusedVariables false
set_option linter.unusedSimpArgs false
namespace Go.Proofs.YtcgcopkalcjmpaaDoor
open Go.RowKit

theorem ret_int {k : IntKind} {a b : Int} (h : a = b) : Ending.returned (.int k a) = .returned (.int k b) := by rw [h]

/-- numbers of 32 bits, as the walk spells what is done with them -/
theorem b_xor (x y : BitVec 32) : bits .xor .u32 (x.toNat : Int) (y.toNat : Int) = ((x ^^^ y).toNat : Int) := by
  rw [u32_xor_nat _ _ x.isLt y.isLt, BitVec.toNat_xor]
theorem b_and (x y : BitVec 32) : bits .and .u32 (x.toNat : Int) (y.toNat : Int) = ((x &&& y).toNat : Int) := by
  rw [u32_and_nat _ _ x.isLt y.isLt, BitVec.toNat_and]
theorem b_shr1 (x : BitVec 32) : (x.toNat : Int) / (2 : Int) = ((x >>> 1).toNat : Int) := by
  rw [BitVec.toNat_ushiftRight, Nat.shiftRight_eq_div_pow]; simp
theorem b_shr4 (x : BitVec 32) : (x.toNat : Int) / (16 : Int) = ((x >>> 4).toNat : Int) := by
  rw [BitVec.toNat_ushiftRight, Nat.shiftRight_eq_div_pow]; simp
theorem b_bit0 (x : BitVec 32) : (bits .and .u32 (x.toNat : Int) 1 != 0) = x.getLsbD 0 := by
  rw [show (1 : Int) = ((1 : Nat) : Int) by rfl, u32_and_nat _ _ x.isLt (by omega), nat_mask1, BitVec.getLsbD, Nat.testBit_zero]
  rw [Bool.eq_iff_iff]
  simp
  omega
theorem b_bit31 (x : BitVec 32) : (bits .and .u32 (x.toNat : Int) 2147483648 != 0) = x.getLsbD 31 := by
  rw [show (2147483648 : Int) = ((2 ^ 31 : Nat) : Int) by rfl, u32_and_nat _ _ x.isLt (by decide), nat_bit, BitVec.getLsbD, Nat.testBit_eq_decide_div_mod_eq]
  rw [Bool.eq_iff_iff]
  have := x.isLt
  simp
  omega
theorem b_shl1 (x : BitVec 32) : (x.toNat : Int) * (2 : Int) % (4294967296 : Int) = ((x <<< 1).toNat : Int) := by
  rw [BitVec.toNat_shiftLeft, Nat.shiftLeft_eq]; simp
theorem b_ne0 (x : BitVec 32) : ((x.toNat : Int) != 0) = (x != 0#32) := by
  rw [Bool.eq_iff_iff]
  simp only [bne_iff_ne, ne_eq]
  constructor
  · intro h h1; subst h1; exact h rfl
  · intro h h1; apply h; apply BitVec.eq_of_toNat_eq; simpa using h1

theorem timesX_any (v : BitVec 32) (w : World) :
    Calls Tryd.prog 29 #[.int .u32 v.toNat] w fun e w' => e = .returned (.int .u32 (Cx.tx v).toNat) ∧ w = w' := by
  have h0 := v.isLt
  have hb := Lib.hid (b_bit0 v)
  go_enter Tryd.func29, Tryd.ntmps29
  go_wp2_with fail
  · rename_i h
    rw [hb.out] at h
    go_ret
    refine ⟨ret_int ?_, rfl⟩
    rw [b_shr1, show (2197175160 : Int) = (Cx.md.toNat : Int) by rfl, b_xor, Cx.tx, h]
    rfl
  · rename_i h
    rw [hb.out] at h
    go_ret
    refine ⟨ret_int ?_, rfl⟩
    rw [b_shr1, Cx.tx, h]
    simp

theorem shl_ge (a : BitVec 32) (k : Nat) (h : 32 ≤ k) : a <<< k = 0#32 := BitVec.shiftLeft_eq_zero h

theorem mulL_step (k : Nat) (x y : BitVec 32) : Cx.mulL (k + 1) x y = (if x.getLsbD 31 then y else 0#32) ^^^ Cx.mulL k (x <<< 1) (Cx.tx y) := rfl

/-- Times -/
theorem times_any (a b : BitVec 32) (w : World) :
    Calls Tryd.prog 22 #[.int .u32 a.toNat, .int .u32 b.toNat] w fun e w' => e = .returned (.int .u32 (Cx.mul a b).toNat) ∧ w = w' := by
  go_enter Tryd.func22, Tryd.ntmps22
  go_wp2_with fail
  go_loopg [0, 1, 5] 32 (fun k p q s wr => w = wr ∧ ∃ (x y z : BitVec 32), k ≤ 32 ∧ p = .int .u32 x.toNat ∧ q = .int .u32 y.toNat ∧ s = .int .u32 z.toNat ∧ x = a <<< (32 - k) ∧ z ^^^ Cx.mulL k x y = Cx.mul a b)
  case atStart => exact ⟨rfl, a, b, 0#32, by omega, rfl, rfl, rfl, by simp, by simp [Cx.mul]⟩
  case round =>
    obtain ⟨rfl, x, y, z, hk, rfl, rfl, rfl, hx, hz⟩ := hrel
    have Hx := Lib.hid hx
    have Hz := Lib.hid hz
    clear hx hz
    have h0 := x.isLt
    rcases hn : ((x.toNat : Int) != 0) with _ | _
    · go_wp2_with fail
      go_ret
      refine ⟨ret_int ?_, rfl⟩
      rw [b_ne0] at hn
      have hx0 : x = 0#32 := by simpa using hn
      rw [← Hz.out, hx0, Cx.mulL_zero]
      simp
    · have hn' := Lib.hid hn
      have hgk : 0 < gk := by
        rcases Nat.eq_zero_or_pos gk with h | h
        · exfalso
          rw [b_ne0, Hx.out, h, shl_ge _ _ (by omega)] at hn
          simp at hn
        · exact h
      obtain ⟨k, rfl⟩ : ∃ k, gk = k + 1 := ⟨gk - 1, by omega⟩
      rcases hb : (bits .and .u32 (x.toNat : Int) 2147483648 != 0) with _ | _
      all_goals
        have Hb := Lib.hid ((b_bit31 x).symm.trans hb)
        go_wp2_with fail
        refine (timesX_any _ _).mono ?_
        rintro e w' ⟨rfl, rfl⟩
        go_wp2_with fail
        go_roundg k
        case measure => omega
        case rel =>
          first
          | exact ⟨rfl, x <<< 1, Cx.tx y, z ^^^ y, by omega, by rw [b_shl1], rfl, by rw [b_xor], by rw [Hx.out, ← BitVec.shiftLeft_add]; congr 1; omega, by rw [← Hz.out, mulL_step, Hb.out, BitVec.xor_assoc]; simp⟩
          | exact ⟨rfl, x <<< 1, Cx.tx y, z, by omega, by rw [b_shl1], rfl, rfl, by rw [Hx.out, ← BitVec.shiftLeft_add]; congr 1; omega, by rw [← Hz.out, mulL_step, Hb.out]; simp⟩
end Go.Proofs.YtcgcopkalcjmpaaDoor
