
/-
  Layer 4: '==' of arrays of bytes.
-/
import Derived.Test.YtaekndhchdpobaaKyMem
import Derived.DeepKeys
set_option linter.unusedVariables false
set_option linter.unusedSimpArgs false
namespace Go.Proofs.Ytaekndhchdpobaa
open Go.RowKit

def bl (b : UInt8) : Lit := .int .u8 (b.toNat : Int)
theorem bl_inj {a b : UInt8} (h : bl a = bl b) : a = b := by
  unfold bl at h
  injection h with _ h
  exact UInt8.toNat_inj.1 (by omega)
theorem map_bl_inj : ∀ {a b : List UInt8}, a.map bl = b.map bl → a = b
  | [], [], _ => rfl
  | [], _ :: _, h => by simp at h
  | _ :: _, [], h => by simp at h
  | x :: a, y :: b, h => by
    simp only [List.map_cons, List.cons.injEq] at h
    rw [bl_inj h.1, map_bl_inj h.2]
theorem eight {α : Type} {a : List α} (ha : a.length = 8) : ∃ a0 a1 a2 a3 a4 a5 a6 a7, a = [a0, a1, a2, a3, a4, a5, a6, a7] := by
  match a, ha with
  | [a0, a1, a2, a3, a4, a5, a6, a7], _ => exact ⟨a0, a1, a2, a3, a4, a5, a6, a7, rfl⟩
theorem lit1 (x : UInt8) : Try.prog.keyLits 2 5 [bv x] = some [bl x] := by
  have h : (Lit.int .u8 (x.toNat : Int)).wf = true := by
    have := UInt8.toNat_lt x
    have e1 : IntKind.u8.min = 0 := by decide
    have e2 : IntKind.u8.max = 255 := by decide
    simp only [Lit.wf, e1, e2, Bool.and_eq_true, decide_eq_true_eq]
    omega
  have e : Try.prog.keyLits 2 5 [bv x] = (if IntKind.u8 = IntKind.u8 ∧ (Lit.int .u8 (x.toNat : Int)).wf = true then some [bl x] else none) := by kernel_rfl
  rw [e, if_pos ⟨rfl, h⟩]
theorem lits8 (a : List UInt8) (ha : a.length = 8) : Try.prog.keyLits 3 68 (bvs a) = some (a.map bl) := by
  obtain ⟨a0, a1, a2, a3, a4, a5, a6, a7, rfl⟩ := eight ha
  have e : Try.prog.keyLits 3 68 (bvs [a0, a1, a2, a3, a4, a5, a6, a7]) = ([Try.prog.keyLits 2 5 [bv a0], Try.prog.keyLits 2 5 [bv a1], Try.prog.keyLits 2 5 [bv a2], Try.prog.keyLits 2 5 [bv a3], Try.prog.keyLits 2 5 [bv a4], Try.prog.keyLits 2 5 [bv a5], Try.prog.keyLits 2 5 [bv a6], Try.prog.keyLits 2 5 [bv a7]].mapM id).map List.flatten := by kernel_rfl
  rw [e]
  simp only [lit1]
  rfl
theorem eql_arr8 (a b : List UInt8) (ha : a.length = 8) (hb : b.length = 8) (w : World) : (binOp .eql 68 (.agg (bvs a).toArray) (.agg (bvs b).toArray)).run Try.prog w = .ok (.bool (a == b)) w := by
  have hk : Try.prog.keyTypeAt 3 68 = true := by kernel_rfl
  have fx : (Value.agg (bvs a).toArray).formed Try.prog 68 = true := by
    obtain ⟨a0, a1, a2, a3, a4, a5, a6, a7, rfl⟩ := eight ha
    kernel_rfl
  have fy : (Value.agg (bvs b).toArray).formed Try.prog 68 = true := by
    obtain ⟨a0, a1, a2, a3, a4, a5, a6, a7, rfl⟩ := eight hb
    kernel_rfl
  obtain ⟨r, hr, hiff⟩ := run_equalIn_deep 9997 3 68 hk w 3 3 _ _ _ _ fx fy (lits8 a ha) (lits8 b hb)
  rw [run_eql_struct, show (10000 : Nat) = 9997 + 3 from rfl, hr]
  have : r = (a == b) := by
    rw [Bool.eq_iff_iff, hiff]
    simp only [beq_iff_eq]
    exact ⟨map_bl_inj, fun h => by rw [h]⟩
  rw [this]
  rfl
end Go.Proofs.Ytaekndhchdpobaa
