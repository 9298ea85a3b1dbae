
/-
  Layer 2: the walks of Cover and Right, and of the chapter's rows ('knows').
-/
import Derived.Test.YtggijjknfcofoaaDoorCxMem
import Derived.Test.YtggijjknfcofoaaDoorCxRun
import Derived.OwnWalk
set_option linter.unusedVariables false
set_option linter.unusedSimpArgs false
namespace Go.Proofs.YtggijjknfcofoaaDoor.Crc
open Go.RowKit

theorem dg_val (s : BitVec 32) (j : Nat) : ∃ d : UInt8, (s.toNat : Int) / 2 ^ (8 * j) % 256 = (d.toNat : Int) ∧ d = Cx.dg s.toNat j :=
  ⟨_, by rw [Cx.dg_toNat]; simp, rfl⟩

set_option maxRecDepth 100000 in
theorem cover_any (A : Option Addr) (l : List UInt8) (c : Nat) (w : World) (h : Rd w w.heap.size A (bvs l)) (ht : Tab w) (hm : l.length + 4 ≤ 140737488355328) :
    Calls Tryd.prog 43 #[.slice A l.length c] w fun e w' => ∃ v, e = .returned v ∧ w'.ownsRow w.heap.size 5 1 v (l.length + 4) (bvs (Cx.cover l)) ∧ Below w.heap.size w w' := by
  obtain ⟨i0, hi0, hz0, hz1, hz2⟩ := info_parts byte_info
  have Hh := Lib.hid h
  have Ht := Lib.hid ht
  clear h ht
  go_enter Tryd.func43, Tryd.ntmps43
  go_wp2_with (first
    | (at_make
       refine wpList_make_own _ rfl _ _ 30 rfl w.heap.size 5 i0 (.int .u8 0) 1 Tryd.underlying30 hi0 hz0 hz1 .i64 .i64 _ (l.length + 4) rfl rfl (by omega) (by rw [hz2]; omega) (by unfold maxLen; omega) (Nat.le_refl _) ?_
       intro w0 hown0 hgrow0)
    | (at_builtin
       refine wpList_append_rd _ rfl _ _ 30 rfl w.heap.size 5 i0 (.int .u8 0) 1 1 Tryd.underlying30 hi0 hz0 hz1 hz2 rfl (by omega) (Value.slice (some { block := w.heap.size, off := 0 }) 0 (l.length + 4)) 0 [] rfl hown0 w.heap.size A l.length c (bvs l) rfl (by simp [bvs]) (Hh.out.grown hgrow0 (Nat.le_refl _) (by simp)) (bvs_one l) (by unfold maxLen; omega) (by omega) hgrow0.size ?_
       intro v1 w1 hown1 hbw1 _ _))
  have hb0 : Below w.heap.size w w1 := ((Below.refl _ _).grown hgrow0 (Nat.le_refl _) (by simp)).trans hbw1
  rw [Nat.zero_add, List.nil_append] at hown1
  refine (sum_any A l c w.heap.size w1 (Hh.out.below hb0 (Nat.le_refl _)) (Ht.out.on hb0) (by omega)).mono ?_
  rintro e w2 ⟨rfl, rfl⟩
  generalize hs : Cx.sum l = s
  have Hs := Lib.hid hs
  clear hs hbw1 hgrow0 hown0
  go_wp2_with fail
  go_loopg [3, 15] 4 (fun k o i wr => ∃ j : Nat, j + k = 4 ∧ i = .int .i64 j ∧ wr.ownsRow w.heap.size 5 1 o (l.length + j) (bvs (l ++ Cx.leL s.toNat j)) ∧ Below w.heap.size w wr)
  case atStart => exact ⟨0, by omega, rfl, by simpa [Cx.leL] using hown1, hb0⟩
  case round =>
    obtain ⟨j, hj, rfl, hown2, hb2⟩ := hrel
    by_cases hlt : j < 4
    · obtain ⟨d, hd, hd'⟩ := dg_val s j
      have Hd := Lib.hid hd'
      clear hd'
      go_wp2_with (at_builtin; (refine wpList_append_1 _ rfl _ _ 30 rfl w.heap.size 5 i0 (.int .u8 0) 1 Tryd.underlying30 hi0 hz0 hz1 hz2 rfl u3 (l.length + j) (bvs (l ++ Cx.leL s.toNat j)) rfl (hown2.alloc _) _ 1 (.int .u8 (d.toNat : Int)) rfl (by first | exact cell_new1 _ _ _ | (rw [hd]; exact cell_new1 _ _ _)) rfl (by unfold maxLen; omega) (by omega) (by have := hb2.size; simp; omega) ?_); intro v2 w2 hown3 hbw2 _ _)
      go_roundg (gk - 1)
      case measure => omega
      case rel => exact ⟨j + 1, by omega, by go_num, by rw [Cx.leL_succ, ← List.append_assoc, bvs_append, ← Hd.out]; exact hown3, (hb2.alloc hb2.size _).trans hbw2⟩
    · obtain rfl : j = 4 := by omega
      go_wp2_with fail
      go_ret
      refine ⟨_, rfl, ?_, hb2⟩
      rw [Cx.cover, Hs.out]
      exact hown2

theorem ret_bool {a b : Bool} (h : a = b) : Ending.returned (.bool a) = .returned (.bool b) := by rw [h]
theorem int_beq (a b : Nat) : ((a : Int) == (b : Int)) = (a == b) := by
  rw [Bool.eq_iff_iff]
  simp
  omega
theorem or_rd (t : List UInt8) (j : Nat) (hj : j < 4) : ∃ z : Nat, bits .or .u32 (Cx.rdN t j : Int) (((t.getD j 0).toNat : Int) * 2 ^ (8 * j) % 4294967296) = (z : Int) ∧ z = Cx.rdN t (j + 1) := by
  have h1 := Cx.rdN_lt t j
  have h2 := Cx.rdN_lt t (j + 1)
  have h4 : 2 ^ (8 * (j + 1)) ≤ 2 ^ 32 := Nat.pow_le_pow_right (by omega) (by omega)
  simp only [Cx.rdN] at h2
  have e : ((t.getD j 0).toNat : Int) * 2 ^ (8 * j) % 4294967296 = (((t.getD j 0).toNat * 2 ^ (8 * j) : Nat) : Int) := by
    rw [show (((t.getD j 0).toNat : Int) * 2 ^ (8 * j)) = (((t.getD j 0).toNat * 2 ^ (8 * j) : Nat) : Int) by simp]
    omega
  refine ⟨_, ?_, rfl⟩
  rw [e, u32_or_nat _ _ (by omega) (by omega), Nat.or_comm, nat_join (8 * j) _ _ (Nat.mul_mod_left _ _) h1, Nat.add_comm]
  rfl

theorem cover_b (v : Value) (l : List UInt8) (w : World) (h : Bs w w.heap.size v l) (ht : Tab w) (hm : l.length + 4 ≤ 140737488355328) :
    Calls Tryd.prog 43 #[v] w fun e w' => ∃ v, e = .returned v ∧ w'.ownsRow w.heap.size 5 1 v (l.length + 4) (bvs (Cx.cover l)) ∧ Below w.heap.size w w' := by
  obtain ⟨A, c, rfl, _, hr⟩ := h
  exact cover_any A l c w hr ht hm
end Go.Proofs.YtggijjknfcofoaaDoor.Crc
