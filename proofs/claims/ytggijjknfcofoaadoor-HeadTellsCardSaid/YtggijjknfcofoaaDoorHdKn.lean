
/-
  Layer 10: the walk of the chapter's rows.
-/
import Derived.Test.YtggijjknfcofoaaDoorHdLook
import Derived.Test.YtggijjknfcofoaaDoorKyMem
import Derived.Deep.OwnRows
set_option linter.unusedVariables false
set_option linter.unusedSimpArgs false
namespace Go.Proofs.YtggijjknfcofoaaDoor.Hd
open Go.RowKit

theorem run_make_h (k1 k2 : IntKind) (n : Nat) (hn : n ≤ 100000) (w : World) :
    (Instr.makeSlice 30 (.int k1 (n : Int)) (.int k2 (n : Int))).run Tryd.prog w = .ok (.slice (some ⟨w.heap.size, 0, none⟩) n n) (w.alloc (.cells (bvs (List.replicate n 0)).toArray 5)) := by
  have h := run_make_row' (P := Tryd.prog) 30 5 (.int .u8 0) 1 Tryd.underlying30 byte_info rfl k1 k2 n (by omega) (by omega) w
  have e : madeCells #[Value.int .u8 0] n = (bvs (List.replicate n 0)).toArray := by
    have := toList_madeCells_one (.int .u8 0) n
    rw [← Array.toList_inj, this]
    simp [bvs, bv]
  rw [e] at h
  exact h
theorem get_zeros : getQ (List.replicate 16 0) = (0, 0, 23) := by
  unfold getQ
  rw [if_neg (by simp), if_neg ?_]
  rintro ⟨h, _⟩
  revert h
  decide
set_option maxRecDepth 100000 in
set_option maxHeartbeats 4000000 in
theorem knows_any (w : World) (ht : Crc.Tab w) : Calls Tryd.prog 28 #[] w fun e w' => e = .returned (.bool true) ∧ Below w.heap.size w w' := by
  obtain ⟨i0, hi0, hz0, hz1, hz2⟩ := info_parts byte_info
  have hm : mayB ((1 : Nat) : Int) ((258 : Nat) : Int) = true := by decide
  have hp : Calls Tryd.prog 22 #[.int .i64 1, .int .u32 258] w _ := put_ok 1 258 w hm ht
  have hR12 : (headL 1 258).take 12 = [104, 111, 117, 114, 98, 107, 49, 1, 2, 1, 0, 0] := by
    rw [headL, Cx.cover, List.take_left' (bodyL_length 1 258)]
    decide
  have hRl := headL_length 1 258
  generalize headL 1 258 = R at hp hR12 hRl
  have HP := Lib.hid hp
  have HR := Lib.hid (And.intro hR12 hRl)
  have HT := Lib.hid ht
  clear hp hR12 hRl ht hm
  go_enter Tryd.func28, Tryd.ntmps28
  go_wp2_with fail
  refine HP.out.mono ?_
  rintro e w1 ⟨v1, rfl, hown1, hb1⟩
  obtain ⟨g, cap, rfl, hgg, hgl⟩ := hown1.form (by omega)
  have O1 := Lib.hid hown1
  have B1 := Lib.hid hb1
  clear hown1 hb1
  have mk := run_make_h .i64 .i64 16 (by omega) w1
  have e16 : ((16 : Nat) : Int) = 16 := rfl
  rw [e16] at mk
  generalize hz : bvs (List.replicate 16 (0 : UInt8)) = Z at mk
  have Hz := Lib.hid hz
  clear hz e16
  obtain ⟨A', c', hcut, hc', hcr⟩ := cut_h (some ⟨g, 0, none⟩) 16 cap 12 (by omega) (by have := own_slice O1.out; obtain ⟨A2, c2, e2, h2, _⟩ := this; injection e2 with _ _ e3; omega)
  have Hcr := Lib.hid hcr
  have b2 := hbnew w1 (.cells Z.toArray 5)
  have B2 := Lib.hid b2
  clear hcr b2
  have e12 : ((12 : Nat) : Int) = 12 := rfl
  rw [e12] at hcut
  clear e12
  go_wp2_with fail
  have hzb : Bs (w1.alloc (.cells Z.toArray 5)) (w1.heap.size + 1) (.slice (some ⟨w1.heap.size, 0, none⟩) 16 16) (List.replicate 16 0) := by
    rw [← Hz.out]
    exact Bs.new w1 (List.replicate 16 0) 5
  refine (get_any _ _ _ _ hzb (by simp) (by simp) ((HT.out.on B1.out).on B2.out) _ get_zeros).mono ?_
  rintro e w3 ⟨rfl, hb3⟩
  have B3 := Lib.hid (hbstep (hbstep B1.out B2.out) hb3)
  have hr1 := Hcr.out w3 w3.heap.size R HR.out.2 ((Rd.of_own O1.out).below (hbstep B2.out hb3) (Nat.le_refl _) |>.mono (hbstep B2.out hb3).size)
  rw [HR.out.1] at hr1
  have kv : (convert 30 9 (.slice A' 12 c')).run Tryd.prog w3 = .ok (.string ⟨#[104, 111, 117, 114, 98, 107, 49, 1, 2, 1, 0, 0]⟩) w3 := convert_rd (P := Tryd.prog) hr1 c' 30 5 9 Tryd.underlying30 Tryd.underlying5 Tryd.underlying9
  clear hr1 hb3 mk hzb
  go_wp2_with fail
  go_ret
  exact ⟨rfl, B3.out⟩
end Go.Proofs.YtggijjknfcofoaaDoor.Hd
