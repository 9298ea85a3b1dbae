
/-
  Layer 1: the walks of the functions that read and make bytes.
-/
import Derived.Test.YtggijjknfcofoaaDoorWords
import Derived.Test.YtggijjknfcofoaaDoorPxPure
import Derived.Deep.QuietTactic
import Derived.BigQuiet
import Derived.StillTailTactics
import Derived.Deep.DeepFit
import Derived.Deep.RegionHeld3
import Derived.Deep.RegionWith
set_option linter.unusedVariables false
set_option linter.unusedSimpArgs false
namespace Go.Proofs.YtggijjknfcofoaaDoor
open Go.RowKit

theorem byte_info : (Tryd.prog.info? 5).map (fun i => (i.zero, i.size, i.bytes)) = some (some (.int .u8 0), 1, 1) := by kernel_rfl

/-- bytes.Equal -/
theorem equal_any (A A' : Option Addr) (l l' : List UInt8) (c c' B B' : Nat) (w : World) (h : Rd w B A (bvs l)) (h' : Rd w B' A' (bvs l')) :
    Calls Tryd.prog 11 #[.slice A l.length c, .slice A' l'.length c'] w fun e w' => e = .returned (.bool (l == l')) ∧ w = w' := by
  have c1 := convert_rd (P := Tryd.prog) h c 30 5 9 Tryd.underlying30 Tryd.underlying5 Tryd.underlying9
  have c2 := convert_rd (P := Tryd.prog) h' c' 30 5 9 Tryd.underlying30 Tryd.underlying5 Tryd.underlying9
  go_enter Tryd.func11, Tryd.ntmps11
  go_wp2
  go_ret
  exact ⟨rfl, rfl⟩

theorem room_any (A : Option Addr) (l : List UInt8) (c : Nat) (m : Int) (w : World) (h : Rd w w.heap.size A (bvs l)) (hm0 : 0 ≤ m) (hm : l.length + m.toNat ≤ 140737488355328) :
    Calls Tryd.prog 59 #[.slice A l.length c, .int .i64 m] w fun e w' => ∃ v, e = .returned v ∧ w'.ownsRow w.heap.size 5 1 v l.length (bvs l) ∧ Below w.heap.size w w' := by
  obtain ⟨i0, hi0, hz0, hz1, hz2⟩ := info_parts byte_info
  go_enter Tryd.func59, Tryd.ntmps59
  go_wp2_with (first
    | (at_make
       refine wpList_make_own _ rfl _ _ 30 rfl w.heap.size 5 i0 (.int .u8 0) 1 Tryd.underlying30 hi0 hz0 hz1 .i64 .i64 _ (l.length + m.toNat) rfl rfl (by omega) (by rw [hz2]; omega) (by unfold maxLen; omega) (Nat.le_refl _) ?_
       intro w0 hown0 hgrow0)
    | (at_builtin
       refine wpList_append_rd _ rfl _ _ 30 rfl w.heap.size 5 i0 (.int .u8 0) 1 1 Tryd.underlying30 hi0 hz0 hz1 hz2 rfl (by omega) (Value.slice (some { block := w.heap.size, off := 0 }) 0 (l.length + m.toNat)) 0 [] rfl hown0 w.heap.size A l.length c (bvs l) rfl (by simp [bvs]) (h.grown hgrow0 (Nat.le_refl _) (by simp)) (bvs_one l) (by unfold maxLen; omega) (by omega) hgrow0.size ?_
       intro v1 w1 hown1 hbw1 _ _))
  go_ret
  exact ⟨v1, rfl, by simpa using hown1, ((Below.refl _ _).grown hgrow0 (Nat.le_refl _) (by simp)).trans hbw1⟩

theorem put_any (A : Option Addr) (l : List UInt8) (c : Nat) (n : Int) (w : World) (h : Rd w w.heap.size A (bvs l)) (h0 : 0 ≤ n) (h1 : n < 18446744073709551616) (hm : l.length + 9 ≤ 140737488355328) :
    Calls Tryd.prog 49 #[.slice A l.length c, .int .u64 n] w fun e w' => ∃ v, e = .returned v ∧ w'.ownsRow w.heap.size 5 1 v (l.length + Px.sizeN n.toNat) (bvs (l ++ Px.formL n.toNat)) ∧ Below w.heap.size w w' := by
  obtain ⟨i0, hi0, hz0, hz1, hz2⟩ := info_parts byte_info
  have hsz := Px.sizeN_pos n.toNat
  generalize hk : Px.sizeN n.toNat = k at *
  have Hk := Lib.hid hk
  clear hk
  go_enter Tryd.func49, Tryd.ntmps49
  go_wp2_with fail
  refine (size_any _ _ h0 h1).mono ?_
  rintro e w1 ⟨rfl, rfl⟩
  rw [Hk.out]
  go_wp2_with fail
  refine (room_any A l c _ _ h (by omega) (by omega)).mono ?_
  rintro e w1 ⟨v, rfl, hown, hb⟩
  go_wp2_with fail
  go_loopw [6, 14] (fun o i wr => ∃ j : Nat, j ≤ k ∧ i = .int .i64 j ∧ wr.ownsRow w.heap.size 5 1 o (l.length + j) (bvs (l ++ Px.digs n.toNat k j)) ∧ Below w.heap.size w wr) (fun _ i _ => k - (intOf i).toNat)
  case atStart => exact ⟨0, by omega, rfl, by simpa [Px.digs] using hown, hb⟩
  case round =>
    obtain ⟨j, hj, rfl, hown1, hb1⟩ := hrel
    by_cases hlt : j < k
    · have hd : n / 2 ^ (8 * ((k : Int) - 1 - (j : Int))).toNat % 256 = ((Px.dg n.toNat (k - 1 - j)).toNat : Int) := Px.dg_val n h0 _ _ (by omega)
      have Hd := Lib.hid hd
      clear hd
      go_wp2_with fail
      refine (digit_any _ _ _ h0 h1 (by omega) (by omega)).mono ?_
      rintro e w2 ⟨rfl, rfl⟩
      rw [Hd.out]
      go_wp2_with (at_builtin; (refine wpList_append_1 _ rfl _ _ 30 rfl w.heap.size 5 i0 (.int .u8 0) 1 Tryd.underlying30 hi0 hz0 hz1 hz2 rfl u6 (l.length + j) (bvs (l ++ Px.digs n.toNat k j)) rfl (hown1.alloc _) _ 1 (.int .u8 ((Px.dg n.toNat (k - 1 - j)).toNat : Int)) rfl (cell_new1 _ _ _) rfl (by unfold maxLen; omega) (by omega) (by have := hb1.size; simp; omega) ?_); intro v2 w2 hown2 hbw2 _ _)
      go_roundw
      case rel => exact ⟨j + 1, by omega, by go_num, by rw [Px.digs_succ, ← List.append_assoc, bvs_append]; exact hown2, (hb1.alloc hb1.size _).trans hbw2⟩
      case measure => simp [intOf]; omega
    · obtain rfl : j = k := by omega
      obtain ⟨g, cap, rfl, hge, hgl⟩ := hown1.form (by omega)
      have hcell := hown1.cellAt l.length (by omega)
      rw [bvs_append, List.getElem?_append_right (by simp [bvs]), bvs_length, Nat.sub_self, Px.digs_head n.toNat j (by omega)] at hcell
      unfold bv at hcell
      have hfr := hown1.frozenAt l.length
      obtain ⟨hst, hgr⟩ := hown1.stored l.length (bv (Px.dg n.toNat (j - 1) ||| UInt8.ofNat (Px.onesN j)))
      rw [← bvs_set, Px.formL_of n.toNat j l Hk.out (by omega)] at hst
      unfold bv at hst
      clear hgr
      have Hst := Lib.hid hst
      clear hst
      have hor := Px.or_val (Px.dg n.toNat (j - 1)) (Px.onesN j) (by unfold Px.onesN; have := Nat.two_pow_pos (9 - j); omega)
      have Hor := Lib.hid hor
      clear hor
      have hx1 : (0 : Int) ≤ (l.length : Int) := by omega
      have hx2 : (l.length : Int) < (l.length : Int) + (j : Int) := by omega
      go_wp2_with fail
      go_region_with (go_at_call 64; refine (ones_any _ _ (by omega) (by omega)).mono ?_; rintro e w' ⟨rfl, rfl⟩)
      all_goals go_wp2
      all_goals go_ret
      all_goals refine ⟨_, rfl, ?_, (hb1.setCell hge _).drew⟩
      all_goals rw [Hor.out]
      all_goals exact Hst.out

end Go.Proofs.YtggijjknfcofoaaDoor
