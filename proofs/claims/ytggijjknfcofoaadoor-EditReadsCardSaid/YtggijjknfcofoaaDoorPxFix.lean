
/-
  Layer 1: the walks of Fixed, Read and Narrow.
-/
import Derived.Test.YtggijjknfcofoaaDoorPxMem
set_option linter.unusedVariables false
set_option linter.unusedSimpArgs false
namespace Go.Proofs.YtggijjknfcofoaaDoor
open Go.RowKit

theorem fixed_arg (A : Option Addr) (m c : Nat) (n b : Int) (w : World) (hb : b < 1 ∨ 8 < b) :
    Calls Tryd.prog 42 #[.slice A m c, .int .u64 n, .int .i64 b] w fun e w' => e = .returned (.tuple #[.slice none 0 0, .int .i64 1]) ∧ w = w' := by
  rcases hb with hb | hb
  · go_enter Tryd.func42, Tryd.ntmps42
    go_wp2
    go_ret2
    exact ⟨rfl, rfl⟩
  · have hb' : 1 ≤ b := by omega
    go_enter Tryd.func42, Tryd.ntmps42
    go_wp2
    go_ret2
    exact ⟨rfl, rfl⟩
theorem fixed_long (A : Option Addr) (m c : Nat) (n b : Int) (w : World) (h0 : 0 ≤ n) (h1 : n < 18446744073709551616) (hb : 1 ≤ b) (hb2 : b ≤ 8) (hf : (n / 2 ^ (8 * b).toNat != 0) = true) :
    Calls Tryd.prog 42 #[.slice A m c, .int .u64 n, .int .i64 b] w fun e w' => e = .returned (.tuple #[.slice none 0 0, .int .i64 3]) ∧ w = w' := by
  go_enter Tryd.func42, Tryd.ntmps42
  go_wp2_with fail
  go_ret2
  exact ⟨rfl, rfl⟩
theorem fixed_ok (A : Option Addr) (l : List UInt8) (c : Nat) (n b : Int) (w : World) (h : Rd w w.heap.size A (bvs l)) (h0 : 0 ≤ n) (h1 : n < 18446744073709551616) (hb : 1 ≤ b) (hb2 : b ≤ 8) (hf : n / 2 ^ (8 * b).toNat = 0) (hm : l.length + 8 ≤ 140737488355328) :
    Calls Tryd.prog 42 #[.slice A l.length c, .int .u64 n, .int .i64 b] w fun e w' => ∃ v, e = .returned (.tuple #[v, .int .i64 0]) ∧ w'.ownsRow w.heap.size 5 1 v (l.length + b.toNat) (bvs (l ++ Px.leL n.toNat b.toNat)) ∧ Below w.heap.size w w' := by
  obtain ⟨i0, hi0, hz0, hz1, hz2⟩ := info_parts byte_info
  obtain ⟨k, rfl⟩ := Int.eq_ofNat_of_zero_le (by omega : 0 ≤ b)
  rw [Int.toNat_natCast]
  have d1 : decide ((k : Int) < 1) = false := by simp; omega
  have d2 : decide ((8 : Int) < (k : Int)) = false := by simp; omega
  have d3 : (n / 2 ^ (8 * (k : Int)).toNat != 0) = false := by simp [hf]
  go_enter Tryd.func42, Tryd.ntmps42
  go_wp2_with fail
  refine (room_any A l c _ _ h (by omega) (by omega)).mono ?_
  rintro e w1 ⟨v, rfl, hown, hbl⟩
  go_wp2_with fail
  go_loopw [8, 25] (fun o i wr => ∃ j : Nat, j ≤ k ∧ i = .int .i64 j ∧ wr.ownsRow w.heap.size 5 1 o (l.length + j) (bvs (l ++ Px.leL n.toNat j)) ∧ Below w.heap.size w wr) (fun _ i _ => k - (intOf i).toNat)
  case atStart => exact ⟨0, by omega, rfl, by simpa [Px.leL] using hown, hbl⟩
  case round =>
    obtain ⟨j, hj, rfl, hown1, hb1⟩ := hrel
    by_cases hlt : j < k
    · have hd : n / 2 ^ (8 * (j : Int)).toNat % 256 = ((Px.dg n.toNat j).toNat : Int) := Px.dg_val n h0 _ _ (by omega)
      have Hd := Lib.hid hd
      clear hd
      go_wp2_with fail
      refine (digit_any _ _ _ h0 h1 (by omega) (by omega)).mono ?_
      rintro e w2 ⟨rfl, rfl⟩
      rw [Hd.out]
      go_wp2_with (at_builtin; (refine wpList_append_1 _ rfl _ _ 30 rfl w.heap.size 5 i0 (.int .u8 0) 1 Tryd.underlying30 hi0 hz0 hz1 hz2 rfl u8 (l.length + j) (bvs (l ++ Px.leL n.toNat j)) rfl (hown1.alloc _) _ 1 (.int .u8 ((Px.dg n.toNat j).toNat : Int)) rfl (cell_new1 _ _ _) rfl (by unfold maxLen; omega) (by omega) (by have := hb1.size; simp; omega) ?_); intro v2 w2 hown2 hbw2 _ _)
      go_roundw
      case rel => exact ⟨j + 1, by omega, by go_num, by rw [Px.leL_succ, ← List.append_assoc, bvs_append]; exact hown2, (hb1.alloc hb1.size _).trans hbw2⟩
      case measure => simp [intOf]; omega
    · obtain rfl : j = k := by omega
      go_wp2_with fail
      go_ret2
      exact ⟨_, rfl, hown1, hb1⟩

theorem read_arg (A : Option Addr) (m c : Nat) (b : Int) (w : World) (hb : b < 1 ∨ 8 < b) :
    Calls Tryd.prog 46 #[.slice A m c, .int .i64 b] w fun e w' => e = .returned (.tuple #[.int .u64 0, .int .i64 1]) ∧ w = w' := by
  rcases hb with hb | hb
  · go_enter Tryd.func46, Tryd.ntmps46
    go_wp2
    go_ret2
    exact ⟨rfl, rfl⟩
  · have hb' : 1 ≤ b := by omega
    go_enter Tryd.func46, Tryd.ntmps46
    go_wp2
    go_ret2
    exact ⟨rfl, rfl⟩
theorem read_short (A : Option Addr) (m c : Nat) (b : Int) (w : World) (hb : 1 ≤ b) (hb2 : b ≤ 8) (hs : (m : Int) < b) :
    Calls Tryd.prog 46 #[.slice A m c, .int .i64 b] w fun e w' => e = .returned (.tuple #[.int .u64 0, .int .i64 4]) ∧ w = w' := by
  go_enter Tryd.func46, Tryd.ntmps46
  go_wp2
  go_ret2
  exact ⟨rfl, rfl⟩
theorem read_ok (A : Option Addr) (l : List UInt8) (c B : Nat) (b : Int) (w : World) (h : Rd w B A (bvs l)) (hb : 1 ≤ b) (hb2 : b ≤ 8) (hl : b.toNat ≤ l.length) (hm : l.length ≤ 9223372036854775807) :
    Calls Tryd.prog 46 #[.slice A l.length c, .int .i64 b] w fun e w' => e = .returned (.tuple #[.int .u64 (Px.rdN l b.toNat : Nat), .int .i64 0]) ∧ w = w' := by
  obtain ⟨k, rfl⟩ := Int.eq_ofNat_of_zero_le (by omega : 0 ≤ b)
  rw [Int.toNat_natCast] at hl ⊢
  obtain ⟨bb, o, rfl, hbb, hc⟩ := h (by intro e; have := congrArg List.length e; simp [bvs] at this; subst this; simp at hl; omega)
  have hcx : ∀ j, j < l.length → w.cell? ⟨bb, o + j, none⟩ = some (.int .u8 ((l.getD j 0).toNat : Int)) := fun j hj => by
    refine hc j _ ?_
    rw [bvs_get _ _ hj]
    simp [bv, List.getD_eq_getElem?_getD, List.getElem?_eq_getElem hj]
  have Hcx := Lib.hid hcx
  clear hc hcx
  have d1 : decide ((k : Int) < 1) = false := by simp; omega
  have d2 : decide ((8 : Int) < (k : Int)) = false := by simp; omega
  have d3 : decide (l.length < k) = false := by simp; omega
  go_enter Tryd.func46, Tryd.ntmps46
  go_wp2_with fail
  go_loop [6, 19] (fun a i => ∃ j : Nat, j ≤ k ∧ i = .int .i64 j ∧ a = .int .u64 (Px.rdN l j : Nat)) (fun _ i => k - (intOf i).toNat)
  case atStart => exact ⟨0, by omega, rfl, rfl⟩
  case round =>
    obtain ⟨j, hj, rfl, rfl⟩ := hrel
    by_cases hlt : j < k
    · have hcj := Hcx.out j (by omega)
      have hy := UInt8.toNat_lt (l.getD j 0)
      have hnx : Px.rdN l (j + 1) = Px.rdN l j + (l.getD j 0).toNat * 2 ^ (8 * j) := rfl
      have hor := Px.or_rd l j (by omega)
      have Hnx := Lib.hid hnx
      have Hor := Lib.hid hor
      clear hnx hor
      generalize l.getD j 0 = y at *
      go_wp2
      go_round
      case rel => exact ⟨j + 1, by omega, by go_num, by rw [Hor.out, Hnx.out]⟩
      case measure => simp [intOf]; omega
    · obtain rfl : j = k := by omega
      go_wp2
      go_ret2
      exact ⟨rfl, rfl⟩
end Go.Proofs.YtggijjknfcofoaaDoor
