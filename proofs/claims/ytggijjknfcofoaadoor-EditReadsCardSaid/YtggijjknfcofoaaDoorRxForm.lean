
/-
  The document's own answer for layer 1: the walks of Form, Shortest, Put.
-/
import Derived.Test.YtggijjknfcofoaaDoorRxMem
set_option linter.unusedVariables false
set_option linter.unusedSimpArgs false
namespace Go.Proofs.YtggijjknfcofoaaDoor
open Go.RowKit

set_option maxRecDepth 100000 in
/-- what Form tells: the form, and whether it fits -/
theorem form9_any (n : Int) (w : World) (h0 : 0 ≤ n) (h1 : n < 18446744073709551616) :
    Calls Tryd.prog 65 #[.int .u64 n, .int .i64 9] w fun e w' => ∃ v, e = .returned (.tuple #[v, .bool true]) ∧
      w'.ownsRow w.heap.size 5 1 v 9 (bvs (Rx.formR n.toNat 9)) ∧ Below w.heap.size w w' := by
  obtain ⟨i0, hi0, hz0, hz1, hz2⟩ := info_parts byte_info
  go_enter Tryd.func65, Tryd.ntmps65
  go_wp2_with fail
  refine (rbits_any _ _ _ h0 h1 (by omega) (by omega)).mono ?_
  rintro e w1 ⟨v1, rfl, hown1, hb1⟩
  rw [show (64 : Int).toNat = 64 from rfl] at hown1
  rw [show (n.toNat / 2 ^ (64 : Int).toNat == 0) = true by simp; omega]
  have hlit : (w1.alloc (Obj.cells #[Value.int .u8 255] 5)).ownsRow w.heap.size 5 1 (.slice (some ⟨w1.heap.size, 0, none⟩) 1 1) 1 [Value.int .u8 255] := World.ownsRow_lit w1 #[Value.int .u8 255] 1 hb1.size (by unfold maxLen; omega) rfl
  have hb2 := hb1.alloc hb1.size (Obj.cells #[Value.int .u8 255] 5)
  have hn1 : Ns (w1.alloc (Obj.cells #[Value.int .u8 255] 5)) (w1.alloc (Obj.cells #[Value.int .u8 255] 5)).heap.size v1 (Rx.bitsL n.toNat 64) := (Ns.of_own hown1).on ((Below.refl _ _).alloc (Nat.le_refl _) _)
  have Hn1 := Lib.hid hn1
  have Hlit := Lib.hid hlit
  clear hown1 hb1 hn1 hlit
  go_wp2_with fail
  generalize w1.alloc (Obj.cells #[Value.int .u8 255] 5) = W at *
  refine (bytes_any _ _ 8 _ Hn1.out (Rx.bitsL_lt _ _) (Rx.bitsL_length _ _) (by omega)).mono ?_
  rintro e w3 ⟨r3, rfl, hown3, hb3⟩
  have hlit3 := own_below Hlit.out hb3 (Nat.le_refl _)
  have b3 := hb2.trans (hb3.mono hb2.size)
  rw [show (64 : Nat) = 8 * 8 from rfl, Rx.bytesL_bitsL] at hown3
  obtain ⟨A3, c3, rfl, hc3, _⟩ := own_slice hown3
  have Hr3 := Lib.hid (Rd.of_own hown3)
  clear hown3 hb3 Hn1 Hlit hb2
  go_wp2_with (at_builtin; (refine wpList_append_rd _ rfl _ _ 30 rfl w.heap.size 5 i0 (.int .u8 0) 1 1 Tryd.underlying30 hi0 hz0 hz1 hz2 rfl (by omega) (.slice (some ⟨w1.heap.size, 0, none⟩) 1 1) 1 [Value.int .u8 255] rfl hlit3 w3.heap.size A3 8 c3 (bvs (Px.beH 8 n.toNat)) rfl (by rw [bvs_length, Px.beH_length]) Hr3.out (bvs_one _) (by unfold maxLen; omega) (by omega) b3.size ?_); intro v4 w4 hown4 hbw4 _ _)
  go_ret2
  refine ⟨_, rfl, ?_, b3.trans hbw4⟩
  have : Rx.formR n.toNat 9 = 255 :: Px.beH 8 n.toNat := by simp [Rx.formR]
  rw [this]
  exact hown4

set_option maxRecDepth 100000 in
theorem formk_any (n : Int) (k : Nat) (w : World) (h0 : 0 ≤ n) (h1 : n < 18446744073709551616) (hk1 : 1 ≤ k) (hk8 : k ≤ 8) :
    Calls Tryd.prog 65 #[.int .u64 n, .int .i64 k] w fun e w' => ∃ v, e = .returned (.tuple #[v, .bool (n.toNat / 2 ^ (7 * k) == 0)]) ∧
      w'.ownsRow w.heap.size 5 1 v k (bvs (Rx.formR n.toNat k)) ∧ Below w.heap.size w w' := by
  obtain ⟨i0, hi0, hz0, hz1, hz2⟩ := info_parts int_info
  have d9 : ((k : Int) == 9) = false := by simp; omega
  go_enter Tryd.func65, Tryd.ntmps65
  go_wp2_with fail
  go_loopw [8, 9] (fun o i wr => ∃ j : Nat, j ≤ k - 1 ∧ i = .int .i64 j ∧ wr.ownsRow w.heap.size 3 1 o j (nvs (List.replicate j 1)) ∧ Below w.heap.size w wr) (fun _ i _ => k - (intOf i).toNat)
  case atStart => exact ⟨0, by omega, rfl, World.ownsRow_nil _ _ _ _, Below.refl _ _⟩
  case round =>
    obtain ⟨j, hj, rfl, hown, hb⟩ := hrel
    by_cases hlt : j < k - 1
    · go_wp2_with (at_builtin; (refine wpList_append_1 _ rfl _ _ 109 rfl w.heap.size 3 i0 (.int .i64 0) 8 Tryd.underlying109 hi0 hz0 hz1 hz2 rfl u8 j (nvs (List.replicate j 1)) rfl (hown.alloc _) _ 1 (.int .i64 1) rfl (cell_new1 _ _ _) rfl (by unfold maxLen; omega) (by omega) (by have := hb.size; simp; omega) ?_); intro v2 w2 hown2 hbw2 _ _)
      go_roundw
      case rel => exact ⟨j + 1, by omega, by go_num, by rw [List.replicate_succ', nvs_append]; exact hown2, (hb.alloc hb.size _).trans hbw2⟩
      case measure => simp [intOf]; omega
    · obtain rfl : j = k - 1 := by omega
      go_wp2_with fail
      refine (rbits_any _ _ _ h0 h1 (by omega) (by omega)).mono ?_
      rintro e w1 ⟨v1, rfl, hown1, hb1⟩
      rw [show (7 * (k : Int)).toNat = 7 * k by omega] at hown1 ⊢
      have hh1 := own_below hown hb1 (Nat.le_refl _)
      have b1 := hb.trans (hb1.mono hb.size)
      have hne : v1.ownBlock = none ∨ v1.ownBlock ≠ u8.ownBlock := by
        rcases h : v1.ownBlock with _ | g1
        · exact .inl rfl
        · refine .inr fun e => ?_
          have a1 := (hown1.lt g1 h).1
          have a2 := (hown.lt g1 e.symm).2
          omega
      have Hne := Lib.hid hne
      have Hown1 := Lib.hid hown1
      have Hh1 := Lib.hid hh1
      clear hown hb hb1 hown1 hh1 hne
      generalize hfit : (n.toNat / 2 ^ (7 * k) == 0) = fit at *
      have Hfit := Lib.hid hfit
      clear hfit
      obtain ⟨A1, c1, rfl, hc1, _⟩ := own_slice Hown1.out
      go_wp2_with (first
        | (at_builtin
           refine wpList_append_1 _ rfl (.tmp 39) (.tmp 40) 109 rfl w.heap.size 3 i0 (.int .i64 0) 8 Tryd.underlying109 hi0 hz0 hz1 hz2 rfl u8 (k - 1) (nvs (List.replicate (k - 1) 1)) rfl (Hh1.out.alloc _) _ 1 (.int .i64 0) rfl (cell_new1 _ _ _) rfl (by unfold maxLen; omega) (by omega) (by have := b1.size; simp; omega) ?_
           intro v2 w2 hown2 hbw2 hgr2 _
           have b2 := (b1.alloc b1.size (Obj.cells #[Value.int .i64 0] 3)).trans hbw2
           have Hown2 := Lib.hid ((Hown1.out.alloc (Obj.cells #[Value.int .i64 0] 3)).kept hgr2 Hne.out)
           clear hbw2 hgr2)
        | (at_builtin
           refine wpList_append_rd _ rfl (.tmp 41) (.tmp 42) 109 rfl w.heap.size 3 i0 (.int .i64 0) 1 8 Tryd.underlying109 hi0 hz0 hz1 hz2 rfl (by omega) v2 (k - 1 + 1) (nvs (List.replicate (k - 1) 1) ++ [.int .i64 0]) rfl hown2 w2.heap.size A1 (7 * k) c1 (nvs (Rx.bitsL n.toNat (7 * k))) rfl (by rw [nvs_length, Rx.bitsL_length]; omega) (Rd.of_own Hown2.out) (nvs_one _) (by unfold maxLen; omega) (by omega) b2.size ?_
           intro v3 w3 hown3 hbw3 _ _))
      have b3 := b2.trans hbw3
      have e3 : nvs (List.replicate (k - 1) 1) ++ [.int .i64 0] ++ nvs (Rx.bitsL n.toNat (7 * k)) = nvs (List.replicate (k - 1) 1 ++ [0] ++ Rx.bitsL n.toNat (7 * k)) := by
        rw [nvs_append, nvs_append]; rfl
      rw [e3] at hown3
      have Hn3 := Lib.hid (Ns.of_own hown3)
      clear e3 hown3 hbw3 Hown1 Hown2 hown2
      go_wp2_with fail
      refine (bytes_any _ _ k _ Hn3.out ?_ (by simp [Rx.bitsL_length]; omega) (by omega)).mono ?_
      · intro b hb
        simp only [List.mem_append, List.mem_replicate, List.mem_singleton] at hb
        rcases hb with (⟨_, rfl⟩ | rfl) | hb
        · omega
        · omega
        · exact Rx.bitsL_lt _ _ b hb
      rintro e w4 ⟨r4, rfl, hown4, hb4⟩
      have b4 := b3.trans (hb4.mono b3.size)
      have hz4 := b3.size
      go_wp2_with fail
      go_ret2
      refine ⟨_, by rw [Hfit.out]; rfl, ?_, b4⟩
      have e5 : Rx.formR n.toNat k = Rx.bytesL (List.replicate (k - 1) 1 ++ [0] ++ Rx.bitsL n.toNat (7 * k)) k := by
        unfold Rx.formR; rw [if_neg (by omega)]
      rw [e5]
      exact own_base hown4 hz4

set_option maxRecDepth 100000 in
theorem shortest_any (n : Int) (w : World) (h0 : 0 ≤ n) (h1 : n < 18446744073709551616) :
    Calls Tryd.prog 50 #[.int .u64 n] w fun e w' => ∃ v, e = .returned v ∧
      w'.ownsRow w.heap.size 5 1 v (Px.sizeN n.toNat) (bvs (Px.formL n.toNat)) ∧ Below w.heap.size w w' := by
  have hform := Rx.formR_eq n.toNat (by omega)
  have Hform := Lib.hid hform
  clear hform
  go_enter Tryd.func50, Tryd.ntmps50
  go_wp2_with fail
  go_loopw [3] (fun i wr => ∃ k : Nat, 1 ≤ k ∧ k ≤ 9 ∧ i = .int .i64 k ∧ (k - 1 = 0 ∨ n.toNat / 2 ^ (7 * (k - 1)) ≠ 0) ∧ Below w.heap.size w wr) (fun i _ => 9 - (intOf i).toNat)
  case atStart => exact ⟨1, by omega, by omega, rfl, .inl rfl, Below.refl _ _⟩
  case round =>
    obtain ⟨k, hk1, hk9, rfl, hlo, hb⟩ := hrel
    have Hlo := Lib.hid hlo
    clear hlo
    by_cases hlt : k < 9
    · go_wp2_with fail
      refine (formk_any _ _ _ h0 h1 hk1 (by omega)).mono ?_
      rintro e w1 ⟨v1, rfl, hown1, hb1⟩
      have b1 := hb.trans (hb1.mono hb.size)
      have hz := hb.size
      by_cases hfit : n.toNat / 2 ^ (7 * k) = 0
      · have hsz : Px.sizeN n.toNat = k := by
          have := Px.sizeN_at n.toNat (k - 1) (by omega) Hlo.out (by rw [show k - 1 + 1 = k by omega]; exact hfit)
          omega
        rw [show (n.toNat / 2 ^ (7 * k) == 0) = true by rw [hfit]; rfl]
        have Hsz := Lib.hid hsz
        clear hsz hfit
        go_wp2_with fail
        go_ret
        refine ⟨_, rfl, ?_, b1⟩
        have e1 := Hform.out
        rw [Hsz.out] at e1 ⊢
        rw [← e1]
        exact own_base hown1 hz
      · rw [show (n.toNat / 2 ^ (7 * k) == 0) = false by simpa using hfit]
        have Hfit := Lib.hid hfit
        clear hfit
        go_wp2_with fail
        go_roundw
        case rel => exact ⟨k + 1, by omega, by omega, by go_num, .inr (by rw [Nat.add_sub_cancel]; exact Hfit.out), b1⟩
        case measure => simp [intOf]; omega
    · obtain rfl : k = 9 := by omega
      have hsz : Px.sizeN n.toNat = 9 := Px.sizeN_nine n.toNat (by have := Hlo.out; simpa using this)
      have Hsz := Lib.hid hsz
      clear hsz
      go_wp2_with fail
      refine (form9_any _ _ h0 h1).mono ?_
      rintro e w1 ⟨v1, rfl, hown1, hb1⟩
      have b1 := hb.trans (hb1.mono hb.size)
      have hz := hb.size
      go_wp2_with fail
      go_ret
      refine ⟨_, rfl, ?_, b1⟩
      have e1 := Hform.out
      rw [Hsz.out] at e1 ⊢
      rw [← e1]
      exact own_base hown1 hz

set_option maxRecDepth 100000 in
theorem rput_any (v : Value) (l : List UInt8) (n : Int) (w : World) (h : Bs w w.heap.size v l) (h0 : 0 ≤ n) (h1 : n < 18446744073709551616) (hm : l.length + 9 ≤ 140737488355328) :
    Calls Tryd.prog 33 #[v, .int .u64 n] w fun e w' => ∃ r, e = .returned r ∧
      w'.ownsRow w.heap.size 5 1 r (l.length + Px.sizeN n.toNat) (bvs (l ++ Px.formL n.toNat)) ∧ Below w.heap.size w w' := by
  obtain ⟨i0, hi0, hz0, hz1, hz2⟩ := info_parts byte_info
  have hsz := Px.sizeN_pos n.toNat
  go_enter Tryd.func33, Tryd.ntmps33
  go_wp2_with fail
  refine (own_b _ l _ h (by omega)).mono ?_
  rintro e w1 ⟨r1, rfl, hown1, hb1⟩
  go_wp2_with fail
  refine (shortest_any _ _ h0 h1).mono ?_
  rintro e w2 ⟨r2, rfl, hown2, hb2⟩
  have hown1' := own_below hown1 hb2 (Nat.le_refl _)
  have b2 := hb1.trans (hb2.mono hb1.size)
  obtain ⟨A2, c2, rfl, hc2, _⟩ := own_slice hown2
  have Hr2 := Lib.hid (Rd.of_own hown2)
  have hl := Px.formL_length n.toNat
  have Hl := Lib.hid hl
  generalize hk : Px.sizeN n.toNat = k at *
  have Hk := Lib.hid hk
  clear hown1 hown2 hb1 hb2 h hl hk
  go_wp2_with (at_builtin; (refine wpList_append_rd _ rfl _ _ 30 rfl w.heap.size 5 i0 (.int .u8 0) 1 1 Tryd.underlying30 hi0 hz0 hz1 hz2 rfl (by omega) r1 l.length (bvs l) rfl hown1' w2.heap.size A2 k c2 (bvs (Px.formL n.toNat)) rfl (by rw [bvs_length, Hl.out]; omega) Hr2.out (bvs_one _) (by unfold maxLen; omega) (by omega) b2.size ?_); intro v4 w4 hown4 hbw4 _ _)
  go_ret
  exact ⟨_, rfl, by rw [bvs_append, Hk.out]; exact hown4, b2.trans hbw4⟩
end Go.Proofs.YtggijjknfcofoaaDoor
