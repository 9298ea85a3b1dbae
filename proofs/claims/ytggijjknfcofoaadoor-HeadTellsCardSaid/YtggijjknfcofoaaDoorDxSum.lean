
/-
  Layer 2, the document's answer: the walk of Sum.
-/
import Derived.Test.YtggijjknfcofoaaDoorDxLeft
set_option linter.unusedVariables false
set_option linter.unusedSimpArgs false
namespace Go.Proofs.YtggijjknfcofoaaDoor.Crc
open Go.RowKit

/-- the first k places turned -/
def notL (r : List Bool) (k : Nat) : List Bool := (r.take k).map not ++ r.drop k
theorem notL_zero (r : List Bool) : notL r 0 = r := by simp [notL]
theorem notL_length (r : List Bool) (k : Nat) : (notL r k).length = r.length := by simp [notL]; omega
theorem notL_get (r : List Bool) (k : Nat) : (notL r k)[k]? = r[k]? := by
  unfold notL
  rcases Nat.lt_or_ge k r.length with h | h
  · rw [List.getElem?_append_right (by simp; omega), List.length_map, List.length_take, Nat.min_eq_left (by omega), Nat.sub_self, List.getElem?_drop, Nat.add_zero]
  · rw [List.getElem?_eq_none (by simp; omega), List.getElem?_eq_none (by omega)]
theorem notL_succ (r : List Bool) (k : Nat) (x : Bool) (h : r[k]? = some x) : (notL r k).set k (!x) = notL r (k + 1) := by
  obtain ⟨hk, hx⟩ := List.getElem?_eq_some_iff.1 h
  unfold notL
  rw [List.set_append_right _ _ (by simp; omega), List.length_map, List.length_take, Nat.min_eq_left (by omega), Nat.sub_self, List.drop_eq_getElem_cons hk, List.set_cons_zero, List.take_succ_eq_append_getElem hk, List.map_append, hx]
  simp
theorem notL_all (r : List Bool) (h : r.length = 32) : notL r 32 = r.map not := by
  unfold notL
  rw [List.take_of_length_le (by omega), List.drop_eq_nil_of_le (by omega), List.append_nil]

theorem byte_bit (c : UInt8) (k : Nat) : ((((c.toNat / 2 ^ k : Nat) : Int) % 2) == 1) = c.toNat.testBit k := by
  rw [Nat.testBit_eq_decide_div_mod_eq, Bool.eq_iff_iff]
  simp only [beq_iff_eq, decide_eq_true_eq]
  omega
theorem byte_next (n j : Nat) : ((n / 2 ^ j : Nat) : Int) / 2 = ((n / 2 ^ (j + 1) : Nat) : Int) := by
  rw [Nat.pow_succ, ← Nat.div_div_eq_div_mul]
  omega

set_option maxRecDepth 100000 in
set_option maxHeartbeats 2000000 in
theorem rsum_any (A : Option Addr) (l : List UInt8) (c : Nat) (w : World) (h : Rd w w.heap.size A (bvs l)) (hm : l.length ≤ 100000) :
    Calls Tryd.prog 62 #[.slice A l.length c] w fun e w' => e = .returned (.int .u32 (Cx.sum l).toNat) ∧ Below w.heap.size w w' := by
  obtain ⟨i0, hi0, hz0, hz1, hz2⟩ := info_parts bool_info
  have Hh := Lib.hid h
  clear h
  obtain ⟨n, hn⟩ : ∃ n, l.length = n := ⟨_, rfl⟩
  have Hn := Lib.hid hn
  rw [hn] at hm ⊢
  clear hn
  go_enter Tryd.func62, Tryd.ntmps62
  go_wp2_with fail
  go_loopg [3, 4] n (fun k o i wr => ∃ j : Nat, j + k = n ∧ i = .int .i64 j ∧ wr.ownsRow w.heap.size 4 1 o (8 * j) (blvs (Cx.bitsL (l.take j))) ∧ Below w.heap.size w wr)
  case atStart => exact ⟨0, by omega, rfl, World.ownsRow_nil _ _ _ _, Below.refl _ _⟩
  case round =>
    obtain ⟨j, hj, rfl, hown, hb⟩ := hrel
    obtain ⟨G, rfl⟩ : ∃ G, G = gk := ⟨_, rfl⟩
    by_cases hlt : j < n
    · obtain ⟨bb, o, rfl, hbb, hc⟩ := Hh.out (by intro e; have := congrArg List.length e; simp [bvs, Hn.out] at this; omega)
      have hjl : j < l.length := by rw [Hn.out]; exact hlt
      have hcell := (hb.cell (p := ⟨bb, o + j, none⟩) hbb).trans (hc j _ (bvs_get l j hjl))
      unfold bv at hcell
      have Htk := Lib.hid (List.take_succ_eq_append_getElem hjl)
      generalize l[j] = x at hcell Htk
      clear hc hjl
      have hx := UInt8.toNat_lt x
      have Hown := Lib.hid hown
      clear hown
      go_wp2_with fail
      clear hcell
      go_loopg [3, 5, 6] 8 (fun g o y i wx => ∃ (k z : Nat), k + g = 8 ∧ i = .int .i64 k ∧ y = .int .u8 (z : Int) ∧ z = x.toNat / 2 ^ k ∧ wx.ownsRow w.heap.size 4 1 o (8 * j + k) (blvs (Cx.bitsL (l.take j) ++ Cx.bits8 x k)) ∧ Below w.heap.size w wx)
      case atStart => exact ⟨0, x.toNat, by omega, rfl, rfl, by simp, by simpa [Cx.bits8] using Hown.out, hb⟩
      case round =>
        obtain ⟨k, z, hk, rfl, rfl, hz, hownk, hbx⟩ := hrel
        have hbit := byte_bit x k
        have hnx := byte_next x.toNat k
        rw [← hz] at hbit hnx
        have hz8 : z < 256 := by rw [hz]; exact Nat.lt_of_le_of_lt (Nat.div_le_self _ _) hx
        generalize hq : x.toNat.testBit k = q at hbit
        generalize hz2' : x.toNat / 2 ^ (k + 1) = z2 at hnx
        have Hq := Lib.hid hq
        have Hz2 := Lib.hid hz2'
        have hszx := hbx.size
        clear hq hz2' hz
        by_cases hk8 : k < 8
        · have t1 : (k : Int) < 8 := by omega
          go_wp2_with (at_builtin; (refine wpList_append_1 _ rfl _ _ 114 rfl w.heap.size 4 i0 (.bool false) 1 Tryd.underlying114 hi0 hz0 hz1 hz2 rfl u3 (8 * j + k) (blvs (Cx.bitsL (l.take j) ++ Cx.bits8 x k)) rfl (hownk.alloc _) _ 1 (.bool q) rfl (cell_new1 _ _ _) rfl (by unfold maxLen; omega) (by omega) (by simp; omega) ?_); intro v2 w2 hown2 hbw2 _ _)
          go_roundg (gk - 1)
          case measure => omega
          case rel => exact ⟨k + 1, z2, by omega, by go_num, rfl, Hz2.out.symm, by rw [Cx.bits8_succ, ← List.append_assoc, blvs_append, Hq.out]; exact hown2, (hbx.alloc hbx.size _).trans hbw2⟩
        · obtain rfl : k = 8 := by omega
          have Hownk := Lib.hid hownk
          clear hownk
          go_wp2_with fail
          go_roundg (G - 1)
          case measure => omega
          case rel =>
            refine ⟨j + 1, by omega, by go_num, ?_, hbx⟩
            rw [Htk.out, Cx.bitsL_append, show Cx.bitsL [x] = Cx.bits8 x 8 by simp [Cx.bitsL], show 8 * (j + 1) = 8 * j + 8 by omega]
            exact Hownk.out
    · obtain rfl : j = n := by omega
      rw [List.take_of_length_le (by rw [Hn.out]; omega)] at hown
      go_wp2_with fail
      go_loopg [3, 7] 32 (fun g o i wx => ∃ k : Nat, k + g = 32 ∧ i = .int .i64 k ∧ wx.ownsRow w.heap.size 4 1 o (8 * j + k) (blvs (Cx.bitsL l ++ List.replicate k false)) ∧ Below w.heap.size w wx)
      case atStart => exact ⟨0, by omega, rfl, by simpa using hown, hb⟩
      case round =>
        obtain ⟨k, hk, rfl, hownk, hbx⟩ := hrel
        have hszx := hbx.size
        by_cases hk32 : k < 32
        · have t1 : (k : Int) < 32 := by omega
          go_wp2_with (at_builtin; (refine wpList_append_1 _ rfl _ _ 114 rfl w.heap.size 4 i0 (.bool false) 1 Tryd.underlying114 hi0 hz0 hz1 hz2 rfl u3 (8 * j + k) (blvs (Cx.bitsL l ++ List.replicate k false)) rfl (hownk.alloc _) _ 1 (.bool false) rfl (cell_new1 _ _ _) rfl (by unfold maxLen; omega) (by omega) (by simp; omega) ?_); intro v2 w2 hown2 hbw2 _ _)
          go_roundg (gk - 1)
          case measure => omega
          case rel => exact ⟨k + 1, by omega, by go_num, by rw [List.replicate_succ', ← List.append_assoc, blvs_append]; exact hown2, (hbx.alloc hbx.size _).trans hbw2⟩
        · obtain rfl : k = 32 := by omega
          obtain ⟨g, cap, rfl, hg1, hg2⟩ := hownk.form (by omega)
          have Hownk := Lib.hid hownk
          clear hownk hown
          go_wp2_with fail
          go_loopg [8] 32 (fun kk i wy => ∃ (m : Nat) (r : List Bool), m + kk = 32 ∧ i = .int .i64 m ∧ wy.ownsRow w.heap.size 4 1 (.slice (some ⟨g, 0, none⟩) (8 * j + 32) cap) (8 * j + 32) (blvs r) ∧ Cx.FlipIn l m r ∧ Below w.heap.size w wy)
          case atStart => exact ⟨0, _, by omega, rfl, Hownk.out, Cx.FlipIn.zero l, hbx⟩
          case round =>
            obtain ⟨m, r, hm, rfl, hownm, hfl, hby⟩ := hrel
            have Hownm := Lib.hid hownm
            have Hfl := Lib.hid hfl
            clear hownm hfl
            have Hrl := Lib.hid (Hfl.out.1.trans (by rw [Hn.out]))
            by_cases hm32 : m < 32
            · obtain ⟨x, hx⟩ : ∃ x, r[m]? = some x := ⟨r[m]'(by rw [Hrl.out]; omega), List.getElem?_eq_getElem _⟩
              have hc1 := Hownm.out.cellAt m (by omega)
              rw [blvs_get? r _ x hx] at hc1
              have hf1 := Hownm.out.frozenAt m
              have Hst := Lib.hid (Hfl.out.step hm32 hx)
              have t1 : (m : Int) < 32 := by omega
              have t2 : (m : Int) < 8 * (j : Int) + 32 := by omega
              clear hx
              go_wp2_with fail
              go_roundg (gk - 1)
              case measure => omega
              case rel =>
                obtain ⟨hst, _⟩ := Hownm.out.stored m (.bool (!x))
                rw [← blvs_set] at hst
                exact ⟨m + 1, _, by omega, by go_num, hst, Hst.out, hby.setCell hg1 _⟩
            · obtain rfl : m = 32 := by omega
              have Hval := Lib.hid Hfl.out.done
              have Hrd := Lib.hid (Rd.of_own Hownm.out)
              go_wp2_with fail
              have hleft := left_any (some ⟨g, 0, none⟩) r cap wr Hrd.out (by rw [Hrl.out]; omega) (by rw [Hrl.out]; omega)
              rw [Hrl.out] at hleft
              refine hleft.mono ?_
              rintro e w4 ⟨g4, o4, c4, r4, rfl, hc4, hr4, hl4, hv4, b4⟩
              have Hr4 := Lib.hid hr4
              have Hl4 := Lib.hid hl4
              have Hv4 := Lib.hid (hv4.trans Hval.out)
              have hb4 := hby.trans (b4.mono hby.size)
              have hg4 : w.heap.size ≤ g4 := by have := hr4.1; have := hby.size; omega
              clear hr4 hl4 hv4 hleft
              go_wp2_with fail
              go_loopg [10] 32 (fun kk i wz => ∃ (m : Nat), m + kk = 32 ∧ i = .int .i64 m ∧ OwnB wz w.heap.size g4 o4 (notL r4 m) ∧ Below w.heap.size w wz)
              case atStart => exact ⟨0, by omega, rfl, by rw [notL_zero]; exact ⟨hg4, Hr4.out.2.1, Hr4.out.2.2⟩, hb4⟩
              case round =>
                obtain ⟨q, hq, rfl, hownq, hbz⟩ := hrel
                have Hownq := Lib.hid hownq
                clear hownq
                by_cases hq32 : q < 32
                · obtain ⟨x, hx⟩ : ∃ x, r4[q]? = some x := ⟨r4[q]'(by rw [Hl4.out]; omega), List.getElem?_eq_getElem _⟩
                  have hx2 : (notL r4 q)[q]? = some x := by rw [notL_get]; exact hx
                  obtain ⟨hc1, hf1⟩ := Hownq.out.2.2 q x hx2
                  have Hst := Lib.hid (notL_succ r4 q x hx)
                  have t1 : (q : Int) < 32 := by omega
                  clear hx hx2
                  go_wp2_with fail
                  go_roundg (gk - 1)
                  case measure => omega
                  case rel =>
                    have hs := Hownq.out.set q (!x) (by rw [notL_length, Hl4.out]; exact hq32)
                    rw [Hst.out] at hs
                    exact ⟨q + 1, by omega, by go_num, hs, hbz.setCell hg4 _⟩
                · obtain rfl : q = 32 := by omega
                  have Hrd5 := Lib.hid Hownq.out.rd
                  go_wp2_with fail
                  refine (bits_any _ (notL r4 32) _ _ _ Hrd5.out (by rw [notL_length, Hl4.out])).mono ?_
                  rintro e w6 ⟨rfl, rfl⟩
                  rw [notL_all r4 Hl4.out, Cx.val_not r4 Hl4.out, Hv4.out, show ~~~ (Cx.reg Cx.ones l) = Cx.sum l by unfold Cx.sum Cx.more; rw [show ~~~ (0#32) = Cx.ones by decide]]
                  go_wp2_with fail
                  go_ret
                  exact ⟨rfl, hbz⟩
theorem rsum_b (v : Value) (l : List UInt8) (B : Nat) (w : World) (h : Bs w B v l) (hB : B ≤ w.heap.size) (hm : l.length ≤ 100000) :
    Calls Tryd.prog 62 #[v] w fun e w' => e = .returned (.int .u32 (Cx.sum l).toNat) ∧ Below w.heap.size w w' := by
  obtain ⟨A, c, rfl, _, hr⟩ := h.mono hB
  exact rsum_any A l c w hr hm
end Go.Proofs.YtggijjknfcofoaaDoor.Crc
