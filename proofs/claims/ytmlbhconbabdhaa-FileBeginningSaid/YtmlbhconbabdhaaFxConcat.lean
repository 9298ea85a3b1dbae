
/-
  Layer 5: slices.Concat of two rows; Read; what the laws call 'all'.
-/
import Derived.Test.YtmlbhconbabdhaaFxRead
set_option linter.unusedVariables false
set_option linter.unusedSimpArgs false
namespace Go.Proofs.Ytmlbhconbabdhaa
open Go.RowKit

/-- the first j of two rows, one behind the other -/
def pre2 (a b : List UInt8) (j : Nat) : List UInt8 := if j = 0 then [] else if j = 1 then a else a ++ b
set_option maxRecDepth 100000 in
set_option maxHeartbeats 4000000 in
theorem fconcat {w : World} {X : Nat} {v1 v2 : Value} {l1 l2 : List UInt8} (c0 : w.cell? ⟨X, 0, none⟩ = some v1) (c1 : w.cell? ⟨X, 1, none⟩ = some v2) (h1 : Bs w w.heap.size v1 l1) (h2 : Bs w w.heap.size v2 l2) (hb1 : l1.length ≤ 1000000) (hb2 : l2.length ≤ 1000000) :
    Calls Try.prog 28 #[.slice (some ⟨X, 0, none⟩) 2 2] w fun e w' => ∃ r, e = .returned r ∧ w'.ownsRow w.heap.size 5 1 r (l1 ++ l2).length (bvs (l1 ++ l2)) ∧ Below w.heap.size w w' := by
  obtain ⟨i0, hi0, hz0, hz1, hz2⟩ := info_parts fbyte_info
  have H1 := Lib.hid h1
  have H2 := Lib.hid h2
  obtain ⟨A1, d1, rfl, _, _⟩ := h1
  obtain ⟨A2, d2, rfl, _, _⟩ := h2
  obtain ⟨n1, hn1⟩ : ∃ n1, n1 = l1.length := ⟨_, rfl⟩
  obtain ⟨n2, hn2⟩ : ∃ n2, n2 = l2.length := ⟨_, rfl⟩
  rw [← hn1] at c0 H1 hb1
  rw [← hn2] at c1 H2 hb2
  have Hn1 := Lib.hid hn1
  have Hn2 := Lib.hid hn2
  have C0 := Lib.hid c0
  have C1 := Lib.hid c1
  have hX : X < w.heap.size := fblock_of_cell c0
  clear hn1 hn2 c0 c1
  go_enter Try.func28, Try.ntmps28
  go_wp2_with fail
  go_loopw [3, 11] (fun q i wr => ∃ (j t : Nat), j ≤ 2 ∧ i = .int .i64 j ∧ q = .int .i64 t ∧ w = wr ∧ t = (if j = 0 then 0 else if j = 1 then n1 else n1 + n2)) (fun _ i _ => 2 - (intOf i).toNat)
  case atStart => exact ⟨0, 0, by omega, rfl, rfl, rfl, rfl⟩
  case round =>
    obtain ⟨j, t, hj, rfl, rfl, rfl, ht⟩ := hrel
    have c0 := C0.out
    have c1 := C1.out
    rcases (show j = 0 ∨ j = 1 ∨ j = 2 by omega) with rfl | rfl | rfl
    · have ht0 : t = 0 := ht
      subst ht0
      have hnn : decide ((n1 : Int) < 0) = false := by simp
      clear ht
      go_wp2_with fail
      go_roundw
      case rel => exact ⟨1, n1, by omega, by go_num, by go_num, by simp⟩
      case measure => simp [intOf]
    · have ht1 : t = n1 := ht
      subst ht1
      clear ht
      have hnn : decide ((t : Int) + (n2 : Int) < 0) = false := by simp; omega
      go_wp2_with fail
      go_roundw
      case rel => exact ⟨2, t + n2, by omega, by go_num, by go_num, by simp⟩
      case measure => simp [intOf]
    · have ht2 : t = n1 + n2 := ht
      have Ht2 := Lib.hid ht2
      have htb : t ≤ 2000000 := by omega
      clear ht ht2 c0 c1
      go_wp2_with fail
      refine (fgrow t _ (by omega)).mono ?_
      rintro e w1 ⟨r, rfl, hown, hb⟩
      have HO := Lib.hid hown
      have HB := Lib.hid hb
      clear hown hb
      go_wp2_with fail
      go_loopw [6, 27] (fun q i wx => ∃ (j : Nat), j ≤ 2 ∧ i = .int .i64 j ∧ wx.ownsRow w.heap.size 5 1 q (pre2 l1 l2 j).length (bvs (pre2 l1 l2 j)) ∧ Below w.heap.size w wx) (fun _ i _ => 2 - (intOf i).toNat)
      case atStart => exact ⟨0, by omega, rfl, HO.out, HB.out⟩
      case round =>
        obtain ⟨j, hj, rfl, hown, hb⟩ := hrel
        have HO2 := Lib.hid hown
        have HB2 := Lib.hid hb
        clear hown hb
        obtain ⟨Aq, cq, hq, _, _, _⟩ := own_slice HO2.out
        obtain ⟨nq, hnq⟩ : ∃ nq, nq = (pre2 l1 l2 j).length := ⟨_, rfl⟩
        rw [← hnq] at hq
        have HO3 : Hid (wr.ownsRow w.heap.size 5 1 (.slice Aq nq cq) nq (bvs (pre2 l1 l2 j))) := by rw [hq] at HO2; rw [hnq]; rw [hnq] at HO2; exact HO2
        have Hnq := Lib.hid hnq
        have hnqb : nq ≤ 2000000 := by
          rw [hnq]
          unfold pre2
          have := Hn1.out
          have := Hn2.out
          split
          · simp
          · split
            · omega
            · simp; omega
        subst hq
        clear hnq HO2
        have c0 := (HB2.out.cell (p := ⟨X, 0, none⟩) hX).trans C0.out
        have c1 := (HB2.out.cell (p := ⟨X, 1, none⟩) hX).trans C1.out
        have G1 : Hid (Bs wr w.heap.size (.slice A1 n1 d1) l1) := Lib.hid (H1.out.below HB2.out (Nat.le_refl _))
        have G2 : Hid (Bs wr w.heap.size (.slice A2 n2 d2) l2) := Lib.hid (H2.out.below HB2.out (Nat.le_refl _))
        rcases (show j = 0 ∨ j = 1 ∨ j = 2 by omega) with rfl | rfl | rfl
        · obtain ⟨Ab, cb, eb, hcb, hrb⟩ := G1.out
          injection eb with eb1 eb2 eb3
          subst eb1 eb3
          have Hrb := Lib.hid hrb
          clear hrb hcb eb2
          go_wp2_with (at_builtin; (refine wpList_append_rd _ rfl _ _ 22 rfl _ 5 i0 (.int .u8 0) 1 1 Try.underlying22 hi0 hz0 hz1 hz2 rfl (by omega) _ nq (bvs (pre2 l1 l2 0)) rfl HO3.out _ A1 n1 d1 (bvs l1) rfl (by rw [bvs_length, ← Hn1.out]; omega) Hrb.out (bvs_one l1) (by unfold maxLen; omega) (by omega) HB2.out.size ?_); intro v3 w3 hown3 hb3 hg3 hv3)
          go_roundw
          case rel => exact ⟨1, by omega, by go_num, by
            have h0 := Hnq.out
            have : nq = 0 := h0
            rw [this, Nat.zero_add, Hn1.out] at hown3
            exact hown3, HB2.out.trans hb3⟩
          case measure => simp [intOf]
        · obtain ⟨Ab, cb, eb, hcb, hrb⟩ := G2.out
          injection eb with eb1 eb2 eb3
          subst eb1 eb3
          have Hrb := Lib.hid hrb
          clear hrb hcb eb2
          go_wp2_with (at_builtin; (refine wpList_append_rd _ rfl _ _ 22 rfl _ 5 i0 (.int .u8 0) 1 1 Try.underlying22 hi0 hz0 hz1 hz2 rfl (by omega) _ nq (bvs (pre2 l1 l2 1)) rfl HO3.out _ A2 n2 d2 (bvs l2) rfl (by rw [bvs_length, ← Hn2.out]; omega) Hrb.out (bvs_one l2) (by unfold maxLen; omega) (by omega) HB2.out.size ?_); intro v3 w3 hown3 hb3 hg3 hv3)
          go_roundw
          case rel => exact ⟨2, by omega, by go_num, by
            have h0 := Hnq.out
            have : nq = l1.length := h0
            rw [this, Hn2.out, ← bvs_append] at hown3
            have e : (pre2 l1 l2 2).length = l1.length + l2.length := by simp [pre2]
            rw [e]
            exact hown3, HB2.out.trans hb3⟩
          case measure => simp [intOf]
        · go_wp2_with fail
          go_ret
          exact ⟨.slice Aq nq cq, rfl, by
            have h3 := HO3.out
            have e : nq = (l1 ++ l2).length := Hnq.out
            rw [e] at h3
            rw [e]
            exact h3, HB2.out⟩
end Go.Proofs.Ytmlbhconbabdhaa
