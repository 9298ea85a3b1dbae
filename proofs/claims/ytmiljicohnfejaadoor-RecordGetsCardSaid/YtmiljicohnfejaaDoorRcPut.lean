
/-
  Layer 8: the walk of Put.
-/
import Derived.Test.YtmiljicohnfejaaDoorRcHead
import Derived.Test.YtmiljicohnfejaaDoorCxCov
set_option linter.unusedVariables false
set_option linter.unusedSimpArgs false
namespace Go.Proofs.YtmiljicohnfejaaDoor
open Go.RowKit

/-- the tables lie where they were laid -/
def RTab (w : World) : Prop := Crc.Tab w ∧ WTab w
theorem RTab.on {w w' : World} (h : RTab w) (hb : Below w.heap.size w w') : RTab w' := ⟨h.1.on hb, h.2.on hb⟩

theorem rput_no (v : Value) (r : Rc.Rec) (B : Nat) (w : World) (h : RecV w B v r) (hB : B ≤ w.heap.size) (f : Rc.Fit r) (hm : Rc.mayB r = false) :
    Calls Tryd.prog 10 #[v] w fun e w' => e = .returned (.tuple #[.slice none 0 0, .int .i64 1]) ∧ Below w.heap.size w w' := by
  obtain ⟨kv, vv, rfl, h1, h2⟩ := h.mono hB
  have b0 := bnew w (.cells #[.int .u64 r.seq, .int .i64 r.kind, kv, vv, .int .u32 r.seg, .int .u32 r.off] 28)
  have hc := rmay_b _ r _ _ ((show RecV w w.heap.size (recV r.seq r.kind kv vv r.seg r.off) r from ⟨_, _, rfl, h1, h2⟩).below b0 (Nat.le_refl _)) (by simp) f
  rw [hm] at hc
  unfold recV at hc ⊢
  clear hm
  go_enter Tryd.func10, Tryd.ntmps10
  go_wp2_with fail
  refine hc.mono ?_
  rintro e w1 ⟨rfl, b1⟩
  go_wp2_with fail
  go_ret2
  exact ⟨rfl, bstep b0 b1⟩

set_option maxRecDepth 100000 in
set_option maxHeartbeats 4000000 in
theorem rput_ok (v : Value) (r : Rc.Rec) (B : Nat) (w : World) (h : RecV w B v r) (hB : B ≤ w.heap.size) (hm : Rc.mayB r = true) (ht : RTab w) :
    Calls Tryd.prog 10 #[v] w fun e w' => ∃ v', e = .returned (.tuple #[v', .int .i64 0]) ∧ w'.ownsRow w.heap.size 5 1 v' (Rc.sizeN r) (bvs (Rc.runL r)) ∧ Below w.heap.size w w' := by
  obtain ⟨i0, hi0, hz0, hz1, hz2⟩ := info_parts byte_info
  have f := Rc.fit_may hm
  obtain ⟨kv, vv, rfl, h1, h2⟩ := h.mono hB
  have b0 := bnew w (.cells #[.int .u64 r.seq, .int .i64 r.kind, kv, vv, .int .u32 r.seg, .int .u32 r.off] 28)
  have hR := Lib.hid ((show RecV w w.heap.size (recV r.seq r.kind kv vv r.seg r.off) r from ⟨_, _, rfl, h1, h2⟩).on b0)
  have hc := rmay_b _ r _ _ hR.out (Nat.le_refl _) f
  rw [hm] at hc
  have Hm := Lib.hid hm
  have Ht0 := Lib.hid ht
  have Ht := Lib.hid (ht.on b0)
  have H1 := Lib.hid h1
  have H2 := Lib.hid h2
  have hbd := Rc.may_bounds hm
  have hkl := hbd.2.2.2.1
  have hvl := hbd.2.2.2.2.2.2.2.2.2.2
  clear hm ht h1 h2 h hbd
  unfold recV at hc hR ⊢
  go_enter Tryd.func10, Tryd.ntmps10
  go_wp2_with fail
  refine hc.mono ?_
  rintro e w1 ⟨rfl, b1⟩
  obtain ⟨c0, c1, c2, c3, c4, c5⟩ := box6 b1 (by simp)
  have Ht1 := Lib.hid (Ht.out.on b1)
  have hR1 := Lib.hid (hR.out.on b1)
  have hb1 := bstep b0 b1
  go_wp2_with fail
  refine (rhead_b _ r _ _ hR1.out Hm.out Ht1.out.2).mono ?_
  rintro e w2 ⟨v2, rfl, hown2, b2⟩
  have hs2 := Bs.of_own hown2
  have Ht2 := Lib.hid (Ht1.out.on b2)
  go_wp2_with fail
  refine (Crc.cover_b _ _ _ hs2 Ht2.out.1 (by rw [Rc.headL_length]; omega)).mono ?_
  rintro e w3 ⟨v3, rfl, hown3, b3⟩
  have Ht3 := Lib.hid (Ht2.out.on b3)
  have hb3 := bstep (bstep hb1 b2) b3
  have hb13 := bstep (bstep b1 b2) b3
  obtain ⟨d0, d1, d2, d3, d4, d5⟩ := box6 hb13 (by simp)
  have H1' := H1.out.below hb3 (Nat.le_refl _)
  have H2' := H2.out.below hb3 (Nat.le_refl _)
  obtain ⟨A, c, rfl, hkc, hrk⟩ := H1'
  obtain ⟨A', c', rfl, hvc, hrv⟩ := H2'
  rw [Rc.headL_length] at hown3
  simp only [World.size_alloc] at hb13
  have hsz2 : w.heap.size + 1 ≤ w2.heap.size := by have := (bstep b1 b2).size; simpa using this
  have hown3' := own_base (base' := w.heap.size + 1) hown3 hsz2
  have hsz3 := hb13.size
  simp only [World.size_alloc] at hsz3
  have HB13 := Lib.hid hb13
  have HB3 := Lib.hid hb3
  clear hown2 hown3 hs2 c0 c1 c2 c3 c4 c5 hb13 hb3 hb1 b1 b2 b3 b0
  go_wp2_with (first
    | (at_builtin; (refine wpList_append_rd _ rfl _ _ 23 rfl (w.heap.size + 1) 5 i0 (.int .u8 0) 1 1 Tryd.underlying23 hi0 hz0 hz1 hz2 rfl (by omega) v3 21 (bvs (Cx.cover (Rc.headL r))) rfl hown3' w.heap.size A r.key.length c (bvs r.key) rfl (by simp [bvs]) hrk (bvs_one _) (by unfold maxLen; omega) (by omega) hsz3 ?_); intro v4 w4 hown4 b4 hg4 _; obtain ⟨e0, e1, e2, e3, e4, e5⟩ := box6 (HB13.out.trans b4) (by omega); have hrv4 := hrv.below b4 (by omega))
    | (at_builtin; (refine wpList_append_rd _ rfl _ _ 23 rfl (w.heap.size + 1) 5 i0 (.int .u8 0) 1 1 Tryd.underlying23 hi0 hz0 hz1 hz2 rfl (by omega) v4 (21 + r.key.length) _ rfl hown4 w.heap.size A' r.val.length c' (bvs r.val) rfl (by simp [bvs]) hrv4 (bvs_one _) (by unfold maxLen; omega) (by omega) (by have := b4.size; omega) ?_); intro v5 w5 hown5 b5 hg5 _))
  rw [← bvs_append, ← bvs_append] at hown5
  have hs5 := Bs.of_own hown5
  have hb5 := HB13.out.trans (b4.trans b5)
  have hb5' := HB3.out.trans ((b4.trans b5).mono (by omega))
  have hl : (Cx.cover (Rc.headL r) ++ r.key ++ r.val).length = 21 + r.key.length + r.val.length := by
    rw [List.length_append, List.length_append, Rc.cover_head_length]
  refine (Crc.cover_b _ _ _ hs5 (Ht0.out.on hb5').1 (by rw [hl]; omega)).mono ?_
  rintro e w6 ⟨v6, rfl, hown6, b6⟩
  rw [hl] at hown6
  go_wp2_with fail
  go_ret2
  refine ⟨_, rfl, ?_, bstep hb5' b6⟩
  have e : 21 + r.key.length + r.val.length + 4 = Rc.sizeN r := by unfold Rc.sizeN; omega
  rw [e] at hown6
  exact own_base hown6 hb5'.size
end Go.Proofs.YtmiljicohnfejaaDoor
