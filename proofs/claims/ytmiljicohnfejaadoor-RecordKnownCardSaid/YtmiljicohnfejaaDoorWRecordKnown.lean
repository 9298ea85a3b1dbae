
/-
  The walk of the law RecordKnown: it returns true, and writes nothing that was there.
-/
import Derived.Test.YtmiljicohnfejaaDoorRcChange
import Derived.OpenShut
import Derived.Lib.SlBytesConst
set_option linter.unusedVariables false
set_option linter.unusedSimpArgs false
namespace Go.Proofs.YtmiljicohnfejaaDoor.recordKnown
open Go.RowKit

/-- a change that makes of the chapter's record one that may not be -/
theorem bad_any (F : FuncId) (r : Rc.Rec) (w : World) (ht : RTab w) (eg : ∀ args w, (callFunc F args).run Tryd.prog w = .ok (.enter F args) w) (hF : ChangesTo F r) (hm : Rc.mayB r = false) (f : Rc.Fit r) :
    Calls Tryd.prog 21 #[.func (.func F) #[] #[]] w fun e w' => e = .returned (.bool true) ∧ Below w.heap.size w w' := by
  have HF := Lib.hid hF
  clear hF
  go_enter Tryd.func21, Tryd.ntmps21
  go_wp2_with fail
  refine (plain_any w).mono ?_
  rintro e w1 ⟨v1, rfl, r1, b1⟩
  obtain ⟨A, c, A', c', ev, hk, hv⟩ := r1.form
  obtain rfl : v1 = .agg #[.int .u64 1, .int .i64 1, .slice A 1 c, .slice A' 1 c', .int .u32 0, .int .u32 0] := ev
  have hx := heap_alloc_new w1 (.cells #[.int .u64 1, .int .i64 1, .slice A 1 c, .slice A' 1 c', .int .u32 0, .int .u32 0] 28)
  have b2 := bnew w1 (.cells #[.int .u64 1, .int .i64 1, .slice A 1 c, .slice A' 1 c', .int .u32 0, .int .u32 0] 28)
  have hc := HF.out _ _ _ _ _ _ hx (hk.below b2 (Nat.le_refl _)) (hv.below b2 (Nat.le_refl _))
  have HC := Lib.hid hc
  have HB2 := Lib.hid (bstep b1 b2)
  have B1 := Lib.hid b1.size
  clear hx hc b1 b2 hk hv r1
  go_wp2_with fail
  refine HC.out.mono ?_
  rintro e w3 ⟨⟨u, rfl⟩, hb3, b3⟩
  obtain ⟨C1, d1, C2, d2, ⟨x0, x1, x2, x3, x4, x5⟩, hrz⟩ := hb3.cells
  have HB3 := Lib.hid (HB2.out.trans (b3.mono B1.out))
  have hr3 := Lib.hid hrz
  have X3 := Lib.hid hb3
  clear hb3 b3 HC HB2
  go_wp2_with fail
  clear x0 x1 x2 x3 x4 x5
  refine (rput_no _ r _ w3 hr3.out (Nat.le_refl _) f hm).mono ?_
  rintro e w4 ⟨rfl, b4⟩
  obtain ⟨C1', d1', C2', d2', ⟨x0, x1, x2, x3, x4, x5⟩, hrz4⟩ := (X3.out.on b4).cells
  have hc := rmay_b _ r _ w4 hrz4 (Nat.le_refl _) f
  rw [hm] at hc
  have HC := Lib.hid hc
  have HB4 := Lib.hid (bstep HB3.out b4)
  clear hc b4
  go_wp2_with fail
  refine HC.out.mono ?_
  rintro e w5 ⟨rfl, b5⟩
  go_wp2_with fail
  go_ret
  exact ⟨rfl, bstep HB4.out b5⟩

def fullR : Rc.Rec := ⟨1099511627776, 1, List.replicate 64 0, List.replicate 1024 0, 16777215, 16777216⟩
def goneR : Rc.Rec := ⟨2, 2, [107], [], 1, 16⟩
theorem full_may : Rc.mayB fullR = true := by decide +kernel
theorem gone_may : Rc.mayB goneR = true := by decide +kernel
theorem full_size : Rc.sizeN fullR = 1113 := by decide +kernel
theorem gone_size : Rc.sizeN goneR = 26 := by decide +kernel
theorem get_nil : Rc.getQ [] = (Rc.none, 0, 22) := rfl
theorem box_full {W : World} {g g1 g2 : Nat} (h : W.heap[g]? = some (.cells #[.int .u64 1099511627776, .int .i64 1, .slice (some ⟨g1, 0, none⟩) 64 64, .slice (some ⟨g2, 0, none⟩) 1024 1024, .int .u32 16777215, .int .u32 16777216] 28 (0, 0)))
    (hk : W.heap[g1]? = some (.cells (zer 64) 5 (0, 0))) (hv : W.heap[g2]? = some (.cells (zer 1024) 5 (0, 0))) : BoxR W g fullR := by
  have l1 : fullR.key.length = 64 := List.length_replicate
  have l2 : fullR.val.length = 1024 := List.length_replicate
  have k1 : RowAt W g1 (List.replicate 64 0) := hk
  have k2 : RowAt W g2 (List.replicate 1024 0) := hv
  refine ⟨some ⟨g1, 0, none⟩, 64, some ⟨g2, 0, none⟩, 1024, by rw [l1, l2]; exact h, ?_, ?_⟩
  · rw [l1]; exact k1.bs' k1.lt List.length_replicate
  · rw [l2]; exact k2.bs' k2.lt List.length_replicate
theorem alloc3 (w : World) (a b c : Obj) : (((w.alloc a).alloc b).alloc c).heap[w.heap.size]? = some a ∧ (((w.alloc a).alloc b).alloc c).heap[w.heap.size + 1]? = some b ∧ (((w.alloc a).alloc b).alloc c).heap[w.heap.size + 1 + 1]? = some c ∧ Below w.heap.size w (((w.alloc a).alloc b).alloc c) := by
  have e1 : (w.alloc a).heap.size = w.heap.size + 1 := World.size_alloc _ _
  have e2 : ((w.alloc a).alloc b).heap.size = w.heap.size + 1 + 1 := by rw [World.size_alloc, e1]
  refine ⟨?_, ?_, ?_, balloc (balloc (bnew w a) b) c⟩
  · exact ((bnew _ c).block _ (by omega)).trans (((bnew _ b).block _ (by omega)).trans (heap_alloc_new w a))
  · exact ((bnew _ c).block _ (by omega)).trans (by rw [← e1]; exact heap_alloc_new _ b)
  · rw [← e2]; exact heap_alloc_new _ c
set_option maxRecDepth 100000 in
set_option maxHeartbeats 8000000 in
theorem walk (w : World) (ht : RTab w) :
    Calls Tryd.prog 8 #[] w fun e w' => e = .returned (.bool true) ∧ Below w.heap.size w w' := by
  have m1 := run_make_b .i64 .i64 64 (by omega)
  have m2 := run_make_b .i64 .i64 1024 (by omega)
  rw [show ((64 : Nat) : Int) = 64 by rfl] at m1
  rw [show ((1024 : Nat) : Int) = 1024 by rfl] at m2
  have HT := Lib.hid ht
  clear ht
  go_enter Tryd.func8, Tryd.ntmps8
  go_wp2_with fail
  go_cut [2] (fun q wx => ∃ g, q = .pointer (some ⟨g, 0, none⟩) ∧ BoxR wx g fullR ∧ Below w.heap.size w wx)
  case first =>
    go_region
    all_goals go_wp2_with fail
    all_goals go_meet
    all_goals first
      | exact ⟨_, rfl, box_full (alloc3 w _ _ _).1 (alloc3 w _ _ _).2.1 (alloc3 w _ _ _).2.2.1, (alloc3 w _ _ _).2.2.2.drew⟩
      | exact ⟨_, rfl, box_full (alloc3 w _ _ _).1 (alloc3 w _ _ _).2.2.1 (alloc3 w _ _ _).2.1, (alloc3 w _ _ _).2.2.2.drew⟩
      | exact ⟨_, rfl, box_full (alloc3 w _ _ _).2.1 (alloc3 w _ _ _).1 (alloc3 w _ _ _).2.2.1, (alloc3 w _ _ _).2.2.2.drew⟩
      | exact ⟨_, rfl, box_full (alloc3 w _ _ _).2.1 (alloc3 w _ _ _).2.2.1 (alloc3 w _ _ _).1, (alloc3 w _ _ _).2.2.2.drew⟩
      | exact ⟨_, rfl, box_full (alloc3 w _ _ _).2.2.1 (alloc3 w _ _ _).1 (alloc3 w _ _ _).2.1, (alloc3 w _ _ _).2.2.2.drew⟩
      | exact ⟨_, rfl, box_full (alloc3 w _ _ _).2.2.1 (alloc3 w _ _ _).2.1 (alloc3 w _ _ _).1, (alloc3 w _ _ _).2.2.2.drew⟩
  case rest =>
    obtain ⟨g, rfl, hbg, hbw⟩ := hcut
    obtain ⟨C1, d1, C2, d2, ⟨x0, x1, x2, x3, x4, x5⟩, hrz⟩ := hbg.cells
    have RZ := Lib.hid hrz
    have BG := Lib.hid hbg
    have HBW := Lib.hid hbw
    clear hrz hbg hbw
    go_wp2_with fail
    clear x0 x1 x2 x3 x4 x5
    refine (rput_ok _ fullR _ wc RZ.out (Nat.le_refl _) full_may (HT.out.on HBW.out)).mono ?_
    rintro e w1 ⟨v1, rfl, hown1, b1⟩
    rw [full_size] at hown1
    obtain ⟨A1, c1, rfl, _, _, _⟩ := own_slice hown1
    have S1 := Lib.hid (Bs.of_own hown1)
    have BG1 := Lib.hid (BG.out.on b1)
    have HB1 := Lib.hid (bstep HBW.out b1)
    clear hown1 b1 RZ BG HBW
    go_wp2_with fail
    have hgq := Rc.get_run full_may []
    rw [List.append_nil, full_size] at hgq
    refine (rget_q _ _ w1.heap.size w1 S1.out (Nat.le_refl _) (by rw [Rc.runL_length, full_size]; omega) (HT.out.on HB1.out) _ _ _ hgq).mono ?_
    rintro e w2 ⟨rv2, rfl, nr2, b2⟩
    obtain ⟨C3, d3, C4, d4, rfl, qap, qb1, qb2⟩ := nr2.form2
    have x5 := box_new (w := w2) qb1 qb2 (Nat.le_refl _)
    have b5 := bnew w2 (.cells #[.int .u64 fullR.seq, .int .i64 fullR.kind, .slice C3 fullR.key.length d3, .slice C4 fullR.val.length d4, .int .u32 fullR.seg, .int .u32 fullR.off] 28)
    have BQ := Lib.hid x5
    have BG2 := Lib.hid ((BG1.out.on b2).on b5)
    have HB2 := Lib.hid (bstep (bstep HB1.out b2) b5)
    clear x5 b5 b2 qap qb1 qb2 nr2 S1 hgq
    have k1 : (convert 23 23 (.slice (some ⟨w2.heap.size + 1, 0, none⟩) 1 1)).run Tryd.prog ((w2.alloc (.cells #[.int .u64 fullR.seq, .int .i64 fullR.kind, .slice C3 fullR.key.length d3, .slice C4 fullR.val.length d4, .int .u32 fullR.seg, .int .u32 fullR.off] 28)).alloc (.cells #[.int .u8 107] 5)) = .ok (.slice (some ⟨w2.heap.size + 1, 0, none⟩) 1 1) ((w2.alloc (.cells #[.int .u64 fullR.seq, .int .i64 fullR.kind, .slice C3 fullR.key.length d3, .slice C4 fullR.val.length d4, .int .u32 fullR.seg, .int .u32 fullR.off] 28)).alloc (.cells #[.int .u8 107] 5 (1, 2))) := by
      have := Lib.run_convert_bytes_const (P := Tryd.prog) (w2.alloc (.cells #[.int .u64 fullR.seq, .int .i64 fullR.kind, .slice C3 fullR.key.length d3, .slice C4 fullR.val.length d4, .int .u32 fullR.seg, .int .u32 fullR.off] 28)) 23 5 #[.int .u8 107] 1 1 Tryd.underlying23 Tryd.underlying5
      rw [World.size_alloc] at this
      exact this
    have q1 := (bs_newM (w2.alloc (.cells #[.int .u64 fullR.seq, .int .i64 fullR.kind, .slice C3 fullR.key.length d3, .slice C4 fullR.val.length d4, .int .u32 fullR.seg, .int .u32 fullR.off] 28)) [107] 5 (1, 2)).alloc (by simp) (.cells #[.int .u64 2, .int .i64 2, .slice (some ⟨w2.heap.size + 1, 0, none⟩) 1 1, .slice none 0 0, .int .u32 1, .int .u32 16] 28)
    have rG : Hid (RecV (((w2.alloc (.cells #[.int .u64 fullR.seq, .int .i64 fullR.kind, .slice C3 fullR.key.length d3, .slice C4 fullR.val.length d4, .int .u32 fullR.seg, .int .u32 fullR.off] 28)).alloc (.cells #[.int .u8 107] 5 (1, 2))).alloc (.cells #[.int .u64 2, .int .i64 2, .slice (some ⟨w2.heap.size + 1, 0, none⟩) 1 1, .slice none 0 0, .int .u32 1, .int .u32 16] 28)) (w2.heap.size + 1 + 1) (.agg #[.int .u64 2, .int .i64 2, .slice (some ⟨w2.heap.size + 1, 0, none⟩) 1 1, .slice none 0 0, .int .u32 1, .int .u32 16]) goneR) := by
      rw [World.size_alloc] at q1
      exact Lib.hid ⟨_, _, rfl, q1, Bs.none_⟩
    have bW := balloc (bnew (w2.alloc (.cells #[.int .u64 fullR.seq, .int .i64 fullR.kind, .slice C3 fullR.key.length d3, .slice C4 fullR.val.length d4, .int .u32 fullR.seg, .int .u32 fullR.off] 28)) (.cells #[.int .u8 107] 5 (1, 2))) (.cells #[.int .u64 2, .int .i64 2, .slice (some ⟨w2.heap.size + 1, 0, none⟩) 1 1, .slice none 0 0, .int .u32 1, .int .u32 16] 28)
    clear q1
    have BW := Lib.hid bW
    clear bW
    go_wp2_with fail
    clear k1
    refine (rput_ok _ goneR _ _ rG.out (by simp) gone_may (HT.out.on (bstep HB2.out BW.out))).mono ?_
    rintro e w5 ⟨v5, rfl, hown5, b5⟩
    rw [gone_size] at hown5
    obtain ⟨A5, c5, rfl, _, _, _⟩ := own_slice hown5
    have BB5 := Lib.hid (bstep BW.out b5)
    clear hown5 b5 rG BW
    go_wp2_with fail
    refine (rget_q _ [] w5.heap.size w5 Bs.none_ (Nat.le_refl _) (by simp) (HT.out.on (bstep HB2.out BB5.out)) _ _ _ get_nil).mono ?_
    rintro e w6 ⟨rv6, rfl, nr6, b6⟩
    obtain ⟨C5, d5, C6, d6, rfl, _, _, _⟩ := nr6.form2
    have b7 := bnew w6 (.cells #[.int .u64 Rc.none.seq, .int .i64 Rc.none.kind, .slice C5 Rc.none.key.length d5, .slice C6 Rc.none.val.length d6, .int .u32 Rc.none.seg, .int .u32 Rc.none.off] 28)
    have V0 := Lib.hid (bstep (bstep BB5.out b6) b7)
    clear b7 b6 nr6 BB5
    have l1 : Rc.none.key.length = 0 := rfl
    go_wp2_with fail
    refine (bad_any 23 ⟨0, 1, [107], [118], 0, 0⟩ _ (HT.out.on (bstep HB2.out V0.out)) (enters_of Tryd.func23 (by kernel_rfl) rfl) change2 (by decide +kernel) (by constructor <;> first | decide | (simp only [List.length_replicate]; decide))).mono ?_
    rintro e z0 ⟨rfl, b0⟩
    have V1 := Lib.hid (bstep V0.out b0)
    clear b0
    go_wp2_with fail
    refine (bad_any 24 ⟨1099511627777, 1, [107], [118], 0, 0⟩ _ (HT.out.on (bstep HB2.out V1.out)) (enters_of Tryd.func24 (by kernel_rfl) rfl) change3 (by decide +kernel) (by constructor <;> first | decide | (simp only [List.length_replicate]; decide))).mono ?_
    rintro e z1 ⟨rfl, b1⟩
    have V2 := Lib.hid (bstep V1.out b1)
    clear b1
    go_wp2_with fail
    refine (bad_any 25 ⟨1, 0, [107], [118], 0, 0⟩ _ (HT.out.on (bstep HB2.out V2.out)) (enters_of Tryd.func25 (by kernel_rfl) rfl) change4 (by decide +kernel) (by constructor <;> first | decide | (simp only [List.length_replicate]; decide))).mono ?_
    rintro e z2 ⟨rfl, b2⟩
    have V3 := Lib.hid (bstep V2.out b2)
    clear b2
    go_wp2_with fail
    refine (bad_any 26 ⟨1, 3, [107], [118], 0, 0⟩ _ (HT.out.on (bstep HB2.out V3.out)) (enters_of Tryd.func26 (by kernel_rfl) rfl) change5 (by decide +kernel) (by constructor <;> first | decide | (simp only [List.length_replicate]; decide))).mono ?_
    rintro e z3 ⟨rfl, b3⟩
    have V4 := Lib.hid (bstep V3.out b3)
    clear b3
    go_wp2_with fail
    refine (bad_any 27 ⟨1, 2, [107], [118], 0, 0⟩ _ (HT.out.on (bstep HB2.out V4.out)) (enters_of Tryd.func27 (by kernel_rfl) rfl) change6 (by decide +kernel) (by constructor <;> first | decide | (simp only [List.length_replicate]; decide))).mono ?_
    rintro e z4 ⟨rfl, b4⟩
    have V5 := Lib.hid (bstep V4.out b4)
    clear b4
    go_wp2_with fail
    refine (bad_any 28 ⟨1, 1, [], [118], 0, 0⟩ _ (HT.out.on (bstep HB2.out V5.out)) (enters_of Tryd.func28 (by kernel_rfl) rfl) change7 (by decide +kernel) (by constructor <;> first | decide | (simp only [List.length_replicate]; decide))).mono ?_
    rintro e z5 ⟨rfl, b5⟩
    have V6 := Lib.hid (bstep V5.out b5)
    clear b5
    go_wp2_with fail
    refine (bad_any 29 ⟨1, 1, List.replicate 65 0, [118], 0, 0⟩ _ (HT.out.on (bstep HB2.out V6.out)) (enters_of Tryd.func29 (by kernel_rfl) rfl) change8 (by decide +kernel) (by constructor <;> first | decide | (simp only [List.length_replicate]; decide))).mono ?_
    rintro e z6 ⟨rfl, b6⟩
    have V7 := Lib.hid (bstep V6.out b6)
    clear b6
    go_wp2_with fail
    refine (bad_any 30 ⟨1, 1, [107], List.replicate 1025 0, 0, 0⟩ _ (HT.out.on (bstep HB2.out V7.out)) (enters_of Tryd.func30 (by kernel_rfl) rfl) change9 (by decide +kernel) (by constructor <;> first | decide | (simp only [List.length_replicate]; decide))).mono ?_
    rintro e z7 ⟨rfl, b7⟩
    have V8 := Lib.hid (bstep V7.out b7)
    clear b7
    go_wp2_with fail
    refine (bad_any 31 ⟨1, 1, [107], [118], 1, 0⟩ _ (HT.out.on (bstep HB2.out V8.out)) (enters_of Tryd.func31 (by kernel_rfl) rfl) change10 (by decide +kernel) (by constructor <;> first | decide | (simp only [List.length_replicate]; decide))).mono ?_
    rintro e z8 ⟨rfl, b8⟩
    have V9 := Lib.hid (bstep V8.out b8)
    clear b8
    go_wp2_with fail
    refine (bad_any 32 ⟨1, 1, [107], [118], 0, 16⟩ _ (HT.out.on (bstep HB2.out V9.out)) (enters_of Tryd.func32 (by kernel_rfl) rfl) change11 (by decide +kernel) (by constructor <;> first | decide | (simp only [List.length_replicate]; decide))).mono ?_
    rintro e z9 ⟨rfl, b9⟩
    have V10 := Lib.hid (bstep V9.out b9)
    clear b9
    obtain ⟨E1, p1, E2, p2, ⟨x0, x1, x2, x3, x4, x5⟩, hq1⟩ := (BQ.out.on V10.out).cells
    obtain ⟨E3, p3, E4, p4, ⟨y0, y1, y2, y3, y4, y5⟩, hq2⟩ := (BG2.out.on V10.out).cells
    have hc := rsame_b _ _ fullR fullR _ _ hq1 hq2 (Nat.le_refl _)
    rw [Rc.sameB_self] at hc
    have HC := Lib.hid hc
    clear hc hq1 hq2
    go_wp2_with fail
    refine HC.out.mono ?_
    rintro e z11 ⟨rfl, b11⟩
    have V11 := Lib.hid (bstep V10.out b11)
    go_wp2_with fail
    refine (knows_r _ (HT.out.on (bstep HB2.out V11.out))).mono ?_
    rintro e z12 ⟨rfl, b12⟩
    go_wp2_with fail
    go_ret
    exact ⟨rfl, bstep (bstep HB2.out V11.out) b12⟩
end Go.Proofs.YtmiljicohnfejaaDoor.recordKnown
