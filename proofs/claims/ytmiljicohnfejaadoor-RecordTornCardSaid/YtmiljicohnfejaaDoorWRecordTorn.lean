
/-
  The walk of the law RecordTorn: it returns true, and writes nothing that was there.
-/
import Derived.Test.YtmiljicohnfejaaDoorRcBox
import Derived.OpenShut
set_option linter.unusedVariables false
set_option linter.unusedSimpArgs false
namespace Go.Proofs.YtmiljicohnfejaaDoor.recordTorn
open Go.RowKit

set_option maxRecDepth 100000 in
set_option maxHeartbeats 8000000 in
theorem walk (v0 : Value) (r0 : Rc.Rec) (v1 : Value) (z1 : List Int) (v2 : Value) (r2 : Rc.Rec) (w : World) (h0 : RecV w w.heap.size v0 r0) (f0 : Rc.Fit r0) (w1 : Ints w w.heap.size .u8 v1 z1) (g1 : ∀ n ∈ z1, (Lit.int .u8 n).wf = true) (s1 : z1.length * 1 ≤ 140737488351232) (h2 : RecV w w.heap.size v2 r2) (f2 : Rc.Fit r2) (ht : RTab w) :
    Calls Tryd.prog 5 #[v0, v1, v2] w fun e w' => e = .returned (.bool true) ∧ Below w.heap.size w w' := by
  obtain ⟨i0, hi0, hz0, hz1, hz2⟩ := info_parts byte_info
  have hbs := bs_of_ints w1 (fun z hz => bounds_u8 (g1 z hz))
  have hll : (z1.map fun z => UInt8.ofNat z.toNat).length ≤ 140737488351232 := by rw [List.length_map]; omega
  generalize z1.map (fun z => UInt8.ofNat z.toNat) = l at hbs hll
  clear w1 g1 s1
  obtain ⟨A1, c1, k1, A1', c1', rfl, m1, hk1, cut1, s1⟩ := cut_min v1 l w.heap.size 100 w hbs
  obtain ⟨P0, p0, P0', p0', rfl, hb0, hb0'⟩ := h0.form
  obtain ⟨P2, p2, P2', p2', rfl, hb2, hb2'⟩ := h2.form
  have b1 := balloc (bnew w (.cells #[.int .u64 r0.seq, .int .i64 r0.kind, .slice P0 r0.key.length p0, .slice P0' r0.val.length p0', .int .u32 r0.seg, .int .u32 r0.off] 28)) (.cells #[.int .u64 r2.seq, .int .i64 r2.kind, .slice P2 r2.key.length p2, .slice P2' r2.val.length p2', .int .u32 r2.seg, .int .u32 r2.off] 28)
  have x0 := (box_new (w := w) hb0 hb0' (Nat.le_refl _)).on (bnew _ (.cells #[.int .u64 r2.seq, .int .i64 r2.kind, .slice P2 r2.key.length p2, .slice P2' r2.val.length p2', .int .u32 r2.seg, .int .u32 r2.off] 28))
  have x2 := heap_alloc_new (w.alloc (.cells #[.int .u64 r0.seq, .int .i64 r0.kind, .slice P0 r0.key.length p0, .slice P0' r0.val.length p0', .int .u32 r0.seg, .int .u32 r0.off] 28)) (.cells #[.int .u64 r2.seq, .int .i64 r2.kind, .slice P2 r2.key.length p2, .slice P2' r2.val.length p2', .int .u32 r2.seg, .int .u32 r2.off] 28)
  rw [World.size_alloc] at x2
  have hmade := made_b _ r0 w.heap.size ((w.alloc (.cells #[.int .u64 r0.seq, .int .i64 r0.kind, .slice P0 r0.key.length p0, .slice P0' r0.val.length p0', .int .u32 r0.seg, .int .u32 r0.off] 28)).alloc (.cells #[.int .u64 r2.seq, .int .i64 r2.kind, .slice P2 r2.key.length p2, .slice P2' r2.val.length p2', .int .u32 r2.seg, .int .u32 r2.off] 28)) (h0.below b1 (Nat.le_refl _)) b1.size f0
  have hmm := Rc.made_may r0
  generalize Rc.made r0 = r at hmade hmm
  have H2 := Lib.hid h2
  have X0 := Lib.hid x0
  have X2 := Lib.hid x2
  have B1 := Lib.hid b1
  have HT := Lib.hid ht
  have F2 := Lib.hid f2
  have S1 := Lib.hid s1
  have HBS := Lib.hid hbs
  have HM := Lib.hid hmm
  have HS := Lib.hid (Rc.may_size hmm)
  clear h0 h2 hb0 hb0' hb2 hb2' x0 x2 b1 f2 f0 ht s1 hbs hmm
  have e100 : ((100 : Nat) : Int) = 100 := rfl
  rw [e100] at m1
  generalize hn : l.length = n at *
  clear hn e100
  go_enter Tryd.func5, Tryd.ntmps5
  go_wp2_with fail
  refine hmade.mono ?_
  rintro e w3 ⟨v3, rfl, hr3, b3⟩
  obtain ⟨P3, p3, P3', p3', rfl, _, _⟩ := (hr3 w3 (Keeps.refl _ _ _)).form
  obtain ⟨y0, y1, y2, y3, hx0, _, _⟩ := X0.out.on b3
  obtain ⟨e0, e1, e2, e3, e4, e5⟩ := box6h hx0
  obtain ⟨f0, f1, f2, f3, f4, f5⟩ := box6hf hx0
  have hx4 := set6_at hx0 (.int .u64 r.seq) (.int .i64 r.kind) (.slice P3 r.key.length p3) (.slice P3' r.val.length p3') (.int .u32 r.seg) (.int .u32 r.off)
  have hy0 := (b3.block (w.heap.size + 1) (by simp)).trans X2.out
  have hsz3 := b3.size
  simp only [World.size_alloc] at hsz3
  have hy4 := (set6_other (w := w3) (g := w.heap.size) (k := w.heap.size + 1) (by omega) (.int .u64 r.seq) (.int .i64 r.kind) (.slice P3 r.key.length p3) (.slice P3' r.val.length p3') (.int .u32 r.seg) (.int .u32 r.off)).trans hy0
  have hb4 := set6_below (bstep B1.out b3) (Nat.le_refl _) (.int .u64 r.seq) (.int .i64 r.kind) (.slice P3 r.key.length p3) (.slice P3' r.val.length p3') (.int .u32 r.seg) (.int .u32 r.off)
  have hr4 := hr3 (set6 w3 w.heap.size (.int .u64 r.seq) (.int .i64 r.kind) (.slice P3 r.key.length p3) (.slice P3' r.val.length p3') (.int .u32 r.seg) (.int .u32 r.off)) (fun k _ hk => set6_other (by simp at hk; omega) _ _ _ _ _ _)
  have hs4 := set6_size (w := w3) (g := w.heap.size) (.int .u64 r.seq) (.int .i64 r.kind) (.slice P3 r.key.length p3) (.slice P3' r.val.length p3') (.int .u32 r.seg) (.int .u32 r.off)
  clear hx0 hy0 hr3
  go_wp2_with fail
  clear e0 e1 e2 e3 e4 e5 f0 f1 f2 f3 f4 f5
  change Calls _ _ _ (set6 w3 w.heap.size _ _ _ _ _ _) _
  generalize set6 w3 w.heap.size (.int .u64 r.seq) (.int .i64 r.kind) (.slice P3 r.key.length p3) (.slice P3' r.val.length p3') (.int .u32 r.seg) (.int .u32 r.off) = W4 at *
  rw [← hs4] at hr4
  have R4 := Lib.hid hr4
  refine (rput_ok _ r _ W4 hr4 (Nat.le_refl _) HM.out (HT.out.on hb4)).mono ?_
  rintro e w5 ⟨v5, rfl, hown5, b5⟩
  obtain ⟨A5, c5, rfl, hc5, hc5m, hA5⟩ := own_slice hown5
  have hN := HS.out
  have hNl : Hid ((Rc.runL r).length = Rc.sizeN r) := Lib.hid (Rc.runL_length r)
  have hNS : Hid (Rc.sizeN r = Rc.sizeN r) := Lib.hid rfl
  have hsz : ∀ (v : Value) (B : Nat) (w : World), RecV w B v r → Calls Tryd.prog 16 #[v] w fun e w' => e = .returned (.int .i64 (Rc.sizeN r : Nat)) ∧ Below w.heap.size w w' := fun v B w h => rsize_b v r B w h (by have := Rc.may_bounds HM.out; omega) (by have := Rc.may_bounds HM.out; omega)
  have HG := Lib.hid (fun m => Rc.get_run HM.out m)
  have HTN := Lib.hid (fun k hk => Rc.get_torn HM.out k hk)
  generalize Rc.sizeN r = N at *
  have HSZ := Lib.hid hsz
  have X5 := Lib.hid ((b5.block w.heap.size (Array.getElem?_eq_some_iff.1 hx4).1).trans hx4)
  have Y5 := Lib.hid ((b5.block (w.heap.size + 1) (Array.getElem?_eq_some_iff.1 hy4).1).trans hy4)
  have R5 := Lib.hid (hr4.on b5)
  have O5 := Lib.hid hown5
  have HB5 := Lib.hid (bstep hb4 b5)
  clear hx4 hy4 hr4 hown5 hsz hs4 hb4 b3 b5 hA5 hc5m
  obtain ⟨e0, e1, e2, e3, e4, e5⟩ := box6h X5.out
  go_wp2_with fail
  clear e0 e1 e2 e3 e4 e5
  refine (HSZ.out _ _ _ R5.out).mono ?_
  rintro e w6 ⟨rfl, b6⟩
  have X6 := Lib.hid ((b6.block w.heap.size (Array.getElem?_eq_some_iff.1 X5.out).1).trans X5.out)
  obtain ⟨e0, e1, e2, e3, e4, e5⟩ := box6h X6.out
  have hc := rmay_b _ r _ _ (R5.out.on b6) (Nat.le_refl _) (Rc.fit_may HM.out)
  rw [HM.out] at hc
  go_wp2_with fail
  clear e0 e1 e2 e3 e4 e5
  refine hc.mono ?_
  rintro e w7 ⟨rfl, b7⟩
  have b57 := bstep b6 b7
  have X7 := Lib.hid ((b57.block w.heap.size (Array.getElem?_eq_some_iff.1 X5.out).1).trans X5.out)
  have Y7 := Lib.hid ((b57.block (w.heap.size + 1) (Array.getElem?_eq_some_iff.1 Y5.out).1).trans Y5.out)
  have R7 := Lib.hid (R5.out.on b57)
  have S7 := Lib.hid ((Bs.of_own O5.out).on b57)
  have HB7 := Lib.hid (bstep HB5.out b57)
  have HT7 := Lib.hid (HT.out.on HB7.out)
  clear hc b6 b7 b57 X5 Y5 R5 O5 HB5 X6 R4
  go_wp2_with fail
  have RD7 := Lib.hid (bs_rd S7.out).1
  have HK1 : Hid (k1 = (l.take 100).length) := Lib.hid (bs_rd (S1.out w w.heap.size HBS.out)).2
  have RB7 : Hid (∀ W, Below w7.heap.size w7 W → Rd W w.heap.size A1' (bvs (l.take 100))) := Lib.hid (fun W hW => (bs_rd (S1.out W w.heap.size (HBS.out.below (bstep HB7.out hW) (Nat.le_refl _)))).1)
  go_cut [9, 10, 11] (fun q n e wx => ∃ gz, q = .pointer (some ⟨gz, 0, none⟩) ∧ n = .int .i64 (N : Int) ∧ e = .int .i64 0 ∧ BoxR wx gz r ∧ Below w7.heap.size w7 wx)
  case first =>
    refine wp_region_noPanic ?_
    refine wp_region_held_drew (S := fun _ => True) (by kernel_rfl) trivial (fun hHeld => ?_)
    try simp only [Act.put, List.setIfInBounds_toArray, List.set_cons_zero, List.set_cons_succ]
    have HbW := Lib.hid ((Below.refl w7.heap.size w7).drew)
    generalize w7.drew = W at *
    refine wpAnyH_take (i := 0) (v := ?_) opAt_0 (by kernel_rfl) (by kernel_rfl) (by kernel_rfl) (fun _ _ _ h => h) (Or.inl ⟨by rfl, ?_⟩) trivial ?_
    rotate_left
    · (intro w hSw; go_simp; try with_reducible rfl)
    try simp only [Act.put, List.setIfInBounds_toArray, List.set_cons_zero, List.set_cons_succ]
    refine wpAnyH_take (i := 2) (v := ?_) opAt_2 (by kernel_rfl) (by kernel_rfl) (by kernel_rfl) (fun _ _ _ h => h) (Or.inl ⟨by rfl, ?_⟩) trivial ?_
    rotate_left
    · (intro w hSw; go_simp; try with_reducible rfl)
    try simp only [Act.put, List.setIfInBounds_toArray, List.set_cons_zero, List.set_cons_succ]
    refine wpAnyH_take (i := 3) (v := ?_) opAt_3 (by kernel_rfl) (by kernel_rfl) (by kernel_rfl) (fun _ _ _ h => h) (Or.inl ⟨by rfl, ?_⟩) trivial ?_
    rotate_left
    · (intro w hSw; go_simp; try with_reducible rfl)
    try simp only [Act.put, List.setIfInBounds_toArray, List.set_cons_zero, List.set_cons_succ]
    refine wpAnyH_take (i := 4) (v := ?_) opAt_4 (by kernel_rfl) (by kernel_rfl) (by kernel_rfl) (fun _ _ _ h => h) (Or.inl ⟨by rfl, ?_⟩) trivial ?_
    rotate_left
    · (intro w hSw; go_simp; try with_reducible rfl)
    try simp only [Act.put, List.setIfInBounds_toArray, List.set_cons_zero, List.set_cons_succ]
    refine wpAnyH_take (i := 5) (v := ?_) opAt_5 (by kernel_rfl) (by kernel_rfl) (by kernel_rfl) (fun _ _ _ h => h) (Or.inl ⟨by rfl, ?_⟩) trivial ?_
    rotate_left
    · (intro w hSw; go_simp; try with_reducible rfl)
    try simp only [Act.put, List.setIfInBounds_toArray, List.set_cons_zero, List.set_cons_succ]
    refine wpAnyH_take (i := 6) (v := ?_) opAt_6 (by kernel_rfl) (by kernel_rfl) (by kernel_rfl) (fun _ _ _ h => h) (Or.inl ⟨by rfl, ?_⟩) trivial ?_
    rotate_left
    · (intro w hSw; go_simp; try with_reducible rfl)
    try simp only [Act.put, List.setIfInBounds_toArray, List.set_cons_zero, List.set_cons_succ]
    refine wpAnyH_ready (rs := [1, 13]) (by kernel_rfl) (by simp) ?_
    refine AllReadyH.cons rfl (fun K hK => ?_) (AllReadyH.cons rfl (fun K hK => ?_) AllReadyH.nil)
    · refine step_append_gr W (o := (⟨some 46, _, _, _, _, _⟩ : Oper)) rfl (.const (.slice none 0 0)) (.tmp 45) 23 rfl w7.heap.size 5 i0 (.int .u8 0) 1 1 Tryd.underlying23 hi0 hz0 hz1 hz2 rfl (by omega) (.slice none 0 0) 0 [] rfl (World.ownsRow_nil _ _ _ _) w7.heap.size A5 N c5 (bvs (Rc.runL r)) rfl (by rw [bvs_length, hNl.out, Nat.mul_one]) (RD7.out.below HbW.out (Nat.le_refl _)) (bvs_one _) (by unfold maxLen; omega) (by omega) HbW.out.size ?_
      intro v8 W1 o8 b8 gr8 ow8
      dsimp only [Act.put, Array.getElem_toList, List.getElem_toArray, List.getElem_cons_succ, List.getElem_cons_zero]
      have HbW' := Lib.hid (HbW.out.trans b8)
      have O8 := Lib.hid (by rw [Nat.zero_add, List.nil_append] at o8; exact o8)
      clear o8 b8 gr8 ow8 HbW
      have HbW := HbW'
      clear HbW'
      refine hK.out _ _ trivial (fun _ => ?_)
      try simp only [Act.put, List.setIfInBounds_toArray, List.set_cons_zero, List.set_cons_succ]
      clear hK K
      refine wpAnyH_ready (rs := [7, 13]) (by kernel_rfl) (by simp) ?_
      refine AllReadyH.cons rfl (fun K hK => ?_) (AllReadyH.cons rfl (fun K hK => ?_) AllReadyH.nil)
      · refine step_append_gr W1 (o := (⟨some 52, _, _, _, _, _⟩ : Oper)) rfl (.tmp 46) (.tmp 51) 23 rfl w7.heap.size 5 i0 (.int .u8 0) 1 1 Tryd.underlying23 hi0 hz0 hz1 hz2 rfl (by omega) v8 N (bvs (Rc.runL r)) rfl O8.out w.heap.size A1' k1 c1' (bvs (l.take 100)) rfl (by rw [bvs_length, Nat.mul_one]; exact HK1.out.symm) (RB7.out W1 HbW.out) (bvs_one _) (by unfold maxLen; omega) (by omega) HbW.out.size ?_
        intro v9 W2 o9 b9 gr9 ow9
        dsimp only [Act.put, Array.getElem_toList, List.getElem_toArray, List.getElem_cons_succ, List.getElem_cons_zero]
        have HbW' := Lib.hid (HbW.out.trans b9)
        have O9 := Lib.hid (by rw [← bvs_append] at o9; exact o9)
        clear o9 b9 gr9 ow9 HbW O8
        have HbW := HbW'
        clear HbW'
        refine hK.out _ _ trivial (fun _ => ?_)
        try simp only [Act.put, List.setIfInBounds_toArray, List.set_cons_zero, List.set_cons_succ]
        clear hK K
        refine wpAnyH_ready (rs := [8, 13]) (by kernel_rfl) (by simp) ?_
        refine AllReadyH.cons rfl (fun K hK => ?_) (AllReadyH.cons rfl (fun K hK => ?_) AllReadyH.nil)
        · go_simp
          refine (rget_q _ _ W2.heap.size W2 (Bs.of_own O9.out) (Nat.le_refl _) (by rw [List.length_append, hNl.out, ← HK1.out]; omega) (HT7.out.on HbW.out) _ _ _ (HG.out (l.take 100))).mono ?_
          rintro e W3 ⟨rv, rfl, nr, bg⟩
          obtain ⟨C1, k1, C2, k2, rfl, qap, qb1, qb2⟩ := nr.form2
          have HbW' := Lib.hid (HbW.out.trans (bg.mono HbW.out.size))
          have QA := Lib.hid (And.intro qb1 qb2)
          clear bg nr qb1 qb2 qap HbW O9
          have HbW := HbW'
          clear HbW'
          go_wp2_with fail
          refine hK.out _ _ trivial (fun _ => ?_)
          try simp only [Act.put, List.setIfInBounds_toArray, List.set_cons_zero, List.set_cons_succ]
          clear hK K
          refine wpAnyH_take (i := 9) (v := ?_) opAt_9 (by kernel_rfl) (by kernel_rfl) (by kernel_rfl) (fun _ _ _ h => h) (Or.inl ⟨by rfl, ?_⟩) trivial ?_
          rotate_left
          · (intro w hSw; go_simp; try with_reducible rfl)
          try simp only [Act.put, List.setIfInBounds_toArray, List.set_cons_zero, List.set_cons_succ]
          refine wpAnyH_take (i := 10) (v := ?_) opAt_10 (by kernel_rfl) (by kernel_rfl) (by kernel_rfl) (fun _ _ _ h => h) (Or.inl ⟨by rfl, ?_⟩) trivial ?_
          rotate_left
          · (intro w hSw; go_simp; try with_reducible rfl)
          try simp only [Act.put, List.setIfInBounds_toArray, List.set_cons_zero, List.set_cons_succ]
          refine wpAnyH_take (i := 11) (v := ?_) opAt_11 (by kernel_rfl) (by kernel_rfl) (by kernel_rfl) (fun _ _ _ h => h) (Or.inl ⟨by rfl, ?_⟩) trivial ?_
          rotate_left
          · (intro w hSw; go_simp; try with_reducible rfl)
          try simp only [Act.put, List.setIfInBounds_toArray, List.set_cons_zero, List.set_cons_succ]
          refine wpAnyH_take (i := 12) (v := ?_) opAt_12 (by kernel_rfl) (by kernel_rfl) (by kernel_rfl) (fun _ _ _ h => h) (Or.inl ⟨by rfl, ?_⟩) trivial ?_
          rotate_left
          · (intro w hSw; go_simp; try with_reducible rfl)
          try simp only [Act.put, List.setIfInBounds_toArray, List.set_cons_zero, List.set_cons_succ]
          refine wpAnyH_ready (rs := [13]) (by kernel_rfl) (by simp) ?_
          refine AllReadyH.cons rfl (fun K hK => ?_) AllReadyH.nil
          go_simp
          obtain ⟨gz, hgz⟩ : ∃ gz, gz = W3.heap.size := ⟨_, rfl⟩
          rw [← hgz]
          have z1 := heap_alloc_new W3 (.cells #[.int .u64 0, .int .i64 0, .slice none 0 0, .slice none 0 0, .int .u32 0, .int .u32 0] 28)
          rw [← hgz] at z1
          have z2 : w7.heap.size ≤ gz := by have := HbW.out.size; omega
          have z3 := bnew W3 (.cells #[.int .u64 0, .int .i64 0, .slice none 0 0, .slice none 0 0, .int .u32 0, .int .u32 0] 28)
          have z4 : W3.heap.size ≤ gz := by omega
          generalize W3.alloc (.cells #[.int .u64 0, .int .i64 0, .slice none 0 0, .slice none 0 0, .int .u32 0, .int .u32 0] 28) = W4 at *
          have HbW' := Lib.hid (HbW.out.trans (z3.mono HbW.out.size))
          have Z := Lib.hid z1
          have HgZ := Lib.hid z2
          have QB1' : Hid (∀ w', (∀ kk, kk ≠ gz → w'.heap[kk]? = W4.heap[kk]?) → Bs w' W4.heap.size (.slice C1 r.key.length k1) r.key ∧ Bs w' W4.heap.size (.slice C2 r.val.length k2) r.val) := Lib.hid (fun w' hw => ⟨(QA.out.1.keep fun p hp => (World.cell?_of_block (hw p.block (by omega))).trans (z3.cell hp)).mono z3.size, (QA.out.2.keep fun p hp => (World.cell?_of_block (hw p.block (by omega))).trans (z3.cell hp)).mono z3.size⟩)
          clear hgz z1 z2 z3 z4 HbW
          have HbW := HbW'
          have QB1 := QB1'
          clear HbW' QB1'
          refine hK.out _ _ trivial (fun _ => ?_)
          try simp only [Act.put, List.setIfInBounds_toArray, List.set_cons_zero, List.set_cons_succ]
          clear hK K
          obtain ⟨x0, x1, x2, x3, x4, x5⟩ := box6h Z.out
          obtain ⟨d0, d1, d2, d3, d4, d5⟩ := box6hf Z.out
          have HZ6 := Lib.hid (set6_at Z.out (.int .u64 r.seq) (.int .i64 r.kind) (.slice C1 r.key.length k1) (.slice C2 r.val.length k2) (.int .u32 r.seg) (.int .u32 r.off))
          have HW6 := Lib.hid (set6_below HbW.out HgZ.out (.int .u64 r.seq) (.int .i64 r.kind) (.slice C1 r.key.length k1) (.slice C2 r.val.length k2) (.int .u32 r.seg) (.int .u32 r.off))
          have HS6 := Lib.hid (set6_size (w := W4) (g := gz) (.int .u64 r.seq) (.int .i64 r.kind) (.slice C1 r.key.length k1) (.slice C2 r.val.length k2) (.int .u32 r.seg) (.int .u32 r.off))
          have HQ1 := Lib.hid (QB1.out (set6 W4 gz (.int .u64 r.seq) (.int .i64 r.kind) (.slice C1 r.key.length k1) (.slice C2 r.val.length k2) (.int .u32 r.seg) (.int .u32 r.off)) (fun kk hkk => set6_other hkk _ _ _ _ _ _))
          refine wpAnyH_ready (rs := [14]) (by kernel_rfl) (by simp) ?_
          refine AllReadyH.cons rfl (fun K hK => ?_) AllReadyH.nil
          go_simp
          change K _ (set6 W4 gz _ _ _ _ _ _)
          generalize set6 W4 gz (.int .u64 r.seq) (.int .i64 r.kind) (.slice C1 r.key.length k1) (.slice C2 r.val.length k2) (.int .u32 r.seg) (.int .u32 r.off) = W6 at *
          refine hK.out _ _ trivial (fun _ => ?_)
          try simp only [Act.put, List.setIfInBounds_toArray, List.set_cons_zero, List.set_cons_succ]
          clear hK K
          refine wpAnyH_take (i := 15) (v := ?_) opAt_15 (by kernel_rfl) (by kernel_rfl) (by kernel_rfl) (fun _ _ _ h => h) (Or.inl ⟨by rfl, ?_⟩) trivial ?_
          rotate_left
          · (intro w hSw; go_simp; try with_reducible rfl)
          try simp only [Act.put, List.setIfInBounds_toArray, List.set_cons_zero, List.set_cons_succ]
          refine wpAnyH_take (i := 16) (v := ?_) opAt_16 (by kernel_rfl) (by kernel_rfl) (by kernel_rfl) (fun _ _ _ h => h) (Or.inl ⟨by rfl, ?_⟩) trivial ?_
          rotate_left
          · (intro w hSw; go_simp; try with_reducible rfl)
          try simp only [Act.put, List.setIfInBounds_toArray, List.set_cons_zero, List.set_cons_succ]
          refine wpAnyH_done (by kernel_rfl) ?_ _
          refine NoPanic.normal ?_
          go_wp2_with fail
          go_meet
          case rel => exact ⟨gz, rfl, rfl, rfl, ⟨_, _, _, _, HZ6.out, (HQ1.out.1).mono (by rw [HS6.out]; exact Nat.le_refl _), (HQ1.out.2).mono (by rw [HS6.out]; exact Nat.le_refl _)⟩, HW6.out⟩
        · go_simp
          obtain ⟨gz, hgz⟩ : ∃ gz, gz = W2.heap.size := ⟨_, rfl⟩
          rw [← hgz]
          have z1 := heap_alloc_new W2 (.cells #[.int .u64 0, .int .i64 0, .slice none 0 0, .slice none 0 0, .int .u32 0, .int .u32 0] 28)
          rw [← hgz] at z1
          have z2 : w7.heap.size ≤ gz := by have := HbW.out.size; omega
          have z3 := bnew W2 (.cells #[.int .u64 0, .int .i64 0, .slice none 0 0, .slice none 0 0, .int .u32 0, .int .u32 0] 28)
          have z4 : W2.heap.size ≤ gz := by omega
          generalize W2.alloc (.cells #[.int .u64 0, .int .i64 0, .slice none 0 0, .slice none 0 0, .int .u32 0, .int .u32 0] 28) = W3 at *
          have HbW' := Lib.hid (HbW.out.trans (z3.mono HbW.out.size))
          have Z := Lib.hid z1
          have HgZ := Lib.hid z2
          have O9' := Lib.hid (own_below O9.out z3 (Nat.le_refl _))
          clear hgz z1 z2 z3 z4 HbW
          clear O9
          have HbW := HbW'
          have O9 := O9'
          clear HbW' O9'
          refine hK.out _ _ trivial (fun _ => ?_)
          try simp only [Act.put, List.setIfInBounds_toArray, List.set_cons_zero, List.set_cons_succ]
          clear hK K
          refine wpAnyH_ready (rs := [8]) (by kernel_rfl) (by simp) ?_
          refine AllReadyH.cons rfl (fun K hK => ?_) AllReadyH.nil
          go_simp
          refine (rget_q _ _ W3.heap.size W3 (Bs.of_own O9.out) (Nat.le_refl _) (by rw [List.length_append, hNl.out, ← HK1.out]; omega) (HT7.out.on HbW.out) _ _ _ (HG.out (l.take 100))).mono ?_
          rintro e W4 ⟨rv, rfl, nr, bg⟩
          obtain ⟨C1, k1, C2, k2, rfl, qap, qb1, qb2⟩ := nr.form2
          have HbW' := Lib.hid (HbW.out.trans (bg.mono HbW.out.size))
          have Z' := Lib.hid ((bg.block gz (Array.getElem?_eq_some_iff.1 Z.out).1).trans Z.out)
          have QB1 : Hid (∀ w', (∀ kk, kk ≠ gz → w'.heap[kk]? = W4.heap[kk]?) → Bs w' W4.heap.size (.slice C1 r.key.length k1) r.key ∧ Bs w' W4.heap.size (.slice C2 r.val.length k2) r.val) := Lib.hid (fun w' hw => qap gz w' (Array.getElem?_eq_some_iff.1 Z.out).1 hw)
          clear Z
          clear bg nr qb1 qb2 qap HbW O9
          have HbW := HbW'
          have Z := Z'
          clear HbW' Z'
          go_wp2_with fail
          refine hK.out _ _ trivial (fun _ => ?_)
          try simp only [Act.put, List.setIfInBounds_toArray, List.set_cons_zero, List.set_cons_succ]
          clear hK K
          refine wpAnyH_take (i := 9) (v := ?_) opAt_9 (by kernel_rfl) (by kernel_rfl) (by kernel_rfl) (fun _ _ _ h => h) (Or.inl ⟨by rfl, ?_⟩) trivial ?_
          rotate_left
          · (intro w hSw; go_simp; try with_reducible rfl)
          try simp only [Act.put, List.setIfInBounds_toArray, List.set_cons_zero, List.set_cons_succ]
          refine wpAnyH_take (i := 10) (v := ?_) opAt_10 (by kernel_rfl) (by kernel_rfl) (by kernel_rfl) (fun _ _ _ h => h) (Or.inl ⟨by rfl, ?_⟩) trivial ?_
          rotate_left
          · (intro w hSw; go_simp; try with_reducible rfl)
          try simp only [Act.put, List.setIfInBounds_toArray, List.set_cons_zero, List.set_cons_succ]
          refine wpAnyH_take (i := 11) (v := ?_) opAt_11 (by kernel_rfl) (by kernel_rfl) (by kernel_rfl) (fun _ _ _ h => h) (Or.inl ⟨by rfl, ?_⟩) trivial ?_
          rotate_left
          · (intro w hSw; go_simp; try with_reducible rfl)
          try simp only [Act.put, List.setIfInBounds_toArray, List.set_cons_zero, List.set_cons_succ]
          refine wpAnyH_take (i := 12) (v := ?_) opAt_12 (by kernel_rfl) (by kernel_rfl) (by kernel_rfl) (fun _ _ _ h => h) (Or.inl ⟨by rfl, ?_⟩) trivial ?_
          rotate_left
          · (intro w hSw; go_simp; try with_reducible rfl)
          try simp only [Act.put, List.setIfInBounds_toArray, List.set_cons_zero, List.set_cons_succ]
          obtain ⟨x0, x1, x2, x3, x4, x5⟩ := box6h Z.out
          obtain ⟨d0, d1, d2, d3, d4, d5⟩ := box6hf Z.out
          have HZ6 := Lib.hid (set6_at Z.out (.int .u64 r.seq) (.int .i64 r.kind) (.slice C1 r.key.length k1) (.slice C2 r.val.length k2) (.int .u32 r.seg) (.int .u32 r.off))
          have HW6 := Lib.hid (set6_below HbW.out HgZ.out (.int .u64 r.seq) (.int .i64 r.kind) (.slice C1 r.key.length k1) (.slice C2 r.val.length k2) (.int .u32 r.seg) (.int .u32 r.off))
          have HS6 := Lib.hid (set6_size (w := W4) (g := gz) (.int .u64 r.seq) (.int .i64 r.kind) (.slice C1 r.key.length k1) (.slice C2 r.val.length k2) (.int .u32 r.seg) (.int .u32 r.off))
          have HQ1 := Lib.hid (QB1.out (set6 W4 gz (.int .u64 r.seq) (.int .i64 r.kind) (.slice C1 r.key.length k1) (.slice C2 r.val.length k2) (.int .u32 r.seg) (.int .u32 r.off)) (fun kk hkk => set6_other hkk _ _ _ _ _ _))
          refine wpAnyH_ready (rs := [14]) (by kernel_rfl) (by simp) ?_
          refine AllReadyH.cons rfl (fun K hK => ?_) AllReadyH.nil
          go_simp
          change K _ (set6 W4 gz _ _ _ _ _ _)
          generalize set6 W4 gz (.int .u64 r.seq) (.int .i64 r.kind) (.slice C1 r.key.length k1) (.slice C2 r.val.length k2) (.int .u32 r.seg) (.int .u32 r.off) = W6 at *
          refine hK.out _ _ trivial (fun _ => ?_)
          try simp only [Act.put, List.setIfInBounds_toArray, List.set_cons_zero, List.set_cons_succ]
          clear hK K
          refine wpAnyH_take (i := 15) (v := ?_) opAt_15 (by kernel_rfl) (by kernel_rfl) (by kernel_rfl) (fun _ _ _ h => h) (Or.inl ⟨by rfl, ?_⟩) trivial ?_
          rotate_left
          · (intro w hSw; go_simp; try with_reducible rfl)
          try simp only [Act.put, List.setIfInBounds_toArray, List.set_cons_zero, List.set_cons_succ]
          refine wpAnyH_take (i := 16) (v := ?_) opAt_16 (by kernel_rfl) (by kernel_rfl) (by kernel_rfl) (fun _ _ _ h => h) (Or.inl ⟨by rfl, ?_⟩) trivial ?_
          rotate_left
          · (intro w hSw; go_simp; try with_reducible rfl)
          try simp only [Act.put, List.setIfInBounds_toArray, List.set_cons_zero, List.set_cons_succ]
          refine wpAnyH_done (by kernel_rfl) ?_ _
          refine NoPanic.normal ?_
          go_wp2_with fail
          go_meet
          case rel => exact ⟨gz, rfl, rfl, rfl, ⟨_, _, _, _, HZ6.out, (HQ1.out.1).mono (by rw [HS6.out]; exact Nat.le_refl _), (HQ1.out.2).mono (by rw [HS6.out]; exact Nat.le_refl _)⟩, HW6.out⟩
      · go_simp
        obtain ⟨gz, hgz⟩ : ∃ gz, gz = W1.heap.size := ⟨_, rfl⟩
        rw [← hgz]
        have z1 := heap_alloc_new W1 (.cells #[.int .u64 0, .int .i64 0, .slice none 0 0, .slice none 0 0, .int .u32 0, .int .u32 0] 28)
        rw [← hgz] at z1
        have z2 : w7.heap.size ≤ gz := by have := HbW.out.size; omega
        have z3 := bnew W1 (.cells #[.int .u64 0, .int .i64 0, .slice none 0 0, .slice none 0 0, .int .u32 0, .int .u32 0] 28)
        have z4 : W1.heap.size ≤ gz := by omega
        have z5 : ∀ kk, v8.ownBlock = some kk → kk < gz := fun kk h => by have := (O8.out.lt kk h).2; omega
        generalize W1.alloc (.cells #[.int .u64 0, .int .i64 0, .slice none 0 0, .slice none 0 0, .int .u32 0, .int .u32 0] 28) = W2 at *
        have HbW' := Lib.hid (HbW.out.trans (z3.mono HbW.out.size))
        have Z := Lib.hid z1
        have HgZ := Lib.hid z2
        have O8' := Lib.hid (own_below O8.out z3 (Nat.le_refl _))
        have HNE : Hid (v8.ownBlock ≠ some gz) := Lib.hid (fun h => by have := z5 gz h; omega)
        clear hgz z1 z2 z3 z4 HbW z5
        clear O8
        have HbW := HbW'
        have O8 := O8'
        clear HbW' O8'
        refine hK.out _ _ trivial (fun _ => ?_)
        try simp only [Act.put, List.setIfInBounds_toArray, List.set_cons_zero, List.set_cons_succ]
        clear hK K
        refine wpAnyH_ready (rs := [7]) (by kernel_rfl) (by simp) ?_
        refine AllReadyH.cons rfl (fun K hK => ?_) AllReadyH.nil
        refine step_append_gr W2 (o := (⟨some 52, _, _, _, _, _⟩ : Oper)) rfl (.tmp 46) (.tmp 51) 23 rfl w7.heap.size 5 i0 (.int .u8 0) 1 1 Tryd.underlying23 hi0 hz0 hz1 hz2 rfl (by omega) v8 N (bvs (Rc.runL r)) rfl O8.out w.heap.size A1' k1 c1' (bvs (l.take 100)) rfl (by rw [bvs_length, Nat.mul_one]; exact HK1.out.symm) (RB7.out W2 HbW.out) (bvs_one _) (by unfold maxLen; omega) (by omega) HbW.out.size ?_
        intro v9 W3 o9 b9 gr9 ow9
        dsimp only [Act.put, Array.getElem_toList, List.getElem_toArray, List.getElem_cons_succ, List.getElem_cons_zero]
        have HbW' := Lib.hid (HbW.out.trans b9)
        have O9 := Lib.hid (by rw [← bvs_append] at o9; exact o9)
        have Z' := Lib.hid ((gr9.block gz (Array.getElem?_eq_some_iff.1 Z.out).1 (fun e => HNE.out e.symm)).trans Z.out)
        clear Z HNE
        clear o9 b9 gr9 ow9 HbW O8
        have HbW := HbW'
        have Z := Z'
        clear HbW' Z'
        refine hK.out _ _ trivial (fun _ => ?_)
        try simp only [Act.put, List.setIfInBounds_toArray, List.set_cons_zero, List.set_cons_succ]
        clear hK K
        refine wpAnyH_ready (rs := [8]) (by kernel_rfl) (by simp) ?_
        refine AllReadyH.cons rfl (fun K hK => ?_) AllReadyH.nil
        go_simp
        refine (rget_q _ _ W3.heap.size W3 (Bs.of_own O9.out) (Nat.le_refl _) (by rw [List.length_append, hNl.out, ← HK1.out]; omega) (HT7.out.on HbW.out) _ _ _ (HG.out (l.take 100))).mono ?_
        rintro e W4 ⟨rv, rfl, nr, bg⟩
        obtain ⟨C1, k1, C2, k2, rfl, qap, qb1, qb2⟩ := nr.form2
        have HbW' := Lib.hid (HbW.out.trans (bg.mono HbW.out.size))
        have Z' := Lib.hid ((bg.block gz (Array.getElem?_eq_some_iff.1 Z.out).1).trans Z.out)
        have QB1 : Hid (∀ w', (∀ kk, kk ≠ gz → w'.heap[kk]? = W4.heap[kk]?) → Bs w' W4.heap.size (.slice C1 r.key.length k1) r.key ∧ Bs w' W4.heap.size (.slice C2 r.val.length k2) r.val) := Lib.hid (fun w' hw => qap gz w' (Array.getElem?_eq_some_iff.1 Z.out).1 hw)
        clear Z
        clear bg nr qb1 qb2 qap HbW O9
        have HbW := HbW'
        have Z := Z'
        clear HbW' Z'
        go_wp2_with fail
        refine hK.out _ _ trivial (fun _ => ?_)
        try simp only [Act.put, List.setIfInBounds_toArray, List.set_cons_zero, List.set_cons_succ]
        clear hK K
        refine wpAnyH_take (i := 9) (v := ?_) opAt_9 (by kernel_rfl) (by kernel_rfl) (by kernel_rfl) (fun _ _ _ h => h) (Or.inl ⟨by rfl, ?_⟩) trivial ?_
        rotate_left
        · (intro w hSw; go_simp; try with_reducible rfl)
        try simp only [Act.put, List.setIfInBounds_toArray, List.set_cons_zero, List.set_cons_succ]
        refine wpAnyH_take (i := 10) (v := ?_) opAt_10 (by kernel_rfl) (by kernel_rfl) (by kernel_rfl) (fun _ _ _ h => h) (Or.inl ⟨by rfl, ?_⟩) trivial ?_
        rotate_left
        · (intro w hSw; go_simp; try with_reducible rfl)
        try simp only [Act.put, List.setIfInBounds_toArray, List.set_cons_zero, List.set_cons_succ]
        refine wpAnyH_take (i := 11) (v := ?_) opAt_11 (by kernel_rfl) (by kernel_rfl) (by kernel_rfl) (fun _ _ _ h => h) (Or.inl ⟨by rfl, ?_⟩) trivial ?_
        rotate_left
        · (intro w hSw; go_simp; try with_reducible rfl)
        try simp only [Act.put, List.setIfInBounds_toArray, List.set_cons_zero, List.set_cons_succ]
        refine wpAnyH_take (i := 12) (v := ?_) opAt_12 (by kernel_rfl) (by kernel_rfl) (by kernel_rfl) (fun _ _ _ h => h) (Or.inl ⟨by rfl, ?_⟩) trivial ?_
        rotate_left
        · (intro w hSw; go_simp; try with_reducible rfl)
        try simp only [Act.put, List.setIfInBounds_toArray, List.set_cons_zero, List.set_cons_succ]
        obtain ⟨x0, x1, x2, x3, x4, x5⟩ := box6h Z.out
        obtain ⟨d0, d1, d2, d3, d4, d5⟩ := box6hf Z.out
        have HZ6 := Lib.hid (set6_at Z.out (.int .u64 r.seq) (.int .i64 r.kind) (.slice C1 r.key.length k1) (.slice C2 r.val.length k2) (.int .u32 r.seg) (.int .u32 r.off))
        have HW6 := Lib.hid (set6_below HbW.out HgZ.out (.int .u64 r.seq) (.int .i64 r.kind) (.slice C1 r.key.length k1) (.slice C2 r.val.length k2) (.int .u32 r.seg) (.int .u32 r.off))
        have HS6 := Lib.hid (set6_size (w := W4) (g := gz) (.int .u64 r.seq) (.int .i64 r.kind) (.slice C1 r.key.length k1) (.slice C2 r.val.length k2) (.int .u32 r.seg) (.int .u32 r.off))
        have HQ1 := Lib.hid (QB1.out (set6 W4 gz (.int .u64 r.seq) (.int .i64 r.kind) (.slice C1 r.key.length k1) (.slice C2 r.val.length k2) (.int .u32 r.seg) (.int .u32 r.off)) (fun kk hkk => set6_other hkk _ _ _ _ _ _))
        refine wpAnyH_ready (rs := [14]) (by kernel_rfl) (by simp) ?_
        refine AllReadyH.cons rfl (fun K hK => ?_) AllReadyH.nil
        go_simp
        change K _ (set6 W4 gz _ _ _ _ _ _)
        generalize set6 W4 gz (.int .u64 r.seq) (.int .i64 r.kind) (.slice C1 r.key.length k1) (.slice C2 r.val.length k2) (.int .u32 r.seg) (.int .u32 r.off) = W6 at *
        refine hK.out _ _ trivial (fun _ => ?_)
        try simp only [Act.put, List.setIfInBounds_toArray, List.set_cons_zero, List.set_cons_succ]
        clear hK K
        refine wpAnyH_take (i := 15) (v := ?_) opAt_15 (by kernel_rfl) (by kernel_rfl) (by kernel_rfl) (fun _ _ _ h => h) (Or.inl ⟨by rfl, ?_⟩) trivial ?_
        rotate_left
        · (intro w hSw; go_simp; try with_reducible rfl)
        try simp only [Act.put, List.setIfInBounds_toArray, List.set_cons_zero, List.set_cons_succ]
        refine wpAnyH_take (i := 16) (v := ?_) opAt_16 (by kernel_rfl) (by kernel_rfl) (by kernel_rfl) (fun _ _ _ h => h) (Or.inl ⟨by rfl, ?_⟩) trivial ?_
        rotate_left
        · (intro w hSw; go_simp; try with_reducible rfl)
        try simp only [Act.put, List.setIfInBounds_toArray, List.set_cons_zero, List.set_cons_succ]
        refine wpAnyH_done (by kernel_rfl) ?_ _
        refine NoPanic.normal ?_
        go_wp2_with fail
        go_meet
        case rel => exact ⟨gz, rfl, rfl, rfl, ⟨_, _, _, _, HZ6.out, (HQ1.out.1).mono (by rw [HS6.out]; exact Nat.le_refl _), (HQ1.out.2).mono (by rw [HS6.out]; exact Nat.le_refl _)⟩, HW6.out⟩
    · go_simp
      obtain ⟨gz, hgz⟩ : ∃ gz, gz = W.heap.size := ⟨_, rfl⟩
      rw [← hgz]
      have z1 := heap_alloc_new W (.cells #[.int .u64 0, .int .i64 0, .slice none 0 0, .slice none 0 0, .int .u32 0, .int .u32 0] 28)
      rw [← hgz] at z1
      have z2 : w7.heap.size ≤ gz := by have := HbW.out.size; omega
      have z3 := bnew W (.cells #[.int .u64 0, .int .i64 0, .slice none 0 0, .slice none 0 0, .int .u32 0, .int .u32 0] 28)
      have z4 : W.heap.size ≤ gz := by omega
      generalize W.alloc (.cells #[.int .u64 0, .int .i64 0, .slice none 0 0, .slice none 0 0, .int .u32 0, .int .u32 0] 28) = W1 at *
      have HbW' := Lib.hid (HbW.out.trans (z3.mono HbW.out.size))
      have Z := Lib.hid z1
      have HgZ := Lib.hid z2
      clear hgz z1 z2 z3 z4 HbW
      have HbW := HbW'
      clear HbW'
      refine hK.out _ _ trivial (fun _ => ?_)
      try simp only [Act.put, List.setIfInBounds_toArray, List.set_cons_zero, List.set_cons_succ]
      clear hK K
      refine wpAnyH_ready (rs := [1]) (by kernel_rfl) (by simp) ?_
      refine AllReadyH.cons rfl (fun K hK => ?_) AllReadyH.nil
      refine step_append_gr W1 (o := (⟨some 46, _, _, _, _, _⟩ : Oper)) rfl (.const (.slice none 0 0)) (.tmp 45) 23 rfl w7.heap.size 5 i0 (.int .u8 0) 1 1 Tryd.underlying23 hi0 hz0 hz1 hz2 rfl (by omega) (.slice none 0 0) 0 [] rfl (World.ownsRow_nil _ _ _ _) w7.heap.size A5 N c5 (bvs (Rc.runL r)) rfl (by rw [bvs_length, hNl.out, Nat.mul_one]) (RD7.out.below HbW.out (Nat.le_refl _)) (bvs_one _) (by unfold maxLen; omega) (by omega) HbW.out.size ?_
      intro v8 W2 o8 b8 gr8 ow8
      dsimp only [Act.put, Array.getElem_toList, List.getElem_toArray, List.getElem_cons_succ, List.getElem_cons_zero]
      have HbW' := Lib.hid (HbW.out.trans b8)
      have O8 := Lib.hid (by rw [Nat.zero_add, List.nil_append] at o8; exact o8)
      have Z' := Lib.hid ((gr8.block gz (Array.getElem?_eq_some_iff.1 Z.out).1 (fun e => by simp [Value.ownBlock] at e)).trans Z.out)
      have HNE : Hid (v8.ownBlock ≠ some gz) := Lib.hid (fun h => by have h1 := (Array.getElem?_eq_some_iff.1 Z.out).1; rcases ow8 with h2 | h2 <;> rw [h] at h2 <;> simp [Value.ownBlock] at h2 <;> omega)
      clear Z
      clear o8 b8 gr8 ow8 HbW
      have HbW := HbW'
      have Z := Z'
      clear HbW' Z'
      refine hK.out _ _ trivial (fun _ => ?_)
      try simp only [Act.put, List.setIfInBounds_toArray, List.set_cons_zero, List.set_cons_succ]
      clear hK K
      refine wpAnyH_ready (rs := [7]) (by kernel_rfl) (by simp) ?_
      refine AllReadyH.cons rfl (fun K hK => ?_) AllReadyH.nil
      refine step_append_gr W2 (o := (⟨some 52, _, _, _, _, _⟩ : Oper)) rfl (.tmp 46) (.tmp 51) 23 rfl w7.heap.size 5 i0 (.int .u8 0) 1 1 Tryd.underlying23 hi0 hz0 hz1 hz2 rfl (by omega) v8 N (bvs (Rc.runL r)) rfl O8.out w.heap.size A1' k1 c1' (bvs (l.take 100)) rfl (by rw [bvs_length, Nat.mul_one]; exact HK1.out.symm) (RB7.out W2 HbW.out) (bvs_one _) (by unfold maxLen; omega) (by omega) HbW.out.size ?_
      intro v9 W3 o9 b9 gr9 ow9
      dsimp only [Act.put, Array.getElem_toList, List.getElem_toArray, List.getElem_cons_succ, List.getElem_cons_zero]
      have HbW' := Lib.hid (HbW.out.trans b9)
      have O9 := Lib.hid (by rw [← bvs_append] at o9; exact o9)
      have Z' := Lib.hid ((gr9.block gz (Array.getElem?_eq_some_iff.1 Z.out).1 (fun e => HNE.out e.symm)).trans Z.out)
      clear Z HNE
      clear o9 b9 gr9 ow9 HbW O8
      have HbW := HbW'
      have Z := Z'
      clear HbW' Z'
      refine hK.out _ _ trivial (fun _ => ?_)
      try simp only [Act.put, List.setIfInBounds_toArray, List.set_cons_zero, List.set_cons_succ]
      clear hK K
      refine wpAnyH_ready (rs := [8]) (by kernel_rfl) (by simp) ?_
      refine AllReadyH.cons rfl (fun K hK => ?_) AllReadyH.nil
      go_simp
      refine (rget_q _ _ W3.heap.size W3 (Bs.of_own O9.out) (Nat.le_refl _) (by rw [List.length_append, hNl.out, ← HK1.out]; omega) (HT7.out.on HbW.out) _ _ _ (HG.out (l.take 100))).mono ?_
      rintro e W4 ⟨rv, rfl, nr, bg⟩
      obtain ⟨C1, k1, C2, k2, rfl, qap, qb1, qb2⟩ := nr.form2
      have HbW' := Lib.hid (HbW.out.trans (bg.mono HbW.out.size))
      have Z' := Lib.hid ((bg.block gz (Array.getElem?_eq_some_iff.1 Z.out).1).trans Z.out)
      have QB1 : Hid (∀ w', (∀ kk, kk ≠ gz → w'.heap[kk]? = W4.heap[kk]?) → Bs w' W4.heap.size (.slice C1 r.key.length k1) r.key ∧ Bs w' W4.heap.size (.slice C2 r.val.length k2) r.val) := Lib.hid (fun w' hw => qap gz w' (Array.getElem?_eq_some_iff.1 Z.out).1 hw)
      clear Z
      clear bg nr qb1 qb2 qap HbW O9
      have HbW := HbW'
      have Z := Z'
      clear HbW' Z'
      go_wp2_with fail
      refine hK.out _ _ trivial (fun _ => ?_)
      try simp only [Act.put, List.setIfInBounds_toArray, List.set_cons_zero, List.set_cons_succ]
      clear hK K
      refine wpAnyH_take (i := 9) (v := ?_) opAt_9 (by kernel_rfl) (by kernel_rfl) (by kernel_rfl) (fun _ _ _ h => h) (Or.inl ⟨by rfl, ?_⟩) trivial ?_
      rotate_left
      · (intro w hSw; go_simp; try with_reducible rfl)
      try simp only [Act.put, List.setIfInBounds_toArray, List.set_cons_zero, List.set_cons_succ]
      refine wpAnyH_take (i := 10) (v := ?_) opAt_10 (by kernel_rfl) (by kernel_rfl) (by kernel_rfl) (fun _ _ _ h => h) (Or.inl ⟨by rfl, ?_⟩) trivial ?_
      rotate_left
      · (intro w hSw; go_simp; try with_reducible rfl)
      try simp only [Act.put, List.setIfInBounds_toArray, List.set_cons_zero, List.set_cons_succ]
      refine wpAnyH_take (i := 11) (v := ?_) opAt_11 (by kernel_rfl) (by kernel_rfl) (by kernel_rfl) (fun _ _ _ h => h) (Or.inl ⟨by rfl, ?_⟩) trivial ?_
      rotate_left
      · (intro w hSw; go_simp; try with_reducible rfl)
      try simp only [Act.put, List.setIfInBounds_toArray, List.set_cons_zero, List.set_cons_succ]
      refine wpAnyH_take (i := 12) (v := ?_) opAt_12 (by kernel_rfl) (by kernel_rfl) (by kernel_rfl) (fun _ _ _ h => h) (Or.inl ⟨by rfl, ?_⟩) trivial ?_
      rotate_left
      · (intro w hSw; go_simp; try with_reducible rfl)
      try simp only [Act.put, List.setIfInBounds_toArray, List.set_cons_zero, List.set_cons_succ]
      obtain ⟨x0, x1, x2, x3, x4, x5⟩ := box6h Z.out
      obtain ⟨d0, d1, d2, d3, d4, d5⟩ := box6hf Z.out
      have HZ6 := Lib.hid (set6_at Z.out (.int .u64 r.seq) (.int .i64 r.kind) (.slice C1 r.key.length k1) (.slice C2 r.val.length k2) (.int .u32 r.seg) (.int .u32 r.off))
      have HW6 := Lib.hid (set6_below HbW.out HgZ.out (.int .u64 r.seq) (.int .i64 r.kind) (.slice C1 r.key.length k1) (.slice C2 r.val.length k2) (.int .u32 r.seg) (.int .u32 r.off))
      have HS6 := Lib.hid (set6_size (w := W4) (g := gz) (.int .u64 r.seq) (.int .i64 r.kind) (.slice C1 r.key.length k1) (.slice C2 r.val.length k2) (.int .u32 r.seg) (.int .u32 r.off))
      have HQ1 := Lib.hid (QB1.out (set6 W4 gz (.int .u64 r.seq) (.int .i64 r.kind) (.slice C1 r.key.length k1) (.slice C2 r.val.length k2) (.int .u32 r.seg) (.int .u32 r.off)) (fun kk hkk => set6_other hkk _ _ _ _ _ _))
      refine wpAnyH_ready (rs := [14]) (by kernel_rfl) (by simp) ?_
      refine AllReadyH.cons rfl (fun K hK => ?_) AllReadyH.nil
      go_simp
      change K _ (set6 W4 gz _ _ _ _ _ _)
      generalize set6 W4 gz (.int .u64 r.seq) (.int .i64 r.kind) (.slice C1 r.key.length k1) (.slice C2 r.val.length k2) (.int .u32 r.seg) (.int .u32 r.off) = W6 at *
      refine hK.out _ _ trivial (fun _ => ?_)
      try simp only [Act.put, List.setIfInBounds_toArray, List.set_cons_zero, List.set_cons_succ]
      clear hK K
      refine wpAnyH_take (i := 15) (v := ?_) opAt_15 (by kernel_rfl) (by kernel_rfl) (by kernel_rfl) (fun _ _ _ h => h) (Or.inl ⟨by rfl, ?_⟩) trivial ?_
      rotate_left
      · (intro w hSw; go_simp; try with_reducible rfl)
      try simp only [Act.put, List.setIfInBounds_toArray, List.set_cons_zero, List.set_cons_succ]
      refine wpAnyH_take (i := 16) (v := ?_) opAt_16 (by kernel_rfl) (by kernel_rfl) (by kernel_rfl) (fun _ _ _ h => h) (Or.inl ⟨by rfl, ?_⟩) trivial ?_
      rotate_left
      · (intro w hSw; go_simp; try with_reducible rfl)
      try simp only [Act.put, List.setIfInBounds_toArray, List.set_cons_zero, List.set_cons_succ]
      refine wpAnyH_done (by kernel_rfl) ?_ _
      refine NoPanic.normal ?_
      go_wp2_with fail
      go_meet
      case rel => exact ⟨gz, rfl, rfl, rfl, ⟨_, _, _, _, HZ6.out, (HQ1.out.1).mono (by rw [HS6.out]; exact Nat.le_refl _), (HQ1.out.2).mono (by rw [HS6.out]; exact Nat.le_refl _)⟩, HW6.out⟩
  case rest =>
    obtain ⟨gz, rfl, rfl, rfl, hbz, hbw⟩ := hcut
    have X8 := Lib.hid ((hbw.block w.heap.size (Array.getElem?_eq_some_iff.1 X7.out).1).trans X7.out)
    have R8 := Lib.hid (R7.out.on hbw)
    have HW8 := Lib.hid hbw
    obtain ⟨C1, d1, C2, d2, ⟨x0, x1, x2, x3, x4, x5⟩, hrz⟩ := hbz.cells
    obtain ⟨e0, e1, e2, e3, e4, e5⟩ := box6h X8.out
    have hc := rsame_b _ _ r r _ _ hrz R8.out (Nat.le_refl _)
    rw [Rc.sameB_self] at hc
    clear hbw hbz
    go_wp2_with fail
    clear e0 e1 e2 e3 e4 e5 x0 x1 x2 x3 x4 x5
    refine hc.mono ?_
    rintro e w9 ⟨rfl, b9⟩
    have HW9 := Lib.hid (bstep HW8.out b9)
    clear hc b9 HW8 R8 X8 hrz
    go_wp2_with fail
    go_loopg [12] N (fun k i wr => ∃ j : Nat, j + k = N ∧ i = .int .i64 j ∧ Below w7.heap.size w7 wr)
    case atStart => exact ⟨0, by omega, rfl, HW9.out⟩
    case round =>
      obtain ⟨j, hj, rfl, hbr⟩ := hrel
      have HBR := Lib.hid hbr
      clear hbr
      by_cases hlt : j < N
      · by_cases hsk : 200 < N ∧ 40 < j ∧ j % 37 ≠ 0 ∧ j < N - 20
        · obtain ⟨t1, t2, t3, t4⟩ := hsk
          have u3 : ((j : Int) % 37 != 0) = true := by simp; omega
          have u4 : (j : Int) < (N : Int) - 20 := by omega
          go_wp2_with fail
          go_roundg (gk - 1)
          case measure => omega
          case rel => exact ⟨j + 1, by omega, by go_num, HBR.out⟩
        · obtain ⟨A9, m9, c9, cut9, s9⟩ := cut_take S7.out j j rfl (by rw [hNl.out]; omega)
          have hs9 := s9 wr w7.heap.size (S7.out.below HBR.out (Nat.le_refl _))
          have hget := rget_q _ _ w7.heap.size wr hs9 HBR.out.size (by rw [List.length_take]; omega) (HT7.out.on HBR.out) _ _ _ (HTN.out j hlt)
          have HGET := Lib.hid hget
          clear s9 hs9 hget
          have hpass : (decide ((200 : Int) < (N : Int)) = false) ∨ (decide ((200 : Int) < (N : Int)) = true ∧ decide ((40 : Int) < (j : Int)) = false) ∨ (decide ((200 : Int) < (N : Int)) = true ∧ decide ((40 : Int) < (j : Int)) = true ∧ ((j : Int) % 37 != 0) = false) ∨
              (decide ((200 : Int) < (N : Int)) = true ∧ decide ((40 : Int) < (j : Int)) = true ∧ ((j : Int) % 37 != 0) = true ∧ decide ((j : Int) < (N : Int) - 20) = false) := by
            simp
            omega
          clear hsk
          rcases hpass with t1 | ⟨t1, t2⟩ | ⟨t1, t2, t3⟩ | ⟨t1, t2, t3, t4⟩
          all_goals
            go_wp2_with fail
            refine HGET.out.mono ?_
            rintro e w10 ⟨rv, rfl, nr, b10⟩
            obtain ⟨C3, d3, C4, d4, rfl, qb1, qb2⟩ := nr.rec.form
            have b11 := bnew w10 (.cells #[.int .u64 Rc.none.seq, .int .i64 Rc.none.kind, .slice C3 Rc.none.key.length d3, .slice C4 Rc.none.val.length d4, .int .u32 Rc.none.seg, .int .u32 Rc.none.off] 28)
            have hrn : RecV (w10.alloc (.cells #[.int .u64 Rc.none.seq, .int .i64 Rc.none.kind, .slice C3 Rc.none.key.length d3, .slice C4 Rc.none.val.length d4, .int .u32 Rc.none.seg, .int .u32 Rc.none.off] 28)) _ _ Rc.none := (nr.rec).on b11
            have hc := rsame_b _ _ _ _ _ _ hrn (RecV.none_) (Nat.le_refl _)
            rw [Rc.sameB_self] at hc
            have HC := Lib.hid hc
            have HB11 := Lib.hid (bstep (HBR.out.trans (b10.mono HBR.out.size)) b11)
            clear b10 b11 hrn hc nr qb1 qb2
            go_wp2_with fail
            refine HC.out.mono ?_
            rintro e w12 ⟨rfl, b12⟩
            go_wp2_with fail
            go_roundg (gk - 1)
            case measure => omega
            case rel => exact ⟨j + 1, by omega, by go_num, bstep HB11.out b12⟩
      · obtain rfl : j = N := by omega
        have Y9 := Lib.hid ((HBR.out.block (w.heap.size + 1) (Array.getElem?_eq_some_iff.1 Y7.out).1).trans Y7.out)
        have hbw := bstep HB7.out HBR.out
        have hf2 : Rc.Fit (Rc.few r2) := ⟨F2.out.seq0, F2.out.seq1, F2.out.kind0, F2.out.kind1, F2.out.seg0, F2.out.seg1, F2.out.off0, F2.out.off1, by simp [Rc.few]; omega, by simp [Rc.few]; omega⟩
        obtain ⟨e0, e1, e2, e3, e4, e5⟩ := box6h Y9.out
        have hfew := few_b _ r2 w.heap.size wr ((H2.out).below hbw (Nat.le_refl _)) hbw.size F2.out
        have HFEW := Lib.hid hfew
        have HBW := Lib.hid hbw
        have HF2 := Lib.hid hf2
        generalize Rc.few r2 = q2 at *
        clear hfew hbw hf2
        go_wp2_with fail
        clear e0 e1 e2 e3 e4 e5
        refine HFEW.out.mono ?_
        rintro e w13 ⟨v13, rfl, hr13, b13⟩
        have hr13' := hr13
        obtain ⟨P4, p4, P4', p4', rfl, _, _⟩ := hr13.form
        have hx := (b13.block (w.heap.size + 1) (Array.getElem?_eq_some_iff.1 Y9.out).1).trans Y9.out
        obtain ⟨e0, e1, e2, e3, e4, e5⟩ := box6h hx
        obtain ⟨f0, f1, f2, f3, f4, f5⟩ := box6hf hx
        have hx4 := set6_at hx (.int .u64 q2.seq) (.int .i64 q2.kind) (.slice P4 q2.key.length p4) (.slice P4' q2.val.length p4') (.int .u32 q2.seg) (.int .u32 q2.off)
        have hb4 := set6_below (bstep HBW.out b13) (Nat.le_succ _) (.int .u64 q2.seq) (.int .i64 q2.kind) (.slice P4 q2.key.length p4) (.slice P4' q2.val.length p4') (.int .u32 q2.seg) (.int .u32 q2.off)
        have hr4 := (hr13.below (set6_below (Below.refl w.heap.size w13) (Nat.le_succ _) (.int .u64 q2.seq) (.int .i64 q2.kind) (.slice P4 q2.key.length p4) (.slice P4' q2.val.length p4') (.int .u32 q2.seg) (.int .u32 q2.off)) (Nat.le_refl _))
        clear hx hr13 hr13' b13
        go_wp2_with fail
        clear e0 e1 e2 e3 e4 e5 f0 f1 f2 f3 f4 f5
        change Calls _ _ _ (set6 w13 (w.heap.size + 1) _ _ _ _ _ _) _
        generalize set6 w13 (w.heap.size + 1) (.int .u64 q2.seq) (.int .i64 q2.kind) (.slice P4 q2.key.length p4) (.slice P4' q2.val.length p4') (.int .u32 q2.seg) (.int .u32 q2.off) = W14 at *
        have HX4 := Lib.hid hx4
        have HB4 := Lib.hid hb4
        have HR4 := Lib.hid hr4
        clear hx4 hb4 hr4
        cases hm2 : Rc.mayB q2
        · refine (rput_no _ q2 _ W14 HR4.out HB4.out.size HF2.out hm2).mono ?_
          rintro e w15 ⟨rfl, b15⟩
          obtain ⟨e0, e1, e2, e3, e4, e5⟩ := box6h ((b15.block (w.heap.size + 1) (Array.getElem?_eq_some_iff.1 HX4.out).1).trans HX4.out)
          have hc := rmay_b _ q2 _ w15 (HR4.out.below b15 HB4.out.size) (bstep HB4.out b15).size HF2.out
          rw [hm2] at hc
          have HC := Lib.hid hc
          have HB15 := Lib.hid (bstep HB4.out b15)
          clear hm2 hc b15
          go_wp2_with fail
          clear e0 e1 e2 e3 e4 e5
          refine HC.out.mono ?_
          rintro e w16 ⟨rfl, b16⟩
          have HB16 := Lib.hid (bstep HB15.out b16)
          go_wp2_with fail
          refine (knows_r _ (HT.out.on HB16.out)).mono ?_
          rintro e w17 ⟨rfl, b17⟩
          go_wp2_with fail
          go_ret
          exact ⟨rfl, bstep HB16.out b17⟩
        · refine (rput_ok _ q2 _ W14 HR4.out HB4.out.size hm2 (HT.out.on HB4.out)).mono ?_
          rintro e w15 ⟨v15, rfl, hown15, b15⟩
          obtain ⟨e0, e1, e2, e3, e4, e5⟩ := box6h ((b15.block (w.heap.size + 1) (Array.getElem?_eq_some_iff.1 HX4.out).1).trans HX4.out)
          have hc := rmay_b _ q2 _ w15 (HR4.out.below b15 HB4.out.size) (bstep HB4.out b15).size HF2.out
          rw [hm2] at hc
          have HC := Lib.hid hc
          have HB15 := Lib.hid (bstep HB4.out b15)
          clear hm2 hc b15 hown15
          go_wp2_with fail
          clear e0 e1 e2 e3 e4 e5
          refine HC.out.mono ?_
          rintro e w16 ⟨rfl, b16⟩
          have HB16 := Lib.hid (bstep HB15.out b16)
          go_wp2_with fail
          refine (knows_r _ (HT.out.on HB16.out)).mono ?_
          rintro e w17 ⟨rfl, b17⟩
          go_wp2_with fail
          go_ret
          exact ⟨rfl, bstep HB16.out b17⟩

end Go.Proofs.YtmiljicohnfejaaDoor.recordTorn
