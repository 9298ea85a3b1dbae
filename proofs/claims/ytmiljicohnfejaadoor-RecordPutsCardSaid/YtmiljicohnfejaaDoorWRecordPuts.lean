
/-
  The walk of the law RecordPuts: it returns true, and writes nothing that was there.
-/
import Derived.Test.YtmiljicohnfejaaDoorRcRefSame
import Derived.Test.YtmiljicohnfejaaDoorOrdL
import Derived.OpenShut
set_option linter.unusedVariables false
set_option linter.unusedSimpArgs false
namespace Go.Proofs.YtmiljicohnfejaaDoor.recordPuts
open Go.RowKit

theorem few_few (r : Rc.Rec) : Rc.few (Rc.few r) = Rc.few r := by
  simp [Rc.few, List.take_take]
theorem few_fit {r : Rc.Rec} (f : Rc.Fit r) : Rc.Fit (Rc.few r) := ⟨f.seq0, f.seq1, f.kind0, f.kind1, f.seg0, f.seg1, f.off0, f.off1, by simp [Rc.few]; omega, by simp [Rc.few]; omega⟩
theorem few_len (r : Rc.Rec) : (Rc.few r).key.length ≤ 80 ∧ (Rc.few r).val.length ≤ 1100 := by
  constructor <;> simp [Rc.few] <;> omega
set_option maxRecDepth 100000 in
set_option maxHeartbeats 16000000 in
theorem walk (v0 : Value) (r0 : Rc.Rec) (v1 : Value) (r1 : Rc.Rec) (w : World) (h0 : RecV w w.heap.size v0 r0) (f0 : Rc.Fit r0) (h1 : RecV w w.heap.size v1 r1) (f1 : Rc.Fit r1) (ht : RTab w) :
    Calls Tryd.prog 3 #[v0, v1] w fun e w' => e = .returned (.bool true) ∧ Below w.heap.size w w' := by
  obtain ⟨P0, p0, P0', p0', rfl, hb0, hb0'⟩ := h0.form
  obtain ⟨P1, p1, P1', p1', rfl, hb1, hb1'⟩ := h1.form
  have b1 := balloc (bnew w (.cells #[.int .u64 r0.seq, .int .i64 r0.kind, .slice P0 r0.key.length p0, .slice P0' r0.val.length p0', .int .u32 r0.seg, .int .u32 r0.off] 28)) (.cells #[.int .u64 r1.seq, .int .i64 r1.kind, .slice P1 r1.key.length p1, .slice P1' r1.val.length p1', .int .u32 r1.seg, .int .u32 r1.off] 28)
  have hx0 := ((bnew (w.alloc (.cells #[.int .u64 r0.seq, .int .i64 r0.kind, .slice P0 r0.key.length p0, .slice P0' r0.val.length p0', .int .u32 r0.seg, .int .u32 r0.off] 28)) (.cells #[.int .u64 r1.seq, .int .i64 r1.kind, .slice P1 r1.key.length p1, .slice P1' r1.val.length p1', .int .u32 r1.seg, .int .u32 r1.off] 28)).block w.heap.size (by simp)).trans (heap_alloc_new w (.cells #[.int .u64 r0.seq, .int .i64 r0.kind, .slice P0 r0.key.length p0, .slice P0' r0.val.length p0', .int .u32 r0.seg, .int .u32 r0.off] 28))
  have hy0 := heap_alloc_new (w.alloc (.cells #[.int .u64 r0.seq, .int .i64 r0.kind, .slice P0 r0.key.length p0, .slice P0' r0.val.length p0', .int .u32 r0.seg, .int .u32 r0.off] 28)) (.cells #[.int .u64 r1.seq, .int .i64 r1.kind, .slice P1 r1.key.length p1, .slice P1' r1.val.length p1', .int .u32 r1.seg, .int .u32 r1.off] 28)
  rw [World.size_alloc] at hy0
  have hff0 := few_fit f0
  have hfl0 := few_len r0
  have hff1 := few_fit f1
  have hrr := few_few r0
  have Hf0 := Lib.hid (fun w' (hb : Below w.heap.size w w') => few_b _ r0 w.heap.size w' (h0.below hb (Nat.le_refl _)) hb.size f0)
  have Hf1 := Lib.hid (fun w' (hb : Below w.heap.size w w') => few_b _ r1 w.heap.size w' (h1.below hb (Nat.le_refl _)) hb.size f1)
  generalize Rc.few r0 = r at *
  generalize Rc.few r1 = q at *
  have FR := Lib.hid hff0
  have FQ := Lib.hid hff1
  have HRR := Lib.hid hrr
  have HT := Lib.hid ht
  have HX0 := Lib.hid hx0
  have HY0 := Lib.hid hy0
  have B1 := Lib.hid b1
  have HFL := Lib.hid hfl0
  clear h0 h1 hb0 hb0' hb1 hb1' f0 f1 ht hff0 hff1 hrr hx0 hy0 b1 hfl0
  go_enter Tryd.func3, Tryd.ntmps3
  go_wp2_with fail
  refine OrdL.wpL_region (fun w' => (w'.cell? ⟨w.heap.size, 0, none⟩ = some (.int .u64 r0.seq) ∧ w'.cell? ⟨w.heap.size, 1, none⟩ = some (.int .i64 r0.kind) ∧ w'.cell? ⟨w.heap.size, 2, none⟩ = some (.slice P0 r0.key.length p0) ∧ w'.cell? ⟨w.heap.size, 3, none⟩ = some (.slice P0' r0.val.length p0') ∧ w'.cell? ⟨w.heap.size, 4, none⟩ = some (.int .u32 r0.seg) ∧ w'.cell? ⟨w.heap.size, 5, none⟩ = some (.int .u32 r0.off)) ∧ (w'.cell? ⟨w.heap.size + 1, 0, none⟩ = some (.int .u64 r1.seq) ∧ w'.cell? ⟨w.heap.size + 1, 1, none⟩ = some (.int .i64 r1.kind) ∧ w'.cell? ⟨w.heap.size + 1, 2, none⟩ = some (.slice P1 r1.key.length p1) ∧ w'.cell? ⟨w.heap.size + 1, 3, none⟩ = some (.slice P1' r1.val.length p1') ∧ w'.cell? ⟨w.heap.size + 1, 4, none⟩ = some (.int .u32 r1.seg) ∧ w'.cell? ⟨w.heap.size + 1, 5, none⟩ = some (.int .u32 r1.off))) 4 (by kernel_rfl) ?_
  have HS := Lib.hid (show ∀ W, Below ((w.alloc (.cells #[.int .u64 r0.seq, .int .i64 r0.kind, .slice P0 r0.key.length p0, .slice P0' r0.val.length p0', .int .u32 r0.seg, .int .u32 r0.off] 28)).alloc (.cells #[.int .u64 r1.seq, .int .i64 r1.kind, .slice P1 r1.key.length p1, .slice P1' r1.val.length p1', .int .u32 r1.seg, .int .u32 r1.off] 28)).heap.size ((w.alloc (.cells #[.int .u64 r0.seq, .int .i64 r0.kind, .slice P0 r0.key.length p0, .slice P0' r0.val.length p0', .int .u32 r0.seg, .int .u32 r0.off] 28)).alloc (.cells #[.int .u64 r1.seq, .int .i64 r1.kind, .slice P1 r1.key.length p1, .slice P1' r1.val.length p1', .int .u32 r1.seg, .int .u32 r1.off] 28)) W → ((W.cell? ⟨w.heap.size, 0, none⟩ = some (.int .u64 r0.seq) ∧ W.cell? ⟨w.heap.size, 1, none⟩ = some (.int .i64 r0.kind) ∧ W.cell? ⟨w.heap.size, 2, none⟩ = some (.slice P0 r0.key.length p0) ∧ W.cell? ⟨w.heap.size, 3, none⟩ = some (.slice P0' r0.val.length p0') ∧ W.cell? ⟨w.heap.size, 4, none⟩ = some (.int .u32 r0.seg) ∧ W.cell? ⟨w.heap.size, 5, none⟩ = some (.int .u32 r0.off)) ∧ (W.cell? ⟨w.heap.size + 1, 0, none⟩ = some (.int .u64 r1.seq) ∧ W.cell? ⟨w.heap.size + 1, 1, none⟩ = some (.int .i64 r1.kind) ∧ W.cell? ⟨w.heap.size + 1, 2, none⟩ = some (.slice P1 r1.key.length p1) ∧ W.cell? ⟨w.heap.size + 1, 3, none⟩ = some (.slice P1' r1.val.length p1') ∧ W.cell? ⟨w.heap.size + 1, 4, none⟩ = some (.int .u32 r1.seg) ∧ W.cell? ⟨w.heap.size + 1, 5, none⟩ = some (.int .u32 r1.off))) from fun W hW => ⟨box6h ((hW.block w.heap.size (by simp; omega)).trans HX0.out), box6h ((hW.block (w.heap.size + 1) (by simp)).trans HY0.out)⟩)
  have HbW := Lib.hid ((Below.refl ((w.alloc (.cells #[.int .u64 r0.seq, .int .i64 r0.kind, .slice P0 r0.key.length p0, .slice P0' r0.val.length p0', .int .u32 r0.seg, .int .u32 r0.off] 28)).alloc (.cells #[.int .u64 r1.seq, .int .i64 r1.kind, .slice P1 r1.key.length p1, .slice P1' r1.val.length p1', .int .u32 r1.seg, .int .u32 r1.off] 28)).heap.size ((w.alloc (.cells #[.int .u64 r0.seq, .int .i64 r0.kind, .slice P0 r0.key.length p0, .slice P0' r0.val.length p0', .int .u32 r0.seg, .int .u32 r0.off] 28)).alloc (.cells #[.int .u64 r1.seq, .int .i64 r1.kind, .slice P1 r1.key.length p1, .slice P1' r1.val.length p1', .int .u32 r1.seg, .int .u32 r1.off] 28))).drew)
  generalize hWW : World.drew _ = W at *
  clear hWW
  have hHeld := HS.out W HbW.out
  refine OrdL.wpL_take (i := 0) (v := ?_) opAt_0 [] (by kernel_rfl) (by kernel_rfl) (by kernel_rfl) (by kernel_rfl) (by kernel_rfl) (by kernel_rfl) (fun _ _ _ h => h) (Or.inl ⟨by rfl, ?_⟩) hHeld ?_
  rotate_left
  · (intro w' hSw; go_simp; try with_reducible rfl)
  try simp only [Act.put, List.setIfInBounds_toArray, List.set_cons_zero, List.set_cons_succ]
  refine OrdL.wpL_take (i := 2) (v := ?_) opAt_2 [3] (by kernel_rfl) (by kernel_rfl) (by kernel_rfl) (by kernel_rfl) (by kernel_rfl) (by kernel_rfl) (fun _ _ _ h => h) (Or.inl ⟨by rfl, ?_⟩) hHeld ?_
  rotate_left
  · (intro w' hSw; go_simp; try with_reducible rfl)
  try simp only [Act.put, List.setIfInBounds_toArray, List.set_cons_zero, List.set_cons_succ]
  refine OrdL.wpL_ready (rs := [1]) (by kernel_rfl) (by simp) ?_
  refine OrdL.AllL.cons rfl (fun K hK => ?_) OrdL.AllL.nil
  go_simp
  refine (Hf0.out W (B1.out.trans (HbW.out.mono B1.out.size))).mono ?_
  rintro e wa ⟨va, rfl, hra, ba⟩
  obtain ⟨P2, p2, P2', p2', rfl, _, _⟩ := hra.form
  have HbA := Lib.hid (HbW.out.trans (ba.mono HbW.out.size))
  have HRa := Lib.hid hra
  clear ba hra hHeld
  have hHeld := HS.out wa HbA.out
  refine hK.out _ _ (fun _ => hHeld) ?_
  clear hK K
  try simp only [Act.put, List.setIfInBounds_toArray, List.set_cons_zero, List.set_cons_succ]
  refine OrdL.wpL_ready (rs := [3]) (by kernel_rfl) (by simp) ?_
  refine OrdL.AllL.cons rfl (fun K hK => ?_) OrdL.AllL.nil
  go_simp
  refine (Hf1.out wa (B1.out.trans (HbA.out.mono B1.out.size))).mono ?_
  rintro e wb ⟨vb, rfl, hrb, bb⟩
  obtain ⟨P3, p3, P3', p3', rfl, _, _⟩ := hrb.form
  have HbB := Lib.hid (HbA.out.trans (bb.mono HbA.out.size))
  have HRb := Lib.hid hrb
  have HRa' := Lib.hid (HRa.out.below bb (B1.out.trans (HbA.out.mono B1.out.size)).size)
  clear bb hrb hHeld
  have hHeld := HS.out wb HbB.out
  refine hK.out _ _ (fun _ => hHeld) ?_
  clear hK K
  try simp only [Act.put, List.setIfInBounds_toArray, List.set_cons_zero, List.set_cons_succ]
  refine OrdL.wpL_ready (rs := [4]) (by kernel_rfl) (by simp) ?_
  refine OrdL.AllL.cons rfl (fun K hK => ?_) OrdL.AllL.nil
  have hx1 := (HbB.out.block w.heap.size (by simp; omega)).trans HX0.out
  have hy1 := (HbB.out.block (w.heap.size + 1) (by simp)).trans HY0.out
  obtain ⟨d0, d1, d2, d3, d4, d5⟩ := box6hf hx1
  obtain ⟨e0, e1, e2, e3, e4, e5⟩ := box6h hx1
  go_simp
  refine hK.out _ (set6 wb (w.heap.size) (.int .u64 r.seq) (.int .i64 r.kind) (.slice P2 r.key.length p2) (.slice P2' r.val.length p2') (.int .u32 r.seg) (.int .u32 r.off)) (fun h => absurd h (by decide)) ?_
  clear hK K d0 d1 d2 d3 d4 d5 e0 e1 e2 e3 e4 e5
  have hx2 := set6_at hx1 (.int .u64 r.seq) (.int .i64 r.kind) (.slice P2 r.key.length p2) (.slice P2' r.val.length p2') (.int .u32 r.seg) (.int .u32 r.off)
  have hy2 := (set6_other (w := wb) (g := w.heap.size) (k := w.heap.size + 1) (by omega) (.int .u64 r.seq) (.int .i64 r.kind) (.slice P2 r.key.length p2) (.slice P2' r.val.length p2') (.int .u32 r.seg) (.int .u32 r.off)).trans hy1
  have hB2 := set6_below (B1.out.trans (HbB.out.mono B1.out.size)) (Nat.le_refl _) (.int .u64 r.seq) (.int .i64 r.kind) (.slice P2 r.key.length p2) (.slice P2' r.val.length p2') (.int .u32 r.seg) (.int .u32 r.off)
  have hBB2 := set6_below (Below.refl w.heap.size wb) (B1.out.trans (HbB.out.mono B1.out.size)).size (.int .u64 r.seq) (.int .i64 r.kind) (.slice P2 r.key.length p2) (.slice P2' r.val.length p2') (.int .u32 r.seg) (.int .u32 r.off)
  have hBB2' := set6_below (Below.refl w.heap.size wb) (Nat.le_refl w.heap.size) (.int .u64 r.seq) (.int .i64 r.kind) (.slice P2 r.key.length p2) (.slice P2' r.val.length p2') (.int .u32 r.seg) (.int .u32 r.off)
  clear hBB2 hHeld
  generalize set6 wb w.heap.size (.int .u64 r.seq) (.int .i64 r.kind) (.slice P2 r.key.length p2) (.slice P2' r.val.length p2') (.int .u32 r.seg) (.int .u32 r.off) = wc at *
  try simp only [Act.put, List.setIfInBounds_toArray, List.set_cons_zero, List.set_cons_succ]
  refine OrdL.wpL_ready (rs := [5]) (by kernel_rfl) (by simp) ?_
  refine OrdL.AllL.cons rfl (fun K hK => ?_) OrdL.AllL.nil
  obtain ⟨d0, d1, d2, d3, d4, d5⟩ := box6hf hy2
  obtain ⟨e0, e1, e2, e3, e4, e5⟩ := box6h hy2
  go_simp
  refine hK.out _ (set6 wc (w.heap.size + 1) (.int .u64 q.seq) (.int .i64 q.kind) (.slice P3 q.key.length p3) (.slice P3' q.val.length p3') (.int .u32 q.seg) (.int .u32 q.off)) (fun h => absurd h (by decide)) ?_
  clear hK K d0 d1 d2 d3 d4 d5 e0 e1 e2 e3 e4 e5
  have hy3 := set6_at hy2 (.int .u64 q.seq) (.int .i64 q.kind) (.slice P3 q.key.length p3) (.slice P3' q.val.length p3') (.int .u32 q.seg) (.int .u32 q.off)
  have hx3 := (set6_other (w := wc) (g := w.heap.size + 1) (k := w.heap.size) (by omega) (.int .u64 q.seq) (.int .i64 q.kind) (.slice P3 q.key.length p3) (.slice P3' q.val.length p3') (.int .u32 q.seg) (.int .u32 q.off)).trans hx2
  have hB3 := set6_below hB2 (Nat.le_succ _) (.int .u64 q.seq) (.int .i64 q.kind) (.slice P3 q.key.length p3) (.slice P3' q.val.length p3') (.int .u32 q.seg) (.int .u32 q.off)
  have hBB3 := hBB2'.trans (set6_below (Below.refl w.heap.size wc) (Nat.le_succ _) (.int .u64 q.seq) (.int .i64 q.kind) (.slice P3 q.key.length p3) (.slice P3' q.val.length p3') (.int .u32 q.seg) (.int .u32 q.off))
  clear hBB2' hB2 hx1 hy1 hx2 hy2
  generalize set6 wc (w.heap.size + 1) (.int .u64 q.seq) (.int .i64 q.kind) (.slice P3 q.key.length p3) (.slice P3' q.val.length p3') (.int .u32 q.seg) (.int .u32 q.off) = wd at *
  try simp only [Act.put, List.setIfInBounds_toArray, List.set_cons_zero, List.set_cons_succ]
  refine OrdL.wpL_done (by kernel_rfl) ?_ _
  have RD := Lib.hid (HRa'.out.below hBB3 (Nat.le_refl _))
  have QD := Lib.hid (HRb.out.below hBB3 (Nat.le_refl _))
  have XD := Lib.hid hx3
  have YD := Lib.hid hy3
  have HBD := Lib.hid hB3
  clear hBB3 hx3 hy3 hB3 HRa HRa' HRb HbW HbA HbB HS Hf0 Hf1
  obtain ⟨e0, e1, e2, e3, e4, e5⟩ := box6h XD.out
  go_wp2_with fail
  clear e0 e1 e2 e3 e4 e5
  have hkl : Hid (((Rc.sizeN r : Nat) : Int) = 25 + (r.key.length : Int) + (r.val.length : Int)) := Lib.hid (by unfold Rc.sizeN; omega)
  have HSZ := Lib.hid (show ∀ (v : Value) (B : Nat) (w : World), RecV w B v r → Calls Tryd.prog 16 #[v] w fun e w' => e = .returned (.int .i64 (25 + (r.key.length : Int) + (r.val.length : Int))) ∧ Below w.heap.size w w' from fun v B w h => by
    have := rsize_b v r B w h (by have := HFL.out; omega) (by have := HFL.out; omega)
    rw [hkl.out] at this
    exact this)
  have hwr1 : IntKind.i64.wrap (25 + (r.key.length : Int)) = 25 + (r.key.length : Int) := by have := HFL.out; rw [IntKind.wrap_i64]; omega
  have hwr2 : IntKind.i64.wrap (25 + (r.key.length : Int) + (r.val.length : Int)) = 25 + (r.key.length : Int) + (r.val.length : Int) := by have := HFL.out; rw [IntKind.wrap_i64]; omega
  cases hm : Rc.mayB r
  · refine (rput_no _ r w.heap.size wd RD.out HBD.out.size FR.out hm).mono ?_
    rintro e we ⟨rfl, be⟩
    have hx4 := (be.block w.heap.size (Array.getElem?_eq_some_iff.1 XD.out).1).trans XD.out
    have hy4 := (be.block (w.heap.size + 1) (Array.getElem?_eq_some_iff.1 YD.out).1).trans YD.out
    obtain ⟨e0, e1, e2, e3, e4, e5⟩ := box6h hx4
    have BE := Lib.hid be
    have RE := Lib.hid (RD.out.below be HBD.out.size)
    have QE := Lib.hid (QD.out.below be HBD.out.size)
    have HBE := Lib.hid (bstep HBD.out be)
    have HX4 := Lib.hid hx4
    have HY4 := Lib.hid hy4
    clear be hx4 hy4
    go_wp2_with fail
    clear e0 e1 e2 e3 e4 e5
    refine (rput8_no _ r w.heap.size we RE.out HBE.out.size FR.out hm).mono ?_
    rintro e wF ⟨rfl, bf⟩
    obtain ⟨s, HCB, HCC⟩ : ∃ s, Hid (∀ w', Below wF.heap.size wF w' → (convert 23 9 (.slice none 0 0)).run Tryd.prog w' = .ok (.string s) w') ∧ Hid (∀ w', Below wF.heap.size wF w' → (convert 23 9 (.slice none 0 0)).run Tryd.prog w' = .ok (.string s) w') := ⟨_, Lib.hid (fun w' hb => conv_bs (w := wF) (B := 0) Bs.none_ hb (Nat.zero_le _)), Lib.hid (fun w' hb => conv_bs (w := wF) (B := 0) Bs.none_ hb (Nat.zero_le _))⟩
    have HX5 := Lib.hid ((bf.block w.heap.size (Array.getElem?_eq_some_iff.1 HX4.out).1).trans HX4.out)
    have HY5 := Lib.hid ((bf.block (w.heap.size + 1) (Array.getElem?_eq_some_iff.1 HY4.out).1).trans HY4.out)
    have RF := Lib.hid (RE.out.below bf HBE.out.size)
    have QF := Lib.hid (QE.out.below bf HBE.out.size)
    have HBF := Lib.hid (bstep HBE.out bf)
    have HF := Lib.hid HBF.out.size
    have HSK := Lib.hid (show ∀ W, Below wF.heap.size wF W → ((W.cell? ⟨w.heap.size, 0, none⟩ = some (.int .u64 r.seq) ∧ W.cell? ⟨w.heap.size, 1, none⟩ = some (.int .i64 r.kind) ∧ W.cell? ⟨w.heap.size, 2, none⟩ = some (.slice P2 r.key.length p2) ∧ W.cell? ⟨w.heap.size, 3, none⟩ = some (.slice P2' r.val.length p2') ∧ W.cell? ⟨w.heap.size, 4, none⟩ = some (.int .u32 r.seg) ∧ W.cell? ⟨w.heap.size, 5, none⟩ = some (.int .u32 r.off)) ∧ (W.cell? ⟨w.heap.size + 1, 0, none⟩ = some (.int .u64 q.seq) ∧ W.cell? ⟨w.heap.size + 1, 1, none⟩ = some (.int .i64 q.kind) ∧ W.cell? ⟨w.heap.size + 1, 2, none⟩ = some (.slice P3 q.key.length p3) ∧ W.cell? ⟨w.heap.size + 1, 3, none⟩ = some (.slice P3' q.val.length p3') ∧ W.cell? ⟨w.heap.size + 1, 4, none⟩ = some (.int .u32 q.seg) ∧ W.cell? ⟨w.heap.size + 1, 5, none⟩ = some (.int .u32 q.off)) ∧ (convert 23 9 (.slice none 0 0)).run Tryd.prog W = .ok (.string s) W ∧ (convert 23 9 (.slice none 0 0)).run Tryd.prog W = .ok (.string s) W) from fun W hW => ⟨box6h ((hW.block w.heap.size (Array.getElem?_eq_some_iff.1 HX5.out).1).trans HX5.out), box6h ((hW.block (w.heap.size + 1) (Array.getElem?_eq_some_iff.1 HY5.out).1).trans HY5.out), HCB.out W hW, HCC.out W hW⟩)
    clear bf hm HX4 HY4 HX5 HY5 RE QE HBE BE XD YD RD QD HBD HCB HCC
    go_wp2_with fail
    refine wp_region_noPanic ?_
    have HbW := Lib.hid ((Below.refl wF.heap.size wF).drew)
    refine wp_region_held_drew (S := fun w' => (w'.cell? ⟨w.heap.size, 0, none⟩ = some (.int .u64 r.seq) ∧ w'.cell? ⟨w.heap.size, 1, none⟩ = some (.int .i64 r.kind) ∧ w'.cell? ⟨w.heap.size, 2, none⟩ = some (.slice P2 r.key.length p2) ∧ w'.cell? ⟨w.heap.size, 3, none⟩ = some (.slice P2' r.val.length p2') ∧ w'.cell? ⟨w.heap.size, 4, none⟩ = some (.int .u32 r.seg) ∧ w'.cell? ⟨w.heap.size, 5, none⟩ = some (.int .u32 r.off)) ∧ (w'.cell? ⟨w.heap.size + 1, 0, none⟩ = some (.int .u64 q.seq) ∧ w'.cell? ⟨w.heap.size + 1, 1, none⟩ = some (.int .i64 q.kind) ∧ w'.cell? ⟨w.heap.size + 1, 2, none⟩ = some (.slice P3 q.key.length p3) ∧ w'.cell? ⟨w.heap.size + 1, 3, none⟩ = some (.slice P3' q.val.length p3') ∧ w'.cell? ⟨w.heap.size + 1, 4, none⟩ = some (.int .u32 q.seg) ∧ w'.cell? ⟨w.heap.size + 1, 5, none⟩ = some (.int .u32 q.off)) ∧ (convert 23 9 (.slice none 0 0)).run Tryd.prog w' = .ok (.string s) w' ∧ (convert 23 9 (.slice none 0 0)).run Tryd.prog w' = .ok (.string s) w') (by kernel_rfl) (HSK.out _ ((Below.refl _ _).drew)) (fun hHeld => ?_)
    refine wpAnyH_take (i := 0) (v := ?_) opAt_0 (by kernel_rfl) (by kernel_rfl) (by kernel_rfl) (fun _ _ _ h => h) (Or.inl ⟨by rfl, ?_⟩) (by assumption) ?_
    rotate_left
    · (intro w hSw; (try dsimp only at hSw); go_simp; try with_reducible rfl)
    try simp only [Act.put, List.setIfInBounds_toArray, List.set_cons_zero, List.set_cons_succ]
    refine wpAnyH_take (i := 1) (v := ?_) opAt_1 (by kernel_rfl) (by kernel_rfl) (by kernel_rfl) (fun _ _ _ h => h) (Or.inl ⟨by rfl, ?_⟩) (by assumption) ?_
    rotate_left
    · (intro w hSw; (try dsimp only at hSw); go_simp; try with_reducible rfl)
    try simp only [Act.put, List.setIfInBounds_toArray, List.set_cons_zero, List.set_cons_succ]
    refine wpAnyH_take (i := 2) (v := ?_) opAt_2 (by kernel_rfl) (by kernel_rfl) (by kernel_rfl) (fun _ _ _ h => h) (Or.inl ⟨by rfl, ?_⟩) (by assumption) ?_
    rotate_left
    · (intro w hSw; (try dsimp only at hSw); go_simp; try with_reducible rfl)
    try simp only [Act.put, List.setIfInBounds_toArray, List.set_cons_zero, List.set_cons_succ]
    refine wpAnyH_take (i := 3) (v := ?_) opAt_3 (by kernel_rfl) (by kernel_rfl) (by kernel_rfl) (fun _ _ _ h => h) (Or.inl ⟨by rfl, ?_⟩) (by assumption) ?_
    rotate_left
    · (intro w hSw; (try dsimp only at hSw); go_simp; try with_reducible rfl)
    try simp only [Act.put, List.setIfInBounds_toArray, List.set_cons_zero, List.set_cons_succ]
    refine wpAnyH_take (i := 4) (v := ?_) opAt_4 (by kernel_rfl) (by kernel_rfl) (by kernel_rfl) (fun _ _ _ h => h) (Or.inl ⟨by rfl, ?_⟩) (by assumption) ?_
    rotate_left
    · (intro w hSw; (try dsimp only at hSw); go_simp; try with_reducible rfl)
    try simp only [Act.put, List.setIfInBounds_toArray, List.set_cons_zero, List.set_cons_succ]
    refine wpAnyH_take (i := 5) (v := ?_) opAt_5 (by kernel_rfl) (by kernel_rfl) (by kernel_rfl) (fun _ _ _ h => h) (Or.inl ⟨by rfl, ?_⟩) (by assumption) ?_
    rotate_left
    · (intro w hSw; (try dsimp only at hSw); go_simp; try with_reducible rfl)
    try simp only [Act.put, List.setIfInBounds_toArray, List.set_cons_zero, List.set_cons_succ]
    refine wpAnyH_take (i := 6) (v := ?_) opAt_6 (by kernel_rfl) (by kernel_rfl) (by kernel_rfl) (fun _ _ _ h => h) (Or.inl ⟨by rfl, ?_⟩) (by assumption) ?_
    rotate_left
    · (intro w hSw; (try dsimp only at hSw); go_simp; try with_reducible rfl)
    try simp only [Act.put, List.setIfInBounds_toArray, List.set_cons_zero, List.set_cons_succ]
    refine wpAnyH_take (i := 7) (v := ?_) opAt_7 (by kernel_rfl) (by kernel_rfl) (by kernel_rfl) (fun _ _ _ h => h) (Or.inl ⟨by rfl, ?_⟩) (by assumption) ?_
    rotate_left
    · (intro w hSw; (try dsimp only at hSw); go_simp; try with_reducible rfl)
    try simp only [Act.put, List.setIfInBounds_toArray, List.set_cons_zero, List.set_cons_succ]
    refine wpAnyH_take (i := 8) (v := ?_) opAt_8 (by kernel_rfl) (by kernel_rfl) (by kernel_rfl) (fun _ _ _ h => h) (Or.inl ⟨by rfl, ?_⟩) (by assumption) ?_
    rotate_left
    · (intro w hSw; (try dsimp only at hSw); go_simp; try with_reducible rfl)
    try simp only [Act.put, List.setIfInBounds_toArray, List.set_cons_zero, List.set_cons_succ]
    refine wpAnyH_take (i := 9) (v := ?_) opAt_9 (by kernel_rfl) (by kernel_rfl) (by kernel_rfl) (fun _ _ _ h => h) (Or.inl ⟨by rfl, ?_⟩) (by assumption) ?_
    rotate_left
    · (intro w hSw; (try dsimp only at hSw); go_simp; try with_reducible rfl)
    try simp only [Act.put, List.setIfInBounds_toArray, List.set_cons_zero, List.set_cons_succ]
    refine wpAnyH_take (i := 10) (v := ?_) opAt_10 (by kernel_rfl) (by kernel_rfl) (by kernel_rfl) (fun _ _ _ h => h) (Or.inl ⟨by rfl, ?_⟩) (by assumption) ?_
    rotate_left
    · (intro w hSw; (try dsimp only at hSw); go_simp; try with_reducible rfl)
    try simp only [Act.put, List.setIfInBounds_toArray, List.set_cons_zero, List.set_cons_succ]
    refine wpAnyH_take (i := 11) (v := ?_) opAt_11 (by kernel_rfl) (by kernel_rfl) (by kernel_rfl) (fun _ _ _ h => h) (Or.inl ⟨by rfl, ?_⟩) (by assumption) ?_
    rotate_left
    · (intro w hSw; (try dsimp only at hSw); go_simp; try with_reducible rfl)
    try simp only [Act.put, List.setIfInBounds_toArray, List.set_cons_zero, List.set_cons_succ]
    refine wpAnyH_take (i := 13) (v := ?_) opAt_13 (by kernel_rfl) (by kernel_rfl) (by kernel_rfl) (fun _ _ _ h => h) (Or.inl ⟨by rfl, ?_⟩) (by assumption) ?_
    rotate_left
    · (intro w hSw; (try dsimp only at hSw); go_simp; try with_reducible rfl)
    try simp only [Act.put, List.setIfInBounds_toArray, List.set_cons_zero, List.set_cons_succ]
    refine wpAnyH_ready (rs := [12]) (by kernel_rfl) (by simp) ?_
    refine AllReadyH.cons rfl (fun K hK => ?_) AllReadyH.nil
    go_simp
    refine (rmay_b _ r w.heap.size _ (RF.out.below HbW.out HF.out) (Nat.le_trans HF.out HbW.out.size) FR.out).mono ?_
    rintro e V1 ⟨rfl, bn⟩
    have HbN := Lib.hid (HbW.out.trans (bn.mono HbW.out.size))
    clear HbW bn
    have HbW := HbN
    clear HbN
    refine hK.out _ _ (HSK.out _ HbW.out) (fun hHeld => ?_)
    clear hK K
    try simp only [Act.put, List.setIfInBounds_toArray, List.set_cons_zero, List.set_cons_succ]
    refine wpAnyH_ready (rs := [14]) (by kernel_rfl) (by simp) ?_
    refine AllReadyH.cons rfl (fun K hK => ?_) AllReadyH.nil
    go_simp
    refine (ref8may _ r w.heap.size _ (RF.out.below HbW.out HF.out) (Nat.le_trans HF.out HbW.out.size) FR.out).mono ?_
    rintro e V2 ⟨rfl, bn⟩
    have HbN := Lib.hid (HbW.out.trans (bn.mono HbW.out.size))
    clear HbW bn
    have HbW := HbN
    clear HbN
    refine hK.out _ _ (HSK.out _ HbW.out) (fun hHeld => ?_)
    clear hK K
    try simp only [Act.put, List.setIfInBounds_toArray, List.set_cons_zero, List.set_cons_succ]
    refine wpAnyH_take (i := 15) (v := ?_) opAt_15 (by kernel_rfl) (by kernel_rfl) (by kernel_rfl) (fun _ _ _ h => h) (Or.inl ⟨by rfl, ?_⟩) (by assumption) ?_
    rotate_left
    · (intro w hSw; (try dsimp only at hSw); go_simp; try with_reducible rfl)
    try simp only [Act.put, List.setIfInBounds_toArray, List.set_cons_zero, List.set_cons_succ]
    refine wpAnyH_take (i := 16) (v := ?_) opAt_16 (by kernel_rfl) (by kernel_rfl) (by kernel_rfl) (fun _ _ _ h => h) (Or.inl ⟨by rfl, ?_⟩) (by assumption) ?_
    rotate_left
    · (intro w hSw; (try dsimp only at hSw); go_simp; try with_reducible rfl)
    try simp only [Act.put, List.setIfInBounds_toArray, List.set_cons_zero, List.set_cons_succ]
    refine wpAnyH_take (i := 17) (v := ?_) opAt_17 (by kernel_rfl) (by kernel_rfl) (by kernel_rfl) (fun _ _ _ h => h) (Or.inl ⟨by rfl, ?_⟩) (by assumption) ?_
    rotate_left
    · (intro w hSw; (try dsimp only at hSw); go_simp; try with_reducible rfl)
    try simp only [Act.put, List.setIfInBounds_toArray, List.set_cons_zero, List.set_cons_succ]
    refine wpAnyH_take (i := 18) (v := ?_) opAt_18 (by kernel_rfl) (by kernel_rfl) (by kernel_rfl) (fun _ _ _ h => h) (Or.inl ⟨by rfl, ?_⟩) (by assumption) ?_
    rotate_left
    · (intro w hSw; (try dsimp only at hSw); go_simp; try with_reducible rfl)
    try simp only [Act.put, List.setIfInBounds_toArray, List.set_cons_zero, List.set_cons_succ]
    refine wpAnyH_take (i := 19) (v := ?_) opAt_19 (by kernel_rfl) (by kernel_rfl) (by kernel_rfl) (fun _ _ _ h => h) (Or.inl ⟨by rfl, ?_⟩) (by assumption) ?_
    rotate_left
    · (intro w hSw; (try dsimp only at hSw); go_simp; try with_reducible rfl)
    try simp only [Act.put, List.setIfInBounds_toArray, List.set_cons_zero, List.set_cons_succ]
    refine wpAnyH_take (i := 21) (v := ?_) opAt_21 (by kernel_rfl) (by kernel_rfl) (by kernel_rfl) (fun _ _ _ h => h) (Or.inl ⟨by rfl, ?_⟩) (by assumption) ?_
    rotate_left
    · (intro w hSw; (try dsimp only at hSw); go_simp; try with_reducible rfl)
    try simp only [Act.put, List.setIfInBounds_toArray, List.set_cons_zero, List.set_cons_succ]
    refine wpAnyH_take (i := 22) (v := ?_) opAt_22 (by kernel_rfl) (by kernel_rfl) (by kernel_rfl) (fun _ _ _ h => h) (Or.inl ⟨by rfl, ?_⟩) (by assumption) ?_
    rotate_left
    · (intro w hSw; (try dsimp only at hSw); go_simp; try with_reducible rfl)
    try simp only [Act.put, List.setIfInBounds_toArray, List.set_cons_zero, List.set_cons_succ]
    refine wpAnyH_ready (rs := [20]) (by kernel_rfl) (by simp) ?_
    refine AllReadyH.cons rfl (fun K hK => ?_) AllReadyH.nil
    go_simp
    refine (rsame_b _ _ r q w.heap.size _ (RF.out.below HbW.out HF.out) (QF.out.below HbW.out HF.out) (Nat.le_trans HF.out HbW.out.size)).mono ?_
    rintro e V3 ⟨rfl, bn⟩
    have HbN := Lib.hid (HbW.out.trans (bn.mono HbW.out.size))
    clear HbW bn
    have HbW := HbN
    clear HbN
    refine hK.out _ _ (HSK.out _ HbW.out) (fun hHeld => ?_)
    clear hK K
    try simp only [Act.put, List.setIfInBounds_toArray, List.set_cons_zero, List.set_cons_succ]
    refine wpAnyH_ready (rs := [23]) (by kernel_rfl) (by simp) ?_
    refine AllReadyH.cons rfl (fun K hK => ?_) AllReadyH.nil
    go_simp
    refine (rsame8 _ _ r q w.heap.size _ (RF.out.below HbW.out HF.out) (QF.out.below HbW.out HF.out) (Nat.le_trans HF.out HbW.out.size)).mono ?_
    rintro e V4 ⟨rfl, bn⟩
    have HbN := Lib.hid (HbW.out.trans (bn.mono HbW.out.size))
    clear HbW bn
    have HbW := HbN
    clear HbN
    refine hK.out _ _ (HSK.out _ HbW.out) (fun hHeld => ?_)
    clear hK K
    try simp only [Act.put, List.setIfInBounds_toArray, List.set_cons_zero, List.set_cons_succ]
    refine wpAnyH_take (i := 24) (v := ?_) opAt_24 (by kernel_rfl) (by kernel_rfl) (by kernel_rfl) (fun _ _ _ h => h) (Or.inl ⟨by rfl, ?_⟩) (by assumption) ?_
    rotate_left
    · (intro w hSw; (try dsimp only at hSw); go_simp; try with_reducible rfl)
    try simp only [Act.put, List.setIfInBounds_toArray, List.set_cons_zero, List.set_cons_succ]
    refine wpAnyH_take (i := 25) (v := ?_) opAt_25 (by kernel_rfl) (by kernel_rfl) (by kernel_rfl) (fun _ _ _ h => h) (Or.inl ⟨by rfl, ?_⟩) (by assumption) ?_
    rotate_left
    · (intro w hSw; (try dsimp only at hSw); go_simp; try with_reducible rfl)
    try simp only [Act.put, List.setIfInBounds_toArray, List.set_cons_zero, List.set_cons_succ]
    refine wpAnyH_take (i := 26) (v := ?_) opAt_26 (by kernel_rfl) (by kernel_rfl) (by kernel_rfl) (fun _ _ _ h => h) (Or.inl ⟨by rfl, ?_⟩) (by assumption) ?_
    rotate_left
    · (intro w hSw; (try dsimp only at hSw); go_simp; try with_reducible rfl)
    try simp only [Act.put, List.setIfInBounds_toArray, List.set_cons_zero, List.set_cons_succ]
    refine wpAnyH_take (i := 27) (v := ?_) opAt_27 (by kernel_rfl) (by kernel_rfl) (by kernel_rfl) (fun _ _ _ h => h) (Or.inl ⟨by rfl, ?_⟩) (by assumption) ?_
    rotate_left
    · (intro w hSw; (try dsimp only at hSw); go_simp; try with_reducible rfl)
    try simp only [Act.put, List.setIfInBounds_toArray, List.set_cons_zero, List.set_cons_succ]
    refine wpAnyH_take (i := 28) (v := ?_) opAt_28 (by kernel_rfl) (by kernel_rfl) (by kernel_rfl) (fun _ _ _ h => h) (Or.inl ⟨by rfl, ?_⟩) (by assumption) ?_
    rotate_left
    · (intro w hSw; (try dsimp only at hSw); go_simp; try with_reducible rfl)
    try simp only [Act.put, List.setIfInBounds_toArray, List.set_cons_zero, List.set_cons_succ]
    refine wpAnyH_ready (rs := [29]) (by kernel_rfl) (by simp) ?_
    refine AllReadyH.cons rfl (fun K hK => ?_) AllReadyH.nil
    go_simp
    refine (few_b _ r w.heap.size _ (RF.out.below HbW.out HF.out) (Nat.le_trans HF.out HbW.out.size) FR.out).mono ?_
    rintro e V5 ⟨vf, rfl, hrf, bn⟩
    rw [HRR.out] at hrf
    have HRF := Lib.hid hrf
    clear hrf
    have HbN := Lib.hid (HbW.out.trans (bn.mono HbW.out.size))
    clear HbW bn
    have HbW := HbN
    clear HbN
    refine hK.out _ _ (HSK.out _ HbW.out) (fun hHeld => ?_)
    clear hK K
    try simp only [Act.put, List.setIfInBounds_toArray, List.set_cons_zero, List.set_cons_succ]
    refine wpAnyH_ready (rs := [30]) (by kernel_rfl) (by simp) ?_
    refine AllReadyH.cons rfl (fun K hK => ?_) AllReadyH.nil
    go_simp
    have hsm := rsame_b _ _ r r w.heap.size _ (RF.out.below HbW.out HF.out) HRF.out (Nat.le_trans HF.out HbW.out.size)
    rw [Rc.sameB_self] at hsm
    refine (hsm).mono ?_
    rintro e V6 ⟨rfl, bn⟩
    clear hsm
    have HbN := Lib.hid (HbW.out.trans (bn.mono HbW.out.size))
    clear HbW bn
    have HbW := HbN
    clear HbN
    refine hK.out _ _ (HSK.out _ HbW.out) (fun hHeld => ?_)
    clear hK K
    try simp only [Act.put, List.setIfInBounds_toArray, List.set_cons_zero, List.set_cons_succ]
    refine wpAnyH_take (i := 31) (v := ?_) opAt_31 (by kernel_rfl) (by kernel_rfl) (by kernel_rfl) (fun _ _ _ h => h) (Or.inl ⟨by rfl, ?_⟩) (by assumption) ?_
    rotate_left
    · (intro w hSw; (try dsimp only at hSw); go_simp; try with_reducible rfl)
    try simp only [Act.put, List.setIfInBounds_toArray, List.set_cons_zero, List.set_cons_succ]
    refine wpAnyH_take (i := 32) (v := ?_) opAt_32 (by kernel_rfl) (by kernel_rfl) (by kernel_rfl) (fun _ _ _ h => h) (Or.inl ⟨by rfl, ?_⟩) (by assumption) ?_
    rotate_left
    · (intro w hSw; (try dsimp only at hSw); go_simp; try with_reducible rfl)
    try simp only [Act.put, List.setIfInBounds_toArray, List.set_cons_zero, List.set_cons_succ]
    refine wpAnyH_take (i := 33) (v := ?_) opAt_33 (by kernel_rfl) (by kernel_rfl) (by kernel_rfl) (fun _ _ _ h => h) (Or.inl ⟨by rfl, ?_⟩) (by assumption) ?_
    rotate_left
    · (intro w hSw; (try dsimp only at hSw); go_simp; try with_reducible rfl)
    try simp only [Act.put, List.setIfInBounds_toArray, List.set_cons_zero, List.set_cons_succ]
    refine wpAnyH_take (i := 35) (v := ?_) opAt_35 (by kernel_rfl) (by kernel_rfl) (by kernel_rfl) (fun _ _ _ h => h) (Or.inl ⟨by rfl, ?_⟩) (by assumption) ?_
    rotate_left
    · (intro w hSw; (try dsimp only at hSw); go_simp; try with_reducible rfl)
    try simp only [Act.put, List.setIfInBounds_toArray, List.set_cons_zero, List.set_cons_succ]
    refine wpAnyH_take (i := 36) (v := ?_) opAt_36 (by kernel_rfl) (by kernel_rfl) (by kernel_rfl) (fun _ _ _ h => h) (Or.inl ⟨by rfl, ?_⟩) (by assumption) ?_
    rotate_left
    · (intro w hSw; (try dsimp only at hSw); go_simp; try with_reducible rfl)
    try simp only [Act.put, List.setIfInBounds_toArray, List.set_cons_zero, List.set_cons_succ]
    refine wpAnyH_take (i := 37) (v := ?_) opAt_37 (by kernel_rfl) (by kernel_rfl) (by kernel_rfl) (fun _ _ _ h => h) (Or.inl ⟨by rfl, ?_⟩) (by assumption) ?_
    rotate_left
    · (intro w hSw; (try dsimp only at hSw); go_simp; try with_reducible rfl)
    try simp only [Act.put, List.setIfInBounds_toArray, List.set_cons_zero, List.set_cons_succ]
    refine wpAnyH_take (i := 38) (v := ?_) opAt_38 (by kernel_rfl) (by kernel_rfl) (by kernel_rfl) (fun _ _ _ h => h) (Or.inl ⟨by rfl, ?_⟩) (by assumption) ?_
    rotate_left
    · (intro w hSw; (try dsimp only at hSw); go_simp; try with_reducible rfl)
    try simp only [Act.put, List.setIfInBounds_toArray, List.set_cons_zero, List.set_cons_succ]
    refine wpAnyH_take (i := 39) (v := ?_) opAt_39 (by kernel_rfl) (by kernel_rfl) (by kernel_rfl) (fun _ _ _ h => h) (Or.inl ⟨by rfl, ?_⟩) (by assumption) ?_
    rotate_left
    · (intro w hSw; (try dsimp only at hSw); go_simp; try with_reducible rfl)
    try simp only [Act.put, List.setIfInBounds_toArray, List.set_cons_zero, List.set_cons_succ]
    refine wpAnyH_take (i := 40) (v := ?_) opAt_40 (by kernel_rfl) (by kernel_rfl) (by kernel_rfl) (fun _ _ _ h => h) (Or.inl ⟨by rfl, ?_⟩) (by assumption) ?_
    rotate_left
    · (intro w hSw; (try dsimp only at hSw); go_simp; try with_reducible rfl)
    try simp only [Act.put, List.setIfInBounds_toArray, List.set_cons_zero, List.set_cons_succ]
    refine wpAnyH_take (i := 41) (v := ?_) opAt_41 (by kernel_rfl) (by kernel_rfl) (by kernel_rfl) (fun _ _ _ h => h) (Or.inl ⟨by rfl, ?_⟩) (by assumption) ?_
    rotate_left
    · (intro w hSw; (try dsimp only at hSw); go_simp; try with_reducible rfl)
    try simp only [Act.put, List.setIfInBounds_toArray, List.set_cons_zero, List.set_cons_succ]
    refine wpAnyH_take (i := 42) (v := ?_) opAt_42 (by kernel_rfl) (by kernel_rfl) (by kernel_rfl) (fun _ _ _ h => h) (Or.inl ⟨by rfl, ?_⟩) (by assumption) ?_
    rotate_left
    · (intro w hSw; (try dsimp only at hSw); go_simp; try with_reducible rfl)
    try simp only [Act.put, List.setIfInBounds_toArray, List.set_cons_zero, List.set_cons_succ]
    refine wpAnyH_ready (rs := [34]) (by kernel_rfl) (by simp) ?_
    refine AllReadyH.cons rfl (fun K hK => ?_) AllReadyH.nil
    go_simp
    refine (HSZ.out _ _ _ (RF.out.below HbW.out HF.out)).mono ?_
    rintro e V7 ⟨rfl, bn⟩
    have HbN := Lib.hid (HbW.out.trans (bn.mono HbW.out.size))
    clear HbW bn
    have HbW := HbN
    clear HbN
    refine hK.out _ _ (HSK.out _ HbW.out) (fun hHeld => ?_)
    clear hK K
    try simp only [Act.put, List.setIfInBounds_toArray, List.set_cons_zero, List.set_cons_succ]
    refine wpAnyH_take (i := 43) (v := ?_) opAt_43 (by kernel_rfl) (by kernel_rfl) (by kernel_rfl) (fun _ _ _ h => h) (Or.inl ⟨by rfl, ?_⟩) (by assumption) ?_
    rotate_left
    · (intro w hSw; (try dsimp only at hSw); go_simp; try with_reducible rfl)
    try simp only [Act.put, List.setIfInBounds_toArray, List.set_cons_zero, List.set_cons_succ]
    refine wpAnyH_take (i := 44) (v := ?_) opAt_44 (by kernel_rfl) (by kernel_rfl) (by kernel_rfl) (fun _ _ _ h => h) (Or.inl ⟨by rfl, ?_⟩) (by assumption) ?_
    rotate_left
    · (intro w hSw; (try dsimp only at hSw); go_simp; try with_reducible rfl)
    try simp only [Act.put, List.setIfInBounds_toArray, List.set_cons_zero, List.set_cons_succ]
    refine wpAnyH_take (i := 45) (v := ?_) opAt_45 (by kernel_rfl) (by kernel_rfl) (by kernel_rfl) (fun _ _ _ h => h) (Or.inl ⟨by rfl, ?_⟩) (by assumption) ?_
    rotate_left
    · (intro w hSw; (try dsimp only at hSw); go_simp; try with_reducible rfl)
    try simp only [Act.put, List.setIfInBounds_toArray, List.set_cons_zero, List.set_cons_succ]
    refine wpAnyH_ready (rs := [46]) (by kernel_rfl) (by simp) ?_
    refine AllReadyH.cons rfl (fun K hK => ?_) AllReadyH.nil
    go_simp
    refine (knows_r _ (HT.out.on (HBF.out.trans (HbW.out.mono HF.out)))).mono ?_
    rintro e V8 ⟨rfl, bn⟩
    have HbN := Lib.hid (HbW.out.trans (bn.mono HbW.out.size))
    clear HbW bn
    have HbW := HbN
    clear HbN
    refine hK.out _ _ (HSK.out _ HbW.out) (fun hHeld => ?_)
    clear hK K
    try simp only [Act.put, List.setIfInBounds_toArray, List.set_cons_zero, List.set_cons_succ]
    refine wpAnyH_take (i := 47) (v := ?_) opAt_47 (by kernel_rfl) (by kernel_rfl) (by kernel_rfl) (fun _ _ _ h => h) (Or.inl ⟨by rfl, ?_⟩) (by assumption) ?_
    rotate_left
    · (intro w hSw; (try dsimp only at hSw); go_simp; try with_reducible rfl)
    try simp only [Act.put, List.setIfInBounds_toArray, List.set_cons_zero, List.set_cons_succ]
    refine wpAnyH_take (i := 48) (v := ?_) opAt_48 (by kernel_rfl) (by kernel_rfl) (by kernel_rfl) (fun _ _ _ h => h) (Or.inl ⟨by rfl, ?_⟩) (by assumption) ?_
    rotate_left
    · (intro w hSw; (try dsimp only at hSw); go_simp; try with_reducible rfl)
    try simp only [Act.put, List.setIfInBounds_toArray, List.set_cons_zero, List.set_cons_succ]
    refine wpAnyH_done (by kernel_rfl) ?_ _
    refine NoPanic.normal ?_
    go_wp2_with fail
    go_ret
    exact ⟨rfl, HBF.out.trans (HbW.out.mono HF.out)⟩
  · refine (rput_ok _ r w.heap.size wd RD.out HBD.out.size hm (HT.out.on HBD.out)).mono ?_
    rintro e we ⟨vb, rfl, hownb, be⟩
    obtain ⟨AB, cB, rfl, _, _, _⟩ := own_slice hownb
    have hx4 := (be.block w.heap.size (Array.getElem?_eq_some_iff.1 XD.out).1).trans XD.out
    have hy4 := (be.block (w.heap.size + 1) (Array.getElem?_eq_some_iff.1 YD.out).1).trans YD.out
    obtain ⟨e0, e1, e2, e3, e4, e5⟩ := box6h hx4
    have BE := Lib.hid be
    have SB := Lib.hid (Bs.of_own hownb)
    clear hownb
    have RE := Lib.hid (RD.out.below be HBD.out.size)
    have QE := Lib.hid (QD.out.below be HBD.out.size)
    have HBE := Lib.hid (bstep HBD.out be)
    have HX4 := Lib.hid hx4
    have HY4 := Lib.hid hy4
    clear be hx4 hy4
    go_wp2_with fail
    clear e0 e1 e2 e3 e4 e5
    refine (rput8_ok _ r w.heap.size we RE.out HBE.out.size hm).mono ?_
    rintro e wF ⟨vc, rfl, hownc, bf⟩
    obtain ⟨AC, cC, rfl, _, _, _⟩ := own_slice hownc
    obtain ⟨s, HCB, HCC⟩ : ∃ s, Hid (∀ w', Below wF.heap.size wF w' → (convert 23 9 (.slice AB (Rc.sizeN r) cB)).run Tryd.prog w' = .ok (.string s) w') ∧ Hid (∀ w', Below wF.heap.size wF w' → (convert 23 9 (.slice AC (Rc.sizeN r) cC)).run Tryd.prog w' = .ok (.string s) w') := ⟨_, Lib.hid (fun w' hb => conv_bs (SB.out.on bf) hb (Nat.le_refl _)), Lib.hid (fun w' hb => conv_bs (Bs.of_own hownc) hb (Nat.le_refl _))⟩
    clear hownc SB
    have HX5 := Lib.hid ((bf.block w.heap.size (Array.getElem?_eq_some_iff.1 HX4.out).1).trans HX4.out)
    have HY5 := Lib.hid ((bf.block (w.heap.size + 1) (Array.getElem?_eq_some_iff.1 HY4.out).1).trans HY4.out)
    have RF := Lib.hid (RE.out.below bf HBE.out.size)
    have QF := Lib.hid (QE.out.below bf HBE.out.size)
    have HBF := Lib.hid (bstep HBE.out bf)
    have HF := Lib.hid HBF.out.size
    have HSK := Lib.hid (show ∀ W, Below wF.heap.size wF W → ((W.cell? ⟨w.heap.size, 0, none⟩ = some (.int .u64 r.seq) ∧ W.cell? ⟨w.heap.size, 1, none⟩ = some (.int .i64 r.kind) ∧ W.cell? ⟨w.heap.size, 2, none⟩ = some (.slice P2 r.key.length p2) ∧ W.cell? ⟨w.heap.size, 3, none⟩ = some (.slice P2' r.val.length p2') ∧ W.cell? ⟨w.heap.size, 4, none⟩ = some (.int .u32 r.seg) ∧ W.cell? ⟨w.heap.size, 5, none⟩ = some (.int .u32 r.off)) ∧ (W.cell? ⟨w.heap.size + 1, 0, none⟩ = some (.int .u64 q.seq) ∧ W.cell? ⟨w.heap.size + 1, 1, none⟩ = some (.int .i64 q.kind) ∧ W.cell? ⟨w.heap.size + 1, 2, none⟩ = some (.slice P3 q.key.length p3) ∧ W.cell? ⟨w.heap.size + 1, 3, none⟩ = some (.slice P3' q.val.length p3') ∧ W.cell? ⟨w.heap.size + 1, 4, none⟩ = some (.int .u32 q.seg) ∧ W.cell? ⟨w.heap.size + 1, 5, none⟩ = some (.int .u32 q.off)) ∧ (convert 23 9 (.slice AB (Rc.sizeN r) cB)).run Tryd.prog W = .ok (.string s) W ∧ (convert 23 9 (.slice AC (Rc.sizeN r) cC)).run Tryd.prog W = .ok (.string s) W) from fun W hW => ⟨box6h ((hW.block w.heap.size (Array.getElem?_eq_some_iff.1 HX5.out).1).trans HX5.out), box6h ((hW.block (w.heap.size + 1) (Array.getElem?_eq_some_iff.1 HY5.out).1).trans HY5.out), HCB.out W hW, HCC.out W hW⟩)
    clear bf hm HX4 HY4 HX5 HY5 RE QE HBE BE XD YD RD QD HBD HCB HCC
    go_wp2_with fail
    refine wp_region_noPanic ?_
    have HbW := Lib.hid ((Below.refl wF.heap.size wF).drew)
    refine wp_region_held_drew (S := fun w' => (w'.cell? ⟨w.heap.size, 0, none⟩ = some (.int .u64 r.seq) ∧ w'.cell? ⟨w.heap.size, 1, none⟩ = some (.int .i64 r.kind) ∧ w'.cell? ⟨w.heap.size, 2, none⟩ = some (.slice P2 r.key.length p2) ∧ w'.cell? ⟨w.heap.size, 3, none⟩ = some (.slice P2' r.val.length p2') ∧ w'.cell? ⟨w.heap.size, 4, none⟩ = some (.int .u32 r.seg) ∧ w'.cell? ⟨w.heap.size, 5, none⟩ = some (.int .u32 r.off)) ∧ (w'.cell? ⟨w.heap.size + 1, 0, none⟩ = some (.int .u64 q.seq) ∧ w'.cell? ⟨w.heap.size + 1, 1, none⟩ = some (.int .i64 q.kind) ∧ w'.cell? ⟨w.heap.size + 1, 2, none⟩ = some (.slice P3 q.key.length p3) ∧ w'.cell? ⟨w.heap.size + 1, 3, none⟩ = some (.slice P3' q.val.length p3') ∧ w'.cell? ⟨w.heap.size + 1, 4, none⟩ = some (.int .u32 q.seg) ∧ w'.cell? ⟨w.heap.size + 1, 5, none⟩ = some (.int .u32 q.off)) ∧ (convert 23 9 (.slice AB (Rc.sizeN r) cB)).run Tryd.prog w' = .ok (.string s) w' ∧ (convert 23 9 (.slice AC (Rc.sizeN r) cC)).run Tryd.prog w' = .ok (.string s) w') (by kernel_rfl) (HSK.out _ ((Below.refl _ _).drew)) (fun hHeld => ?_)
    refine wpAnyH_take (i := 0) (v := ?_) opAt_0 (by kernel_rfl) (by kernel_rfl) (by kernel_rfl) (fun _ _ _ h => h) (Or.inl ⟨by rfl, ?_⟩) (by assumption) ?_
    rotate_left
    · (intro w hSw; (try dsimp only at hSw); go_simp; try with_reducible rfl)
    try simp only [Act.put, List.setIfInBounds_toArray, List.set_cons_zero, List.set_cons_succ]
    refine wpAnyH_take (i := 1) (v := ?_) opAt_1 (by kernel_rfl) (by kernel_rfl) (by kernel_rfl) (fun _ _ _ h => h) (Or.inl ⟨by rfl, ?_⟩) (by assumption) ?_
    rotate_left
    · (intro w hSw; (try dsimp only at hSw); go_simp; try with_reducible rfl)
    try simp only [Act.put, List.setIfInBounds_toArray, List.set_cons_zero, List.set_cons_succ]
    refine wpAnyH_take (i := 2) (v := ?_) opAt_2 (by kernel_rfl) (by kernel_rfl) (by kernel_rfl) (fun _ _ _ h => h) (Or.inl ⟨by rfl, ?_⟩) (by assumption) ?_
    rotate_left
    · (intro w hSw; (try dsimp only at hSw); go_simp; try with_reducible rfl)
    try simp only [Act.put, List.setIfInBounds_toArray, List.set_cons_zero, List.set_cons_succ]
    refine wpAnyH_take (i := 3) (v := ?_) opAt_3 (by kernel_rfl) (by kernel_rfl) (by kernel_rfl) (fun _ _ _ h => h) (Or.inl ⟨by rfl, ?_⟩) (by assumption) ?_
    rotate_left
    · (intro w hSw; (try dsimp only at hSw); go_simp; try with_reducible rfl)
    try simp only [Act.put, List.setIfInBounds_toArray, List.set_cons_zero, List.set_cons_succ]
    refine wpAnyH_take (i := 4) (v := ?_) opAt_4 (by kernel_rfl) (by kernel_rfl) (by kernel_rfl) (fun _ _ _ h => h) (Or.inl ⟨by rfl, ?_⟩) (by assumption) ?_
    rotate_left
    · (intro w hSw; (try dsimp only at hSw); go_simp; try with_reducible rfl)
    try simp only [Act.put, List.setIfInBounds_toArray, List.set_cons_zero, List.set_cons_succ]
    refine wpAnyH_take (i := 5) (v := ?_) opAt_5 (by kernel_rfl) (by kernel_rfl) (by kernel_rfl) (fun _ _ _ h => h) (Or.inl ⟨by rfl, ?_⟩) (by assumption) ?_
    rotate_left
    · (intro w hSw; (try dsimp only at hSw); go_simp; try with_reducible rfl)
    try simp only [Act.put, List.setIfInBounds_toArray, List.set_cons_zero, List.set_cons_succ]
    refine wpAnyH_take (i := 6) (v := ?_) opAt_6 (by kernel_rfl) (by kernel_rfl) (by kernel_rfl) (fun _ _ _ h => h) (Or.inl ⟨by rfl, ?_⟩) (by assumption) ?_
    rotate_left
    · (intro w hSw; (try dsimp only at hSw); go_simp; try with_reducible rfl)
    try simp only [Act.put, List.setIfInBounds_toArray, List.set_cons_zero, List.set_cons_succ]
    refine wpAnyH_take (i := 7) (v := ?_) opAt_7 (by kernel_rfl) (by kernel_rfl) (by kernel_rfl) (fun _ _ _ h => h) (Or.inl ⟨by rfl, ?_⟩) (by assumption) ?_
    rotate_left
    · (intro w hSw; (try dsimp only at hSw); go_simp; try with_reducible rfl)
    try simp only [Act.put, List.setIfInBounds_toArray, List.set_cons_zero, List.set_cons_succ]
    refine wpAnyH_take (i := 8) (v := ?_) opAt_8 (by kernel_rfl) (by kernel_rfl) (by kernel_rfl) (fun _ _ _ h => h) (Or.inl ⟨by rfl, ?_⟩) (by assumption) ?_
    rotate_left
    · (intro w hSw; (try dsimp only at hSw); go_simp; try with_reducible rfl)
    try simp only [Act.put, List.setIfInBounds_toArray, List.set_cons_zero, List.set_cons_succ]
    refine wpAnyH_take (i := 9) (v := ?_) opAt_9 (by kernel_rfl) (by kernel_rfl) (by kernel_rfl) (fun _ _ _ h => h) (Or.inl ⟨by rfl, ?_⟩) (by assumption) ?_
    rotate_left
    · (intro w hSw; (try dsimp only at hSw); go_simp; try with_reducible rfl)
    try simp only [Act.put, List.setIfInBounds_toArray, List.set_cons_zero, List.set_cons_succ]
    refine wpAnyH_take (i := 10) (v := ?_) opAt_10 (by kernel_rfl) (by kernel_rfl) (by kernel_rfl) (fun _ _ _ h => h) (Or.inl ⟨by rfl, ?_⟩) (by assumption) ?_
    rotate_left
    · (intro w hSw; (try dsimp only at hSw); go_simp; try with_reducible rfl)
    try simp only [Act.put, List.setIfInBounds_toArray, List.set_cons_zero, List.set_cons_succ]
    refine wpAnyH_take (i := 11) (v := ?_) opAt_11 (by kernel_rfl) (by kernel_rfl) (by kernel_rfl) (fun _ _ _ h => h) (Or.inl ⟨by rfl, ?_⟩) (by assumption) ?_
    rotate_left
    · (intro w hSw; (try dsimp only at hSw); go_simp; try with_reducible rfl)
    try simp only [Act.put, List.setIfInBounds_toArray, List.set_cons_zero, List.set_cons_succ]
    refine wpAnyH_take (i := 13) (v := ?_) opAt_13 (by kernel_rfl) (by kernel_rfl) (by kernel_rfl) (fun _ _ _ h => h) (Or.inl ⟨by rfl, ?_⟩) (by assumption) ?_
    rotate_left
    · (intro w hSw; (try dsimp only at hSw); go_simp; try with_reducible rfl)
    try simp only [Act.put, List.setIfInBounds_toArray, List.set_cons_zero, List.set_cons_succ]
    refine wpAnyH_ready (rs := [12]) (by kernel_rfl) (by simp) ?_
    refine AllReadyH.cons rfl (fun K hK => ?_) AllReadyH.nil
    go_simp
    refine (rmay_b _ r w.heap.size _ (RF.out.below HbW.out HF.out) (Nat.le_trans HF.out HbW.out.size) FR.out).mono ?_
    rintro e V1 ⟨rfl, bn⟩
    have HbN := Lib.hid (HbW.out.trans (bn.mono HbW.out.size))
    clear HbW bn
    have HbW := HbN
    clear HbN
    refine hK.out _ _ (HSK.out _ HbW.out) (fun hHeld => ?_)
    clear hK K
    try simp only [Act.put, List.setIfInBounds_toArray, List.set_cons_zero, List.set_cons_succ]
    refine wpAnyH_ready (rs := [14]) (by kernel_rfl) (by simp) ?_
    refine AllReadyH.cons rfl (fun K hK => ?_) AllReadyH.nil
    go_simp
    refine (ref8may _ r w.heap.size _ (RF.out.below HbW.out HF.out) (Nat.le_trans HF.out HbW.out.size) FR.out).mono ?_
    rintro e V2 ⟨rfl, bn⟩
    have HbN := Lib.hid (HbW.out.trans (bn.mono HbW.out.size))
    clear HbW bn
    have HbW := HbN
    clear HbN
    refine hK.out _ _ (HSK.out _ HbW.out) (fun hHeld => ?_)
    clear hK K
    try simp only [Act.put, List.setIfInBounds_toArray, List.set_cons_zero, List.set_cons_succ]
    refine wpAnyH_take (i := 15) (v := ?_) opAt_15 (by kernel_rfl) (by kernel_rfl) (by kernel_rfl) (fun _ _ _ h => h) (Or.inl ⟨by rfl, ?_⟩) (by assumption) ?_
    rotate_left
    · (intro w hSw; (try dsimp only at hSw); go_simp; try with_reducible rfl)
    try simp only [Act.put, List.setIfInBounds_toArray, List.set_cons_zero, List.set_cons_succ]
    refine wpAnyH_take (i := 16) (v := ?_) opAt_16 (by kernel_rfl) (by kernel_rfl) (by kernel_rfl) (fun _ _ _ h => h) (Or.inl ⟨by rfl, ?_⟩) (by assumption) ?_
    rotate_left
    · (intro w hSw; (try dsimp only at hSw); go_simp; try with_reducible rfl)
    try simp only [Act.put, List.setIfInBounds_toArray, List.set_cons_zero, List.set_cons_succ]
    refine wpAnyH_take (i := 17) (v := ?_) opAt_17 (by kernel_rfl) (by kernel_rfl) (by kernel_rfl) (fun _ _ _ h => h) (Or.inl ⟨by rfl, ?_⟩) (by assumption) ?_
    rotate_left
    · (intro w hSw; (try dsimp only at hSw); go_simp; try with_reducible rfl)
    try simp only [Act.put, List.setIfInBounds_toArray, List.set_cons_zero, List.set_cons_succ]
    refine wpAnyH_take (i := 18) (v := ?_) opAt_18 (by kernel_rfl) (by kernel_rfl) (by kernel_rfl) (fun _ _ _ h => h) (Or.inl ⟨by rfl, ?_⟩) (by assumption) ?_
    rotate_left
    · (intro w hSw; (try dsimp only at hSw); go_simp; try with_reducible rfl)
    try simp only [Act.put, List.setIfInBounds_toArray, List.set_cons_zero, List.set_cons_succ]
    refine wpAnyH_take (i := 19) (v := ?_) opAt_19 (by kernel_rfl) (by kernel_rfl) (by kernel_rfl) (fun _ _ _ h => h) (Or.inl ⟨by rfl, ?_⟩) (by assumption) ?_
    rotate_left
    · (intro w hSw; (try dsimp only at hSw); go_simp; try with_reducible rfl)
    try simp only [Act.put, List.setIfInBounds_toArray, List.set_cons_zero, List.set_cons_succ]
    refine wpAnyH_take (i := 21) (v := ?_) opAt_21 (by kernel_rfl) (by kernel_rfl) (by kernel_rfl) (fun _ _ _ h => h) (Or.inl ⟨by rfl, ?_⟩) (by assumption) ?_
    rotate_left
    · (intro w hSw; (try dsimp only at hSw); go_simp; try with_reducible rfl)
    try simp only [Act.put, List.setIfInBounds_toArray, List.set_cons_zero, List.set_cons_succ]
    refine wpAnyH_take (i := 22) (v := ?_) opAt_22 (by kernel_rfl) (by kernel_rfl) (by kernel_rfl) (fun _ _ _ h => h) (Or.inl ⟨by rfl, ?_⟩) (by assumption) ?_
    rotate_left
    · (intro w hSw; (try dsimp only at hSw); go_simp; try with_reducible rfl)
    try simp only [Act.put, List.setIfInBounds_toArray, List.set_cons_zero, List.set_cons_succ]
    refine wpAnyH_ready (rs := [20]) (by kernel_rfl) (by simp) ?_
    refine AllReadyH.cons rfl (fun K hK => ?_) AllReadyH.nil
    go_simp
    refine (rsame_b _ _ r q w.heap.size _ (RF.out.below HbW.out HF.out) (QF.out.below HbW.out HF.out) (Nat.le_trans HF.out HbW.out.size)).mono ?_
    rintro e V3 ⟨rfl, bn⟩
    have HbN := Lib.hid (HbW.out.trans (bn.mono HbW.out.size))
    clear HbW bn
    have HbW := HbN
    clear HbN
    refine hK.out _ _ (HSK.out _ HbW.out) (fun hHeld => ?_)
    clear hK K
    try simp only [Act.put, List.setIfInBounds_toArray, List.set_cons_zero, List.set_cons_succ]
    refine wpAnyH_ready (rs := [23]) (by kernel_rfl) (by simp) ?_
    refine AllReadyH.cons rfl (fun K hK => ?_) AllReadyH.nil
    go_simp
    refine (rsame8 _ _ r q w.heap.size _ (RF.out.below HbW.out HF.out) (QF.out.below HbW.out HF.out) (Nat.le_trans HF.out HbW.out.size)).mono ?_
    rintro e V4 ⟨rfl, bn⟩
    have HbN := Lib.hid (HbW.out.trans (bn.mono HbW.out.size))
    clear HbW bn
    have HbW := HbN
    clear HbN
    refine hK.out _ _ (HSK.out _ HbW.out) (fun hHeld => ?_)
    clear hK K
    try simp only [Act.put, List.setIfInBounds_toArray, List.set_cons_zero, List.set_cons_succ]
    refine wpAnyH_take (i := 24) (v := ?_) opAt_24 (by kernel_rfl) (by kernel_rfl) (by kernel_rfl) (fun _ _ _ h => h) (Or.inl ⟨by rfl, ?_⟩) (by assumption) ?_
    rotate_left
    · (intro w hSw; (try dsimp only at hSw); go_simp; try with_reducible rfl)
    try simp only [Act.put, List.setIfInBounds_toArray, List.set_cons_zero, List.set_cons_succ]
    refine wpAnyH_take (i := 25) (v := ?_) opAt_25 (by kernel_rfl) (by kernel_rfl) (by kernel_rfl) (fun _ _ _ h => h) (Or.inl ⟨by rfl, ?_⟩) (by assumption) ?_
    rotate_left
    · (intro w hSw; (try dsimp only at hSw); go_simp; try with_reducible rfl)
    try simp only [Act.put, List.setIfInBounds_toArray, List.set_cons_zero, List.set_cons_succ]
    refine wpAnyH_take (i := 26) (v := ?_) opAt_26 (by kernel_rfl) (by kernel_rfl) (by kernel_rfl) (fun _ _ _ h => h) (Or.inl ⟨by rfl, ?_⟩) (by assumption) ?_
    rotate_left
    · (intro w hSw; (try dsimp only at hSw); go_simp; try with_reducible rfl)
    try simp only [Act.put, List.setIfInBounds_toArray, List.set_cons_zero, List.set_cons_succ]
    refine wpAnyH_take (i := 27) (v := ?_) opAt_27 (by kernel_rfl) (by kernel_rfl) (by kernel_rfl) (fun _ _ _ h => h) (Or.inl ⟨by rfl, ?_⟩) (by assumption) ?_
    rotate_left
    · (intro w hSw; (try dsimp only at hSw); go_simp; try with_reducible rfl)
    try simp only [Act.put, List.setIfInBounds_toArray, List.set_cons_zero, List.set_cons_succ]
    refine wpAnyH_take (i := 28) (v := ?_) opAt_28 (by kernel_rfl) (by kernel_rfl) (by kernel_rfl) (fun _ _ _ h => h) (Or.inl ⟨by rfl, ?_⟩) (by assumption) ?_
    rotate_left
    · (intro w hSw; (try dsimp only at hSw); go_simp; try with_reducible rfl)
    try simp only [Act.put, List.setIfInBounds_toArray, List.set_cons_zero, List.set_cons_succ]
    refine wpAnyH_ready (rs := [29]) (by kernel_rfl) (by simp) ?_
    refine AllReadyH.cons rfl (fun K hK => ?_) AllReadyH.nil
    go_simp
    refine (few_b _ r w.heap.size _ (RF.out.below HbW.out HF.out) (Nat.le_trans HF.out HbW.out.size) FR.out).mono ?_
    rintro e V5 ⟨vf, rfl, hrf, bn⟩
    rw [HRR.out] at hrf
    have HRF := Lib.hid hrf
    clear hrf
    have HbN := Lib.hid (HbW.out.trans (bn.mono HbW.out.size))
    clear HbW bn
    have HbW := HbN
    clear HbN
    refine hK.out _ _ (HSK.out _ HbW.out) (fun hHeld => ?_)
    clear hK K
    try simp only [Act.put, List.setIfInBounds_toArray, List.set_cons_zero, List.set_cons_succ]
    refine wpAnyH_ready (rs := [30]) (by kernel_rfl) (by simp) ?_
    refine AllReadyH.cons rfl (fun K hK => ?_) AllReadyH.nil
    go_simp
    have hsm := rsame_b _ _ r r w.heap.size _ (RF.out.below HbW.out HF.out) HRF.out (Nat.le_trans HF.out HbW.out.size)
    rw [Rc.sameB_self] at hsm
    refine (hsm).mono ?_
    rintro e V6 ⟨rfl, bn⟩
    clear hsm
    have HbN := Lib.hid (HbW.out.trans (bn.mono HbW.out.size))
    clear HbW bn
    have HbW := HbN
    clear HbN
    refine hK.out _ _ (HSK.out _ HbW.out) (fun hHeld => ?_)
    clear hK K
    try simp only [Act.put, List.setIfInBounds_toArray, List.set_cons_zero, List.set_cons_succ]
    refine wpAnyH_take (i := 31) (v := ?_) opAt_31 (by kernel_rfl) (by kernel_rfl) (by kernel_rfl) (fun _ _ _ h => h) (Or.inl ⟨by rfl, ?_⟩) (by assumption) ?_
    rotate_left
    · (intro w hSw; (try dsimp only at hSw); go_simp; try with_reducible rfl)
    try simp only [Act.put, List.setIfInBounds_toArray, List.set_cons_zero, List.set_cons_succ]
    refine wpAnyH_take (i := 32) (v := ?_) opAt_32 (by kernel_rfl) (by kernel_rfl) (by kernel_rfl) (fun _ _ _ h => h) (Or.inl ⟨by rfl, ?_⟩) (by assumption) ?_
    rotate_left
    · (intro w hSw; (try dsimp only at hSw); go_simp; try with_reducible rfl)
    try simp only [Act.put, List.setIfInBounds_toArray, List.set_cons_zero, List.set_cons_succ]
    refine wpAnyH_take (i := 33) (v := ?_) opAt_33 (by kernel_rfl) (by kernel_rfl) (by kernel_rfl) (fun _ _ _ h => h) (Or.inl ⟨by rfl, ?_⟩) (by assumption) ?_
    rotate_left
    · (intro w hSw; (try dsimp only at hSw); go_simp; try with_reducible rfl)
    try simp only [Act.put, List.setIfInBounds_toArray, List.set_cons_zero, List.set_cons_succ]
    refine wpAnyH_take (i := 35) (v := ?_) opAt_35 (by kernel_rfl) (by kernel_rfl) (by kernel_rfl) (fun _ _ _ h => h) (Or.inl ⟨by rfl, ?_⟩) (by assumption) ?_
    rotate_left
    · (intro w hSw; (try dsimp only at hSw); go_simp; try with_reducible rfl)
    try simp only [Act.put, List.setIfInBounds_toArray, List.set_cons_zero, List.set_cons_succ]
    refine wpAnyH_take (i := 36) (v := ?_) opAt_36 (by kernel_rfl) (by kernel_rfl) (by kernel_rfl) (fun _ _ _ h => h) (Or.inl ⟨by rfl, ?_⟩) (by assumption) ?_
    rotate_left
    · (intro w hSw; (try dsimp only at hSw); go_simp; try with_reducible rfl)
    try simp only [Act.put, List.setIfInBounds_toArray, List.set_cons_zero, List.set_cons_succ]
    refine wpAnyH_take (i := 37) (v := ?_) opAt_37 (by kernel_rfl) (by kernel_rfl) (by kernel_rfl) (fun _ _ _ h => h) (Or.inl ⟨by rfl, ?_⟩) (by assumption) ?_
    rotate_left
    · (intro w hSw; (try dsimp only at hSw); go_simp; try with_reducible rfl)
    try simp only [Act.put, List.setIfInBounds_toArray, List.set_cons_zero, List.set_cons_succ]
    refine wpAnyH_take (i := 38) (v := ?_) opAt_38 (by kernel_rfl) (by kernel_rfl) (by kernel_rfl) (fun _ _ _ h => h) (Or.inl ⟨by rfl, ?_⟩) (by assumption) ?_
    rotate_left
    · (intro w hSw; (try dsimp only at hSw); go_simp; try with_reducible rfl)
    try simp only [Act.put, List.setIfInBounds_toArray, List.set_cons_zero, List.set_cons_succ]
    refine wpAnyH_take (i := 39) (v := ?_) opAt_39 (by kernel_rfl) (by kernel_rfl) (by kernel_rfl) (fun _ _ _ h => h) (Or.inl ⟨by rfl, ?_⟩) (by assumption) ?_
    rotate_left
    · (intro w hSw; (try dsimp only at hSw); go_simp; try with_reducible rfl)
    try simp only [Act.put, List.setIfInBounds_toArray, List.set_cons_zero, List.set_cons_succ]
    refine wpAnyH_take (i := 40) (v := ?_) opAt_40 (by kernel_rfl) (by kernel_rfl) (by kernel_rfl) (fun _ _ _ h => h) (Or.inl ⟨by rfl, ?_⟩) (by assumption) ?_
    rotate_left
    · (intro w hSw; (try dsimp only at hSw); go_simp; try with_reducible rfl)
    try simp only [Act.put, List.setIfInBounds_toArray, List.set_cons_zero, List.set_cons_succ]
    refine wpAnyH_take (i := 41) (v := ?_) opAt_41 (by kernel_rfl) (by kernel_rfl) (by kernel_rfl) (fun _ _ _ h => h) (Or.inl ⟨by rfl, ?_⟩) (by assumption) ?_
    rotate_left
    · (intro w hSw; (try dsimp only at hSw); go_simp; try with_reducible rfl)
    try simp only [Act.put, List.setIfInBounds_toArray, List.set_cons_zero, List.set_cons_succ]
    refine wpAnyH_take (i := 42) (v := ?_) opAt_42 (by kernel_rfl) (by kernel_rfl) (by kernel_rfl) (fun _ _ _ h => h) (Or.inl ⟨by rfl, ?_⟩) (by assumption) ?_
    rotate_left
    · (intro w hSw; (try dsimp only at hSw); go_simp; try with_reducible rfl)
    try simp only [Act.put, List.setIfInBounds_toArray, List.set_cons_zero, List.set_cons_succ]
    refine wpAnyH_ready (rs := [34]) (by kernel_rfl) (by simp) ?_
    refine AllReadyH.cons rfl (fun K hK => ?_) AllReadyH.nil
    go_simp
    refine (HSZ.out _ _ _ (RF.out.below HbW.out HF.out)).mono ?_
    rintro e V7 ⟨rfl, bn⟩
    have HbN := Lib.hid (HbW.out.trans (bn.mono HbW.out.size))
    clear HbW bn
    have HbW := HbN
    clear HbN
    refine hK.out _ _ (HSK.out _ HbW.out) (fun hHeld => ?_)
    clear hK K
    try simp only [Act.put, List.setIfInBounds_toArray, List.set_cons_zero, List.set_cons_succ]
    refine wpAnyH_take (i := 43) (v := ?_) opAt_43 (by kernel_rfl) (by kernel_rfl) (by kernel_rfl) (fun _ _ _ h => h) (Or.inl ⟨by rfl, ?_⟩) (by assumption) ?_
    rotate_left
    · (intro w hSw; (try dsimp only at hSw); go_simp; try with_reducible rfl)
    try simp only [Act.put, List.setIfInBounds_toArray, List.set_cons_zero, List.set_cons_succ]
    refine wpAnyH_take (i := 44) (v := ?_) opAt_44 (by kernel_rfl) (by kernel_rfl) (by kernel_rfl) (fun _ _ _ h => h) (Or.inl ⟨by rfl, ?_⟩) (by assumption) ?_
    rotate_left
    · (intro w hSw; (try dsimp only at hSw); go_simp; try with_reducible rfl)
    try simp only [Act.put, List.setIfInBounds_toArray, List.set_cons_zero, List.set_cons_succ]
    refine wpAnyH_take (i := 45) (v := ?_) opAt_45 (by kernel_rfl) (by kernel_rfl) (by kernel_rfl) (fun _ _ _ h => h) (Or.inl ⟨by rfl, ?_⟩) (by assumption) ?_
    rotate_left
    · (intro w hSw; (try dsimp only at hSw); go_simp; try with_reducible rfl)
    try simp only [Act.put, List.setIfInBounds_toArray, List.set_cons_zero, List.set_cons_succ]
    refine wpAnyH_ready (rs := [46]) (by kernel_rfl) (by simp) ?_
    refine AllReadyH.cons rfl (fun K hK => ?_) AllReadyH.nil
    go_simp
    refine (knows_r _ (HT.out.on (HBF.out.trans (HbW.out.mono HF.out)))).mono ?_
    rintro e V8 ⟨rfl, bn⟩
    have HbN := Lib.hid (HbW.out.trans (bn.mono HbW.out.size))
    clear HbW bn
    have HbW := HbN
    clear HbN
    refine hK.out _ _ (HSK.out _ HbW.out) (fun hHeld => ?_)
    clear hK K
    try simp only [Act.put, List.setIfInBounds_toArray, List.set_cons_zero, List.set_cons_succ]
    refine wpAnyH_take (i := 47) (v := ?_) opAt_47 (by kernel_rfl) (by kernel_rfl) (by kernel_rfl) (fun _ _ _ h => h) (Or.inl ⟨by rfl, ?_⟩) (by assumption) ?_
    rotate_left
    · (intro w hSw; (try dsimp only at hSw); go_simp; try with_reducible rfl)
    try simp only [Act.put, List.setIfInBounds_toArray, List.set_cons_zero, List.set_cons_succ]
    refine wpAnyH_take (i := 48) (v := ?_) opAt_48 (by kernel_rfl) (by kernel_rfl) (by kernel_rfl) (fun _ _ _ h => h) (Or.inl ⟨by rfl, ?_⟩) (by assumption) ?_
    rotate_left
    · (intro w hSw; (try dsimp only at hSw); go_simp; try with_reducible rfl)
    try simp only [Act.put, List.setIfInBounds_toArray, List.set_cons_zero, List.set_cons_succ]
    refine wpAnyH_done (by kernel_rfl) ?_ _
    refine NoPanic.normal ?_
    go_wp2_with fail
    go_ret
    exact ⟨rfl, HBF.out.trans (HbW.out.mono HF.out)⟩
end Go.Proofs.YtmiljicohnfejaaDoor.recordPuts
