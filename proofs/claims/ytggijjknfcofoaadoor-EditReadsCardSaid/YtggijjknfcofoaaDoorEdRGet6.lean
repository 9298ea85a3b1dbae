
/-
  Layer 9: the document's answer: Get of kind 6. (printed by tools/gen/ed_rget.py)
-/
import Derived.Test.YtggijjknfcofoaaDoorEdRGetP
set_option linter.unusedVariables false
set_option linter.unusedSimpArgs false
namespace Go.Proofs.YtggijjknfcofoaaDoor
open Go.RowKit

set_option maxRecDepth 100000 in
set_option maxHeartbeats 16000000 in
theorem rget9_6 (A : Option Addr) (c : Nat) (L : List UInt8) (x : UInt8) (l1 : List UInt8) (hL : L = x :: l1) (hx : x.toNat = 6) (w : World) (hc : L.length ≤ c) (hr : Rd w w.heap.size A (bvs L)) (hl : L.length ≤ 100000) (X : Ed.E) (C : Nat) (hQ : Ed.getR L = (X, C)) :
    Calls Tryd.prog 21 #[.slice A L.length c] w (GetP w X C) := by
  have hpos : 0 < L.length := by rw [hL]; simp
  have hne0 : ((L.length : Int) == 0) = false := by rw [beq_eq_false_iff_ne]; omega
  have hne0' : ¬ (L.length : Int) = 0 := by omega
  have hpos' : (0 : Int) < (L.length : Int) := by omega
  obtain ⟨b, ro, rfl, hbb, hcell⟩ := hr (by rw [hL]; simp [bvs])
  have cb : w.cell? ⟨b, ro, none⟩ = some (.int .u8 6) := by
    have := hcell 0 (bv x) (by rw [hL]; rfl)
    unfold bv at this
    rw [hx] at this
    exact this
  rw [Ed.getR_kind hL hx (by omega) (by omega), Ed.body_6] at hQ
  have HQ := Lib.hid hQ
  have hT := ((Bx.new w #[.int .i64 0, .string ⟨#[]⟩, .int .u64 0, .int .u32 0, .slice none 0 0] 36 _ rfl).alloc (.cells #[.int .i64 6, .string ⟨#[]⟩, .int .u64 0, .int .u32 0, .slice none 0 0] 36)).alloc (.cells #[.slice (some ⟨b, ro, none⟩) L.length c, .int .i64 1, .int .i64 0] 80)
  have hE := (Bx.new (w.alloc (.cells #[.int .i64 0, .string ⟨#[]⟩, .int .u64 0, .int .u32 0, .slice none 0 0] 36)) #[.int .i64 6, .string ⟨#[]⟩, .int .u64 0, .int .u32 0, .slice none 0 0] 36 _ rfl).alloc (.cells #[.slice (some ⟨b, ro, none⟩) L.length c, .int .i64 1, .int .i64 0] 80)
  rw [show (w.alloc (.cells #[.int .i64 0, .string ⟨#[]⟩, .int .u64 0, .int .u32 0, .slice none 0 0] 36)).heap.size = w.heap.size + 1 by simp] at hE
  have hG := Bx.new ((w.alloc (.cells #[.int .i64 0, .string ⟨#[]⟩, .int .u64 0, .int .u32 0, .slice none 0 0] 36)).alloc (.cells #[.int .i64 6, .string ⟨#[]⟩, .int .u64 0, .int .u32 0, .slice none 0 0] 36)) #[.slice (some ⟨b, ro, none⟩) L.length c, .int .i64 1, .int .i64 0] 80 _ rfl
  rw [show ((w.alloc (.cells #[.int .i64 0, .string ⟨#[]⟩, .int .u64 0, .int .u32 0, .slice none 0 0] 36)).alloc (.cells #[.int .i64 6, .string ⟨#[]⟩, .int .u64 0, .int .u32 0, .slice none 0 0] 36)).heap.size = w.heap.size + 1 + 1 by simp] at hG
  have hB := balloc (balloc (bnew w (.cells #[.int .i64 0, .string ⟨#[]⟩, .int .u64 0, .int .u32 0, .slice none 0 0] 36)) (.cells #[.int .i64 6, .string ⟨#[]⟩, .int .u64 0, .int .u32 0, .slice none 0 0] 36)) (.cells #[.slice (some ⟨b, ro, none⟩) L.length c, .int .i64 1, .int .i64 0] 80)
  have HW : Hid (WkA _ w.heap.size (w.heap.size + 1 + 1) L 1 0) := Lib.hid ⟨_, _, hG, hc, hr.below hB (Nat.le_refl _), by omega, by omega, hl⟩
  have HT := Lib.hid hT
  have HE := Lib.hid hE
  have HB := Lib.hid hB
  have HR : Hid (Rd w w.heap.size (some ⟨b, ro, none⟩) (bvs L)) := Lib.hid hr
  clear hT hE hG hB hr hQ hcell hL hx
  go_enter Tryd.func21, Tryd.ntmps21
  go_wp2_with fail
  refine (rparts_6 _).mono ?_
  rintro en w2 ⟨rfl, rfl⟩
  generalize hWn : World.alloc _ _ = W0 at *
  clear hWn cb
  obtain ⟨x0, x1, x2, x3, x4⟩ := HE.out.at5
  go_wp2_with fail
  clear x0 x1 x2 x3 x4
  rcases n1 : Ed.num 0 1099511627776 (L.drop 1) with ec | ⟨q, rq⟩
  · refine (rnum_er w.heap.size (w.heap.size + 1 + 1) 1 0 1099511627776 ec L _ HW.out n1).mono ?_
    rintro e wq ⟨rfl, hw, hc0, hc⟩
    have HT := Lib.hid (HT.out.chg hc (by omega))
    have HE := Lib.hid (HE.out.chg hc (by omega))
    have HB := Lib.hid (HB.out.trans (hc.below (B := w.heap.size) (by have := HB.out.size; omega) (fun i hi => by omega)))
    have HW := Lib.hid hw
    have HC0 := Lib.hid hc0
    have Hn1 := Lib.hid n1
    clear hw hc0 hc n1
    obtain ⟨x0, x1, x2, x3, x4⟩ := HE.out.at5
    obtain ⟨f0, f1, f2, f3, f4⟩ := HE.out.free5
    obtain ⟨gA, gc, g0, g1, g2, gf1, gf2, gl1, gl2, gl3, gl4⟩ := HW.out.cells
    have HT := Lib.hid (HT.out.other ⟨w.heap.size + 1, 2, none⟩ (.int .u64 0) (by show w.heap.size + 1 ≠ w.heap.size; omega))
    have hE' := HE.out.set 2 (.int .u64 0) (by simp)
    simp only [List.set_cons_zero, List.set_cons_succ] at hE'
    have HE := Lib.hid hE'
    have HW := Lib.hid (HW.out.other ⟨w.heap.size + 1, 2, none⟩ (.int .u64 0) (by show w.heap.size + 1 ≠ w.heap.size + 1 + 1; omega) (by show w.heap.size ≤ w.heap.size + 1; omega))
    have HB := Lib.hid (HB.out.setCell (p := ⟨w.heap.size + 1, 2, none⟩) (by show w.heap.size ≤ w.heap.size + 1; omega) (.int .u64 0))
    clear hE'
    go_wp2_with fail
    generalize hWn : World.setCell _ _ _ = WA at *
    clear hWn
    clear x0 x1 x2 x3 x4 f0 f1 f2 f3 f4 g0 g1 g2 gf1 gf2 gl1 gl2 gl3 gl4
    refine (rnum_badI w.heap.size (w.heap.size + 1 + 1) 1 ec _ _ L _ HW.out HC0.out).mono ?_
    rintro e w9 ⟨rfl, rfl⟩
    obtain ⟨x0, x1, x2, x3, x4⟩ := HE.out.at5
    obtain ⟨f0, f1, f2, f3, f4⟩ := HE.out.free5
    obtain ⟨gA, gc, g0, g1, g2, gf1, gf2, gl1, gl2, gl3, gl4⟩ := HW.out.cells
    go_wp2_with fail
    clear x0 x1 x2 x3 x4 f0 f1 f2 f3 f4 g0 g1 g2 gf1 gf2 gl1 gl2 gl3 gl4
    go_loopg [12, 13, 14] 0 (fun gh lv iv _ wr => lv = .int .u64 0 ∧ iv = .int .i64 0 ∧ wr = WA)
    case atStart => exact ⟨rfl, rfl, rfl⟩
    case round =>
      obtain ⟨rfl, rfl, rfl⟩ := hrel
      have hX : X = Ed.none ∧ C = ec := by
        have h9 := HQ.out
        simp only [Ed.bnd, Hn1.out, Ed.endR] at h9
        exact ⟨(Prod.mk.inj h9).1.symm, (Prod.mk.inj h9).2.symm⟩
      have HX := Lib.hid hX
      have e0 : ((ec : Int) == 0) = false := by have := HC0.out; simp; omega
      have e0' : ¬ (ec : Int) = 0 := by have := HC0.out; omega
      clear hX
      obtain ⟨x0, x1, x2, x3, x4⟩ := HE.out.at5
      obtain ⟨f0, f1, f2, f3, f4⟩ := HE.out.free5
      obtain ⟨gA, gc, g0, g1, g2, gf1, gf2, gl1, gl2, gl3, gl4⟩ := HW.out.cells
      go_wp2_with fail
      refine wp_region_noPanic ?_
      refine wp_region_held_drew (S := fun w' : World => w'.cell? ⟨w.heap.size + 1 + 1, 2, none⟩ = some (.int .i64 (ec : Int))) (by kernel_rfl) g2 (fun hHeld => ?_)
      have HT := Lib.hid HT.out.drew
      have HB := Lib.hid (below_drew1 HB.out)
      clear x0 x1 x2 x3 x4 f0 f1 f2 f3 f4 g0 g1 g2 gf1 gf2 gl1 gl2 gl3 gl4
      generalize World.drew _ = WY at *
      refine wpAnyH_take (i := 0) (v := ?_) opAt_0 (by kernel_rfl) (by kernel_rfl) (by kernel_rfl) (fun _ _ _ h => h) (Or.inl ⟨by rfl, ?_⟩) hHeld ?_
      rotate_left
      · (intro w' hSw; go_simp; try with_reducible rfl)
      try simp only [Act.put, List.setIfInBounds_toArray, List.set_cons_zero, List.set_cons_succ]
      refine wpAnyH_take (i := 1) (v := ?_) opAt_1 (by kernel_rfl) (by kernel_rfl) (by kernel_rfl) (fun _ _ _ h => h) (Or.inl ⟨by rfl, ?_⟩) hHeld ?_
      rotate_left
      · (intro w' hSw; go_simp; try with_reducible rfl)
      try simp only [Act.put, List.setIfInBounds_toArray, List.set_cons_zero, List.set_cons_succ]
      refine wpAnyH_take (i := 2) (v := ?_) opAt_2 (by kernel_rfl) (by kernel_rfl) (by kernel_rfl) (fun _ _ _ h => h) (Or.inl ⟨by rfl, ?_⟩) hHeld ?_
      rotate_left
      · (intro w' hSw; go_simp; try with_reducible rfl)
      try simp only [Act.put, List.setIfInBounds_toArray, List.set_cons_zero, List.set_cons_succ]
      refine wpAnyH_take (i := 3) (v := ?_) opAt_3 (by kernel_rfl) (by kernel_rfl) (by kernel_rfl) (fun _ _ _ h => h) (Or.inl ⟨by rfl, ?_⟩) hHeld ?_
      rotate_left
      · (intro w' hSw; go_simp; try with_reducible rfl)
      try simp only [Act.put, List.setIfInBounds_toArray, List.set_cons_zero, List.set_cons_succ]
      refine wpAnyH_take (i := 4) (v := ?_) opAt_4 (by kernel_rfl) (by kernel_rfl) (by kernel_rfl) (fun _ _ _ h => h) (Or.inl ⟨by rfl, ?_⟩) hHeld ?_
      rotate_left
      · (intro w' hSw; go_simp; try with_reducible rfl)
      try simp only [Act.put, List.setIfInBounds_toArray, List.set_cons_zero, List.set_cons_succ]
      refine wpAnyH_ready (rs := [5]) (by kernel_rfl) (by simp) ?_
      refine AllReadyH.cons rfl (fun K hK => ?_) AllReadyH.nil
      obtain ⟨t0, t1, t2, t3, t4⟩ := HT.out.at5
      obtain ⟨v0, v1, v2, v3, v4⟩ := HT.out.free5
      go_simp
      have hT5 := (((((HT.out.set 0 (.int .i64 0) (by simp)).set 1 (.string ⟨#[]⟩) (by simp)).set 2 (.int .u64 0) (by simp)).set 3 (.int .u32 0) (by simp)).set 4 (.slice none 0 0) (by simp))
      have hB5 := (((((HB.out.setCell (p := ⟨w.heap.size, 0, none⟩) (Nat.le_refl _) (.int .i64 0)).setCell (p := ⟨w.heap.size, 1, none⟩) (Nat.le_refl _) (.string ⟨#[]⟩)).setCell (p := ⟨w.heap.size, 2, none⟩) (Nat.le_refl _) (.int .u64 0)).setCell (p := ⟨w.heap.size, 3, none⟩) (Nat.le_refl _) (.int .u32 0)).setCell (p := ⟨w.heap.size, 4, none⟩) (Nat.le_refl _) (.slice none 0 0))
      simp only [List.set_cons_zero, List.set_cons_succ] at hT5
      have hH0 := hHeld
      clear hHeld
      refine hK.out _ _ (by show World.cell? _ ⟨w.heap.size + 1 + 1, 2, none⟩ = _; rw [World.cell?_setCell_other _ _ _ _ (by intro e; injection e with e1 e2; omega), World.cell?_setCell_other _ _ _ _ (by intro e; injection e with e1 e2; omega), World.cell?_setCell_other _ _ _ _ (by intro e; injection e with e1 e2; omega), World.cell?_setCell_other _ _ _ _ (by intro e; injection e with e1 e2; omega), World.cell?_setCell_other _ _ _ _ (by intro e; injection e with e1 e2; omega)]; exact hH0) (fun hHeld => ?_)
      clear hK K
      try simp only [Act.put, List.setIfInBounds_toArray, List.set_cons_zero, List.set_cons_succ]
      refine wpAnyH_take (i := 6) (v := ?_) opAt_6 (by kernel_rfl) (by kernel_rfl) (by kernel_rfl) (fun _ _ _ h => h) (Or.inl ⟨by rfl, ?_⟩) hHeld ?_
      rotate_left
      · (intro w' hSw; go_simp; try with_reducible rfl)
      try simp only [Act.put, List.setIfInBounds_toArray, List.set_cons_zero, List.set_cons_succ]
      refine wpAnyH_done (by kernel_rfl) ?_ _
      refine NoPanic.normal ?_
      clear t0 t1 t2 t3 t4 v0 v1 v2 v3 v4
      obtain ⟨u0, u1, u2, u3, u4⟩ := hT5.at5
      go_wp2_with fail
      refine bodyPost_ret (v := .tuple #[edV 0 ⟨#[]⟩ 0 0 (.slice none 0 0), .int .i64 (ec : Int)]) (by simp [results, Tryd.results21, go_sem, u0, u1, u2, u3, u4, edV]) rfl ?_
      rw [HX.out.1, HX.out.2]
      exact ⟨⟨_, rfl, EdV.none_⟩, hB5⟩
  refine (rnum_ok w.heap.size (w.heap.size + 1 + 1) 1 0 1099511627776 q L rq _ HW.out n1).mono ?_
  rintro e wq ⟨rfl, ⟨aq, rfl, hw⟩, hc⟩
  have HT := Lib.hid (HT.out.chg hc (by omega))
  have HE := Lib.hid (HE.out.chg hc (by omega))
  have HB := Lib.hid (HB.out.trans (hc.below (B := w.heap.size) (by have := HB.out.size; omega) (fun i hi => by omega)))
  have HW := Lib.hid hw
  have qq := num_le n1
  have Hn1 := Lib.hid n1
  clear hw hc n1
  obtain ⟨x0, x1, x2, x3, x4⟩ := HE.out.at5
  obtain ⟨f0, f1, f2, f3, f4⟩ := HE.out.free5
  obtain ⟨gA, gc, g0, g1, g2, gf1, gf2, gl1, gl2, gl3, gl4⟩ := HW.out.cells
  have HT := Lib.hid (HT.out.other ⟨w.heap.size + 1, 2, none⟩ (.int .u64 (q : Int)) (by show w.heap.size + 1 ≠ w.heap.size; omega))
  have hE' := HE.out.set 2 (.int .u64 (q : Int)) (by simp)
  simp only [List.set_cons_zero, List.set_cons_succ] at hE'
  have HE := Lib.hid hE'
  have HW := Lib.hid (HW.out.other ⟨w.heap.size + 1, 2, none⟩ (.int .u64 (q : Int)) (by show w.heap.size + 1 ≠ w.heap.size + 1 + 1; omega) (by show w.heap.size ≤ w.heap.size + 1; omega))
  have HB := Lib.hid (HB.out.setCell (p := ⟨w.heap.size + 1, 2, none⟩) (by show w.heap.size ≤ w.heap.size + 1; omega) (.int .u64 (q : Int)))
  clear hE'
  go_wp2_with fail
  generalize hWn : World.setCell _ _ _ = WA at *
  clear hWn
  clear x0 x1 x2 x3 x4 f0 f1 f2 f3 f4 g0 g1 g2 gf1 gf2 gl1 gl2 gl3 gl4
  rcases n2 : Ed.num 0 200 (L.drop aq) with ec | ⟨n, rn⟩
  · refine (rnum_er w.heap.size (w.heap.size + 1 + 1) aq 0 200 ec L _ HW.out n2).mono ?_
    rintro e wn ⟨rfl, hw, hc0, hc⟩
    have HT := Lib.hid (HT.out.chg hc (by omega))
    have HE := Lib.hid (HE.out.chg hc (by omega))
    have HB := Lib.hid (HB.out.trans (hc.below (B := w.heap.size) (by have := HB.out.size; omega) (fun i hi => by omega)))
    have HW := Lib.hid hw
    have HC0 := Lib.hid hc0
    have Hn2 := Lib.hid n2
    clear hw hc0 hc n2
    obtain ⟨x0, x1, x2, x3, x4⟩ := HE.out.at5
    obtain ⟨f0, f1, f2, f3, f4⟩ := HE.out.free5
    obtain ⟨gA, gc, g0, g1, g2, gf1, gf2, gl1, gl2, gl3, gl4⟩ := HW.out.cells
    go_wp2_with fail
    clear x0 x1 x2 x3 x4 f0 f1 f2 f3 f4 g0 g1 g2 gf1 gf2 gl1 gl2 gl3 gl4
    go_loopg [12, 13, 14] 0 (fun gh lv iv _ wr => lv = .int .u64 0 ∧ iv = .int .i64 0 ∧ wr = wn)
    case atStart => exact ⟨rfl, rfl, rfl⟩
    case round =>
      obtain ⟨rfl, rfl, rfl⟩ := hrel
      have hX : X = Ed.none ∧ C = ec := by
        have h9 := HQ.out
        simp only [Ed.bnd, Hn1.out, Hn2.out, Ed.endR] at h9
        exact ⟨(Prod.mk.inj h9).1.symm, (Prod.mk.inj h9).2.symm⟩
      have HX := Lib.hid hX
      have e0 : ((ec : Int) == 0) = false := by have := HC0.out; simp; omega
      have e0' : ¬ (ec : Int) = 0 := by have := HC0.out; omega
      clear hX
      obtain ⟨x0, x1, x2, x3, x4⟩ := HE.out.at5
      obtain ⟨f0, f1, f2, f3, f4⟩ := HE.out.free5
      obtain ⟨gA, gc, g0, g1, g2, gf1, gf2, gl1, gl2, gl3, gl4⟩ := HW.out.cells
      go_wp2_with fail
      refine wp_region_noPanic ?_
      refine wp_region_held_drew (S := fun w' : World => w'.cell? ⟨w.heap.size + 1 + 1, 2, none⟩ = some (.int .i64 (ec : Int))) (by kernel_rfl) g2 (fun hHeld => ?_)
      have HT := Lib.hid HT.out.drew
      have HB := Lib.hid (below_drew1 HB.out)
      clear x0 x1 x2 x3 x4 f0 f1 f2 f3 f4 g0 g1 g2 gf1 gf2 gl1 gl2 gl3 gl4
      generalize World.drew _ = WY at *
      refine wpAnyH_take (i := 0) (v := ?_) opAt_0 (by kernel_rfl) (by kernel_rfl) (by kernel_rfl) (fun _ _ _ h => h) (Or.inl ⟨by rfl, ?_⟩) hHeld ?_
      rotate_left
      · (intro w' hSw; go_simp; try with_reducible rfl)
      try simp only [Act.put, List.setIfInBounds_toArray, List.set_cons_zero, List.set_cons_succ]
      refine wpAnyH_take (i := 1) (v := ?_) opAt_1 (by kernel_rfl) (by kernel_rfl) (by kernel_rfl) (fun _ _ _ h => h) (Or.inl ⟨by rfl, ?_⟩) hHeld ?_
      rotate_left
      · (intro w' hSw; go_simp; try with_reducible rfl)
      try simp only [Act.put, List.setIfInBounds_toArray, List.set_cons_zero, List.set_cons_succ]
      refine wpAnyH_take (i := 2) (v := ?_) opAt_2 (by kernel_rfl) (by kernel_rfl) (by kernel_rfl) (fun _ _ _ h => h) (Or.inl ⟨by rfl, ?_⟩) hHeld ?_
      rotate_left
      · (intro w' hSw; go_simp; try with_reducible rfl)
      try simp only [Act.put, List.setIfInBounds_toArray, List.set_cons_zero, List.set_cons_succ]
      refine wpAnyH_take (i := 3) (v := ?_) opAt_3 (by kernel_rfl) (by kernel_rfl) (by kernel_rfl) (fun _ _ _ h => h) (Or.inl ⟨by rfl, ?_⟩) hHeld ?_
      rotate_left
      · (intro w' hSw; go_simp; try with_reducible rfl)
      try simp only [Act.put, List.setIfInBounds_toArray, List.set_cons_zero, List.set_cons_succ]
      refine wpAnyH_take (i := 4) (v := ?_) opAt_4 (by kernel_rfl) (by kernel_rfl) (by kernel_rfl) (fun _ _ _ h => h) (Or.inl ⟨by rfl, ?_⟩) hHeld ?_
      rotate_left
      · (intro w' hSw; go_simp; try with_reducible rfl)
      try simp only [Act.put, List.setIfInBounds_toArray, List.set_cons_zero, List.set_cons_succ]
      refine wpAnyH_ready (rs := [5]) (by kernel_rfl) (by simp) ?_
      refine AllReadyH.cons rfl (fun K hK => ?_) AllReadyH.nil
      obtain ⟨t0, t1, t2, t3, t4⟩ := HT.out.at5
      obtain ⟨v0, v1, v2, v3, v4⟩ := HT.out.free5
      go_simp
      have hT5 := (((((HT.out.set 0 (.int .i64 0) (by simp)).set 1 (.string ⟨#[]⟩) (by simp)).set 2 (.int .u64 0) (by simp)).set 3 (.int .u32 0) (by simp)).set 4 (.slice none 0 0) (by simp))
      have hB5 := (((((HB.out.setCell (p := ⟨w.heap.size, 0, none⟩) (Nat.le_refl _) (.int .i64 0)).setCell (p := ⟨w.heap.size, 1, none⟩) (Nat.le_refl _) (.string ⟨#[]⟩)).setCell (p := ⟨w.heap.size, 2, none⟩) (Nat.le_refl _) (.int .u64 0)).setCell (p := ⟨w.heap.size, 3, none⟩) (Nat.le_refl _) (.int .u32 0)).setCell (p := ⟨w.heap.size, 4, none⟩) (Nat.le_refl _) (.slice none 0 0))
      simp only [List.set_cons_zero, List.set_cons_succ] at hT5
      have hH0 := hHeld
      clear hHeld
      refine hK.out _ _ (by show World.cell? _ ⟨w.heap.size + 1 + 1, 2, none⟩ = _; rw [World.cell?_setCell_other _ _ _ _ (by intro e; injection e with e1 e2; omega), World.cell?_setCell_other _ _ _ _ (by intro e; injection e with e1 e2; omega), World.cell?_setCell_other _ _ _ _ (by intro e; injection e with e1 e2; omega), World.cell?_setCell_other _ _ _ _ (by intro e; injection e with e1 e2; omega), World.cell?_setCell_other _ _ _ _ (by intro e; injection e with e1 e2; omega)]; exact hH0) (fun hHeld => ?_)
      clear hK K
      try simp only [Act.put, List.setIfInBounds_toArray, List.set_cons_zero, List.set_cons_succ]
      refine wpAnyH_take (i := 6) (v := ?_) opAt_6 (by kernel_rfl) (by kernel_rfl) (by kernel_rfl) (fun _ _ _ h => h) (Or.inl ⟨by rfl, ?_⟩) hHeld ?_
      rotate_left
      · (intro w' hSw; go_simp; try with_reducible rfl)
      try simp only [Act.put, List.setIfInBounds_toArray, List.set_cons_zero, List.set_cons_succ]
      refine wpAnyH_done (by kernel_rfl) ?_ _
      refine NoPanic.normal ?_
      clear t0 t1 t2 t3 t4 v0 v1 v2 v3 v4
      obtain ⟨u0, u1, u2, u3, u4⟩ := hT5.at5
      go_wp2_with fail
      refine bodyPost_ret (v := .tuple #[edV 0 ⟨#[]⟩ 0 0 (.slice none 0 0), .int .i64 (ec : Int)]) (by simp [results, Tryd.results21, go_sem, u0, u1, u2, u3, u4, edV]) rfl ?_
      rw [HX.out.1, HX.out.2]
      exact ⟨⟨_, rfl, EdV.none_⟩, hB5⟩
  refine (rnum_ok w.heap.size (w.heap.size + 1 + 1) aq 0 200 n L rn _ HW.out n2).mono ?_
  rintro e wn ⟨rfl, ⟨an, rfl, hw⟩, hc⟩
  have HT := Lib.hid (HT.out.chg hc (by omega))
  have HE := Lib.hid (HE.out.chg hc (by omega))
  have HB := Lib.hid (HB.out.trans (hc.below (B := w.heap.size) (by have := HB.out.size; omega) (fun i hi => by omega)))
  have HW := Lib.hid hw
  have qn := num_le n2
  have Hn2 := Lib.hid n2
  clear hw hc n2
  have zn : IntKind.i64.wrap (n : Int) = (n : Int) := IntWalk.i64_in _ (by omega)
  obtain ⟨x0, x1, x2, x3, x4⟩ := HE.out.at5
  obtain ⟨f0, f1, f2, f3, f4⟩ := HE.out.free5
  obtain ⟨gA, gc, g0, g1, g2, gf1, gf2, gl1, gl2, gl3, gl4⟩ := HW.out.cells
  go_wp2_with fail
  clear x0 x1 x2 x3 x4 f0 f1 f2 f3 f4 g0 g1 g2 gf1 gf2 gl1 gl2 gl3 gl4
  have HQ0 := HQ
  go_loopg [12, 13, 14] n (fun gh lv iv _ wr => ∃ j : Nat, j + gh = n ∧ iv = .int .i64 j ∧ ((∃ (a last : Nat) (acc : List Ed.Sl) (v : Value), lv = .int .u64 last ∧ last ≤ 16777215 ∧ Ed.sealsP n 0 (L.drop an) = Ed.app acc (Ed.sealsP (n - j) last (L.drop a)) ∧ acc.length = j ∧ Bx wr (w.heap.size + 1) [.int .i64 6, .string ⟨#[]⟩, .int .u64 (q : Int), .int .u32 0, v] ∧ wr.ownsRow (w.heap.size + 1 + 1 + 1) 28 5 v acc.length (slVs acc) ∧ WkA wr w.heap.size (w.heap.size + 1 + 1) L a 0) ∨ (∃ (a ec : Nat) (v : Value), ec ≠ 0 ∧ Ed.sealsP n 0 (L.drop an) = .error ec ∧ Bx wr (w.heap.size + 1) [.int .i64 6, .string ⟨#[]⟩, .int .u64 (q : Int), .int .u32 0, v] ∧ WkA wr w.heap.size (w.heap.size + 1 + 1) L a ec)) ∧ Bx wr w.heap.size [.int .i64 0, .string ⟨#[]⟩, .int .u64 0, .int .u32 0, .slice none 0 0] ∧ Below w.heap.size w wr)
  case atStart => exact ⟨0, by omega, rfl, .inl ⟨an, 0, [], .slice none 0 0, rfl, by omega, (Ed.app_nil _).symm, rfl, HE.out, World.ownsRow_nil _ _ _ _, HW.out⟩, HT.out, HB.out⟩
  case round =>
    obtain ⟨j, hj, rfl, hst, hT, hB⟩ := hrel
    have HT := Lib.hid hT
    have HB := Lib.hid hB
    clear hT hB
    rcases hst with ⟨a, last, acc, v, rfl, hla, hsp, hacc, hE, hO, hW⟩ | ⟨a, ec, v, hc0, hsp, hE, hW⟩
    rotate_left
    · have HE := Lib.hid hE
      have HW := Lib.hid hW
      have HC0 := Lib.hid hc0
      have Hsp := Lib.hid hsp
      clear hE hW hc0 hsp
      by_cases hlt : j < n
      · have hlt' : (j : Int) < (n : Int) := by omega
        have hX : X = Ed.none ∧ C = ec := by
          have h9 := HQ.out
          simp only [Ed.bnd, Hn1.out, Hn2.out, Hsp.out, Ed.endR] at h9
          exact ⟨(Prod.mk.inj h9).1.symm, (Prod.mk.inj h9).2.symm⟩
        have HX := Lib.hid hX
        have e0 : ((ec : Int) == 0) = false := by have := HC0.out; simp; omega
        have e0' : ¬ (ec : Int) = 0 := by have := HC0.out; omega
        clear hX
        obtain ⟨x0, x1, x2, x3, x4⟩ := HE.out.at5
        obtain ⟨f0, f1, f2, f3, f4⟩ := HE.out.free5
        obtain ⟨gA, gc, g0, g1, g2, gf1, gf2, gl1, gl2, gl3, gl4⟩ := HW.out.cells
        go_wp2_with fail
        refine wp_region_noPanic ?_
        refine wp_region_held_drew (S := fun w' : World => w'.cell? ⟨w.heap.size + 1 + 1, 2, none⟩ = some (.int .i64 (ec : Int))) (by kernel_rfl) g2 (fun hHeld => ?_)
        have HT := Lib.hid HT.out.drew
        have HB := Lib.hid (below_drew1 HB.out)
        clear x0 x1 x2 x3 x4 f0 f1 f2 f3 f4 g0 g1 g2 gf1 gf2 gl1 gl2 gl3 gl4
        generalize World.drew _ = WY at *
        refine wpAnyH_take (i := 0) (v := ?_) opAt_0 (by kernel_rfl) (by kernel_rfl) (by kernel_rfl) (fun _ _ _ h => h) (Or.inl ⟨by rfl, ?_⟩) hHeld ?_
        rotate_left
        · (intro w' hSw; go_simp; try with_reducible rfl)
        try simp only [Act.put, List.setIfInBounds_toArray, List.set_cons_zero, List.set_cons_succ]
        refine wpAnyH_take (i := 1) (v := ?_) opAt_1 (by kernel_rfl) (by kernel_rfl) (by kernel_rfl) (fun _ _ _ h => h) (Or.inl ⟨by rfl, ?_⟩) hHeld ?_
        rotate_left
        · (intro w' hSw; go_simp; try with_reducible rfl)
        try simp only [Act.put, List.setIfInBounds_toArray, List.set_cons_zero, List.set_cons_succ]
        refine wpAnyH_take (i := 2) (v := ?_) opAt_2 (by kernel_rfl) (by kernel_rfl) (by kernel_rfl) (fun _ _ _ h => h) (Or.inl ⟨by rfl, ?_⟩) hHeld ?_
        rotate_left
        · (intro w' hSw; go_simp; try with_reducible rfl)
        try simp only [Act.put, List.setIfInBounds_toArray, List.set_cons_zero, List.set_cons_succ]
        refine wpAnyH_take (i := 3) (v := ?_) opAt_3 (by kernel_rfl) (by kernel_rfl) (by kernel_rfl) (fun _ _ _ h => h) (Or.inl ⟨by rfl, ?_⟩) hHeld ?_
        rotate_left
        · (intro w' hSw; go_simp; try with_reducible rfl)
        try simp only [Act.put, List.setIfInBounds_toArray, List.set_cons_zero, List.set_cons_succ]
        refine wpAnyH_take (i := 4) (v := ?_) opAt_4 (by kernel_rfl) (by kernel_rfl) (by kernel_rfl) (fun _ _ _ h => h) (Or.inl ⟨by rfl, ?_⟩) hHeld ?_
        rotate_left
        · (intro w' hSw; go_simp; try with_reducible rfl)
        try simp only [Act.put, List.setIfInBounds_toArray, List.set_cons_zero, List.set_cons_succ]
        refine wpAnyH_ready (rs := [5]) (by kernel_rfl) (by simp) ?_
        refine AllReadyH.cons rfl (fun K hK => ?_) AllReadyH.nil
        obtain ⟨t0, t1, t2, t3, t4⟩ := HT.out.at5
        obtain ⟨v0, v1, v2, v3, v4⟩ := HT.out.free5
        go_simp
        have hT5 := (((((HT.out.set 0 (.int .i64 0) (by simp)).set 1 (.string ⟨#[]⟩) (by simp)).set 2 (.int .u64 0) (by simp)).set 3 (.int .u32 0) (by simp)).set 4 (.slice none 0 0) (by simp))
        have hB5 := (((((HB.out.setCell (p := ⟨w.heap.size, 0, none⟩) (Nat.le_refl _) (.int .i64 0)).setCell (p := ⟨w.heap.size, 1, none⟩) (Nat.le_refl _) (.string ⟨#[]⟩)).setCell (p := ⟨w.heap.size, 2, none⟩) (Nat.le_refl _) (.int .u64 0)).setCell (p := ⟨w.heap.size, 3, none⟩) (Nat.le_refl _) (.int .u32 0)).setCell (p := ⟨w.heap.size, 4, none⟩) (Nat.le_refl _) (.slice none 0 0))
        simp only [List.set_cons_zero, List.set_cons_succ] at hT5
        have hH0 := hHeld
        clear hHeld
        refine hK.out _ _ (by show World.cell? _ ⟨w.heap.size + 1 + 1, 2, none⟩ = _; rw [World.cell?_setCell_other _ _ _ _ (by intro e; injection e with e1 e2; omega), World.cell?_setCell_other _ _ _ _ (by intro e; injection e with e1 e2; omega), World.cell?_setCell_other _ _ _ _ (by intro e; injection e with e1 e2; omega), World.cell?_setCell_other _ _ _ _ (by intro e; injection e with e1 e2; omega), World.cell?_setCell_other _ _ _ _ (by intro e; injection e with e1 e2; omega)]; exact hH0) (fun hHeld => ?_)
        clear hK K
        try simp only [Act.put, List.setIfInBounds_toArray, List.set_cons_zero, List.set_cons_succ]
        refine wpAnyH_take (i := 6) (v := ?_) opAt_6 (by kernel_rfl) (by kernel_rfl) (by kernel_rfl) (fun _ _ _ h => h) (Or.inl ⟨by rfl, ?_⟩) hHeld ?_
        rotate_left
        · (intro w' hSw; go_simp; try with_reducible rfl)
        try simp only [Act.put, List.setIfInBounds_toArray, List.set_cons_zero, List.set_cons_succ]
        refine wpAnyH_done (by kernel_rfl) ?_ _
        refine NoPanic.normal ?_
        clear t0 t1 t2 t3 t4 v0 v1 v2 v3 v4
        obtain ⟨u0, u1, u2, u3, u4⟩ := hT5.at5
        go_wp2_with fail
        refine bodyPost_ret (v := .tuple #[edV 0 ⟨#[]⟩ 0 0 (.slice none 0 0), .int .i64 (ec : Int)]) (by simp [results, Tryd.results21, go_sem, u0, u1, u2, u3, u4, edV]) rfl ?_
        rw [HX.out.1, HX.out.2]
        exact ⟨⟨_, rfl, EdV.none_⟩, hB5⟩
      · have hlt' : ¬ (j : Int) < (n : Int) := by omega
        have hX : X = Ed.none ∧ C = ec := by
          have h9 := HQ.out
          simp only [Ed.bnd, Hn1.out, Hn2.out, Hsp.out, Ed.endR] at h9
          exact ⟨(Prod.mk.inj h9).1.symm, (Prod.mk.inj h9).2.symm⟩
        have HX := Lib.hid hX
        have e0 : ((ec : Int) == 0) = false := by have := HC0.out; simp; omega
        have e0' : ¬ (ec : Int) = 0 := by have := HC0.out; omega
        clear hX
        obtain ⟨x0, x1, x2, x3, x4⟩ := HE.out.at5
        obtain ⟨f0, f1, f2, f3, f4⟩ := HE.out.free5
        obtain ⟨gA, gc, g0, g1, g2, gf1, gf2, gl1, gl2, gl3, gl4⟩ := HW.out.cells
        go_wp2_with fail
        refine wp_region_noPanic ?_
        refine wp_region_held_drew (S := fun w' : World => w'.cell? ⟨w.heap.size + 1 + 1, 2, none⟩ = some (.int .i64 (ec : Int))) (by kernel_rfl) g2 (fun hHeld => ?_)
        have HT := Lib.hid HT.out.drew
        have HB := Lib.hid (below_drew1 HB.out)
        clear x0 x1 x2 x3 x4 f0 f1 f2 f3 f4 g0 g1 g2 gf1 gf2 gl1 gl2 gl3 gl4
        generalize World.drew _ = WY at *
        refine wpAnyH_take (i := 0) (v := ?_) opAt_0 (by kernel_rfl) (by kernel_rfl) (by kernel_rfl) (fun _ _ _ h => h) (Or.inl ⟨by rfl, ?_⟩) hHeld ?_
        rotate_left
        · (intro w' hSw; go_simp; try with_reducible rfl)
        try simp only [Act.put, List.setIfInBounds_toArray, List.set_cons_zero, List.set_cons_succ]
        refine wpAnyH_take (i := 1) (v := ?_) opAt_1 (by kernel_rfl) (by kernel_rfl) (by kernel_rfl) (fun _ _ _ h => h) (Or.inl ⟨by rfl, ?_⟩) hHeld ?_
        rotate_left
        · (intro w' hSw; go_simp; try with_reducible rfl)
        try simp only [Act.put, List.setIfInBounds_toArray, List.set_cons_zero, List.set_cons_succ]
        refine wpAnyH_take (i := 2) (v := ?_) opAt_2 (by kernel_rfl) (by kernel_rfl) (by kernel_rfl) (fun _ _ _ h => h) (Or.inl ⟨by rfl, ?_⟩) hHeld ?_
        rotate_left
        · (intro w' hSw; go_simp; try with_reducible rfl)
        try simp only [Act.put, List.setIfInBounds_toArray, List.set_cons_zero, List.set_cons_succ]
        refine wpAnyH_take (i := 3) (v := ?_) opAt_3 (by kernel_rfl) (by kernel_rfl) (by kernel_rfl) (fun _ _ _ h => h) (Or.inl ⟨by rfl, ?_⟩) hHeld ?_
        rotate_left
        · (intro w' hSw; go_simp; try with_reducible rfl)
        try simp only [Act.put, List.setIfInBounds_toArray, List.set_cons_zero, List.set_cons_succ]
        refine wpAnyH_take (i := 4) (v := ?_) opAt_4 (by kernel_rfl) (by kernel_rfl) (by kernel_rfl) (fun _ _ _ h => h) (Or.inl ⟨by rfl, ?_⟩) hHeld ?_
        rotate_left
        · (intro w' hSw; go_simp; try with_reducible rfl)
        try simp only [Act.put, List.setIfInBounds_toArray, List.set_cons_zero, List.set_cons_succ]
        refine wpAnyH_ready (rs := [5]) (by kernel_rfl) (by simp) ?_
        refine AllReadyH.cons rfl (fun K hK => ?_) AllReadyH.nil
        obtain ⟨t0, t1, t2, t3, t4⟩ := HT.out.at5
        obtain ⟨v0, v1, v2, v3, v4⟩ := HT.out.free5
        go_simp
        have hT5 := (((((HT.out.set 0 (.int .i64 0) (by simp)).set 1 (.string ⟨#[]⟩) (by simp)).set 2 (.int .u64 0) (by simp)).set 3 (.int .u32 0) (by simp)).set 4 (.slice none 0 0) (by simp))
        have hB5 := (((((HB.out.setCell (p := ⟨w.heap.size, 0, none⟩) (Nat.le_refl _) (.int .i64 0)).setCell (p := ⟨w.heap.size, 1, none⟩) (Nat.le_refl _) (.string ⟨#[]⟩)).setCell (p := ⟨w.heap.size, 2, none⟩) (Nat.le_refl _) (.int .u64 0)).setCell (p := ⟨w.heap.size, 3, none⟩) (Nat.le_refl _) (.int .u32 0)).setCell (p := ⟨w.heap.size, 4, none⟩) (Nat.le_refl _) (.slice none 0 0))
        simp only [List.set_cons_zero, List.set_cons_succ] at hT5
        have hH0 := hHeld
        clear hHeld
        refine hK.out _ _ (by show World.cell? _ ⟨w.heap.size + 1 + 1, 2, none⟩ = _; rw [World.cell?_setCell_other _ _ _ _ (by intro e; injection e with e1 e2; omega), World.cell?_setCell_other _ _ _ _ (by intro e; injection e with e1 e2; omega), World.cell?_setCell_other _ _ _ _ (by intro e; injection e with e1 e2; omega), World.cell?_setCell_other _ _ _ _ (by intro e; injection e with e1 e2; omega), World.cell?_setCell_other _ _ _ _ (by intro e; injection e with e1 e2; omega)]; exact hH0) (fun hHeld => ?_)
        clear hK K
        try simp only [Act.put, List.setIfInBounds_toArray, List.set_cons_zero, List.set_cons_succ]
        refine wpAnyH_take (i := 6) (v := ?_) opAt_6 (by kernel_rfl) (by kernel_rfl) (by kernel_rfl) (fun _ _ _ h => h) (Or.inl ⟨by rfl, ?_⟩) hHeld ?_
        rotate_left
        · (intro w' hSw; go_simp; try with_reducible rfl)
        try simp only [Act.put, List.setIfInBounds_toArray, List.set_cons_zero, List.set_cons_succ]
        refine wpAnyH_done (by kernel_rfl) ?_ _
        refine NoPanic.normal ?_
        clear t0 t1 t2 t3 t4 v0 v1 v2 v3 v4
        obtain ⟨u0, u1, u2, u3, u4⟩ := hT5.at5
        go_wp2_with fail
        refine bodyPost_ret (v := .tuple #[edV 0 ⟨#[]⟩ 0 0 (.slice none 0 0), .int .i64 (ec : Int)]) (by simp [results, Tryd.results21, go_sem, u0, u1, u2, u3, u4, edV]) rfl ?_
        rw [HX.out.1, HX.out.2]
        exact ⟨⟨_, rfl, EdV.none_⟩, hB5⟩
    have HE := Lib.hid hE
    have HW := Lib.hid hW
    have HO := Lib.hid hO
    have Hsp := Lib.hid hsp
    have Hac := Lib.hid hacc
    obtain ⟨Av, cv, rfl, _, _, _⟩ := own_slice hO
    clear hE hW hO hsp hacc
    by_cases hlt : j < n
    rotate_left
    · have hlt' : ¬ (j : Int) < (n : Int) := by omega
      have hjn : j = n := by omega
      have hsp2 : Ed.sealsP n 0 (L.drop an) = .ok (acc, L.drop a) := by
        rw [Hsp.out, hjn, Nat.sub_self]
        show Ed.app acc (.ok ([], L.drop a)) = _
        simp only [Ed.app, List.append_nil]
      have Hsp2 := Lib.hid hsp2
      clear hsp2 hjn
      by_cases hal : a < L.length
      · obtain ⟨yy, rr, hdr⟩ := Ed.drop_pos hal
        have hX : X = Ed.none ∧ C = 5 := by
          have h9 := HQ.out
          simp only [Ed.bnd, Hn1.out, Hn2.out, Hsp2.out, Ed.ret, hdr, Ed.endR] at h9
          exact ⟨(Prod.mk.inj h9).1.symm, (Prod.mk.inj h9).2.symm⟩
        have HX := Lib.hid hX
        have hal' : (a : Int) < (L.length : Int) := by omega
        clear hX hdr hal
        obtain ⟨x0, x1, x2, x3, x4⟩ := HE.out.at5
        obtain ⟨f0, f1, f2, f3, f4⟩ := HE.out.free5
        obtain ⟨gA, gc, g0, g1, g2, gf1, gf2, gl1, gl2, gl3, gl4⟩ := HW.out.cells
        have HT := Lib.hid (HT.out.other ⟨w.heap.size + 1 + 1, 2, none⟩ (.int .i64 5) (by show w.heap.size + 1 + 1 ≠ w.heap.size; omega))
        have HW := Lib.hid (HW.out.bad (c' := 5))
        have HB := Lib.hid (HB.out.setCell (p := ⟨w.heap.size + 1 + 1, 2, none⟩) (by show w.heap.size ≤ w.heap.size + 1 + 1; omega) (.int .i64 5))
        obtain ⟨tt0, tt1, tt2, tt3, tt4⟩ := HT.out.at5
        obtain ⟨vv0, vv1, vv2, vv3, vv4⟩ := HT.out.free5
        obtain ⟨hA9, hc9, hg0, hg1, hg2, _, _, _, _, _, _⟩ := HW.out.cells
        go_wp2_with fail
        generalize hWn : World.setCell _ _ _ = WZ at *
        clear hWn
        refine wp_region_noPanic ?_
        refine wp_region_held_drew (S := fun w' : World => w'.cell? ⟨w.heap.size + 1 + 1, 2, none⟩ = some (.int .i64 5)) (by kernel_rfl) hg2 (fun hHeld => ?_)
        have HT := Lib.hid HT.out.drew
        have HB := Lib.hid (below_drew1 HB.out)
        clear x0 x1 x2 x3 x4 f0 f1 f2 f3 f4 g0 g1 g2 gf1 gf2 gl1 gl2 gl3 gl4
        clear tt0 tt1 tt2 tt3 tt4 vv0 vv1 vv2 vv3 vv4 hg0 hg1 hg2
        generalize World.drew _ = WY at *
        refine wpAnyH_take (i := 0) (v := ?_) opAt_0 (by kernel_rfl) (by kernel_rfl) (by kernel_rfl) (fun _ _ _ h => h) (Or.inl ⟨by rfl, ?_⟩) hHeld ?_
        rotate_left
        · (intro w' hSw; go_simp; try with_reducible rfl)
        try simp only [Act.put, List.setIfInBounds_toArray, List.set_cons_zero, List.set_cons_succ]
        refine wpAnyH_take (i := 1) (v := ?_) opAt_1 (by kernel_rfl) (by kernel_rfl) (by kernel_rfl) (fun _ _ _ h => h) (Or.inl ⟨by rfl, ?_⟩) hHeld ?_
        rotate_left
        · (intro w' hSw; go_simp; try with_reducible rfl)
        try simp only [Act.put, List.setIfInBounds_toArray, List.set_cons_zero, List.set_cons_succ]
        refine wpAnyH_take (i := 2) (v := ?_) opAt_2 (by kernel_rfl) (by kernel_rfl) (by kernel_rfl) (fun _ _ _ h => h) (Or.inl ⟨by rfl, ?_⟩) hHeld ?_
        rotate_left
        · (intro w' hSw; go_simp; try with_reducible rfl)
        try simp only [Act.put, List.setIfInBounds_toArray, List.set_cons_zero, List.set_cons_succ]
        refine wpAnyH_take (i := 3) (v := ?_) opAt_3 (by kernel_rfl) (by kernel_rfl) (by kernel_rfl) (fun _ _ _ h => h) (Or.inl ⟨by rfl, ?_⟩) hHeld ?_
        rotate_left
        · (intro w' hSw; go_simp; try with_reducible rfl)
        try simp only [Act.put, List.setIfInBounds_toArray, List.set_cons_zero, List.set_cons_succ]
        refine wpAnyH_take (i := 4) (v := ?_) opAt_4 (by kernel_rfl) (by kernel_rfl) (by kernel_rfl) (fun _ _ _ h => h) (Or.inl ⟨by rfl, ?_⟩) hHeld ?_
        rotate_left
        · (intro w' hSw; go_simp; try with_reducible rfl)
        try simp only [Act.put, List.setIfInBounds_toArray, List.set_cons_zero, List.set_cons_succ]
        refine wpAnyH_ready (rs := [5]) (by kernel_rfl) (by simp) ?_
        refine AllReadyH.cons rfl (fun K hK => ?_) AllReadyH.nil
        obtain ⟨t0, t1, t2, t3, t4⟩ := HT.out.at5
        obtain ⟨v0, v1, v2, v3, v4⟩ := HT.out.free5
        go_simp
        have hT5 := (((((HT.out.set 0 (.int .i64 0) (by simp)).set 1 (.string ⟨#[]⟩) (by simp)).set 2 (.int .u64 0) (by simp)).set 3 (.int .u32 0) (by simp)).set 4 (.slice none 0 0) (by simp))
        have hB5 := (((((HB.out.setCell (p := ⟨w.heap.size, 0, none⟩) (Nat.le_refl _) (.int .i64 0)).setCell (p := ⟨w.heap.size, 1, none⟩) (Nat.le_refl _) (.string ⟨#[]⟩)).setCell (p := ⟨w.heap.size, 2, none⟩) (Nat.le_refl _) (.int .u64 0)).setCell (p := ⟨w.heap.size, 3, none⟩) (Nat.le_refl _) (.int .u32 0)).setCell (p := ⟨w.heap.size, 4, none⟩) (Nat.le_refl _) (.slice none 0 0))
        simp only [List.set_cons_zero, List.set_cons_succ] at hT5
        have hH0 := hHeld
        clear hHeld
        refine hK.out _ _ (by show World.cell? _ ⟨w.heap.size + 1 + 1, 2, none⟩ = _; rw [World.cell?_setCell_other _ _ _ _ (by intro e; injection e with e1 e2; omega), World.cell?_setCell_other _ _ _ _ (by intro e; injection e with e1 e2; omega), World.cell?_setCell_other _ _ _ _ (by intro e; injection e with e1 e2; omega), World.cell?_setCell_other _ _ _ _ (by intro e; injection e with e1 e2; omega), World.cell?_setCell_other _ _ _ _ (by intro e; injection e with e1 e2; omega)]; exact hH0) (fun hHeld => ?_)
        clear hK K
        try simp only [Act.put, List.setIfInBounds_toArray, List.set_cons_zero, List.set_cons_succ]
        refine wpAnyH_take (i := 6) (v := ?_) opAt_6 (by kernel_rfl) (by kernel_rfl) (by kernel_rfl) (fun _ _ _ h => h) (Or.inl ⟨by rfl, ?_⟩) hHeld ?_
        rotate_left
        · (intro w' hSw; go_simp; try with_reducible rfl)
        try simp only [Act.put, List.setIfInBounds_toArray, List.set_cons_zero, List.set_cons_succ]
        refine wpAnyH_done (by kernel_rfl) ?_ _
        refine NoPanic.normal ?_
        clear t0 t1 t2 t3 t4 v0 v1 v2 v3 v4
        obtain ⟨u0, u1, u2, u3, u4⟩ := hT5.at5
        go_wp2_with fail
        refine bodyPost_ret (v := .tuple #[edV 0 ⟨#[]⟩ 0 0 (.slice none 0 0), .int .i64 (5 : Int)]) (by simp [results, Tryd.results21, go_sem, u0, u1, u2, u3, u4, edV]) rfl ?_
        rw [HX.out.1, HX.out.2]
        exact ⟨⟨_, rfl, EdV.none_⟩, hB5⟩
      · have hdr := Ed.drop_all hal
        have hX : X = ⟨6, ⟨#[]⟩, q, 0, acc⟩ ∧ C = 0 := by
          have h9 := HQ.out
          simp only [Ed.bnd, Hn1.out, Hn2.out, Hsp2.out, Ed.ret, hdr, Ed.endR] at h9
          exact ⟨(Prod.mk.inj h9).1.symm, (Prod.mk.inj h9).2.symm⟩
        have HX := Lib.hid hX
        have hal' : ¬ (a : Int) < (L.length : Int) := by omega
        clear hX hdr hal
        obtain ⟨x0, x1, x2, x3, x4⟩ := HE.out.at5
        obtain ⟨f0, f1, f2, f3, f4⟩ := HE.out.free5
        obtain ⟨gA, gc, g0, g1, g2, gf1, gf2, gl1, gl2, gl3, gl4⟩ := HW.out.cells
        obtain ⟨t0, t1, t2, t3, t4⟩ := HT.out.at5
        obtain ⟨v0, v1, v2, v3, v4⟩ := HT.out.free5
        go_wp2_with fail
        have hT5 := (((((HT.out.set 0 (.int .i64 6) (by simp)).set 1 (.string ⟨#[]⟩) (by simp)).set 2 (.int .u64 q) (by simp)).set 3 (.int .u32 0) (by simp)).set 4 (.slice Av acc.length cv) (by simp))
        have hB5 := (((((HB.out.setCell (p := ⟨w.heap.size, 0, none⟩) (Nat.le_refl _) (.int .i64 6)).setCell (p := ⟨w.heap.size, 1, none⟩) (Nat.le_refl _) (.string ⟨#[]⟩)).setCell (p := ⟨w.heap.size, 2, none⟩) (Nat.le_refl _) (.int .u64 q)).setCell (p := ⟨w.heap.size, 3, none⟩) (Nat.le_refl _) (.int .u32 0)).setCell (p := ⟨w.heap.size, 4, none⟩) (Nat.le_refl _) (.slice Av acc.length cv))
        simp only [List.set_cons_zero, List.set_cons_succ] at hT5
        have hob : ∀ gb, Value.ownBlock (.slice Av acc.length cv) = some gb → ¬ gb = w.heap.size := fun gb hgb => by have := (HO.out.lt gb hgb).1; omega
        have hO5 := ((Chg.setCell (M := fun i => i = w.heap.size) (p := ⟨w.heap.size, 4, none⟩) Chg.refl rfl (.slice Av acc.length cv)).own ((Chg.setCell (M := fun i => i = w.heap.size) (p := ⟨w.heap.size, 3, none⟩) Chg.refl rfl (.int .u32 0)).own ((Chg.setCell (M := fun i => i = w.heap.size) (p := ⟨w.heap.size, 2, none⟩) Chg.refl rfl (.int .u64 q)).own ((Chg.setCell (M := fun i => i = w.heap.size) (p := ⟨w.heap.size, 1, none⟩) Chg.refl rfl (.string ⟨#[]⟩)).own ((Chg.setCell (M := fun i => i = w.heap.size) (p := ⟨w.heap.size, 0, none⟩) Chg.refl rfl (.int .i64 6)).own HO.out hob) hob) hob) hob) hob)
        obtain ⟨u0, u1, u2, u3, u4⟩ := hT5.at5
        refine bodyPost_ret (v := .tuple #[edV 6 ⟨#[]⟩ q 0 (.slice Av acc.length cv), .int .i64 0]) (by simp [results, Tryd.results21, go_sem, u0, u1, u2, u3, u4, edV]) rfl ?_
        rw [HX.out.1, HX.out.2]
        exact ⟨⟨_, rfl, ⟨_, rfl, Sls.of_own hO5⟩⟩, hB5⟩
    have hlt' : (j : Int) < (n : Int) := by omega
    have HSB := Lib.hid (show w.heap.size + 1 + 1 < wr.heap.size from HW.out.lt)
    have Hob := Lib.hid (fun gb hgb => HO.out.lt gb hgb : ∀ gb, Value.ownBlock (.slice Av acc.length cv) = some gb → w.heap.size + 1 + 1 + 1 ≤ gb ∧ gb < wr.heap.size)
    obtain ⟨x0, x1, x2, x3, x4⟩ := HE.out.at5
    obtain ⟨f0, f1, f2, f3, f4⟩ := HE.out.free5
    obtain ⟨gA, gc, g0, g1, g2, gf1, gf2, gl1, gl2, gl3, gl4⟩ := HW.out.cells
    have HS := Lib.hid (Bx.new wr #[.int .u32 0, .int .u32 0, .int .u32 0, .int .u64 0, .int .u64 0] 28 _ rfl)
    have HT := Lib.hid (HT.out.alloc (.cells #[.int .u32 0, .int .u32 0, .int .u32 0, .int .u64 0, .int .u64 0] 28))
    have HE := Lib.hid (HE.out.alloc (.cells #[.int .u32 0, .int .u32 0, .int .u32 0, .int .u64 0, .int .u64 0] 28))
    have HW := Lib.hid (HW.out.on (bnew wr (.cells #[.int .u32 0, .int .u32 0, .int .u32 0, .int .u64 0, .int .u64 0] 28)))
    have HO := Lib.hid (own_below HO.out (bnew wr (.cells #[.int .u32 0, .int .u32 0, .int .u32 0, .int .u64 0, .int .u64 0] 28)) (Nat.le_refl _))
    have HB := Lib.hid (HB.out.alloc HB.out.size (.cells #[.int .u32 0, .int .u32 0, .int .u32 0, .int .u64 0, .int .u64 0] 28))
    have zl : IntKind.u64.wrap ((last : Int) + 1) = (last : Int) + 1 := IntWalk.u64_in _ (by omega)
    have cl : ((last + 1 : Nat) : Int) = (last : Int) + 1 := by simp
    have CL := Lib.hid cl
    clear cl
    go_wp2_with fail
    clear x0 x1 x2 x3 x4 f0 f1 f2 f3 f4 g0 g1 g2 gf1 gf2 gl1 gl2 gl3 gl4
    generalize hWn : World.alloc _ _ = WS at *
    clear hWn zl
    rcases m1 : Ed.num (last + 1) (16777215) (L.drop a) with ec | ⟨id, rid⟩
    · have hk := rnum_er w.heap.size (w.heap.size + 1 + 1) a (last + 1) (16777215) ec L _ HW.out m1
      rw [CL.out] at hk
      refine hk.mono ?_
      rintro e wid ⟨rfl, hw, hc0, hc⟩
      have HS := Lib.hid (HS.out.chg hc (by have := HSB.out; omega))
      have HO := Lib.hid (hc.own HO.out fun gb hgb => by have := (Hob.out gb hgb).1; show ¬ gb = w.heap.size + 1 + 1; omega)
      have HT := Lib.hid (HT.out.chg hc (by omega))
      have HE := Lib.hid (HE.out.chg hc (by omega))
      have HB := Lib.hid (HB.out.trans (hc.below (B := w.heap.size) (by have := HB.out.size; omega) (fun i hi => by omega)))
      have HW := Lib.hid hw
      have HC0 := Lib.hid hc0
      have Hm1 := Lib.hid m1
      clear hk hw hc0 hc m1
      clear hla
      obtain ⟨x0, x1, x2, x3, x4⟩ := HE.out.at5
      obtain ⟨f0, f1, f2, f3, f4⟩ := HE.out.free5
      obtain ⟨gA, gc, g0, g1, g2, gf1, gf2, gl1, gl2, gl3, gl4⟩ := HW.out.cells
      obtain ⟨s0, s1, s2, s3, s4⟩ := HS.out.at5
      obtain ⟨p0, p1, p2, p3, p4⟩ := HS.out.free5
      have hS' := HS.out.set 0 (.int .u32 0) (by simp)
      simp only [List.set_cons_zero, List.set_cons_succ] at hS'
      have HT := Lib.hid (HT.out.other ⟨wr.heap.size, 0, none⟩ (.int .u32 0) (by have := HSB.out; show wr.heap.size ≠ w.heap.size; omega))
      have HE := Lib.hid (HE.out.other ⟨wr.heap.size, 0, none⟩ (.int .u32 0) (by have := HSB.out; show wr.heap.size ≠ w.heap.size + 1; omega))
      have HW := Lib.hid (HW.out.other ⟨wr.heap.size, 0, none⟩ (.int .u32 0) (by have := HSB.out; show wr.heap.size ≠ w.heap.size + 1 + 1; omega) (by have := HSB.out; show w.heap.size ≤ wr.heap.size; omega))
      have HB := Lib.hid (HB.out.setCell (p := ⟨wr.heap.size, 0, none⟩) (by have := HSB.out; show w.heap.size ≤ wr.heap.size; omega) (.int .u32 0))
      have HO := Lib.hid ((Chg.setCell (M := fun i => i = wr.heap.size) (p := ⟨wr.heap.size, 0, none⟩) Chg.refl rfl (.int .u32 0)).own HO.out fun gb hgb => by have := (Hob.out gb hgb).2; show ¬ gb = wr.heap.size; omega)
      have HS := Lib.hid hS'
      clear hS'
      go_wp2_with fail
      generalize hWn : World.setCell _ _ _ = W1 at *
      clear hWn
      clear x0 x1 x2 x3 x4 f0 f1 f2 f3 f4 g0 g1 g2 gf1 gf2 gl1 gl2 gl3 gl4
      clear s0 s1 s2 s3 s4 p0 p1 p2 p3 p4
      refine (rnum_badI w.heap.size (w.heap.size + 1 + 1) a ec _ _ L _ HW.out HC0.out).mono ?_
      rintro e w9 ⟨rfl, rfl⟩
      obtain ⟨x0, x1, x2, x3, x4⟩ := HE.out.at5
      obtain ⟨f0, f1, f2, f3, f4⟩ := HE.out.free5
      obtain ⟨gA, gc, g0, g1, g2, gf1, gf2, gl1, gl2, gl3, gl4⟩ := HW.out.cells
      obtain ⟨s0, s1, s2, s3, s4⟩ := HS.out.at5
      obtain ⟨p0, p1, p2, p3, p4⟩ := HS.out.free5
      have hS' := HS.out.set 1 (.int .u32 0) (by simp)
      simp only [List.set_cons_zero, List.set_cons_succ] at hS'
      have HT := Lib.hid (HT.out.other ⟨wr.heap.size, 1, none⟩ (.int .u32 0) (by have := HSB.out; show wr.heap.size ≠ w.heap.size; omega))
      have HE := Lib.hid (HE.out.other ⟨wr.heap.size, 1, none⟩ (.int .u32 0) (by have := HSB.out; show wr.heap.size ≠ w.heap.size + 1; omega))
      have HW := Lib.hid (HW.out.other ⟨wr.heap.size, 1, none⟩ (.int .u32 0) (by have := HSB.out; show wr.heap.size ≠ w.heap.size + 1 + 1; omega) (by have := HSB.out; show w.heap.size ≤ wr.heap.size; omega))
      have HB := Lib.hid (HB.out.setCell (p := ⟨wr.heap.size, 1, none⟩) (by have := HSB.out; show w.heap.size ≤ wr.heap.size; omega) (.int .u32 0))
      have HO := Lib.hid ((Chg.setCell (M := fun i => i = wr.heap.size) (p := ⟨wr.heap.size, 1, none⟩) Chg.refl rfl (.int .u32 0)).own HO.out fun gb hgb => by have := (Hob.out gb hgb).2; show ¬ gb = wr.heap.size; omega)
      have HS := Lib.hid hS'
      clear hS'
      go_wp2_with fail
      generalize hWn : World.setCell _ _ _ = W2 at *
      clear hWn
      clear x0 x1 x2 x3 x4 f0 f1 f2 f3 f4 g0 g1 g2 gf1 gf2 gl1 gl2 gl3 gl4
      clear s0 s1 s2 s3 s4 p0 p1 p2 p3 p4
      refine (rnum_badI w.heap.size (w.heap.size + 1 + 1) a ec _ _ L _ HW.out HC0.out).mono ?_
      rintro e w9 ⟨rfl, rfl⟩
      obtain ⟨x0, x1, x2, x3, x4⟩ := HE.out.at5
      obtain ⟨f0, f1, f2, f3, f4⟩ := HE.out.free5
      obtain ⟨gA, gc, g0, g1, g2, gf1, gf2, gl1, gl2, gl3, gl4⟩ := HW.out.cells
      obtain ⟨s0, s1, s2, s3, s4⟩ := HS.out.at5
      obtain ⟨p0, p1, p2, p3, p4⟩ := HS.out.free5
      have hS' := HS.out.set 2 (.int .u32 0) (by simp)
      simp only [List.set_cons_zero, List.set_cons_succ] at hS'
      have HT := Lib.hid (HT.out.other ⟨wr.heap.size, 2, none⟩ (.int .u32 0) (by have := HSB.out; show wr.heap.size ≠ w.heap.size; omega))
      have HE := Lib.hid (HE.out.other ⟨wr.heap.size, 2, none⟩ (.int .u32 0) (by have := HSB.out; show wr.heap.size ≠ w.heap.size + 1; omega))
      have HW := Lib.hid (HW.out.other ⟨wr.heap.size, 2, none⟩ (.int .u32 0) (by have := HSB.out; show wr.heap.size ≠ w.heap.size + 1 + 1; omega) (by have := HSB.out; show w.heap.size ≤ wr.heap.size; omega))
      have HB := Lib.hid (HB.out.setCell (p := ⟨wr.heap.size, 2, none⟩) (by have := HSB.out; show w.heap.size ≤ wr.heap.size; omega) (.int .u32 0))
      have HO := Lib.hid ((Chg.setCell (M := fun i => i = wr.heap.size) (p := ⟨wr.heap.size, 2, none⟩) Chg.refl rfl (.int .u32 0)).own HO.out fun gb hgb => by have := (Hob.out gb hgb).2; show ¬ gb = wr.heap.size; omega)
      have HS := Lib.hid hS'
      clear hS'
      have hL7 : Rd ((World.setCell W2 ⟨wr.heap.size, 2, none⟩ (.int .u32 0)).alloc (.cells #[.int .u32 0, .int .u32 0, .int .u32 0, .int .u64 0, .int .u64 0] 28)) ((World.setCell W2 ⟨wr.heap.size, 2, none⟩ (.int .u32 0)).heap.size + 1) (some ⟨(World.setCell W2 ⟨wr.heap.size, 2, none⟩ (.int .u32 0)).heap.size, 0, none⟩) (slVs [(⟨0, 0, 0, 0, 0⟩ : Ed.Sl)]) := Rd_one (World.setCell W2 ⟨wr.heap.size, 2, none⟩ (.int .u32 0)) (⟨0, 0, 0, 0, 0⟩ : Ed.Sl) 28
      rw [World.size_setCell] at hL7
      have b7 := bnew (World.setCell W2 ⟨wr.heap.size, 2, none⟩ (.int .u32 0)) (.cells #[.int .u32 0, .int .u32 0, .int .u32 0, .int .u64 0, .int .u64 0] 28)
      have HO7 := Lib.hid (own_below HO.out b7 (Nat.le_refl _))
      have HE7 := Lib.hid (HE.out.on b7)
      have HS7 := Lib.hid (HS.out.on b7)
      have HT7 := Lib.hid (HT.out.on b7)
      have HW7 := Lib.hid (HW.out.on b7)
      have HB7 := Lib.hid (HB.out.alloc HB.out.size (.cells #[.int .u32 0, .int .u32 0, .int .u32 0, .int .u64 0, .int .u64 0] 28))
      have H67 := Lib.hid (show w.heap.size + 1 + 1 + 1 ≤ ((World.setCell W2 ⟨wr.heap.size, 2, none⟩ (.int .u32 0)).alloc (.cells #[.int .u32 0, .int .u32 0, .int .u32 0, .int .u64 0, .int .u64 0] 28)).heap.size by have h1 := HS.out.lt; have h2 := HSB.out; rw [World.size_alloc]; omega)
      have HL7 := Lib.hid hL7
      obtain ⟨i0, hi0, hz0, hz1, hz2⟩ := info_parts seal_info
      have zx : IntKind.u64.wrap (0 : Int) = (0 : Int) := IntWalk.u64_in _ (by omega)
      clear b7 hL7
      go_wp2_with (at_builtin; (refine wpList_append_rd _ rfl _ _ 24 rfl (w.heap.size + 1 + 1 + 1) 28 i0 (.agg #[.int .u32 0, .int .u32 0, .int .u32 0, .int .u64 0, .int .u64 0]) 5 32 Tryd.underlying24 hi0 hz0 hz1 hz2 rfl (by omega) (.slice Av acc.length cv) acc.length (slVs acc) rfl HO7.out (W2.heap.size + 1) (some ⟨W2.heap.size, 0, none⟩) 1 1 (slVs [(⟨0, 0, 0, 0, 0⟩ : Ed.Sl)]) rfl (slVs_length [(⟨0, 0, 0, 0, 0⟩ : Ed.Sl)]) HL7.out (slVs_one [(⟨0, 0, 0, 0, 0⟩ : Ed.Sl)]) (by have := Hac.out; unfold maxLen; omega) (by have := Hac.out; omega) H67.out ?_); intro v8 w8 hown8 hbw8 hgr8 hblk8; clear x0 x1 x2 x3 x4 f0 f1 f2 f3 f4 g0 g1 g2 gf1 gf2 gl1 gl2 gl3 gl4 s0 s1 s2 s3 s4 p0 p1 p2 p3 p4; obtain ⟨A8, c8, rfl, _, _, _⟩ := own_slice hown8; have hc8 := (Chg.of_grown (M := fun i => Value.ownBlock (.slice Av acc.length cv) = some i) hgr8 fun g hg => hg); have HE8 := Lib.hid (HE7.out.chg hc8 (fun e => by have := Hob.out _ e; omega)); have HS8 := Lib.hid (HS7.out.chg hc8 (fun e => by have := Hob.out _ e; omega)); have HT8 := Lib.hid (HT7.out.chg hc8 (fun e => by have := Hob.out _ e; omega)); have HW8 := Lib.hid (HW7.out.chg hc8 (fun e => by have := Hob.out _ e; omega) (fun i hi e => by have := Hob.out _ e; omega)); have HB8 := Lib.hid (HB7.out.trans (hc8.below (B := w.heap.size) (by have := HB7.out.size; omega) (fun i e => by have := Hob.out _ e; omega))); obtain ⟨x0, x1, x2, x3, x4⟩ := HE8.out.at5; obtain ⟨f0, f1, f2, f3, f4⟩ := HE8.out.free5; obtain ⟨s0, s1, s2, s3, s4⟩ := HS8.out.at5; have HO8 := Lib.hid hown8; clear hown8 hbw8 hgr8 hblk8 hc8)
      go_roundg (gk - 1)
      case measure => omega
      case rel =>
        have hE9 := HE8.out.set 4 (.slice A8 (acc.length + 1) c8) (by simp)
        simp only [List.set_cons_zero, List.set_cons_succ] at hE9
        have hT9 := HT8.out.other ⟨w.heap.size + 1, 4, none⟩ (.slice A8 (acc.length + 1) c8) (by show w.heap.size + 1 ≠ w.heap.size; omega)
        have hW9 := HW8.out.other ⟨w.heap.size + 1, 4, none⟩ (.slice A8 (acc.length + 1) c8) (by show w.heap.size + 1 ≠ w.heap.size + 1 + 1; omega) (by show w.heap.size ≤ w.heap.size + 1; omega)
        have hB9 := HB8.out.setCell (p := ⟨w.heap.size + 1, 4, none⟩) (by show w.heap.size ≤ w.heap.size + 1; omega) (.slice A8 (acc.length + 1) c8)
        refine ⟨j + 1, by omega, by go_num, .inr ⟨a, ec, .slice A8 (acc.length + 1) c8, HC0.out, ?_, hE9, hW9⟩, hT9, hB9⟩
        rw [Hsp.out, show n - j = (n - j - 1) + 1 by omega]
        exact Ed.seals_er (by simp only [Ed.sealP, Ed.bnd, Hm1.out])
    have hk := rnum_ok w.heap.size (w.heap.size + 1 + 1) a (last + 1) (16777215) id L rid _ HW.out m1
    rw [CL.out] at hk
    refine hk.mono ?_
    rintro e wid ⟨rfl, ⟨aid, rfl, hw⟩, hc⟩
    have HS := Lib.hid (HS.out.chg hc (by have := HSB.out; omega))
    have HO := Lib.hid (hc.own HO.out fun gb hgb => by have := (Hob.out gb hgb).1; show ¬ gb = w.heap.size + 1 + 1; omega)
    have HT := Lib.hid (HT.out.chg hc (by omega))
    have HE := Lib.hid (HE.out.chg hc (by omega))
    have HB := Lib.hid (HB.out.trans (hc.below (B := w.heap.size) (by have := HB.out.size; omega) (fun i hi => by omega)))
    have HW := Lib.hid hw
    have qid := num_le m1
    have Hm1 := Lib.hid m1
    clear hk hw hc m1
    have zi : IntKind.u32.wrap (id : Int) = (id : Int) := IntWalk.u32_in _ (by omega)
    obtain ⟨x0, x1, x2, x3, x4⟩ := HE.out.at5
    obtain ⟨f0, f1, f2, f3, f4⟩ := HE.out.free5
    obtain ⟨gA, gc, g0, g1, g2, gf1, gf2, gl1, gl2, gl3, gl4⟩ := HW.out.cells
    obtain ⟨s0, s1, s2, s3, s4⟩ := HS.out.at5
    obtain ⟨p0, p1, p2, p3, p4⟩ := HS.out.free5
    have hS' := HS.out.set 0 (.int .u32 (id : Int)) (by simp)
    simp only [List.set_cons_zero, List.set_cons_succ] at hS'
    have HT := Lib.hid (HT.out.other ⟨wr.heap.size, 0, none⟩ (.int .u32 (id : Int)) (by have := HSB.out; show wr.heap.size ≠ w.heap.size; omega))
    have HE := Lib.hid (HE.out.other ⟨wr.heap.size, 0, none⟩ (.int .u32 (id : Int)) (by have := HSB.out; show wr.heap.size ≠ w.heap.size + 1; omega))
    have HW := Lib.hid (HW.out.other ⟨wr.heap.size, 0, none⟩ (.int .u32 (id : Int)) (by have := HSB.out; show wr.heap.size ≠ w.heap.size + 1 + 1; omega) (by have := HSB.out; show w.heap.size ≤ wr.heap.size; omega))
    have HB := Lib.hid (HB.out.setCell (p := ⟨wr.heap.size, 0, none⟩) (by have := HSB.out; show w.heap.size ≤ wr.heap.size; omega) (.int .u32 (id : Int)))
    have HO := Lib.hid ((Chg.setCell (M := fun i => i = wr.heap.size) (p := ⟨wr.heap.size, 0, none⟩) Chg.refl rfl (.int .u32 (id : Int))).own HO.out fun gb hgb => by have := (Hob.out gb hgb).2; show ¬ gb = wr.heap.size; omega)
    have HS := Lib.hid hS'
    clear hS'
    go_wp2_with fail
    generalize hWn : World.setCell _ _ _ = W1 at *
    clear hWn
    clear x0 x1 x2 x3 x4 f0 f1 f2 f3 f4 g0 g1 g2 gf1 gf2 gl1 gl2 gl3 gl4
    clear s0 s1 s2 s3 s4 p0 p1 p2 p3 p4
    rcases m2 : Ed.num (16) (16777216) (L.drop aid) with ec | ⟨sz, rsz⟩
    · have hk := rnum_er w.heap.size (w.heap.size + 1 + 1) aid (16) (16777216) ec L _ HW.out m2
      refine hk.mono ?_
      rintro e wsz ⟨rfl, hw, hc0, hc⟩
      have HS := Lib.hid (HS.out.chg hc (by have := HSB.out; omega))
      have HO := Lib.hid (hc.own HO.out fun gb hgb => by have := (Hob.out gb hgb).1; show ¬ gb = w.heap.size + 1 + 1; omega)
      have HT := Lib.hid (HT.out.chg hc (by omega))
      have HE := Lib.hid (HE.out.chg hc (by omega))
      have HB := Lib.hid (HB.out.trans (hc.below (B := w.heap.size) (by have := HB.out.size; omega) (fun i hi => by omega)))
      have HW := Lib.hid hw
      have HC0 := Lib.hid hc0
      have Hm2 := Lib.hid m2
      clear hk hw hc0 hc m2
      obtain ⟨x0, x1, x2, x3, x4⟩ := HE.out.at5
      obtain ⟨f0, f1, f2, f3, f4⟩ := HE.out.free5
      obtain ⟨gA, gc, g0, g1, g2, gf1, gf2, gl1, gl2, gl3, gl4⟩ := HW.out.cells
      obtain ⟨s0, s1, s2, s3, s4⟩ := HS.out.at5
      obtain ⟨p0, p1, p2, p3, p4⟩ := HS.out.free5
      have hS' := HS.out.set 1 (.int .u32 0) (by simp)
      simp only [List.set_cons_zero, List.set_cons_succ] at hS'
      have HT := Lib.hid (HT.out.other ⟨wr.heap.size, 1, none⟩ (.int .u32 0) (by have := HSB.out; show wr.heap.size ≠ w.heap.size; omega))
      have HE := Lib.hid (HE.out.other ⟨wr.heap.size, 1, none⟩ (.int .u32 0) (by have := HSB.out; show wr.heap.size ≠ w.heap.size + 1; omega))
      have HW := Lib.hid (HW.out.other ⟨wr.heap.size, 1, none⟩ (.int .u32 0) (by have := HSB.out; show wr.heap.size ≠ w.heap.size + 1 + 1; omega) (by have := HSB.out; show w.heap.size ≤ wr.heap.size; omega))
      have HB := Lib.hid (HB.out.setCell (p := ⟨wr.heap.size, 1, none⟩) (by have := HSB.out; show w.heap.size ≤ wr.heap.size; omega) (.int .u32 0))
      have HO := Lib.hid ((Chg.setCell (M := fun i => i = wr.heap.size) (p := ⟨wr.heap.size, 1, none⟩) Chg.refl rfl (.int .u32 0)).own HO.out fun gb hgb => by have := (Hob.out gb hgb).2; show ¬ gb = wr.heap.size; omega)
      have HS := Lib.hid hS'
      clear hS'
      go_wp2_with fail
      generalize hWn : World.setCell _ _ _ = W2 at *
      clear hWn
      clear x0 x1 x2 x3 x4 f0 f1 f2 f3 f4 g0 g1 g2 gf1 gf2 gl1 gl2 gl3 gl4
      clear s0 s1 s2 s3 s4 p0 p1 p2 p3 p4
      refine (rnum_badI w.heap.size (w.heap.size + 1 + 1) aid ec _ _ L _ HW.out HC0.out).mono ?_
      rintro e w9 ⟨rfl, rfl⟩
      obtain ⟨x0, x1, x2, x3, x4⟩ := HE.out.at5
      obtain ⟨f0, f1, f2, f3, f4⟩ := HE.out.free5
      obtain ⟨gA, gc, g0, g1, g2, gf1, gf2, gl1, gl2, gl3, gl4⟩ := HW.out.cells
      obtain ⟨s0, s1, s2, s3, s4⟩ := HS.out.at5
      obtain ⟨p0, p1, p2, p3, p4⟩ := HS.out.free5
      have hS' := HS.out.set 2 (.int .u32 0) (by simp)
      simp only [List.set_cons_zero, List.set_cons_succ] at hS'
      have HT := Lib.hid (HT.out.other ⟨wr.heap.size, 2, none⟩ (.int .u32 0) (by have := HSB.out; show wr.heap.size ≠ w.heap.size; omega))
      have HE := Lib.hid (HE.out.other ⟨wr.heap.size, 2, none⟩ (.int .u32 0) (by have := HSB.out; show wr.heap.size ≠ w.heap.size + 1; omega))
      have HW := Lib.hid (HW.out.other ⟨wr.heap.size, 2, none⟩ (.int .u32 0) (by have := HSB.out; show wr.heap.size ≠ w.heap.size + 1 + 1; omega) (by have := HSB.out; show w.heap.size ≤ wr.heap.size; omega))
      have HB := Lib.hid (HB.out.setCell (p := ⟨wr.heap.size, 2, none⟩) (by have := HSB.out; show w.heap.size ≤ wr.heap.size; omega) (.int .u32 0))
      have HO := Lib.hid ((Chg.setCell (M := fun i => i = wr.heap.size) (p := ⟨wr.heap.size, 2, none⟩) Chg.refl rfl (.int .u32 0)).own HO.out fun gb hgb => by have := (Hob.out gb hgb).2; show ¬ gb = wr.heap.size; omega)
      have HS := Lib.hid hS'
      clear hS'
      have hL7 : Rd ((World.setCell W2 ⟨wr.heap.size, 2, none⟩ (.int .u32 0)).alloc (.cells #[.int .u32 (id : Int), .int .u32 0, .int .u32 0, .int .u64 0, .int .u64 0] 28)) ((World.setCell W2 ⟨wr.heap.size, 2, none⟩ (.int .u32 0)).heap.size + 1) (some ⟨(World.setCell W2 ⟨wr.heap.size, 2, none⟩ (.int .u32 0)).heap.size, 0, none⟩) (slVs [(⟨id, 0, 0, 0, 0⟩ : Ed.Sl)]) := Rd_one (World.setCell W2 ⟨wr.heap.size, 2, none⟩ (.int .u32 0)) (⟨id, 0, 0, 0, 0⟩ : Ed.Sl) 28
      rw [World.size_setCell] at hL7
      have b7 := bnew (World.setCell W2 ⟨wr.heap.size, 2, none⟩ (.int .u32 0)) (.cells #[.int .u32 (id : Int), .int .u32 0, .int .u32 0, .int .u64 0, .int .u64 0] 28)
      have HO7 := Lib.hid (own_below HO.out b7 (Nat.le_refl _))
      have HE7 := Lib.hid (HE.out.on b7)
      have HS7 := Lib.hid (HS.out.on b7)
      have HT7 := Lib.hid (HT.out.on b7)
      have HW7 := Lib.hid (HW.out.on b7)
      have HB7 := Lib.hid (HB.out.alloc HB.out.size (.cells #[.int .u32 (id : Int), .int .u32 0, .int .u32 0, .int .u64 0, .int .u64 0] 28))
      have H67 := Lib.hid (show w.heap.size + 1 + 1 + 1 ≤ ((World.setCell W2 ⟨wr.heap.size, 2, none⟩ (.int .u32 0)).alloc (.cells #[.int .u32 (id : Int), .int .u32 0, .int .u32 0, .int .u64 0, .int .u64 0] 28)).heap.size by have h1 := HS.out.lt; have h2 := HSB.out; rw [World.size_alloc]; omega)
      have HL7 := Lib.hid hL7
      obtain ⟨i0, hi0, hz0, hz1, hz2⟩ := info_parts seal_info
      have zx : IntKind.u64.wrap (id : Int) = (id : Int) := IntWalk.u64_in _ (by omega)
      clear b7 hL7
      go_wp2_with (at_builtin; (refine wpList_append_rd _ rfl _ _ 24 rfl (w.heap.size + 1 + 1 + 1) 28 i0 (.agg #[.int .u32 0, .int .u32 0, .int .u32 0, .int .u64 0, .int .u64 0]) 5 32 Tryd.underlying24 hi0 hz0 hz1 hz2 rfl (by omega) (.slice Av acc.length cv) acc.length (slVs acc) rfl HO7.out (W2.heap.size + 1) (some ⟨W2.heap.size, 0, none⟩) 1 1 (slVs [(⟨id, 0, 0, 0, 0⟩ : Ed.Sl)]) rfl (slVs_length [(⟨id, 0, 0, 0, 0⟩ : Ed.Sl)]) HL7.out (slVs_one [(⟨id, 0, 0, 0, 0⟩ : Ed.Sl)]) (by have := Hac.out; unfold maxLen; omega) (by have := Hac.out; omega) H67.out ?_); intro v8 w8 hown8 hbw8 hgr8 hblk8; clear x0 x1 x2 x3 x4 f0 f1 f2 f3 f4 g0 g1 g2 gf1 gf2 gl1 gl2 gl3 gl4 s0 s1 s2 s3 s4 p0 p1 p2 p3 p4; obtain ⟨A8, c8, rfl, _, _, _⟩ := own_slice hown8; have hc8 := (Chg.of_grown (M := fun i => Value.ownBlock (.slice Av acc.length cv) = some i) hgr8 fun g hg => hg); have HE8 := Lib.hid (HE7.out.chg hc8 (fun e => by have := Hob.out _ e; omega)); have HS8 := Lib.hid (HS7.out.chg hc8 (fun e => by have := Hob.out _ e; omega)); have HT8 := Lib.hid (HT7.out.chg hc8 (fun e => by have := Hob.out _ e; omega)); have HW8 := Lib.hid (HW7.out.chg hc8 (fun e => by have := Hob.out _ e; omega) (fun i hi e => by have := Hob.out _ e; omega)); have HB8 := Lib.hid (HB7.out.trans (hc8.below (B := w.heap.size) (by have := HB7.out.size; omega) (fun i e => by have := Hob.out _ e; omega))); obtain ⟨x0, x1, x2, x3, x4⟩ := HE8.out.at5; obtain ⟨f0, f1, f2, f3, f4⟩ := HE8.out.free5; obtain ⟨s0, s1, s2, s3, s4⟩ := HS8.out.at5; have HO8 := Lib.hid hown8; clear hown8 hbw8 hgr8 hblk8 hc8)
      go_roundg (gk - 1)
      case measure => omega
      case rel =>
        have hE9 := HE8.out.set 4 (.slice A8 (acc.length + 1) c8) (by simp)
        simp only [List.set_cons_zero, List.set_cons_succ] at hE9
        have hT9 := HT8.out.other ⟨w.heap.size + 1, 4, none⟩ (.slice A8 (acc.length + 1) c8) (by show w.heap.size + 1 ≠ w.heap.size; omega)
        have hW9 := HW8.out.other ⟨w.heap.size + 1, 4, none⟩ (.slice A8 (acc.length + 1) c8) (by show w.heap.size + 1 ≠ w.heap.size + 1 + 1; omega) (by show w.heap.size ≤ w.heap.size + 1; omega)
        have hB9 := HB8.out.setCell (p := ⟨w.heap.size + 1, 4, none⟩) (by show w.heap.size ≤ w.heap.size + 1; omega) (.slice A8 (acc.length + 1) c8)
        refine ⟨j + 1, by omega, by go_num, .inr ⟨aid, ec, .slice A8 (acc.length + 1) c8, HC0.out, ?_, hE9, hW9⟩, hT9, hB9⟩
        rw [Hsp.out, show n - j = (n - j - 1) + 1 by omega]
        exact Ed.seals_er (by simp only [Ed.sealP, Ed.bnd, Hm1.out, Hm2.out])
    have hk := rnum_ok w.heap.size (w.heap.size + 1 + 1) aid (16) (16777216) sz L rsz _ HW.out m2
    refine hk.mono ?_
    rintro e wsz ⟨rfl, ⟨asz, rfl, hw⟩, hc⟩
    have HS := Lib.hid (HS.out.chg hc (by have := HSB.out; omega))
    have HO := Lib.hid (hc.own HO.out fun gb hgb => by have := (Hob.out gb hgb).1; show ¬ gb = w.heap.size + 1 + 1; omega)
    have HT := Lib.hid (HT.out.chg hc (by omega))
    have HE := Lib.hid (HE.out.chg hc (by omega))
    have HB := Lib.hid (HB.out.trans (hc.below (B := w.heap.size) (by have := HB.out.size; omega) (fun i hi => by omega)))
    have HW := Lib.hid hw
    have qsz := num_le m2
    have Hm2 := Lib.hid m2
    clear hk hw hc m2
    have zz : IntKind.u32.wrap (sz : Int) = (sz : Int) := IntWalk.u32_in _ (by omega)
    obtain ⟨x0, x1, x2, x3, x4⟩ := HE.out.at5
    obtain ⟨f0, f1, f2, f3, f4⟩ := HE.out.free5
    obtain ⟨gA, gc, g0, g1, g2, gf1, gf2, gl1, gl2, gl3, gl4⟩ := HW.out.cells
    obtain ⟨s0, s1, s2, s3, s4⟩ := HS.out.at5
    obtain ⟨p0, p1, p2, p3, p4⟩ := HS.out.free5
    have hS' := HS.out.set 1 (.int .u32 (sz : Int)) (by simp)
    simp only [List.set_cons_zero, List.set_cons_succ] at hS'
    have HT := Lib.hid (HT.out.other ⟨wr.heap.size, 1, none⟩ (.int .u32 (sz : Int)) (by have := HSB.out; show wr.heap.size ≠ w.heap.size; omega))
    have HE := Lib.hid (HE.out.other ⟨wr.heap.size, 1, none⟩ (.int .u32 (sz : Int)) (by have := HSB.out; show wr.heap.size ≠ w.heap.size + 1; omega))
    have HW := Lib.hid (HW.out.other ⟨wr.heap.size, 1, none⟩ (.int .u32 (sz : Int)) (by have := HSB.out; show wr.heap.size ≠ w.heap.size + 1 + 1; omega) (by have := HSB.out; show w.heap.size ≤ wr.heap.size; omega))
    have HB := Lib.hid (HB.out.setCell (p := ⟨wr.heap.size, 1, none⟩) (by have := HSB.out; show w.heap.size ≤ wr.heap.size; omega) (.int .u32 (sz : Int)))
    have HO := Lib.hid ((Chg.setCell (M := fun i => i = wr.heap.size) (p := ⟨wr.heap.size, 1, none⟩) Chg.refl rfl (.int .u32 (sz : Int))).own HO.out fun gb hgb => by have := (Hob.out gb hgb).2; show ¬ gb = wr.heap.size; omega)
    have HS := Lib.hid hS'
    clear hS'
    go_wp2_with fail
    generalize hWn : World.setCell _ _ _ = W2 at *
    clear hWn
    clear x0 x1 x2 x3 x4 f0 f1 f2 f3 f4 g0 g1 g2 gf1 gf2 gl1 gl2 gl3 gl4
    clear s0 s1 s2 s3 s4 p0 p1 p2 p3 p4
    rcases m3 : Ed.num (0) (4294967295) (L.drop asz) with ec | ⟨mn, rmn⟩
    · have hk := rnum_er w.heap.size (w.heap.size + 1 + 1) asz (0) (4294967295) ec L _ HW.out m3
      refine hk.mono ?_
      rintro e wmn ⟨rfl, hw, hc0, hc⟩
      have HS := Lib.hid (HS.out.chg hc (by have := HSB.out; omega))
      have HO := Lib.hid (hc.own HO.out fun gb hgb => by have := (Hob.out gb hgb).1; show ¬ gb = w.heap.size + 1 + 1; omega)
      have HT := Lib.hid (HT.out.chg hc (by omega))
      have HE := Lib.hid (HE.out.chg hc (by omega))
      have HB := Lib.hid (HB.out.trans (hc.below (B := w.heap.size) (by have := HB.out.size; omega) (fun i hi => by omega)))
      have HW := Lib.hid hw
      have HC0 := Lib.hid hc0
      have Hm3 := Lib.hid m3
      clear hk hw hc0 hc m3
      obtain ⟨x0, x1, x2, x3, x4⟩ := HE.out.at5
      obtain ⟨f0, f1, f2, f3, f4⟩ := HE.out.free5
      obtain ⟨gA, gc, g0, g1, g2, gf1, gf2, gl1, gl2, gl3, gl4⟩ := HW.out.cells
      obtain ⟨s0, s1, s2, s3, s4⟩ := HS.out.at5
      obtain ⟨p0, p1, p2, p3, p4⟩ := HS.out.free5
      have hS' := HS.out.set 2 (.int .u32 0) (by simp)
      simp only [List.set_cons_zero, List.set_cons_succ] at hS'
      have HT := Lib.hid (HT.out.other ⟨wr.heap.size, 2, none⟩ (.int .u32 0) (by have := HSB.out; show wr.heap.size ≠ w.heap.size; omega))
      have HE := Lib.hid (HE.out.other ⟨wr.heap.size, 2, none⟩ (.int .u32 0) (by have := HSB.out; show wr.heap.size ≠ w.heap.size + 1; omega))
      have HW := Lib.hid (HW.out.other ⟨wr.heap.size, 2, none⟩ (.int .u32 0) (by have := HSB.out; show wr.heap.size ≠ w.heap.size + 1 + 1; omega) (by have := HSB.out; show w.heap.size ≤ wr.heap.size; omega))
      have HB := Lib.hid (HB.out.setCell (p := ⟨wr.heap.size, 2, none⟩) (by have := HSB.out; show w.heap.size ≤ wr.heap.size; omega) (.int .u32 0))
      have HO := Lib.hid ((Chg.setCell (M := fun i => i = wr.heap.size) (p := ⟨wr.heap.size, 2, none⟩) Chg.refl rfl (.int .u32 0)).own HO.out fun gb hgb => by have := (Hob.out gb hgb).2; show ¬ gb = wr.heap.size; omega)
      have HS := Lib.hid hS'
      clear hS'
      have hL7 : Rd ((World.setCell wmn ⟨wr.heap.size, 2, none⟩ (.int .u32 0)).alloc (.cells #[.int .u32 (id : Int), .int .u32 (sz : Int), .int .u32 0, .int .u64 0, .int .u64 0] 28)) ((World.setCell wmn ⟨wr.heap.size, 2, none⟩ (.int .u32 0)).heap.size + 1) (some ⟨(World.setCell wmn ⟨wr.heap.size, 2, none⟩ (.int .u32 0)).heap.size, 0, none⟩) (slVs [(⟨id, sz, 0, 0, 0⟩ : Ed.Sl)]) := Rd_one (World.setCell wmn ⟨wr.heap.size, 2, none⟩ (.int .u32 0)) (⟨id, sz, 0, 0, 0⟩ : Ed.Sl) 28
      rw [World.size_setCell] at hL7
      have b7 := bnew (World.setCell wmn ⟨wr.heap.size, 2, none⟩ (.int .u32 0)) (.cells #[.int .u32 (id : Int), .int .u32 (sz : Int), .int .u32 0, .int .u64 0, .int .u64 0] 28)
      have HO7 := Lib.hid (own_below HO.out b7 (Nat.le_refl _))
      have HE7 := Lib.hid (HE.out.on b7)
      have HS7 := Lib.hid (HS.out.on b7)
      have HT7 := Lib.hid (HT.out.on b7)
      have HW7 := Lib.hid (HW.out.on b7)
      have HB7 := Lib.hid (HB.out.alloc HB.out.size (.cells #[.int .u32 (id : Int), .int .u32 (sz : Int), .int .u32 0, .int .u64 0, .int .u64 0] 28))
      have H67 := Lib.hid (show w.heap.size + 1 + 1 + 1 ≤ ((World.setCell wmn ⟨wr.heap.size, 2, none⟩ (.int .u32 0)).alloc (.cells #[.int .u32 (id : Int), .int .u32 (sz : Int), .int .u32 0, .int .u64 0, .int .u64 0] 28)).heap.size by have h1 := HS.out.lt; have h2 := HSB.out; rw [World.size_alloc]; omega)
      have HL7 := Lib.hid hL7
      obtain ⟨i0, hi0, hz0, hz1, hz2⟩ := info_parts seal_info
      have zx : IntKind.u64.wrap (id : Int) = (id : Int) := IntWalk.u64_in _ (by omega)
      clear b7 hL7
      go_wp2_with (at_builtin; (refine wpList_append_rd _ rfl _ _ 24 rfl (w.heap.size + 1 + 1 + 1) 28 i0 (.agg #[.int .u32 0, .int .u32 0, .int .u32 0, .int .u64 0, .int .u64 0]) 5 32 Tryd.underlying24 hi0 hz0 hz1 hz2 rfl (by omega) (.slice Av acc.length cv) acc.length (slVs acc) rfl HO7.out (wmn.heap.size + 1) (some ⟨wmn.heap.size, 0, none⟩) 1 1 (slVs [(⟨id, sz, 0, 0, 0⟩ : Ed.Sl)]) rfl (slVs_length [(⟨id, sz, 0, 0, 0⟩ : Ed.Sl)]) HL7.out (slVs_one [(⟨id, sz, 0, 0, 0⟩ : Ed.Sl)]) (by have := Hac.out; unfold maxLen; omega) (by have := Hac.out; omega) H67.out ?_); intro v8 w8 hown8 hbw8 hgr8 hblk8; clear x0 x1 x2 x3 x4 f0 f1 f2 f3 f4 g0 g1 g2 gf1 gf2 gl1 gl2 gl3 gl4 s0 s1 s2 s3 s4 p0 p1 p2 p3 p4; obtain ⟨A8, c8, rfl, _, _, _⟩ := own_slice hown8; have hc8 := (Chg.of_grown (M := fun i => Value.ownBlock (.slice Av acc.length cv) = some i) hgr8 fun g hg => hg); have HE8 := Lib.hid (HE7.out.chg hc8 (fun e => by have := Hob.out _ e; omega)); have HS8 := Lib.hid (HS7.out.chg hc8 (fun e => by have := Hob.out _ e; omega)); have HT8 := Lib.hid (HT7.out.chg hc8 (fun e => by have := Hob.out _ e; omega)); have HW8 := Lib.hid (HW7.out.chg hc8 (fun e => by have := Hob.out _ e; omega) (fun i hi e => by have := Hob.out _ e; omega)); have HB8 := Lib.hid (HB7.out.trans (hc8.below (B := w.heap.size) (by have := HB7.out.size; omega) (fun i e => by have := Hob.out _ e; omega))); obtain ⟨x0, x1, x2, x3, x4⟩ := HE8.out.at5; obtain ⟨f0, f1, f2, f3, f4⟩ := HE8.out.free5; obtain ⟨s0, s1, s2, s3, s4⟩ := HS8.out.at5; have HO8 := Lib.hid hown8; clear hown8 hbw8 hgr8 hblk8 hc8)
      go_roundg (gk - 1)
      case measure => omega
      case rel =>
        have hE9 := HE8.out.set 4 (.slice A8 (acc.length + 1) c8) (by simp)
        simp only [List.set_cons_zero, List.set_cons_succ] at hE9
        have hT9 := HT8.out.other ⟨w.heap.size + 1, 4, none⟩ (.slice A8 (acc.length + 1) c8) (by show w.heap.size + 1 ≠ w.heap.size; omega)
        have hW9 := HW8.out.other ⟨w.heap.size + 1, 4, none⟩ (.slice A8 (acc.length + 1) c8) (by show w.heap.size + 1 ≠ w.heap.size + 1 + 1; omega) (by show w.heap.size ≤ w.heap.size + 1; omega)
        have hB9 := HB8.out.setCell (p := ⟨w.heap.size + 1, 4, none⟩) (by show w.heap.size ≤ w.heap.size + 1; omega) (.slice A8 (acc.length + 1) c8)
        refine ⟨j + 1, by omega, by go_num, .inr ⟨asz, ec, .slice A8 (acc.length + 1) c8, HC0.out, ?_, hE9, hW9⟩, hT9, hB9⟩
        rw [Hsp.out, show n - j = (n - j - 1) + 1 by omega]
        exact Ed.seals_er (by simp only [Ed.sealP, Ed.bnd, Hm1.out, Hm2.out, Hm3.out])
    have hk := rnum_ok w.heap.size (w.heap.size + 1 + 1) asz (0) (4294967295) mn L rmn _ HW.out m3
    refine hk.mono ?_
    rintro e wmn ⟨rfl, ⟨amn, rfl, hw⟩, hc⟩
    have HS := Lib.hid (HS.out.chg hc (by have := HSB.out; omega))
    have HO := Lib.hid (hc.own HO.out fun gb hgb => by have := (Hob.out gb hgb).1; show ¬ gb = w.heap.size + 1 + 1; omega)
    have HT := Lib.hid (HT.out.chg hc (by omega))
    have HE := Lib.hid (HE.out.chg hc (by omega))
    have HB := Lib.hid (HB.out.trans (hc.below (B := w.heap.size) (by have := HB.out.size; omega) (fun i hi => by omega)))
    have HW := Lib.hid hw
    have qmn := num_le m3
    have Hm3 := Lib.hid m3
    clear hk hw hc m3
    have zm : IntKind.u32.wrap (mn : Int) = (mn : Int) := IntWalk.u32_in _ (by omega)
    by_cases hm0 : mn = 0
    · subst hm0
      obtain ⟨x0, x1, x2, x3, x4⟩ := HE.out.at5
      obtain ⟨f0, f1, f2, f3, f4⟩ := HE.out.free5
      obtain ⟨gA, gc, g0, g1, g2, gf1, gf2, gl1, gl2, gl3, gl4⟩ := HW.out.cells
      obtain ⟨s0, s1, s2, s3, s4⟩ := HS.out.at5
      obtain ⟨p0, p1, p2, p3, p4⟩ := HS.out.free5
      have hS' := HS.out.set 2 (.int .u32 0) (by simp)
      simp only [List.set_cons_zero, List.set_cons_succ] at hS'
      have HT := Lib.hid (HT.out.other ⟨wr.heap.size, 2, none⟩ (.int .u32 0) (by have := HSB.out; show wr.heap.size ≠ w.heap.size; omega))
      have HE := Lib.hid (HE.out.other ⟨wr.heap.size, 2, none⟩ (.int .u32 0) (by have := HSB.out; show wr.heap.size ≠ w.heap.size + 1; omega))
      have HW := Lib.hid (HW.out.other ⟨wr.heap.size, 2, none⟩ (.int .u32 0) (by have := HSB.out; show wr.heap.size ≠ w.heap.size + 1 + 1; omega) (by have := HSB.out; show w.heap.size ≤ wr.heap.size; omega))
      have HB := Lib.hid (HB.out.setCell (p := ⟨wr.heap.size, 2, none⟩) (by have := HSB.out; show w.heap.size ≤ wr.heap.size; omega) (.int .u32 0))
      have HO := Lib.hid ((Chg.setCell (M := fun i => i = wr.heap.size) (p := ⟨wr.heap.size, 2, none⟩) Chg.refl rfl (.int .u32 0)).own HO.out fun gb hgb => by have := (Hob.out gb hgb).2; show ¬ gb = wr.heap.size; omega)
      have HS := Lib.hid hS'
      clear hS'
      have hL7 : Rd ((World.setCell wmn ⟨wr.heap.size, 2, none⟩ (.int .u32 0)).alloc (.cells #[.int .u32 (id : Int), .int .u32 (sz : Int), .int .u32 0, .int .u64 0, .int .u64 0] 28)) ((World.setCell wmn ⟨wr.heap.size, 2, none⟩ (.int .u32 0)).heap.size + 1) (some ⟨(World.setCell wmn ⟨wr.heap.size, 2, none⟩ (.int .u32 0)).heap.size, 0, none⟩) (slVs [(⟨id, sz, 0, 0, 0⟩ : Ed.Sl)]) := Rd_one (World.setCell wmn ⟨wr.heap.size, 2, none⟩ (.int .u32 0)) (⟨id, sz, 0, 0, 0⟩ : Ed.Sl) 28
      rw [World.size_setCell] at hL7
      have b7 := bnew (World.setCell wmn ⟨wr.heap.size, 2, none⟩ (.int .u32 0)) (.cells #[.int .u32 (id : Int), .int .u32 (sz : Int), .int .u32 0, .int .u64 0, .int .u64 0] 28)
      have HO7 := Lib.hid (own_below HO.out b7 (Nat.le_refl _))
      have HE7 := Lib.hid (HE.out.on b7)
      have HS7 := Lib.hid (HS.out.on b7)
      have HT7 := Lib.hid (HT.out.on b7)
      have HW7 := Lib.hid (HW.out.on b7)
      have HB7 := Lib.hid (HB.out.alloc HB.out.size (.cells #[.int .u32 (id : Int), .int .u32 (sz : Int), .int .u32 0, .int .u64 0, .int .u64 0] 28))
      have H67 := Lib.hid (show w.heap.size + 1 + 1 + 1 ≤ ((World.setCell wmn ⟨wr.heap.size, 2, none⟩ (.int .u32 0)).alloc (.cells #[.int .u32 (id : Int), .int .u32 (sz : Int), .int .u32 0, .int .u64 0, .int .u64 0] 28)).heap.size by have h1 := HS.out.lt; have h2 := HSB.out; rw [World.size_alloc]; omega)
      have HL7 := Lib.hid hL7
      obtain ⟨i0, hi0, hz0, hz1, hz2⟩ := info_parts seal_info
      have zx : IntKind.u64.wrap (id : Int) = (id : Int) := IntWalk.u64_in _ (by omega)
      clear b7 hL7
      go_wp2_with (at_builtin; (refine wpList_append_rd _ rfl _ _ 24 rfl (w.heap.size + 1 + 1 + 1) 28 i0 (.agg #[.int .u32 0, .int .u32 0, .int .u32 0, .int .u64 0, .int .u64 0]) 5 32 Tryd.underlying24 hi0 hz0 hz1 hz2 rfl (by omega) (.slice Av acc.length cv) acc.length (slVs acc) rfl HO7.out (wmn.heap.size + 1) (some ⟨wmn.heap.size, 0, none⟩) 1 1 (slVs [(⟨id, sz, 0, 0, 0⟩ : Ed.Sl)]) rfl (slVs_length [(⟨id, sz, 0, 0, 0⟩ : Ed.Sl)]) HL7.out (slVs_one [(⟨id, sz, 0, 0, 0⟩ : Ed.Sl)]) (by have := Hac.out; unfold maxLen; omega) (by have := Hac.out; omega) H67.out ?_); intro v8 w8 hown8 hbw8 hgr8 hblk8; clear x0 x1 x2 x3 x4 f0 f1 f2 f3 f4 g0 g1 g2 gf1 gf2 gl1 gl2 gl3 gl4 s0 s1 s2 s3 s4 p0 p1 p2 p3 p4; obtain ⟨A8, c8, rfl, _, _, _⟩ := own_slice hown8; have hc8 := (Chg.of_grown (M := fun i => Value.ownBlock (.slice Av acc.length cv) = some i) hgr8 fun g hg => hg); have HE8 := Lib.hid (HE7.out.chg hc8 (fun e => by have := Hob.out _ e; omega)); have HS8 := Lib.hid (HS7.out.chg hc8 (fun e => by have := Hob.out _ e; omega)); have HT8 := Lib.hid (HT7.out.chg hc8 (fun e => by have := Hob.out _ e; omega)); have HW8 := Lib.hid (HW7.out.chg hc8 (fun e => by have := Hob.out _ e; omega) (fun i hi e => by have := Hob.out _ e; omega)); have HB8 := Lib.hid (HB7.out.trans (hc8.below (B := w.heap.size) (by have := HB7.out.size; omega) (fun i e => by have := Hob.out _ e; omega))); obtain ⟨x0, x1, x2, x3, x4⟩ := HE8.out.at5; obtain ⟨f0, f1, f2, f3, f4⟩ := HE8.out.free5; obtain ⟨s0, s1, s2, s3, s4⟩ := HS8.out.at5; have HO8 := Lib.hid hown8; clear hown8 hbw8 hgr8 hblk8 hc8)
      go_roundg (gk - 1)
      case measure => omega
      case rel =>
        have hE9 := HE8.out.set 4 (.slice A8 (acc.length + 1) c8) (by simp)
        simp only [List.set_cons_zero, List.set_cons_succ] at hE9
        have hT9 := HT8.out.other ⟨w.heap.size + 1, 4, none⟩ (.slice A8 (acc.length + 1) c8) (by show w.heap.size + 1 ≠ w.heap.size; omega)
        have hW9 := HW8.out.other ⟨w.heap.size + 1, 4, none⟩ (.slice A8 (acc.length + 1) c8) (by show w.heap.size + 1 ≠ w.heap.size + 1 + 1; omega) (by show w.heap.size ≤ w.heap.size + 1; omega)
        have hB9 := HB8.out.setCell (p := ⟨w.heap.size + 1, 4, none⟩) (by show w.heap.size ≤ w.heap.size + 1; omega) (.slice A8 (acc.length + 1) c8)
        have ho8 : w8.ownsRow (w.heap.size + 1 + 1 + 1) 28 5 (.slice A8 (acc.length + 1) c8) (acc ++ [(⟨id, sz, 0, 0, 0⟩ : Ed.Sl)]).length (slVs (acc ++ [(⟨id, sz, 0, 0, 0⟩ : Ed.Sl)])) := by
          rw [slVs_append, List.length_append]
          exact HO8.out
        have hset : Chg (fun i => i = w.heap.size + 1) w8 (w8.setCell ⟨w.heap.size + 1, 4, none⟩ (.slice A8 (acc.length + 1) c8)) := Chg.setCell (M := fun i => i = w.heap.size + 1) (p := ⟨w.heap.size + 1, 4, none⟩) Chg.refl rfl _
        refine ⟨j + 1, by omega, by go_num, .inl ⟨amn, id, acc ++ [(⟨id, sz, 0, 0, 0⟩ : Ed.Sl)], .slice A8 (acc.length + 1) c8, rfl, by omega, ?_, by rw [List.length_append, Hac.out]; rfl, hE9, hset.own ho8 (fun gb hgb => ?_), hW9⟩, hT9, hB9⟩
        · rw [Hsp.out, show n - j = (n - (j + 1)) + 1 by omega]
          exact Ed.seals_ok (by simp only [Ed.sealP, Ed.bnd, Hm1.out, Hm2.out, Hm3.out, Ed.sealTail, Ed.ret, if_true])
        · have := (ho8.lt gb hgb).1
          show ¬ gb = w.heap.size + 1
          omega
    have hmp : (0 : Int) < (mn : Int) := by omega
    have Hm0 := Lib.hid hm0
    clear hm0
    obtain ⟨x0, x1, x2, x3, x4⟩ := HE.out.at5
    obtain ⟨f0, f1, f2, f3, f4⟩ := HE.out.free5
    obtain ⟨gA, gc, g0, g1, g2, gf1, gf2, gl1, gl2, gl3, gl4⟩ := HW.out.cells
    obtain ⟨s0, s1, s2, s3, s4⟩ := HS.out.at5
    obtain ⟨p0, p1, p2, p3, p4⟩ := HS.out.free5
    have hS' := HS.out.set 2 (.int .u32 (mn : Int)) (by simp)
    simp only [List.set_cons_zero, List.set_cons_succ] at hS'
    have HT := Lib.hid (HT.out.other ⟨wr.heap.size, 2, none⟩ (.int .u32 (mn : Int)) (by have := HSB.out; show wr.heap.size ≠ w.heap.size; omega))
    have HE := Lib.hid (HE.out.other ⟨wr.heap.size, 2, none⟩ (.int .u32 (mn : Int)) (by have := HSB.out; show wr.heap.size ≠ w.heap.size + 1; omega))
    have HW := Lib.hid (HW.out.other ⟨wr.heap.size, 2, none⟩ (.int .u32 (mn : Int)) (by have := HSB.out; show wr.heap.size ≠ w.heap.size + 1 + 1; omega) (by have := HSB.out; show w.heap.size ≤ wr.heap.size; omega))
    have HB := Lib.hid (HB.out.setCell (p := ⟨wr.heap.size, 2, none⟩) (by have := HSB.out; show w.heap.size ≤ wr.heap.size; omega) (.int .u32 (mn : Int)))
    have HO := Lib.hid ((Chg.setCell (M := fun i => i = wr.heap.size) (p := ⟨wr.heap.size, 2, none⟩) Chg.refl rfl (.int .u32 (mn : Int))).own HO.out fun gb hgb => by have := (Hob.out gb hgb).2; show ¬ gb = wr.heap.size; omega)
    have HS := Lib.hid hS'
    clear hS'
    go_wp2_with fail
    generalize hWn : World.setCell _ _ _ = W3 at *
    clear hWn
    clear x0 x1 x2 x3 x4 f0 f1 f2 f3 f4 g0 g1 g2 gf1 gf2 gl1 gl2 gl3 gl4
    clear s0 s1 s2 s3 s4 p0 p1 p2 p3 p4
    have zq : IntKind.u64.wrap (mn : Int) = (mn : Int) := IntWalk.u64_in _ (by omega)
    have zr : IntKind.u64.wrap ((mn : Int) - 1) = (mn : Int) - 1 := IntWalk.u64_in _ (by omega)
    rcases m4 : Ed.num (1) (1099511627776) (L.drop amn) with ec | ⟨fi, rfi⟩
    · have hk := rnum_er w.heap.size (w.heap.size + 1 + 1) amn (1) (1099511627776) ec L _ HW.out m4
      refine hk.mono ?_
      rintro e wfi ⟨rfl, hw, hc0, hc⟩
      have HS := Lib.hid (HS.out.chg hc (by have := HSB.out; omega))
      have HO := Lib.hid (hc.own HO.out fun gb hgb => by have := (Hob.out gb hgb).1; show ¬ gb = w.heap.size + 1 + 1; omega)
      have HT := Lib.hid (HT.out.chg hc (by omega))
      have HE := Lib.hid (HE.out.chg hc (by omega))
      have HB := Lib.hid (HB.out.trans (hc.below (B := w.heap.size) (by have := HB.out.size; omega) (fun i hi => by omega)))
      have HW := Lib.hid hw
      have HC0 := Lib.hid hc0
      have Hm4 := Lib.hid m4
      clear hk hw hc0 hc m4
      obtain ⟨x0, x1, x2, x3, x4⟩ := HE.out.at5
      obtain ⟨f0, f1, f2, f3, f4⟩ := HE.out.free5
      obtain ⟨gA, gc, g0, g1, g2, gf1, gf2, gl1, gl2, gl3, gl4⟩ := HW.out.cells
      obtain ⟨s0, s1, s2, s3, s4⟩ := HS.out.at5
      obtain ⟨p0, p1, p2, p3, p4⟩ := HS.out.free5
      have hS' := HS.out.set 3 (.int .u64 0) (by simp)
      simp only [List.set_cons_zero, List.set_cons_succ] at hS'
      have HT := Lib.hid (HT.out.other ⟨wr.heap.size, 3, none⟩ (.int .u64 0) (by have := HSB.out; show wr.heap.size ≠ w.heap.size; omega))
      have HE := Lib.hid (HE.out.other ⟨wr.heap.size, 3, none⟩ (.int .u64 0) (by have := HSB.out; show wr.heap.size ≠ w.heap.size + 1; omega))
      have HW := Lib.hid (HW.out.other ⟨wr.heap.size, 3, none⟩ (.int .u64 0) (by have := HSB.out; show wr.heap.size ≠ w.heap.size + 1 + 1; omega) (by have := HSB.out; show w.heap.size ≤ wr.heap.size; omega))
      have HB := Lib.hid (HB.out.setCell (p := ⟨wr.heap.size, 3, none⟩) (by have := HSB.out; show w.heap.size ≤ wr.heap.size; omega) (.int .u64 0))
      have HO := Lib.hid ((Chg.setCell (M := fun i => i = wr.heap.size) (p := ⟨wr.heap.size, 3, none⟩) Chg.refl rfl (.int .u64 0)).own HO.out fun gb hgb => by have := (Hob.out gb hgb).2; show ¬ gb = wr.heap.size; omega)
      have HS := Lib.hid hS'
      clear hS'
      go_wp2_with fail
      generalize hWn : World.setCell _ _ _ = W4 at *
      clear hWn
      clear x0 x1 x2 x3 x4 f0 f1 f2 f3 f4 g0 g1 g2 gf1 gf2 gl1 gl2 gl3 gl4
      clear s0 s1 s2 s3 s4 p0 p1 p2 p3 p4
      have z00 : IntKind.u64.wrap (0 : Int) = 0 := IntWalk.u64_in _ (by omega)
      obtain ⟨_, _, y2, y3, _⟩ := HS.out.at5
      refine wp_region_held_drew (S := fun w' : World => w'.cell? ⟨wr.heap.size, 2, none⟩ = some (.int .u32 (mn : Int)) ∧ w'.cell? ⟨wr.heap.size, 3, none⟩ = some (.int .u64 0)) (by kernel_rfl) ⟨y2, y3⟩ (fun hHeld => ?_)
      have HS := Lib.hid HS.out.drew
      have HT := Lib.hid HT.out.drew
      have HE := Lib.hid HE.out.drew
      have HW := Lib.hid HW.out.drew
      have HO := Lib.hid (own_below HO.out (below_drew1 (Below.refl _ _)) (Nat.le_refl _))
      have HB := Lib.hid (below_drew1 HB.out)
      clear y2 y3
      generalize World.drew _ = WL at *
      refine wpAnyH_take (i := 0) (v := ?_) opAt_0 (by kernel_rfl) (by kernel_rfl) (by kernel_rfl) (fun _ _ _ h => h) (Or.inl ⟨by rfl, ?_⟩) hHeld ?_
      rotate_left
      · (intro w' hSw; obtain ⟨k0, k1⟩ := hSw; go_simp; try with_reducible rfl)
      try simp only [Act.put, List.setIfInBounds_toArray, List.set_cons_zero, List.set_cons_succ]
      refine wpAnyH_take (i := 1) (v := ?_) opAt_1 (by kernel_rfl) (by kernel_rfl) (by kernel_rfl) (fun _ _ _ h => h) (Or.inl ⟨by rfl, ?_⟩) hHeld ?_
      rotate_left
      · (intro w' hSw; obtain ⟨k0, k1⟩ := hSw; go_simp; try with_reducible rfl)
      try simp only [Act.put, List.setIfInBounds_toArray, List.set_cons_zero, List.set_cons_succ]
      refine wpAnyH_take (i := 2) (v := ?_) opAt_2 (by kernel_rfl) (by kernel_rfl) (by kernel_rfl) (fun _ _ _ h => h) (Or.inl ⟨by rfl, ?_⟩) hHeld ?_
      rotate_left
      · (intro w' hSw; obtain ⟨k0, k1⟩ := hSw; go_simp; try with_reducible rfl)
      try simp only [Act.put, List.setIfInBounds_toArray, List.set_cons_zero, List.set_cons_succ]
      refine wpAnyH_take (i := 3) (v := ?_) opAt_3 (by kernel_rfl) (by kernel_rfl) (by kernel_rfl) (fun _ _ _ h => h) (Or.inl ⟨by rfl, ?_⟩) hHeld ?_
      rotate_left
      · (intro w' hSw; obtain ⟨k0, k1⟩ := hSw; go_simp; try with_reducible rfl)
      try simp only [Act.put, List.setIfInBounds_toArray, List.set_cons_zero, List.set_cons_succ]
      refine wpAnyH_take (i := 4) (v := ?_) opAt_4 (by kernel_rfl) (by kernel_rfl) (by kernel_rfl) (fun _ _ _ h => h) (Or.inl ⟨by rfl, ?_⟩) hHeld ?_
      rotate_left
      · (intro w' hSw; obtain ⟨k0, k1⟩ := hSw; go_simp; try with_reducible rfl)
      try simp only [Act.put, List.setIfInBounds_toArray, List.set_cons_zero, List.set_cons_succ]
      refine wpAnyH_take (i := 5) (v := ?_) opAt_5 (by kernel_rfl) (by kernel_rfl) (by kernel_rfl) (fun _ _ _ h => h) (Or.inl ⟨by rfl, ?_⟩) hHeld ?_
      rotate_left
      · (intro w' hSw; obtain ⟨k0, k1⟩ := hSw; go_simp; try with_reducible rfl)
      try simp only [Act.put, List.setIfInBounds_toArray, List.set_cons_zero, List.set_cons_succ]
      refine wpAnyH_take (i := 6) (v := ?_) opAt_6 (by kernel_rfl) (by kernel_rfl) (by kernel_rfl) (fun _ _ _ h => h) (Or.inl ⟨by rfl, ?_⟩) hHeld ?_
      rotate_left
      · (intro w' hSw; obtain ⟨k0, k1⟩ := hSw; go_simp; try with_reducible rfl)
      try simp only [Act.put, List.setIfInBounds_toArray, List.set_cons_zero, List.set_cons_succ]
      refine wpAnyH_take (i := 7) (v := ?_) opAt_7 (by kernel_rfl) (by kernel_rfl) (by kernel_rfl) (fun _ _ _ h => h) (Or.inl ⟨by rfl, ?_⟩) hHeld ?_
      rotate_left
      · (intro w' hSw; obtain ⟨k0, k1⟩ := hSw; go_simp; try with_reducible rfl)
      try simp only [Act.put, List.setIfInBounds_toArray, List.set_cons_zero, List.set_cons_succ]
      refine wpAnyH_take (i := 8) (v := ?_) opAt_8 (by kernel_rfl) (by kernel_rfl) (by kernel_rfl) (fun _ _ _ h => h) (Or.inl ⟨by rfl, ?_⟩) hHeld ?_
      rotate_left
      · (intro w' hSw; obtain ⟨k0, k1⟩ := hSw; go_simp; try with_reducible rfl)
      try simp only [Act.put, List.setIfInBounds_toArray, List.set_cons_zero, List.set_cons_succ]
      refine wpAnyH_take (i := 9) (v := ?_) opAt_9 (by kernel_rfl) (by kernel_rfl) (by kernel_rfl) (fun _ _ _ h => h) (Or.inl ⟨by rfl, ?_⟩) hHeld ?_
      rotate_left
      · (intro w' hSw; obtain ⟨k0, k1⟩ := hSw; go_simp; try with_reducible rfl)
      try simp only [Act.put, List.setIfInBounds_toArray, List.set_cons_zero, List.set_cons_succ]
      refine wpAnyH_ready (rs := [10]) (by kernel_rfl) (by simp) ?_
      refine AllReadyH.cons rfl (fun K hK => ?_) AllReadyH.nil
      go_simp
      refine (rnum_badI w.heap.size (w.heap.size + 1 + 1) amn ec _ _ L _ HW.out HC0.out).mono ?_
      rintro e w9 ⟨rfl, rfl⟩
      have hk2 := And.intro HS.out.at5.2.2.1 HS.out.at5.2.2.2.1
      try go_wp2_with fail
      refine hK.out _ _ hk2 (fun hHeld => ?_)
      clear hK K hk2
      try simp only [Act.put, List.setIfInBounds_toArray, List.set_cons_zero, List.set_cons_succ]
      refine wpAnyH_take (i := 11) (v := ?_) opAt_11 (by kernel_rfl) (by kernel_rfl) (by kernel_rfl) (fun _ _ _ h => h) (Or.inl ⟨by rfl, ?_⟩) hHeld ?_
      rotate_left
      · (intro w' hSw; obtain ⟨k0, k1⟩ := hSw; go_simp; try with_reducible rfl)
      try simp only [Act.put, List.setIfInBounds_toArray, List.set_cons_zero, List.set_cons_succ]
      refine wpAnyH_take (i := 12) (v := ?_) opAt_12 (by kernel_rfl) (by kernel_rfl) (by kernel_rfl) (fun _ _ _ h => h) (Or.inl ⟨by rfl, ?_⟩) hHeld ?_
      rotate_left
      · (intro w' hSw; obtain ⟨k0, k1⟩ := hSw; go_simp; try with_reducible rfl)
      try simp only [Act.put, List.setIfInBounds_toArray, List.set_cons_zero, List.set_cons_succ]
      refine wpAnyH_ready (rs := [13]) (by kernel_rfl) (by simp) ?_
      refine AllReadyH.cons rfl (fun K hK => ?_) AllReadyH.nil
      obtain ⟨x0, x1, x2, x3, x4⟩ := HE.out.at5
      obtain ⟨f0, f1, f2, f3, f4⟩ := HE.out.free5
      obtain ⟨gA, gc, g0, g1, g2, gf1, gf2, gl1, gl2, gl3, gl4⟩ := HW.out.cells
      obtain ⟨s0, s1, s2, s3, s4⟩ := HS.out.at5
      obtain ⟨p0, p1, p2, p3, p4⟩ := HS.out.free5
      have hS' := HS.out.set 4 (.int .u64 0) (by simp)
      simp only [List.set_cons_zero, List.set_cons_succ] at hS'
      have HT := Lib.hid (HT.out.other ⟨wr.heap.size, 4, none⟩ (.int .u64 0) (by have := HSB.out; show wr.heap.size ≠ w.heap.size; omega))
      have HE := Lib.hid (HE.out.other ⟨wr.heap.size, 4, none⟩ (.int .u64 0) (by have := HSB.out; show wr.heap.size ≠ w.heap.size + 1; omega))
      have HW := Lib.hid (HW.out.other ⟨wr.heap.size, 4, none⟩ (.int .u64 0) (by have := HSB.out; show wr.heap.size ≠ w.heap.size + 1 + 1; omega) (by have := HSB.out; show w.heap.size ≤ wr.heap.size; omega))
      have HB := Lib.hid (HB.out.setCell (p := ⟨wr.heap.size, 4, none⟩) (by have := HSB.out; show w.heap.size ≤ wr.heap.size; omega) (.int .u64 0))
      have HO := Lib.hid ((Chg.setCell (M := fun i => i = wr.heap.size) (p := ⟨wr.heap.size, 4, none⟩) Chg.refl rfl (.int .u64 0)).own HO.out fun gb hgb => by have := (Hob.out gb hgb).2; show ¬ gb = wr.heap.size; omega)
      have HS := Lib.hid hS'
      clear hS'
      go_simp
      generalize hWn : World.setCell _ _ _ = WM at *
      clear hWn
      clear x0 x1 x2 x3 x4 f0 f1 f2 f3 f4 g0 g1 g2 gf1 gf2 gl1 gl2 gl3 gl4
      clear s0 s1 s2 s3 s4 p0 p1 p2 p3 p4
      clear hHeld
      refine hK.out _ _ (And.intro HS.out.at5.2.2.1 HS.out.at5.2.2.2.1) (fun hHeld => ?_)
      clear hK K hHeld
      try simp only [Act.put, List.setIfInBounds_toArray, List.set_cons_zero, List.set_cons_succ]
      refine wpAnyH_done (by kernel_rfl) ?_ _
      try refine NoPanic.normal ?_
      obtain ⟨x0, x1, x2, x3, x4⟩ := HE.out.at5
      obtain ⟨f0, f1, f2, f3, f4⟩ := HE.out.free5
      obtain ⟨gA, gc, g0, g1, g2, gf1, gf2, gl1, gl2, gl3, gl4⟩ := HW.out.cells
      obtain ⟨s0, s1, s2, s3, s4⟩ := HS.out.at5
      obtain ⟨p0, p1, p2, p3, p4⟩ := HS.out.free5
      have hL7 : Rd (WM.alloc (.cells #[.int .u32 (id : Int), .int .u32 (sz : Int), .int .u32 (mn : Int), .int .u64 0, .int .u64 0] 28)) (WM.heap.size + 1) (some ⟨WM.heap.size, 0, none⟩) (slVs [(⟨id, sz, mn, 0, 0⟩ : Ed.Sl)]) := Rd_one WM (⟨id, sz, mn, 0, 0⟩ : Ed.Sl) 28
      have b7 := bnew WM (.cells #[.int .u32 (id : Int), .int .u32 (sz : Int), .int .u32 (mn : Int), .int .u64 0, .int .u64 0] 28)
      have HO7 := Lib.hid (own_below HO.out b7 (Nat.le_refl _))
      have HE7 := Lib.hid (HE.out.on b7)
      have HS7 := Lib.hid (HS.out.on b7)
      have HT7 := Lib.hid (HT.out.on b7)
      have HW7 := Lib.hid (HW.out.on b7)
      have HB7 := Lib.hid (HB.out.alloc HB.out.size (.cells #[.int .u32 (id : Int), .int .u32 (sz : Int), .int .u32 (mn : Int), .int .u64 0, .int .u64 0] 28))
      have H67 := Lib.hid (show w.heap.size + 1 + 1 + 1 ≤ (WM.alloc (.cells #[.int .u32 (id : Int), .int .u32 (sz : Int), .int .u32 (mn : Int), .int .u64 0, .int .u64 0] 28)).heap.size by have h1 := HS.out.lt; have h2 := HSB.out; rw [World.size_alloc]; omega)
      have HL7 := Lib.hid hL7
      obtain ⟨i0, hi0, hz0, hz1, hz2⟩ := info_parts seal_info
      have zx : IntKind.u64.wrap (id : Int) = (id : Int) := IntWalk.u64_in _ (by omega)
      clear b7 hL7
      go_wp2_with (at_builtin; (refine wpList_append_rd _ rfl _ _ 24 rfl (w.heap.size + 1 + 1 + 1) 28 i0 (.agg #[.int .u32 0, .int .u32 0, .int .u32 0, .int .u64 0, .int .u64 0]) 5 32 Tryd.underlying24 hi0 hz0 hz1 hz2 rfl (by omega) (.slice Av acc.length cv) acc.length (slVs acc) rfl HO7.out (WM.heap.size + 1) (some ⟨WM.heap.size, 0, none⟩) 1 1 (slVs [(⟨id, sz, mn, 0, 0⟩ : Ed.Sl)]) rfl (slVs_length [(⟨id, sz, mn, 0, 0⟩ : Ed.Sl)]) HL7.out (slVs_one [(⟨id, sz, mn, 0, 0⟩ : Ed.Sl)]) (by have := Hac.out; unfold maxLen; omega) (by have := Hac.out; omega) H67.out ?_); intro v8 w8 hown8 hbw8 hgr8 hblk8; clear x0 x1 x2 x3 x4 f0 f1 f2 f3 f4 g0 g1 g2 gf1 gf2 gl1 gl2 gl3 gl4 s0 s1 s2 s3 s4 p0 p1 p2 p3 p4; obtain ⟨A8, c8, rfl, _, _, _⟩ := own_slice hown8; have hc8 := (Chg.of_grown (M := fun i => Value.ownBlock (.slice Av acc.length cv) = some i) hgr8 fun g hg => hg); have HE8 := Lib.hid (HE7.out.chg hc8 (fun e => by have := Hob.out _ e; omega)); have HS8 := Lib.hid (HS7.out.chg hc8 (fun e => by have := Hob.out _ e; omega)); have HT8 := Lib.hid (HT7.out.chg hc8 (fun e => by have := Hob.out _ e; omega)); have HW8 := Lib.hid (HW7.out.chg hc8 (fun e => by have := Hob.out _ e; omega) (fun i hi e => by have := Hob.out _ e; omega)); have HB8 := Lib.hid (HB7.out.trans (hc8.below (B := w.heap.size) (by have := HB7.out.size; omega) (fun i e => by have := Hob.out _ e; omega))); obtain ⟨x0, x1, x2, x3, x4⟩ := HE8.out.at5; obtain ⟨f0, f1, f2, f3, f4⟩ := HE8.out.free5; obtain ⟨s0, s1, s2, s3, s4⟩ := HS8.out.at5; have HO8 := Lib.hid hown8; clear hown8 hbw8 hgr8 hblk8 hc8)
      go_roundg (gk - 1)
      case measure => omega
      case rel =>
        have hE9 := HE8.out.set 4 (.slice A8 (acc.length + 1) c8) (by simp)
        simp only [List.set_cons_zero, List.set_cons_succ] at hE9
        have hT9 := HT8.out.other ⟨w.heap.size + 1, 4, none⟩ (.slice A8 (acc.length + 1) c8) (by show w.heap.size + 1 ≠ w.heap.size; omega)
        have hW9 := HW8.out.other ⟨w.heap.size + 1, 4, none⟩ (.slice A8 (acc.length + 1) c8) (by show w.heap.size + 1 ≠ w.heap.size + 1 + 1; omega) (by show w.heap.size ≤ w.heap.size + 1; omega)
        have hB9 := HB8.out.setCell (p := ⟨w.heap.size + 1, 4, none⟩) (by show w.heap.size ≤ w.heap.size + 1; omega) (.slice A8 (acc.length + 1) c8)
        refine ⟨j + 1, by omega, by go_num, .inr ⟨amn, ec, .slice A8 (acc.length + 1) c8, HC0.out, ?_, hE9, hW9⟩, hT9, hB9⟩
        rw [Hsp.out, show n - j = (n - j - 1) + 1 by omega]
        exact Ed.seals_er (by simp only [Ed.sealP, Ed.bnd, Hm1.out, Hm2.out, Hm3.out, Ed.sealTail, if_neg Hm0.out, Hm4.out])
    have hk := rnum_ok w.heap.size (w.heap.size + 1 + 1) amn (1) (1099511627776) fi L rfi _ HW.out m4
    refine hk.mono ?_
    rintro e wfi ⟨rfl, ⟨afi, rfl, hw⟩, hc⟩
    have HS := Lib.hid (HS.out.chg hc (by have := HSB.out; omega))
    have HO := Lib.hid (hc.own HO.out fun gb hgb => by have := (Hob.out gb hgb).1; show ¬ gb = w.heap.size + 1 + 1; omega)
    have HT := Lib.hid (HT.out.chg hc (by omega))
    have HE := Lib.hid (HE.out.chg hc (by omega))
    have HB := Lib.hid (HB.out.trans (hc.below (B := w.heap.size) (by have := HB.out.size; omega) (fun i hi => by omega)))
    have HW := Lib.hid hw
    have qfi := num_le m4
    have Hm4 := Lib.hid m4
    clear hk hw hc m4
    obtain ⟨x0, x1, x2, x3, x4⟩ := HE.out.at5
    obtain ⟨f0, f1, f2, f3, f4⟩ := HE.out.free5
    obtain ⟨gA, gc, g0, g1, g2, gf1, gf2, gl1, gl2, gl3, gl4⟩ := HW.out.cells
    obtain ⟨s0, s1, s2, s3, s4⟩ := HS.out.at5
    obtain ⟨p0, p1, p2, p3, p4⟩ := HS.out.free5
    have hS' := HS.out.set 3 (.int .u64 (fi : Int)) (by simp)
    simp only [List.set_cons_zero, List.set_cons_succ] at hS'
    have HT := Lib.hid (HT.out.other ⟨wr.heap.size, 3, none⟩ (.int .u64 (fi : Int)) (by have := HSB.out; show wr.heap.size ≠ w.heap.size; omega))
    have HE := Lib.hid (HE.out.other ⟨wr.heap.size, 3, none⟩ (.int .u64 (fi : Int)) (by have := HSB.out; show wr.heap.size ≠ w.heap.size + 1; omega))
    have HW := Lib.hid (HW.out.other ⟨wr.heap.size, 3, none⟩ (.int .u64 (fi : Int)) (by have := HSB.out; show wr.heap.size ≠ w.heap.size + 1 + 1; omega) (by have := HSB.out; show w.heap.size ≤ wr.heap.size; omega))
    have HB := Lib.hid (HB.out.setCell (p := ⟨wr.heap.size, 3, none⟩) (by have := HSB.out; show w.heap.size ≤ wr.heap.size; omega) (.int .u64 (fi : Int)))
    have HO := Lib.hid ((Chg.setCell (M := fun i => i = wr.heap.size) (p := ⟨wr.heap.size, 3, none⟩) Chg.refl rfl (.int .u64 (fi : Int))).own HO.out fun gb hgb => by have := (Hob.out gb hgb).2; show ¬ gb = wr.heap.size; omega)
    have HS := Lib.hid hS'
    clear hS'
    go_wp2_with fail
    generalize hWn : World.setCell _ _ _ = W4 at *
    clear hWn
    clear x0 x1 x2 x3 x4 f0 f1 f2 f3 f4 g0 g1 g2 gf1 gf2 gl1 gl2 gl3 gl4
    clear s0 s1 s2 s3 s4 p0 p1 p2 p3 p4
    have zf : IntKind.u64.wrap (1099511627776 - (fi : Int)) = 1099511627776 - (fi : Int) := IntWalk.u64_in _ (by omega)
    have CM := Lib.hid (show ((mn - 1 : Nat) : Int) = (mn : Int) - 1 by omega)
    have CF := Lib.hid (show ((1099511627776 - fi : Nat) : Int) = 1099511627776 - (fi : Int) by omega)
    obtain ⟨_, _, y2, y3, _⟩ := HS.out.at5
    refine wp_region_held_drew (S := fun w' : World => w'.cell? ⟨wr.heap.size, 2, none⟩ = some (.int .u32 (mn : Int)) ∧ w'.cell? ⟨wr.heap.size, 3, none⟩ = some (.int .u64 (fi : Int))) (by kernel_rfl) ⟨y2, y3⟩ (fun hHeld => ?_)
    have HS := Lib.hid HS.out.drew
    have HT := Lib.hid HT.out.drew
    have HE := Lib.hid HE.out.drew
    have HW := Lib.hid HW.out.drew
    have HO := Lib.hid (own_below HO.out (below_drew1 (Below.refl _ _)) (Nat.le_refl _))
    have HB := Lib.hid (below_drew1 HB.out)
    clear y2 y3
    generalize World.drew _ = WL at *
    refine wpAnyH_take (i := 0) (v := ?_) opAt_0 (by kernel_rfl) (by kernel_rfl) (by kernel_rfl) (fun _ _ _ h => h) (Or.inl ⟨by rfl, ?_⟩) hHeld ?_
    rotate_left
    · (intro w' hSw; obtain ⟨k0, k1⟩ := hSw; go_simp; try with_reducible rfl)
    try simp only [Act.put, List.setIfInBounds_toArray, List.set_cons_zero, List.set_cons_succ]
    refine wpAnyH_take (i := 1) (v := ?_) opAt_1 (by kernel_rfl) (by kernel_rfl) (by kernel_rfl) (fun _ _ _ h => h) (Or.inl ⟨by rfl, ?_⟩) hHeld ?_
    rotate_left
    · (intro w' hSw; obtain ⟨k0, k1⟩ := hSw; go_simp; try with_reducible rfl)
    try simp only [Act.put, List.setIfInBounds_toArray, List.set_cons_zero, List.set_cons_succ]
    refine wpAnyH_take (i := 2) (v := ?_) opAt_2 (by kernel_rfl) (by kernel_rfl) (by kernel_rfl) (fun _ _ _ h => h) (Or.inl ⟨by rfl, ?_⟩) hHeld ?_
    rotate_left
    · (intro w' hSw; obtain ⟨k0, k1⟩ := hSw; go_simp; try with_reducible rfl)
    try simp only [Act.put, List.setIfInBounds_toArray, List.set_cons_zero, List.set_cons_succ]
    refine wpAnyH_take (i := 3) (v := ?_) opAt_3 (by kernel_rfl) (by kernel_rfl) (by kernel_rfl) (fun _ _ _ h => h) (Or.inl ⟨by rfl, ?_⟩) hHeld ?_
    rotate_left
    · (intro w' hSw; obtain ⟨k0, k1⟩ := hSw; go_simp; try with_reducible rfl)
    try simp only [Act.put, List.setIfInBounds_toArray, List.set_cons_zero, List.set_cons_succ]
    refine wpAnyH_take (i := 4) (v := ?_) opAt_4 (by kernel_rfl) (by kernel_rfl) (by kernel_rfl) (fun _ _ _ h => h) (Or.inl ⟨by rfl, ?_⟩) hHeld ?_
    rotate_left
    · (intro w' hSw; obtain ⟨k0, k1⟩ := hSw; go_simp; try with_reducible rfl)
    try simp only [Act.put, List.setIfInBounds_toArray, List.set_cons_zero, List.set_cons_succ]
    refine wpAnyH_take (i := 5) (v := ?_) opAt_5 (by kernel_rfl) (by kernel_rfl) (by kernel_rfl) (fun _ _ _ h => h) (Or.inl ⟨by rfl, ?_⟩) hHeld ?_
    rotate_left
    · (intro w' hSw; obtain ⟨k0, k1⟩ := hSw; go_simp; try with_reducible rfl)
    try simp only [Act.put, List.setIfInBounds_toArray, List.set_cons_zero, List.set_cons_succ]
    refine wpAnyH_take (i := 6) (v := ?_) opAt_6 (by kernel_rfl) (by kernel_rfl) (by kernel_rfl) (fun _ _ _ h => h) (Or.inl ⟨by rfl, ?_⟩) hHeld ?_
    rotate_left
    · (intro w' hSw; obtain ⟨k0, k1⟩ := hSw; go_simp; try with_reducible rfl)
    try simp only [Act.put, List.setIfInBounds_toArray, List.set_cons_zero, List.set_cons_succ]
    refine wpAnyH_take (i := 7) (v := ?_) opAt_7 (by kernel_rfl) (by kernel_rfl) (by kernel_rfl) (fun _ _ _ h => h) (Or.inl ⟨by rfl, ?_⟩) hHeld ?_
    rotate_left
    · (intro w' hSw; obtain ⟨k0, k1⟩ := hSw; go_simp; try with_reducible rfl)
    try simp only [Act.put, List.setIfInBounds_toArray, List.set_cons_zero, List.set_cons_succ]
    refine wpAnyH_take (i := 8) (v := ?_) opAt_8 (by kernel_rfl) (by kernel_rfl) (by kernel_rfl) (fun _ _ _ h => h) (Or.inl ⟨by rfl, ?_⟩) hHeld ?_
    rotate_left
    · (intro w' hSw; obtain ⟨k0, k1⟩ := hSw; go_simp; try with_reducible rfl)
    try simp only [Act.put, List.setIfInBounds_toArray, List.set_cons_zero, List.set_cons_succ]
    refine wpAnyH_take (i := 9) (v := ?_) opAt_9 (by kernel_rfl) (by kernel_rfl) (by kernel_rfl) (fun _ _ _ h => h) (Or.inl ⟨by rfl, ?_⟩) hHeld ?_
    rotate_left
    · (intro w' hSw; obtain ⟨k0, k1⟩ := hSw; go_simp; try with_reducible rfl)
    try simp only [Act.put, List.setIfInBounds_toArray, List.set_cons_zero, List.set_cons_succ]
    refine wpAnyH_ready (rs := [10]) (by kernel_rfl) (by simp) ?_
    refine AllReadyH.cons rfl (fun K hK => ?_) AllReadyH.nil
    go_simp
    rcases m5 : Ed.num (mn - 1) (1099511627776 - fi) (L.drop afi) with ec | ⟨d, rd⟩
    · have hk := rnum_er w.heap.size (w.heap.size + 1 + 1) afi (mn - 1) (1099511627776 - fi) ec L _ HW.out m5
      rw [CM.out, CF.out] at hk
      refine hk.mono ?_
      rintro e wd ⟨rfl, hw, hc0, hc⟩
      have HS := Lib.hid (HS.out.chg hc (by have := HSB.out; omega))
      have HO := Lib.hid (hc.own HO.out fun gb hgb => by have := (Hob.out gb hgb).1; show ¬ gb = w.heap.size + 1 + 1; omega)
      have HT := Lib.hid (HT.out.chg hc (by omega))
      have HE := Lib.hid (HE.out.chg hc (by omega))
      have HB := Lib.hid (HB.out.trans (hc.below (B := w.heap.size) (by have := HB.out.size; omega) (fun i hi => by omega)))
      have HW := Lib.hid hw
      have HC0 := Lib.hid hc0
      have Hm5 := Lib.hid m5
      clear hk hw hc0 hc m5
      have zg : IntKind.u64.wrap ((fi : Int) + 0) = (fi : Int) := by rw [Int.add_zero]; exact IntWalk.u64_in _ (by omega)
      have zg2 : IntKind.u64.wrap (fi : Int) = (fi : Int) := IntWalk.u64_in _ (by omega)
      have hk2 := And.intro HS.out.at5.2.2.1 HS.out.at5.2.2.2.1
      try go_wp2_with fail
      refine hK.out _ _ hk2 (fun hHeld => ?_)
      clear hK K hk2
      try simp only [Act.put, List.setIfInBounds_toArray, List.set_cons_zero, List.set_cons_succ]
      refine wpAnyH_take (i := 11) (v := ?_) opAt_11 (by kernel_rfl) (by kernel_rfl) (by kernel_rfl) (fun _ _ _ h => h) (Or.inl ⟨by rfl, ?_⟩) hHeld ?_
      rotate_left
      · (intro w' hSw; obtain ⟨k0, k1⟩ := hSw; go_simp; try with_reducible rfl)
      try simp only [Act.put, List.setIfInBounds_toArray, List.set_cons_zero, List.set_cons_succ]
      refine wpAnyH_take (i := 12) (v := ?_) opAt_12 (by kernel_rfl) (by kernel_rfl) (by kernel_rfl) (fun _ _ _ h => h) (Or.inl ⟨by rfl, ?_⟩) hHeld ?_
      rotate_left
      · (intro w' hSw; obtain ⟨k0, k1⟩ := hSw; go_simp; try with_reducible rfl)
      try simp only [Act.put, List.setIfInBounds_toArray, List.set_cons_zero, List.set_cons_succ]
      refine wpAnyH_ready (rs := [13]) (by kernel_rfl) (by simp) ?_
      refine AllReadyH.cons rfl (fun K hK => ?_) AllReadyH.nil
      obtain ⟨x0, x1, x2, x3, x4⟩ := HE.out.at5
      obtain ⟨f0, f1, f2, f3, f4⟩ := HE.out.free5
      obtain ⟨gA, gc, g0, g1, g2, gf1, gf2, gl1, gl2, gl3, gl4⟩ := HW.out.cells
      obtain ⟨s0, s1, s2, s3, s4⟩ := HS.out.at5
      obtain ⟨p0, p1, p2, p3, p4⟩ := HS.out.free5
      have hS' := HS.out.set 4 (.int .u64 (fi : Int)) (by simp)
      simp only [List.set_cons_zero, List.set_cons_succ] at hS'
      have HT := Lib.hid (HT.out.other ⟨wr.heap.size, 4, none⟩ (.int .u64 (fi : Int)) (by have := HSB.out; show wr.heap.size ≠ w.heap.size; omega))
      have HE := Lib.hid (HE.out.other ⟨wr.heap.size, 4, none⟩ (.int .u64 (fi : Int)) (by have := HSB.out; show wr.heap.size ≠ w.heap.size + 1; omega))
      have HW := Lib.hid (HW.out.other ⟨wr.heap.size, 4, none⟩ (.int .u64 (fi : Int)) (by have := HSB.out; show wr.heap.size ≠ w.heap.size + 1 + 1; omega) (by have := HSB.out; show w.heap.size ≤ wr.heap.size; omega))
      have HB := Lib.hid (HB.out.setCell (p := ⟨wr.heap.size, 4, none⟩) (by have := HSB.out; show w.heap.size ≤ wr.heap.size; omega) (.int .u64 (fi : Int)))
      have HO := Lib.hid ((Chg.setCell (M := fun i => i = wr.heap.size) (p := ⟨wr.heap.size, 4, none⟩) Chg.refl rfl (.int .u64 (fi : Int))).own HO.out fun gb hgb => by have := (Hob.out gb hgb).2; show ¬ gb = wr.heap.size; omega)
      have HS := Lib.hid hS'
      clear hS'
      go_simp
      generalize hWn : World.setCell _ _ _ = WM at *
      clear hWn
      clear x0 x1 x2 x3 x4 f0 f1 f2 f3 f4 g0 g1 g2 gf1 gf2 gl1 gl2 gl3 gl4
      clear s0 s1 s2 s3 s4 p0 p1 p2 p3 p4
      clear hHeld
      refine hK.out _ _ (And.intro HS.out.at5.2.2.1 HS.out.at5.2.2.2.1) (fun hHeld => ?_)
      clear hK K hHeld
      try simp only [Act.put, List.setIfInBounds_toArray, List.set_cons_zero, List.set_cons_succ]
      refine wpAnyH_done (by kernel_rfl) ?_ _
      try refine NoPanic.normal ?_
      obtain ⟨x0, x1, x2, x3, x4⟩ := HE.out.at5
      obtain ⟨f0, f1, f2, f3, f4⟩ := HE.out.free5
      obtain ⟨gA, gc, g0, g1, g2, gf1, gf2, gl1, gl2, gl3, gl4⟩ := HW.out.cells
      obtain ⟨s0, s1, s2, s3, s4⟩ := HS.out.at5
      obtain ⟨p0, p1, p2, p3, p4⟩ := HS.out.free5
      have hL7 : Rd (WM.alloc (.cells #[.int .u32 (id : Int), .int .u32 (sz : Int), .int .u32 (mn : Int), .int .u64 (fi : Int), .int .u64 (fi : Int)] 28)) (WM.heap.size + 1) (some ⟨WM.heap.size, 0, none⟩) (slVs [(⟨id, sz, mn, fi, fi⟩ : Ed.Sl)]) := Rd_one WM (⟨id, sz, mn, fi, fi⟩ : Ed.Sl) 28
      have b7 := bnew WM (.cells #[.int .u32 (id : Int), .int .u32 (sz : Int), .int .u32 (mn : Int), .int .u64 (fi : Int), .int .u64 (fi : Int)] 28)
      have HO7 := Lib.hid (own_below HO.out b7 (Nat.le_refl _))
      have HE7 := Lib.hid (HE.out.on b7)
      have HS7 := Lib.hid (HS.out.on b7)
      have HT7 := Lib.hid (HT.out.on b7)
      have HW7 := Lib.hid (HW.out.on b7)
      have HB7 := Lib.hid (HB.out.alloc HB.out.size (.cells #[.int .u32 (id : Int), .int .u32 (sz : Int), .int .u32 (mn : Int), .int .u64 (fi : Int), .int .u64 (fi : Int)] 28))
      have H67 := Lib.hid (show w.heap.size + 1 + 1 + 1 ≤ (WM.alloc (.cells #[.int .u32 (id : Int), .int .u32 (sz : Int), .int .u32 (mn : Int), .int .u64 (fi : Int), .int .u64 (fi : Int)] 28)).heap.size by have h1 := HS.out.lt; have h2 := HSB.out; rw [World.size_alloc]; omega)
      have HL7 := Lib.hid hL7
      obtain ⟨i0, hi0, hz0, hz1, hz2⟩ := info_parts seal_info
      have zx : IntKind.u64.wrap (id : Int) = (id : Int) := IntWalk.u64_in _ (by omega)
      clear b7 hL7
      go_wp2_with (at_builtin; (refine wpList_append_rd _ rfl _ _ 24 rfl (w.heap.size + 1 + 1 + 1) 28 i0 (.agg #[.int .u32 0, .int .u32 0, .int .u32 0, .int .u64 0, .int .u64 0]) 5 32 Tryd.underlying24 hi0 hz0 hz1 hz2 rfl (by omega) (.slice Av acc.length cv) acc.length (slVs acc) rfl HO7.out (WM.heap.size + 1) (some ⟨WM.heap.size, 0, none⟩) 1 1 (slVs [(⟨id, sz, mn, fi, fi⟩ : Ed.Sl)]) rfl (slVs_length [(⟨id, sz, mn, fi, fi⟩ : Ed.Sl)]) HL7.out (slVs_one [(⟨id, sz, mn, fi, fi⟩ : Ed.Sl)]) (by have := Hac.out; unfold maxLen; omega) (by have := Hac.out; omega) H67.out ?_); intro v8 w8 hown8 hbw8 hgr8 hblk8; clear x0 x1 x2 x3 x4 f0 f1 f2 f3 f4 g0 g1 g2 gf1 gf2 gl1 gl2 gl3 gl4 s0 s1 s2 s3 s4 p0 p1 p2 p3 p4; obtain ⟨A8, c8, rfl, _, _, _⟩ := own_slice hown8; have hc8 := (Chg.of_grown (M := fun i => Value.ownBlock (.slice Av acc.length cv) = some i) hgr8 fun g hg => hg); have HE8 := Lib.hid (HE7.out.chg hc8 (fun e => by have := Hob.out _ e; omega)); have HS8 := Lib.hid (HS7.out.chg hc8 (fun e => by have := Hob.out _ e; omega)); have HT8 := Lib.hid (HT7.out.chg hc8 (fun e => by have := Hob.out _ e; omega)); have HW8 := Lib.hid (HW7.out.chg hc8 (fun e => by have := Hob.out _ e; omega) (fun i hi e => by have := Hob.out _ e; omega)); have HB8 := Lib.hid (HB7.out.trans (hc8.below (B := w.heap.size) (by have := HB7.out.size; omega) (fun i e => by have := Hob.out _ e; omega))); obtain ⟨x0, x1, x2, x3, x4⟩ := HE8.out.at5; obtain ⟨f0, f1, f2, f3, f4⟩ := HE8.out.free5; obtain ⟨s0, s1, s2, s3, s4⟩ := HS8.out.at5; have HO8 := Lib.hid hown8; clear hown8 hbw8 hgr8 hblk8 hc8)
      go_roundg (gk - 1)
      case measure => omega
      case rel =>
        have hE9 := HE8.out.set 4 (.slice A8 (acc.length + 1) c8) (by simp)
        simp only [List.set_cons_zero, List.set_cons_succ] at hE9
        have hT9 := HT8.out.other ⟨w.heap.size + 1, 4, none⟩ (.slice A8 (acc.length + 1) c8) (by show w.heap.size + 1 ≠ w.heap.size; omega)
        have hW9 := HW8.out.other ⟨w.heap.size + 1, 4, none⟩ (.slice A8 (acc.length + 1) c8) (by show w.heap.size + 1 ≠ w.heap.size + 1 + 1; omega) (by show w.heap.size ≤ w.heap.size + 1; omega)
        have hB9 := HB8.out.setCell (p := ⟨w.heap.size + 1, 4, none⟩) (by show w.heap.size ≤ w.heap.size + 1; omega) (.slice A8 (acc.length + 1) c8)
        refine ⟨j + 1, by omega, by go_num, .inr ⟨afi, ec, .slice A8 (acc.length + 1) c8, HC0.out, ?_, hE9, hW9⟩, hT9, hB9⟩
        rw [Hsp.out, show n - j = (n - j - 1) + 1 by omega]
        exact Ed.seals_er (by simp only [Ed.sealP, Ed.bnd, Hm1.out, Hm2.out, Hm3.out, Ed.sealTail, if_neg Hm0.out, Hm4.out, Hm5.out])
    have hk := rnum_ok w.heap.size (w.heap.size + 1 + 1) afi (mn - 1) (1099511627776 - fi) d L rd _ HW.out m5
    rw [CM.out, CF.out] at hk
    refine hk.mono ?_
    rintro e wd ⟨rfl, ⟨ad, rfl, hw⟩, hc⟩
    have HS := Lib.hid (HS.out.chg hc (by have := HSB.out; omega))
    have HO := Lib.hid (hc.own HO.out fun gb hgb => by have := (Hob.out gb hgb).1; show ¬ gb = w.heap.size + 1 + 1; omega)
    have HT := Lib.hid (HT.out.chg hc (by omega))
    have HE := Lib.hid (HE.out.chg hc (by omega))
    have HB := Lib.hid (HB.out.trans (hc.below (B := w.heap.size) (by have := HB.out.size; omega) (fun i hi => by omega)))
    have HW := Lib.hid hw
    have qd := num_le m5
    have Hm5 := Lib.hid m5
    clear hk hw hc m5
    have zg : IntKind.u64.wrap ((fi : Int) + (d : Int)) = (fi : Int) + (d : Int) := IntWalk.u64_in _ (by omega)
    have hk2 := And.intro HS.out.at5.2.2.1 HS.out.at5.2.2.2.1
    try go_wp2_with fail
    refine hK.out _ _ hk2 (fun hHeld => ?_)
    clear hK K hk2
    try simp only [Act.put, List.setIfInBounds_toArray, List.set_cons_zero, List.set_cons_succ]
    refine wpAnyH_take (i := 11) (v := ?_) opAt_11 (by kernel_rfl) (by kernel_rfl) (by kernel_rfl) (fun _ _ _ h => h) (Or.inl ⟨by rfl, ?_⟩) hHeld ?_
    rotate_left
    · (intro w' hSw; obtain ⟨k0, k1⟩ := hSw; go_simp; try with_reducible rfl)
    try simp only [Act.put, List.setIfInBounds_toArray, List.set_cons_zero, List.set_cons_succ]
    refine wpAnyH_take (i := 12) (v := ?_) opAt_12 (by kernel_rfl) (by kernel_rfl) (by kernel_rfl) (fun _ _ _ h => h) (Or.inl ⟨by rfl, ?_⟩) hHeld ?_
    rotate_left
    · (intro w' hSw; obtain ⟨k0, k1⟩ := hSw; go_simp; try with_reducible rfl)
    try simp only [Act.put, List.setIfInBounds_toArray, List.set_cons_zero, List.set_cons_succ]
    refine wpAnyH_ready (rs := [13]) (by kernel_rfl) (by simp) ?_
    refine AllReadyH.cons rfl (fun K hK => ?_) AllReadyH.nil
    obtain ⟨x0, x1, x2, x3, x4⟩ := HE.out.at5
    obtain ⟨f0, f1, f2, f3, f4⟩ := HE.out.free5
    obtain ⟨gA, gc, g0, g1, g2, gf1, gf2, gl1, gl2, gl3, gl4⟩ := HW.out.cells
    obtain ⟨s0, s1, s2, s3, s4⟩ := HS.out.at5
    obtain ⟨p0, p1, p2, p3, p4⟩ := HS.out.free5
    have hS' := HS.out.set 4 (.int .u64 ((fi : Int) + (d : Int))) (by simp)
    simp only [List.set_cons_zero, List.set_cons_succ] at hS'
    have HT := Lib.hid (HT.out.other ⟨wr.heap.size, 4, none⟩ (.int .u64 ((fi : Int) + (d : Int))) (by have := HSB.out; show wr.heap.size ≠ w.heap.size; omega))
    have HE := Lib.hid (HE.out.other ⟨wr.heap.size, 4, none⟩ (.int .u64 ((fi : Int) + (d : Int))) (by have := HSB.out; show wr.heap.size ≠ w.heap.size + 1; omega))
    have HW := Lib.hid (HW.out.other ⟨wr.heap.size, 4, none⟩ (.int .u64 ((fi : Int) + (d : Int))) (by have := HSB.out; show wr.heap.size ≠ w.heap.size + 1 + 1; omega) (by have := HSB.out; show w.heap.size ≤ wr.heap.size; omega))
    have HB := Lib.hid (HB.out.setCell (p := ⟨wr.heap.size, 4, none⟩) (by have := HSB.out; show w.heap.size ≤ wr.heap.size; omega) (.int .u64 ((fi : Int) + (d : Int))))
    have HO := Lib.hid ((Chg.setCell (M := fun i => i = wr.heap.size) (p := ⟨wr.heap.size, 4, none⟩) Chg.refl rfl (.int .u64 ((fi : Int) + (d : Int)))).own HO.out fun gb hgb => by have := (Hob.out gb hgb).2; show ¬ gb = wr.heap.size; omega)
    have HS := Lib.hid hS'
    clear hS'
    go_simp
    generalize hWn : World.setCell _ _ _ = WM at *
    clear hWn
    clear x0 x1 x2 x3 x4 f0 f1 f2 f3 f4 g0 g1 g2 gf1 gf2 gl1 gl2 gl3 gl4
    clear s0 s1 s2 s3 s4 p0 p1 p2 p3 p4
    clear hHeld
    refine hK.out _ _ (And.intro HS.out.at5.2.2.1 HS.out.at5.2.2.2.1) (fun hHeld => ?_)
    clear hK K hHeld
    try simp only [Act.put, List.setIfInBounds_toArray, List.set_cons_zero, List.set_cons_succ]
    refine wpAnyH_done (by kernel_rfl) ?_ _
    try refine NoPanic.normal ?_
    obtain ⟨x0, x1, x2, x3, x4⟩ := HE.out.at5
    obtain ⟨f0, f1, f2, f3, f4⟩ := HE.out.free5
    obtain ⟨gA, gc, g0, g1, g2, gf1, gf2, gl1, gl2, gl3, gl4⟩ := HW.out.cells
    obtain ⟨s0, s1, s2, s3, s4⟩ := HS.out.at5
    obtain ⟨p0, p1, p2, p3, p4⟩ := HS.out.free5
    have hL7 : Rd (WM.alloc (.cells #[.int .u32 (id : Int), .int .u32 (sz : Int), .int .u32 (mn : Int), .int .u64 (fi : Int), .int .u64 ((fi : Int) + (d : Int))] 28)) (WM.heap.size + 1) (some ⟨WM.heap.size, 0, none⟩) (slVs [(⟨id, sz, mn, fi, fi + d⟩ : Ed.Sl)]) := Rd_one WM (⟨id, sz, mn, fi, fi + d⟩ : Ed.Sl) 28
    have b7 := bnew WM (.cells #[.int .u32 (id : Int), .int .u32 (sz : Int), .int .u32 (mn : Int), .int .u64 (fi : Int), .int .u64 ((fi : Int) + (d : Int))] 28)
    have HO7 := Lib.hid (own_below HO.out b7 (Nat.le_refl _))
    have HE7 := Lib.hid (HE.out.on b7)
    have HS7 := Lib.hid (HS.out.on b7)
    have HT7 := Lib.hid (HT.out.on b7)
    have HW7 := Lib.hid (HW.out.on b7)
    have HB7 := Lib.hid (HB.out.alloc HB.out.size (.cells #[.int .u32 (id : Int), .int .u32 (sz : Int), .int .u32 (mn : Int), .int .u64 (fi : Int), .int .u64 ((fi : Int) + (d : Int))] 28))
    have H67 := Lib.hid (show w.heap.size + 1 + 1 + 1 ≤ (WM.alloc (.cells #[.int .u32 (id : Int), .int .u32 (sz : Int), .int .u32 (mn : Int), .int .u64 (fi : Int), .int .u64 ((fi : Int) + (d : Int))] 28)).heap.size by have h1 := HS.out.lt; have h2 := HSB.out; rw [World.size_alloc]; omega)
    have HL7 := Lib.hid hL7
    obtain ⟨i0, hi0, hz0, hz1, hz2⟩ := info_parts seal_info
    have zx : IntKind.u64.wrap (id : Int) = (id : Int) := IntWalk.u64_in _ (by omega)
    clear b7 hL7
    go_wp2_with (at_builtin; (refine wpList_append_rd _ rfl _ _ 24 rfl (w.heap.size + 1 + 1 + 1) 28 i0 (.agg #[.int .u32 0, .int .u32 0, .int .u32 0, .int .u64 0, .int .u64 0]) 5 32 Tryd.underlying24 hi0 hz0 hz1 hz2 rfl (by omega) (.slice Av acc.length cv) acc.length (slVs acc) rfl HO7.out (WM.heap.size + 1) (some ⟨WM.heap.size, 0, none⟩) 1 1 (slVs [(⟨id, sz, mn, fi, fi + d⟩ : Ed.Sl)]) rfl (slVs_length [(⟨id, sz, mn, fi, fi + d⟩ : Ed.Sl)]) HL7.out (slVs_one [(⟨id, sz, mn, fi, fi + d⟩ : Ed.Sl)]) (by have := Hac.out; unfold maxLen; omega) (by have := Hac.out; omega) H67.out ?_); intro v8 w8 hown8 hbw8 hgr8 hblk8; clear x0 x1 x2 x3 x4 f0 f1 f2 f3 f4 g0 g1 g2 gf1 gf2 gl1 gl2 gl3 gl4 s0 s1 s2 s3 s4 p0 p1 p2 p3 p4; obtain ⟨A8, c8, rfl, _, _, _⟩ := own_slice hown8; have hc8 := (Chg.of_grown (M := fun i => Value.ownBlock (.slice Av acc.length cv) = some i) hgr8 fun g hg => hg); have HE8 := Lib.hid (HE7.out.chg hc8 (fun e => by have := Hob.out _ e; omega)); have HS8 := Lib.hid (HS7.out.chg hc8 (fun e => by have := Hob.out _ e; omega)); have HT8 := Lib.hid (HT7.out.chg hc8 (fun e => by have := Hob.out _ e; omega)); have HW8 := Lib.hid (HW7.out.chg hc8 (fun e => by have := Hob.out _ e; omega) (fun i hi e => by have := Hob.out _ e; omega)); have HB8 := Lib.hid (HB7.out.trans (hc8.below (B := w.heap.size) (by have := HB7.out.size; omega) (fun i e => by have := Hob.out _ e; omega))); obtain ⟨x0, x1, x2, x3, x4⟩ := HE8.out.at5; obtain ⟨f0, f1, f2, f3, f4⟩ := HE8.out.free5; obtain ⟨s0, s1, s2, s3, s4⟩ := HS8.out.at5; have HO8 := Lib.hid hown8; clear hown8 hbw8 hgr8 hblk8 hc8)
    go_roundg (gk - 1)
    case measure => omega
    case rel =>
      have hE9 := HE8.out.set 4 (.slice A8 (acc.length + 1) c8) (by simp)
      simp only [List.set_cons_zero, List.set_cons_succ] at hE9
      have hT9 := HT8.out.other ⟨w.heap.size + 1, 4, none⟩ (.slice A8 (acc.length + 1) c8) (by show w.heap.size + 1 ≠ w.heap.size; omega)
      have hW9 := HW8.out.other ⟨w.heap.size + 1, 4, none⟩ (.slice A8 (acc.length + 1) c8) (by show w.heap.size + 1 ≠ w.heap.size + 1 + 1; omega) (by show w.heap.size ≤ w.heap.size + 1; omega)
      have hB9 := HB8.out.setCell (p := ⟨w.heap.size + 1, 4, none⟩) (by show w.heap.size ≤ w.heap.size + 1; omega) (.slice A8 (acc.length + 1) c8)
      have ho8 : w8.ownsRow (w.heap.size + 1 + 1 + 1) 28 5 (.slice A8 (acc.length + 1) c8) (acc ++ [(⟨id, sz, mn, fi, fi + d⟩ : Ed.Sl)]).length (slVs (acc ++ [(⟨id, sz, mn, fi, fi + d⟩ : Ed.Sl)])) := by
        rw [slVs_append, List.length_append]
        exact HO8.out
      have hset : Chg (fun i => i = w.heap.size + 1) w8 (w8.setCell ⟨w.heap.size + 1, 4, none⟩ (.slice A8 (acc.length + 1) c8)) := Chg.setCell (M := fun i => i = w.heap.size + 1) (p := ⟨w.heap.size + 1, 4, none⟩) Chg.refl rfl _
      refine ⟨j + 1, by omega, by go_num, .inl ⟨ad, id, acc ++ [(⟨id, sz, mn, fi, fi + d⟩ : Ed.Sl)], .slice A8 (acc.length + 1) c8, rfl, by omega, ?_, by rw [List.length_append, Hac.out]; rfl, hE9, hset.own ho8 (fun gb hgb => ?_), hW9⟩, hT9, hB9⟩
      · rw [Hsp.out, show n - j = (n - (j + 1)) + 1 by omega]
        exact Ed.seals_ok (by simp only [Ed.sealP, Ed.bnd, Hm1.out, Hm2.out, Hm3.out, Ed.sealTail, if_neg Hm0.out, Hm4.out, Hm5.out, Ed.ret])
      · have := (ho8.lt gb hgb).1
        show ¬ gb = w.heap.size + 1
        omega
end Go.Proofs.YtggijjknfcofoaaDoor
