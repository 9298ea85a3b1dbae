
/-
  Layer 9: the document's answer: Get of kind 4. (printed by tools/gen/ed_rget.py)
-/
import Derived.Test.YtggijjknfcofoaaDoorEdRGetP
set_option linter.unusedVariables false
set_option linter.unusedSimpArgs false
namespace Go.Proofs.YtggijjknfcofoaaDoor
open Go.RowKit

set_option maxRecDepth 100000 in
set_option maxHeartbeats 16000000 in
theorem rget9_4 (A : Option Addr) (c : Nat) (L : List UInt8) (x : UInt8) (l1 : List UInt8) (hL : L = x :: l1) (hx : x.toNat = 4) (w : World) (hc : L.length ≤ c) (hr : Rd w w.heap.size A (bvs L)) (hl : L.length ≤ 100000) (X : Ed.E) (C : Nat) (hQ : Ed.getR L = (X, C)) :
    Calls Tryd.prog 21 #[.slice A L.length c] w (GetP w X C) := by
  have hpos : 0 < L.length := by rw [hL]; simp
  have hne0 : ((L.length : Int) == 0) = false := by rw [beq_eq_false_iff_ne]; omega
  have hne0' : ¬ (L.length : Int) = 0 := by omega
  have hpos' : (0 : Int) < (L.length : Int) := by omega
  obtain ⟨b, ro, rfl, hbb, hcell⟩ := hr (by rw [hL]; simp [bvs])
  have cb : w.cell? ⟨b, ro, none⟩ = some (.int .u8 4) := by
    have := hcell 0 (bv x) (by rw [hL]; rfl)
    unfold bv at this
    rw [hx] at this
    exact this
  rw [Ed.getR_kind hL hx (by omega) (by omega), Ed.body_4] at hQ
  have HQ := Lib.hid hQ
  have hT := ((Bx.new w #[.int .i64 0, .string ⟨#[]⟩, .int .u64 0, .int .u32 0, .slice none 0 0] 36 _ rfl).alloc (.cells #[.int .i64 4, .string ⟨#[]⟩, .int .u64 0, .int .u32 0, .slice none 0 0] 36)).alloc (.cells #[.slice (some ⟨b, ro, none⟩) L.length c, .int .i64 1, .int .i64 0] 80)
  have hE := (Bx.new (w.alloc (.cells #[.int .i64 0, .string ⟨#[]⟩, .int .u64 0, .int .u32 0, .slice none 0 0] 36)) #[.int .i64 4, .string ⟨#[]⟩, .int .u64 0, .int .u32 0, .slice none 0 0] 36 _ rfl).alloc (.cells #[.slice (some ⟨b, ro, none⟩) L.length c, .int .i64 1, .int .i64 0] 80)
  rw [show (w.alloc (.cells #[.int .i64 0, .string ⟨#[]⟩, .int .u64 0, .int .u32 0, .slice none 0 0] 36)).heap.size = w.heap.size + 1 by simp] at hE
  have hG := Bx.new ((w.alloc (.cells #[.int .i64 0, .string ⟨#[]⟩, .int .u64 0, .int .u32 0, .slice none 0 0] 36)).alloc (.cells #[.int .i64 4, .string ⟨#[]⟩, .int .u64 0, .int .u32 0, .slice none 0 0] 36)) #[.slice (some ⟨b, ro, none⟩) L.length c, .int .i64 1, .int .i64 0] 80 _ rfl
  rw [show ((w.alloc (.cells #[.int .i64 0, .string ⟨#[]⟩, .int .u64 0, .int .u32 0, .slice none 0 0] 36)).alloc (.cells #[.int .i64 4, .string ⟨#[]⟩, .int .u64 0, .int .u32 0, .slice none 0 0] 36)).heap.size = w.heap.size + 1 + 1 by simp] at hG
  have hB := balloc (balloc (bnew w (.cells #[.int .i64 0, .string ⟨#[]⟩, .int .u64 0, .int .u32 0, .slice none 0 0] 36)) (.cells #[.int .i64 4, .string ⟨#[]⟩, .int .u64 0, .int .u32 0, .slice none 0 0] 36)) (.cells #[.slice (some ⟨b, ro, none⟩) L.length c, .int .i64 1, .int .i64 0] 80)
  have HW : Hid (WkA _ w.heap.size (w.heap.size + 1 + 1) L 1 0) := Lib.hid ⟨_, _, hG, hc, hr.below hB (Nat.le_refl _), by omega, by omega, hl⟩
  have HT := Lib.hid hT
  have HE := Lib.hid hE
  have HB := Lib.hid hB
  have HR : Hid (Rd w w.heap.size (some ⟨b, ro, none⟩) (bvs L)) := Lib.hid hr
  clear hT hE hG hB hr hQ hcell hL hx
  go_enter Tryd.func21, Tryd.ntmps21
  go_wp2_with fail
  refine (rparts_4 _).mono ?_
  rintro en w2 ⟨rfl, rfl⟩
  generalize hWn : World.alloc _ _ = W0 at *
  clear hWn cb
  obtain ⟨x0, x1, x2, x3, x4⟩ := HE.out.at5
  go_wp2_with fail
  clear x0 x1 x2 x3 x4
  rcases n1 : Ed.num 1 16777215 (L.drop 1) with ec | ⟨i, ri⟩
  · refine (rnum_er w.heap.size (w.heap.size + 1 + 1) 1 1 16777215 ec L _ HW.out n1).mono ?_
    rintro e wi ⟨rfl, hw, hc0, hc⟩
    have HT := Lib.hid (HT.out.chg hc (by omega))
    have HE := Lib.hid (HE.out.chg hc (by omega))
    have HB := Lib.hid (HB.out.trans (hc.below (B := w.heap.size) (by have := HB.out.size; omega) (fun i hi => by omega)))
    have HW := Lib.hid hw
    have HC0 := Lib.hid hc0
    have Hn1 := Lib.hid n1
    clear hw hc0 hc n1
    obtain ⟨x0, x1, x2, x3, x4⟩ := HE.out.at5
    obtain ⟨f0, f1, f2, f3, f4⟩ := HE.out.free5
    obtain ⟨gA, gc, g0, g1, g2, gf1, gf2, gl1, gl2, gl3, gl4⟩ := HW.out.cells
    have HT := Lib.hid (HT.out.other ⟨w.heap.size + 1, 3, none⟩ (.int .u32 0) (by show w.heap.size + 1 ≠ w.heap.size; omega))
    have hE' := HE.out.set 3 (.int .u32 0) (by simp)
    simp only [List.set_cons_zero, List.set_cons_succ] at hE'
    have HE := Lib.hid hE'
    have HW := Lib.hid (HW.out.other ⟨w.heap.size + 1, 3, none⟩ (.int .u32 0) (by show w.heap.size + 1 ≠ w.heap.size + 1 + 1; omega) (by show w.heap.size ≤ w.heap.size + 1; omega))
    have HB := Lib.hid (HB.out.setCell (p := ⟨w.heap.size + 1, 3, none⟩) (by show w.heap.size ≤ w.heap.size + 1; omega) (.int .u32 0))
    clear hE'
    go_wp2_with fail
    generalize hWn : World.setCell _ _ _ = WA at *
    clear hWn
    clear x0 x1 x2 x3 x4 f0 f1 f2 f3 f4 g0 g1 g2 gf1 gf2 gl1 gl2 gl3 gl4
    go_loopg [12, 13, 14] 0 (fun gh lv iv _ wr => lv = .int .u64 0 ∧ iv = .int .i64 0 ∧ wr = WA)
    case atStart => exact ⟨rfl, rfl, rfl⟩
    case round =>
      obtain ⟨rfl, rfl, rfl⟩ := hrel
      have hX : X = Ed.none ∧ C = ec := by
        have h9 := HQ.out
        simp only [Ed.bnd, Hn1.out, Ed.endR] at h9
        exact ⟨(Prod.mk.inj h9).1.symm, (Prod.mk.inj h9).2.symm⟩
      have HX := Lib.hid hX
      have e0 : ((ec : Int) == 0) = false := by have := HC0.out; simp; omega
      have e0' : ¬ (ec : Int) = 0 := by have := HC0.out; omega
      clear hX
      obtain ⟨x0, x1, x2, x3, x4⟩ := HE.out.at5
      obtain ⟨f0, f1, f2, f3, f4⟩ := HE.out.free5
      obtain ⟨gA, gc, g0, g1, g2, gf1, gf2, gl1, gl2, gl3, gl4⟩ := HW.out.cells
      go_wp2_with fail
      refine wp_region_noPanic ?_
      refine wp_region_held_drew (S := fun w' : World => w'.cell? ⟨w.heap.size + 1 + 1, 2, none⟩ = some (.int .i64 (ec : Int))) (by kernel_rfl) g2 (fun hHeld => ?_)
      have HT := Lib.hid HT.out.drew
      have HB := Lib.hid (below_drew1 HB.out)
      clear x0 x1 x2 x3 x4 f0 f1 f2 f3 f4 g0 g1 g2 gf1 gf2 gl1 gl2 gl3 gl4
      generalize World.drew _ = WY at *
      refine wpAnyH_take (i := 0) (v := ?_) opAt_0 (by kernel_rfl) (by kernel_rfl) (by kernel_rfl) (fun _ _ _ h => h) (Or.inl ⟨by rfl, ?_⟩) hHeld ?_
      rotate_left
      · (intro w' hSw; go_simp; try with_reducible rfl)
      try simp only [Act.put, List.setIfInBounds_toArray, List.set_cons_zero, List.set_cons_succ]
      refine wpAnyH_take (i := 1) (v := ?_) opAt_1 (by kernel_rfl) (by kernel_rfl) (by kernel_rfl) (fun _ _ _ h => h) (Or.inl ⟨by rfl, ?_⟩) hHeld ?_
      rotate_left
      · (intro w' hSw; go_simp; try with_reducible rfl)
      try simp only [Act.put, List.setIfInBounds_toArray, List.set_cons_zero, List.set_cons_succ]
      refine wpAnyH_take (i := 2) (v := ?_) opAt_2 (by kernel_rfl) (by kernel_rfl) (by kernel_rfl) (fun _ _ _ h => h) (Or.inl ⟨by rfl, ?_⟩) hHeld ?_
      rotate_left
      · (intro w' hSw; go_simp; try with_reducible rfl)
      try simp only [Act.put, List.setIfInBounds_toArray, List.set_cons_zero, List.set_cons_succ]
      refine wpAnyH_take (i := 3) (v := ?_) opAt_3 (by kernel_rfl) (by kernel_rfl) (by kernel_rfl) (fun _ _ _ h => h) (Or.inl ⟨by rfl, ?_⟩) hHeld ?_
      rotate_left
      · (intro w' hSw; go_simp; try with_reducible rfl)
      try simp only [Act.put, List.setIfInBounds_toArray, List.set_cons_zero, List.set_cons_succ]
      refine wpAnyH_take (i := 4) (v := ?_) opAt_4 (by kernel_rfl) (by kernel_rfl) (by kernel_rfl) (fun _ _ _ h => h) (Or.inl ⟨by rfl, ?_⟩) hHeld ?_
      rotate_left
      · (intro w' hSw; go_simp; try with_reducible rfl)
      try simp only [Act.put, List.setIfInBounds_toArray, List.set_cons_zero, List.set_cons_succ]
      refine wpAnyH_ready (rs := [5]) (by kernel_rfl) (by simp) ?_
      refine AllReadyH.cons rfl (fun K hK => ?_) AllReadyH.nil
      obtain ⟨t0, t1, t2, t3, t4⟩ := HT.out.at5
      obtain ⟨v0, v1, v2, v3, v4⟩ := HT.out.free5
      go_simp
      have hT5 := (((((HT.out.set 0 (.int .i64 0) (by simp)).set 1 (.string ⟨#[]⟩) (by simp)).set 2 (.int .u64 0) (by simp)).set 3 (.int .u32 0) (by simp)).set 4 (.slice none 0 0) (by simp))
      have hB5 := (((((HB.out.setCell (p := ⟨w.heap.size, 0, none⟩) (Nat.le_refl _) (.int .i64 0)).setCell (p := ⟨w.heap.size, 1, none⟩) (Nat.le_refl _) (.string ⟨#[]⟩)).setCell (p := ⟨w.heap.size, 2, none⟩) (Nat.le_refl _) (.int .u64 0)).setCell (p := ⟨w.heap.size, 3, none⟩) (Nat.le_refl _) (.int .u32 0)).setCell (p := ⟨w.heap.size, 4, none⟩) (Nat.le_refl _) (.slice none 0 0))
      simp only [List.set_cons_zero, List.set_cons_succ] at hT5
      have hH0 := hHeld
      clear hHeld
      refine hK.out _ _ (by show World.cell? _ ⟨w.heap.size + 1 + 1, 2, none⟩ = _; rw [World.cell?_setCell_other _ _ _ _ (by intro e; injection e with e1 e2; omega), World.cell?_setCell_other _ _ _ _ (by intro e; injection e with e1 e2; omega), World.cell?_setCell_other _ _ _ _ (by intro e; injection e with e1 e2; omega), World.cell?_setCell_other _ _ _ _ (by intro e; injection e with e1 e2; omega), World.cell?_setCell_other _ _ _ _ (by intro e; injection e with e1 e2; omega)]; exact hH0) (fun hHeld => ?_)
      clear hK K
      try simp only [Act.put, List.setIfInBounds_toArray, List.set_cons_zero, List.set_cons_succ]
      refine wpAnyH_take (i := 6) (v := ?_) opAt_6 (by kernel_rfl) (by kernel_rfl) (by kernel_rfl) (fun _ _ _ h => h) (Or.inl ⟨by rfl, ?_⟩) hHeld ?_
      rotate_left
      · (intro w' hSw; go_simp; try with_reducible rfl)
      try simp only [Act.put, List.setIfInBounds_toArray, List.set_cons_zero, List.set_cons_succ]
      refine wpAnyH_done (by kernel_rfl) ?_ _
      refine NoPanic.normal ?_
      clear t0 t1 t2 t3 t4 v0 v1 v2 v3 v4
      obtain ⟨u0, u1, u2, u3, u4⟩ := hT5.at5
      go_wp2_with fail
      refine bodyPost_ret (v := .tuple #[edV 0 ⟨#[]⟩ 0 0 (.slice none 0 0), .int .i64 (ec : Int)]) (by simp [results, Tryd.results21, go_sem, u0, u1, u2, u3, u4, edV]) rfl ?_
      rw [HX.out.1, HX.out.2]
      exact ⟨⟨_, rfl, EdV.none_⟩, hB5⟩
  refine (rnum_ok w.heap.size (w.heap.size + 1 + 1) 1 1 16777215 i L ri _ HW.out n1).mono ?_
  rintro e wi ⟨rfl, ⟨ai, rfl, hw⟩, hc⟩
  have HT := Lib.hid (HT.out.chg hc (by omega))
  have HE := Lib.hid (HE.out.chg hc (by omega))
  have HB := Lib.hid (HB.out.trans (hc.below (B := w.heap.size) (by have := HB.out.size; omega) (fun i hi => by omega)))
  have HW := Lib.hid hw
  have qi := num_le n1
  have Hn1 := Lib.hid n1
  clear hw hc n1
  have zi : IntKind.u32.wrap (i : Int) = (i : Int) := IntWalk.u32_in _ (by omega)
  obtain ⟨x0, x1, x2, x3, x4⟩ := HE.out.at5
  obtain ⟨f0, f1, f2, f3, f4⟩ := HE.out.free5
  obtain ⟨gA, gc, g0, g1, g2, gf1, gf2, gl1, gl2, gl3, gl4⟩ := HW.out.cells
  have HT := Lib.hid (HT.out.other ⟨w.heap.size + 1, 3, none⟩ (.int .u32 (i : Int)) (by show w.heap.size + 1 ≠ w.heap.size; omega))
  have hE' := HE.out.set 3 (.int .u32 (i : Int)) (by simp)
  simp only [List.set_cons_zero, List.set_cons_succ] at hE'
  have HE := Lib.hid hE'
  have HW := Lib.hid (HW.out.other ⟨w.heap.size + 1, 3, none⟩ (.int .u32 (i : Int)) (by show w.heap.size + 1 ≠ w.heap.size + 1 + 1; omega) (by show w.heap.size ≤ w.heap.size + 1; omega))
  have HB := Lib.hid (HB.out.setCell (p := ⟨w.heap.size + 1, 3, none⟩) (by show w.heap.size ≤ w.heap.size + 1; omega) (.int .u32 (i : Int)))
  clear hE'
  go_wp2_with fail
  generalize hWn : World.setCell _ _ _ = WA at *
  clear hWn
  clear x0 x1 x2 x3 x4 f0 f1 f2 f3 f4 g0 g1 g2 gf1 gf2 gl1 gl2 gl3 gl4
  go_loopg [12, 13, 14] 0 (fun gh lv iv _ wr => lv = .int .u64 0 ∧ iv = .int .i64 0 ∧ wr = WA)
  case atStart => exact ⟨rfl, rfl, rfl⟩
  case round =>
    obtain ⟨rfl, rfl, rfl⟩ := hrel
    by_cases hal : ai < L.length
    · obtain ⟨yy, rr, hdr⟩ := Ed.drop_pos hal
      have hX : X = Ed.none ∧ C = 5 := by
        have h9 := HQ.out
        simp only [Ed.bnd, Hn1.out, Ed.ret, hdr, Ed.endR] at h9
        exact ⟨(Prod.mk.inj h9).1.symm, (Prod.mk.inj h9).2.symm⟩
      have HX := Lib.hid hX
      have hal' : (ai : Int) < (L.length : Int) := by omega
      clear hX hdr hal
      obtain ⟨x0, x1, x2, x3, x4⟩ := HE.out.at5
      obtain ⟨f0, f1, f2, f3, f4⟩ := HE.out.free5
      obtain ⟨gA, gc, g0, g1, g2, gf1, gf2, gl1, gl2, gl3, gl4⟩ := HW.out.cells
      have HT := Lib.hid (HT.out.other ⟨w.heap.size + 1 + 1, 2, none⟩ (.int .i64 5) (by show w.heap.size + 1 + 1 ≠ w.heap.size; omega))
      have HW := Lib.hid (HW.out.bad (c' := 5))
      have HB := Lib.hid (HB.out.setCell (p := ⟨w.heap.size + 1 + 1, 2, none⟩) (by show w.heap.size ≤ w.heap.size + 1 + 1; omega) (.int .i64 5))
      obtain ⟨tt0, tt1, tt2, tt3, tt4⟩ := HT.out.at5
      obtain ⟨vv0, vv1, vv2, vv3, vv4⟩ := HT.out.free5
      obtain ⟨hA9, hc9, hg0, hg1, hg2, _, _, _, _, _, _⟩ := HW.out.cells
      go_wp2_with fail
      generalize hWn : World.setCell _ _ _ = WZ at *
      clear hWn
      refine wp_region_noPanic ?_
      refine wp_region_held_drew (S := fun w' : World => w'.cell? ⟨w.heap.size + 1 + 1, 2, none⟩ = some (.int .i64 5)) (by kernel_rfl) hg2 (fun hHeld => ?_)
      have HT := Lib.hid HT.out.drew
      have HB := Lib.hid (below_drew1 HB.out)
      clear x0 x1 x2 x3 x4 f0 f1 f2 f3 f4 g0 g1 g2 gf1 gf2 gl1 gl2 gl3 gl4
      clear tt0 tt1 tt2 tt3 tt4 vv0 vv1 vv2 vv3 vv4 hg0 hg1 hg2
      generalize World.drew _ = WY at *
      refine wpAnyH_take (i := 0) (v := ?_) opAt_0 (by kernel_rfl) (by kernel_rfl) (by kernel_rfl) (fun _ _ _ h => h) (Or.inl ⟨by rfl, ?_⟩) hHeld ?_
      rotate_left
      · (intro w' hSw; go_simp; try with_reducible rfl)
      try simp only [Act.put, List.setIfInBounds_toArray, List.set_cons_zero, List.set_cons_succ]
      refine wpAnyH_take (i := 1) (v := ?_) opAt_1 (by kernel_rfl) (by kernel_rfl) (by kernel_rfl) (fun _ _ _ h => h) (Or.inl ⟨by rfl, ?_⟩) hHeld ?_
      rotate_left
      · (intro w' hSw; go_simp; try with_reducible rfl)
      try simp only [Act.put, List.setIfInBounds_toArray, List.set_cons_zero, List.set_cons_succ]
      refine wpAnyH_take (i := 2) (v := ?_) opAt_2 (by kernel_rfl) (by kernel_rfl) (by kernel_rfl) (fun _ _ _ h => h) (Or.inl ⟨by rfl, ?_⟩) hHeld ?_
      rotate_left
      · (intro w' hSw; go_simp; try with_reducible rfl)
      try simp only [Act.put, List.setIfInBounds_toArray, List.set_cons_zero, List.set_cons_succ]
      refine wpAnyH_take (i := 3) (v := ?_) opAt_3 (by kernel_rfl) (by kernel_rfl) (by kernel_rfl) (fun _ _ _ h => h) (Or.inl ⟨by rfl, ?_⟩) hHeld ?_
      rotate_left
      · (intro w' hSw; go_simp; try with_reducible rfl)
      try simp only [Act.put, List.setIfInBounds_toArray, List.set_cons_zero, List.set_cons_succ]
      refine wpAnyH_take (i := 4) (v := ?_) opAt_4 (by kernel_rfl) (by kernel_rfl) (by kernel_rfl) (fun _ _ _ h => h) (Or.inl ⟨by rfl, ?_⟩) hHeld ?_
      rotate_left
      · (intro w' hSw; go_simp; try with_reducible rfl)
      try simp only [Act.put, List.setIfInBounds_toArray, List.set_cons_zero, List.set_cons_succ]
      refine wpAnyH_ready (rs := [5]) (by kernel_rfl) (by simp) ?_
      refine AllReadyH.cons rfl (fun K hK => ?_) AllReadyH.nil
      obtain ⟨t0, t1, t2, t3, t4⟩ := HT.out.at5
      obtain ⟨v0, v1, v2, v3, v4⟩ := HT.out.free5
      go_simp
      have hT5 := (((((HT.out.set 0 (.int .i64 0) (by simp)).set 1 (.string ⟨#[]⟩) (by simp)).set 2 (.int .u64 0) (by simp)).set 3 (.int .u32 0) (by simp)).set 4 (.slice none 0 0) (by simp))
      have hB5 := (((((HB.out.setCell (p := ⟨w.heap.size, 0, none⟩) (Nat.le_refl _) (.int .i64 0)).setCell (p := ⟨w.heap.size, 1, none⟩) (Nat.le_refl _) (.string ⟨#[]⟩)).setCell (p := ⟨w.heap.size, 2, none⟩) (Nat.le_refl _) (.int .u64 0)).setCell (p := ⟨w.heap.size, 3, none⟩) (Nat.le_refl _) (.int .u32 0)).setCell (p := ⟨w.heap.size, 4, none⟩) (Nat.le_refl _) (.slice none 0 0))
      simp only [List.set_cons_zero, List.set_cons_succ] at hT5
      have hH0 := hHeld
      clear hHeld
      refine hK.out _ _ (by show World.cell? _ ⟨w.heap.size + 1 + 1, 2, none⟩ = _; rw [World.cell?_setCell_other _ _ _ _ (by intro e; injection e with e1 e2; omega), World.cell?_setCell_other _ _ _ _ (by intro e; injection e with e1 e2; omega), World.cell?_setCell_other _ _ _ _ (by intro e; injection e with e1 e2; omega), World.cell?_setCell_other _ _ _ _ (by intro e; injection e with e1 e2; omega), World.cell?_setCell_other _ _ _ _ (by intro e; injection e with e1 e2; omega)]; exact hH0) (fun hHeld => ?_)
      clear hK K
      try simp only [Act.put, List.setIfInBounds_toArray, List.set_cons_zero, List.set_cons_succ]
      refine wpAnyH_take (i := 6) (v := ?_) opAt_6 (by kernel_rfl) (by kernel_rfl) (by kernel_rfl) (fun _ _ _ h => h) (Or.inl ⟨by rfl, ?_⟩) hHeld ?_
      rotate_left
      · (intro w' hSw; go_simp; try with_reducible rfl)
      try simp only [Act.put, List.setIfInBounds_toArray, List.set_cons_zero, List.set_cons_succ]
      refine wpAnyH_done (by kernel_rfl) ?_ _
      refine NoPanic.normal ?_
      clear t0 t1 t2 t3 t4 v0 v1 v2 v3 v4
      obtain ⟨u0, u1, u2, u3, u4⟩ := hT5.at5
      go_wp2_with fail
      refine bodyPost_ret (v := .tuple #[edV 0 ⟨#[]⟩ 0 0 (.slice none 0 0), .int .i64 (5 : Int)]) (by simp [results, Tryd.results21, go_sem, u0, u1, u2, u3, u4, edV]) rfl ?_
      rw [HX.out.1, HX.out.2]
      exact ⟨⟨_, rfl, EdV.none_⟩, hB5⟩
    · have hdr := Ed.drop_all hal
      have hX : X = ⟨4, ⟨#[]⟩, 0, i, []⟩ ∧ C = 0 := by
        have h9 := HQ.out
        simp only [Ed.bnd, Hn1.out, Ed.ret, hdr, Ed.endR] at h9
        exact ⟨(Prod.mk.inj h9).1.symm, (Prod.mk.inj h9).2.symm⟩
      have HX := Lib.hid hX
      have hal' : ¬ (ai : Int) < (L.length : Int) := by omega
      clear hX hdr hal
      obtain ⟨x0, x1, x2, x3, x4⟩ := HE.out.at5
      obtain ⟨f0, f1, f2, f3, f4⟩ := HE.out.free5
      obtain ⟨gA, gc, g0, g1, g2, gf1, gf2, gl1, gl2, gl3, gl4⟩ := HW.out.cells
      obtain ⟨t0, t1, t2, t3, t4⟩ := HT.out.at5
      obtain ⟨v0, v1, v2, v3, v4⟩ := HT.out.free5
      go_wp2_with fail
      have hT5 := (((((HT.out.set 0 (.int .i64 4) (by simp)).set 1 (.string ⟨#[]⟩) (by simp)).set 2 (.int .u64 0) (by simp)).set 3 (.int .u32 i) (by simp)).set 4 (.slice none 0 0) (by simp))
      have hB5 := (((((HB.out.setCell (p := ⟨w.heap.size, 0, none⟩) (Nat.le_refl _) (.int .i64 4)).setCell (p := ⟨w.heap.size, 1, none⟩) (Nat.le_refl _) (.string ⟨#[]⟩)).setCell (p := ⟨w.heap.size, 2, none⟩) (Nat.le_refl _) (.int .u64 0)).setCell (p := ⟨w.heap.size, 3, none⟩) (Nat.le_refl _) (.int .u32 i)).setCell (p := ⟨w.heap.size, 4, none⟩) (Nat.le_refl _) (.slice none 0 0))
      simp only [List.set_cons_zero, List.set_cons_succ] at hT5
      obtain ⟨u0, u1, u2, u3, u4⟩ := hT5.at5
      refine bodyPost_ret (v := .tuple #[edV 4 ⟨#[]⟩ 0 i (.slice none 0 0), .int .i64 0]) (by simp [results, Tryd.results21, go_sem, u0, u1, u2, u3, u4, edV]) rfl ?_
      rw [HX.out.1, HX.out.2]
      exact ⟨⟨_, rfl, ⟨_, rfl, Sls.none_⟩⟩, hB5⟩
end Go.Proofs.YtggijjknfcofoaaDoor
