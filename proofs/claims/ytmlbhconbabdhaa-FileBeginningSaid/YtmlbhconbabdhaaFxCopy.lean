
/-
  Layer 5: Copy.
-/
import Derived.Test.YtmlbhconbabdhaaFxCrash
set_option linter.unusedVariables false
set_option linter.unusedSimpArgs false
namespace Go.Proofs.Ytmlbhconbabdhaa
open Go.RowKit

theorem fcopy_nil (w : World) : Calls Try.prog 11 #[.pointer none] w fun e w' => e = .returned (.pointer none) ∧ Below w.heap.size w w' := by
  go_enter Try.func11, Try.ntmps11
  go_wp2
  go_ret
  exact ⟨rfl, Below.refl _ _⟩
theorem fclone_deeds (A : Option Addr) (n c : Nat) (dvs : List Value) (w : World) (hr : Rd w w.heap.size A dvs) (hn : dvs.length = n) (h1 : ∀ u ∈ dvs, u.oneCell' = true) (hm : n ≤ 10000000) :
    Calls Try.prog 24 #[.slice A n c] w fun e w' => ∃ r, e = .returned r ∧ w'.ownsRow w.heap.size 56 1 r n dvs ∧ Below w.heap.size w w' := by
  obtain ⟨i0, hi0, hz0, hz1, hz2⟩ := info_parts deed_info
  have hq := fun (w : World) (a : Option Addr) (n c n' c' : Nat) => @Lib.run_eql_slice_nil Try.prog w 49 _ a n c n' c' Try.underlying49
  rcases A with _ | a
  · have hl : dvs = [] := by
      rcases dvs with _ | ⟨x, r⟩
      · rfl
      · obtain ⟨b, o, h, _⟩ := hr (by simp)
        cases h
    subst hl
    simp only [List.length_nil] at hn
    subst hn
    go_enter Try.func24, Try.ntmps24
    go_wp2
    go_ret
    exact ⟨_, rfl, World.ownsRow_nil _ _ _ _, Below.refl _ _⟩
  · have hown0 : (w.alloc (Obj.cells #[] 56)).ownsRow w.heap.size 56 1 (.slice (some ⟨w.heap.size, 0, none⟩) 0 0) 0 [] := World.ownsRow_lit w #[] 0 (Nat.le_refl _) (Nat.zero_le _) rfl
    have Hr := Lib.hid hr
    have Hn := Lib.hid hn
    clear hr hn
    go_enter Try.func24, Try.ntmps24
    go_wp2_with (at_builtin; (refine wpList_append_rd _ rfl _ _ 49 rfl w.heap.size 56 i0 .nilIface 1 16 Try.underlying49 hi0 hz0 hz1 hz2 rfl (by omega) (.slice (some ⟨w.heap.size, 0, none⟩) 0 0) 0 [] rfl hown0 w.heap.size (some a) n c dvs rfl (by rw [Hn.out, Nat.mul_one]) (Hr.out.alloc (Nat.le_refl _) _) h1 (by unfold maxLen; omega) (by omega) (by simp) ?_); intro v1 w1 hown1 hbw1 _ _)
    go_ret
    exact ⟨v1, rfl, by simpa using hown1, ((Below.refl _ _).alloc (Nat.le_refl _) _).trans hbw1⟩

set_option maxRecDepth 100000 in
set_option maxHeartbeats 8000000 in
theorem fcopy_m {w : World} {F : Nat} {M R : Nat → Prop} {s : FSt} (h : FileM w F M R s) (hb : s.big ≤ 1000000) :
    Calls Try.prog 11 #[.pointer (some ⟨F, 0, none⟩)] w fun e w' => ∃ F' M', e = .returned (.pointer (some ⟨F', 0, none⟩)) ∧ FileM w' F' M' R s ∧ Below w.heap.size w w' ∧ ∀ i, M' i → w.heap.size ≤ i := by
  obtain ⟨ho, hMR, hM, hR, vs, vt, vd, dvs, h, hOM⟩ := h
  have hdl : s.deeds.length ≤ s.loose := length_le_units _ _ ho.valid
  have hbig : s.big = s.safe.length + s.loose := rfl
  have hbt := FSt.length_bytes ho
  have hbl := FSt.bytes_length ho
  have HB0 : Hid (s.safe.length ≤ 1000000 ∧ s.tail.length ≤ 1000000 ∧ s.deeds.length ≤ 1000000) := ⟨by omega, by omega, by omega⟩
  have HOk := Lib.hid ho
  have HR := Lib.hid hR
  have HE := Lib.hid h.each
  have HBs := Lib.hid (Bs.of_own h.safe)
  have HBt := Lib.hid (Bs.of_own h.tail)
  obtain ⟨As, cs, hvs, _, _, _⟩ := own_slice h.safe
  obtain ⟨At, ct, hvt, _, _, _⟩ := own_slice h.tail
  obtain ⟨Ad, cd, hvd, _, _, _⟩ := own_slice h.deeds
  have HRd : Hid (Rd w w.heap.size Ad dvs) := by have := h.deeds; rw [hvd] at this; exact Rd.of_own this
  have HC := Lib.hid h.cells
  obtain ⟨c0, c1, c2, c3, c4, f0, f1, f2, f3, f4⟩ := h.cells
  obtain ⟨ls, hls⟩ : ∃ ls, ls = s.safe.length := ⟨_, rfl⟩
  obtain ⟨lt, hlt⟩ : ∃ lt, lt = s.tail.length := ⟨_, rfl⟩
  obtain ⟨ld, hld⟩ : ∃ ld, ld = s.deeds.length := ⟨_, rfl⟩
  obtain ⟨kp, hkp⟩ : ∃ kp, kp = s.kept := ⟨_, rfl⟩
  obtain ⟨lo, hlo⟩ : ∃ lo, lo = s.loose := ⟨_, rfl⟩
  rw [← hls] at hvs
  rw [← hlt] at hvt
  rw [← hld] at hvd
  rw [← hkp] at c1
  rw [← hlo] at c4
  rw [← hkp, ← hlo] at HC
  subst hvs hvt hvd
  have Hls := Lib.hid hls
  have Hlt := Lib.hid hlt
  have Hld := Lib.hid hld
  have Hkp := Lib.hid hkp
  have Hlo := Lib.hid hlo
  clear ho hMR hM hR h hOM hdl hbig hbt hbl hb hls hlt hld hkp hlo
  go_enter Try.func11, Try.ntmps11
  go_wp2_with fail
  clear c0 c1 c2 c3 c4 f0 f1 f2 f3 f4
  refine wp_region_noPanic ?_
  refine wp_region_held_drew (S := fun w' => FCells w' F (.slice As ls cs) (.slice At lt ct) (.slice Ad ld cd) kp lo) (by kernel_rfl) HC.out.drew (fun hHeld => ?_)
  have HW : Hid (Below w.heap.size w w.drew) := (Below.refl _ _).drew
  generalize World.drew _ = W at *
  refine wpAnyH_take (i := 0) (v := ?_) opAt_0 (by kernel_rfl) (by kernel_rfl) (by kernel_rfl) (fun _ _ _ h => h) (Or.inl ⟨by rfl, ?_⟩) hHeld ?_
  rotate_left
  · (intro w' hSw; obtain ⟨k0, k1, k2, k3, k4, _, _, _, _, _⟩ := hSw; go_simp; try with_reducible rfl)
  try simp only [Act.put, List.setIfInBounds_toArray, List.set_cons_zero, List.set_cons_succ]
  refine wpAnyH_take (i := 1) (v := ?_) opAt_1 (by kernel_rfl) (by kernel_rfl) (by kernel_rfl) (fun _ _ _ h => h) (Or.inl ⟨by rfl, ?_⟩) hHeld ?_
  rotate_left
  · (intro w' hSw; obtain ⟨k0, k1, k2, k3, k4, _, _, _, _, _⟩ := hSw; go_simp; try with_reducible rfl)
  try simp only [Act.put, List.setIfInBounds_toArray, List.set_cons_zero, List.set_cons_succ]
  refine wpAnyH_take (i := 2) (v := ?_) opAt_2 (by kernel_rfl) (by kernel_rfl) (by kernel_rfl) (fun _ _ _ h => h) (Or.inl ⟨by rfl, ?_⟩) hHeld ?_
  rotate_left
  · (intro w' hSw; obtain ⟨k0, k1, k2, k3, k4, _, _, _, _, _⟩ := hSw; go_simp; try with_reducible rfl)
  try simp only [Act.put, List.setIfInBounds_toArray, List.set_cons_zero, List.set_cons_succ]
  refine wpAnyH_take (i := 3) (v := ?_) opAt_3 (by kernel_rfl) (by kernel_rfl) (by kernel_rfl) (fun _ _ _ h => h) (Or.inl ⟨by rfl, ?_⟩) hHeld ?_
  rotate_left
  · (intro w' hSw; obtain ⟨k0, k1, k2, k3, k4, _, _, _, _, _⟩ := hSw; go_simp; try with_reducible rfl)
  try simp only [Act.put, List.setIfInBounds_toArray, List.set_cons_zero, List.set_cons_succ]
  refine wpAnyH_take (i := 5) (v := ?_) opAt_5 (by kernel_rfl) (by kernel_rfl) (by kernel_rfl) (fun _ _ _ h => h) (Or.inl ⟨by rfl, ?_⟩) hHeld ?_
  rotate_left
  · (intro w' hSw; obtain ⟨k0, k1, k2, k3, k4, _, _, _, _, _⟩ := hSw; go_simp; try with_reducible rfl)
  try simp only [Act.put, List.setIfInBounds_toArray, List.set_cons_zero, List.set_cons_succ]
  refine wpAnyH_take (i := 6) (v := ?_) opAt_6 (by kernel_rfl) (by kernel_rfl) (by kernel_rfl) (fun _ _ _ h => h) (Or.inl ⟨by rfl, ?_⟩) hHeld ?_
  rotate_left
  · (intro w' hSw; obtain ⟨k0, k1, k2, k3, k4, _, _, _, _, _⟩ := hSw; go_simp; try with_reducible rfl)
  try simp only [Act.put, List.setIfInBounds_toArray, List.set_cons_zero, List.set_cons_succ]
  refine wpAnyH_take (i := 7) (v := ?_) opAt_7 (by kernel_rfl) (by kernel_rfl) (by kernel_rfl) (fun _ _ _ h => h) (Or.inl ⟨by rfl, ?_⟩) hHeld ?_
  rotate_left
  · (intro w' hSw; obtain ⟨k0, k1, k2, k3, k4, _, _, _, _, _⟩ := hSw; go_simp; try with_reducible rfl)
  try simp only [Act.put, List.setIfInBounds_toArray, List.set_cons_zero, List.set_cons_succ]
  refine wpAnyH_take (i := 8) (v := ?_) opAt_8 (by kernel_rfl) (by kernel_rfl) (by kernel_rfl) (fun _ _ _ h => h) (Or.inl ⟨by rfl, ?_⟩) hHeld ?_
  rotate_left
  · (intro w' hSw; obtain ⟨k0, k1, k2, k3, k4, _, _, _, _, _⟩ := hSw; go_simp; try with_reducible rfl)
  try simp only [Act.put, List.setIfInBounds_toArray, List.set_cons_zero, List.set_cons_succ]
  refine wpAnyH_take (i := 9) (v := ?_) opAt_9 (by kernel_rfl) (by kernel_rfl) (by kernel_rfl) (fun _ _ _ h => h) (Or.inl ⟨by rfl, ?_⟩) hHeld ?_
  rotate_left
  · (intro w' hSw; obtain ⟨k0, k1, k2, k3, k4, _, _, _, _, _⟩ := hSw; go_simp; try with_reducible rfl)
  try simp only [Act.put, List.setIfInBounds_toArray, List.set_cons_zero, List.set_cons_succ]
  refine wpAnyH_take (i := 10) (v := ?_) opAt_10 (by kernel_rfl) (by kernel_rfl) (by kernel_rfl) (fun _ _ _ h => h) (Or.inl ⟨by rfl, ?_⟩) hHeld ?_
  rotate_left
  · (intro w' hSw; obtain ⟨k0, k1, k2, k3, k4, _, _, _, _, _⟩ := hSw; go_simp; try with_reducible rfl)
  try simp only [Act.put, List.setIfInBounds_toArray, List.set_cons_zero, List.set_cons_succ]
  refine wpAnyH_take (i := 11) (v := ?_) opAt_11 (by kernel_rfl) (by kernel_rfl) (by kernel_rfl) (fun _ _ _ h => h) (Or.inl ⟨by rfl, ?_⟩) hHeld ?_
  rotate_left
  · (intro w' hSw; obtain ⟨k0, k1, k2, k3, k4, _, _, _, _, _⟩ := hSw; go_simp; try with_reducible rfl)
  try simp only [Act.put, List.setIfInBounds_toArray, List.set_cons_zero, List.set_cons_succ]
  refine wpAnyH_take (i := 12) (v := ?_) opAt_12 (by kernel_rfl) (by kernel_rfl) (by kernel_rfl) (fun _ _ _ h => h) (Or.inl ⟨by rfl, ?_⟩) hHeld ?_
  rotate_left
  · (intro w' hSw; obtain ⟨k0, k1, k2, k3, k4, _, _, _, _, _⟩ := hSw; go_simp; try with_reducible rfl)
  try simp only [Act.put, List.setIfInBounds_toArray, List.set_cons_zero, List.set_cons_succ]
  refine wpAnyH_take (i := 14) (v := ?_) opAt_14 (by kernel_rfl) (by kernel_rfl) (by kernel_rfl) (fun _ _ _ h => h) (Or.inl ⟨by rfl, ?_⟩) hHeld ?_
  rotate_left
  · (intro w' hSw; obtain ⟨k0, k1, k2, k3, k4, _, _, _, _, _⟩ := hSw; go_simp; try with_reducible rfl)
  try simp only [Act.put, List.setIfInBounds_toArray, List.set_cons_zero, List.set_cons_succ]
  refine wpAnyH_take (i := 15) (v := ?_) opAt_15 (by kernel_rfl) (by kernel_rfl) (by kernel_rfl) (fun _ _ _ h => h) (Or.inl ⟨by rfl, ?_⟩) hHeld ?_
  rotate_left
  · (intro w' hSw; obtain ⟨k0, k1, k2, k3, k4, _, _, _, _, _⟩ := hSw; go_simp; try with_reducible rfl)
  try simp only [Act.put, List.setIfInBounds_toArray, List.set_cons_zero, List.set_cons_succ]
  refine wpAnyH_take (i := 16) (v := ?_) opAt_16 (by kernel_rfl) (by kernel_rfl) (by kernel_rfl) (fun _ _ _ h => h) (Or.inl ⟨by rfl, ?_⟩) hHeld ?_
  rotate_left
  · (intro w' hSw; obtain ⟨k0, k1, k2, k3, k4, _, _, _, _, _⟩ := hSw; go_simp; try with_reducible rfl)
  try simp only [Act.put, List.setIfInBounds_toArray, List.set_cons_zero, List.set_cons_succ]
  refine wpAnyH_take (i := 17) (v := ?_) opAt_17 (by kernel_rfl) (by kernel_rfl) (by kernel_rfl) (fun _ _ _ h => h) (Or.inl ⟨by rfl, ?_⟩) hHeld ?_
  rotate_left
  · (intro w' hSw; obtain ⟨k0, k1, k2, k3, k4, _, _, _, _, _⟩ := hSw; go_simp; try with_reducible rfl)
  try simp only [Act.put, List.setIfInBounds_toArray, List.set_cons_zero, List.set_cons_succ]
  refine wpAnyH_take (i := 19) (v := ?_) opAt_19 (by kernel_rfl) (by kernel_rfl) (by kernel_rfl) (fun _ _ _ h => h) (Or.inl ⟨by rfl, ?_⟩) hHeld ?_
  rotate_left
  · (intro w' hSw; obtain ⟨k0, k1, k2, k3, k4, _, _, _, _, _⟩ := hSw; go_simp; try with_reducible rfl)
  try simp only [Act.put, List.setIfInBounds_toArray, List.set_cons_zero, List.set_cons_succ]
  refine wpAnyH_take (i := 20) (v := ?_) opAt_20 (by kernel_rfl) (by kernel_rfl) (by kernel_rfl) (fun _ _ _ h => h) (Or.inl ⟨by rfl, ?_⟩) hHeld ?_
  rotate_left
  · (intro w' hSw; obtain ⟨k0, k1, k2, k3, k4, _, _, _, _, _⟩ := hSw; go_simp; try with_reducible rfl)
  try simp only [Act.put, List.setIfInBounds_toArray, List.set_cons_zero, List.set_cons_succ]
  refine wpAnyH_take (i := 21) (v := ?_) opAt_21 (by kernel_rfl) (by kernel_rfl) (by kernel_rfl) (fun _ _ _ h => h) (Or.inl ⟨by rfl, ?_⟩) hHeld ?_
  rotate_left
  · (intro w' hSw; obtain ⟨k0, k1, k2, k3, k4, _, _, _, _, _⟩ := hSw; go_simp; try with_reducible rfl)
  try simp only [Act.put, List.setIfInBounds_toArray, List.set_cons_zero, List.set_cons_succ]
  refine wpAnyH_take (i := 22) (v := ?_) opAt_22 (by kernel_rfl) (by kernel_rfl) (by kernel_rfl) (fun _ _ _ h => h) (Or.inl ⟨by rfl, ?_⟩) hHeld ?_
  rotate_left
  · (intro w' hSw; obtain ⟨k0, k1, k2, k3, k4, _, _, _, _, _⟩ := hSw; go_simp; try with_reducible rfl)
  try simp only [Act.put, List.setIfInBounds_toArray, List.set_cons_zero, List.set_cons_succ]
  refine wpAnyH_ready (rs := [4]) (by kernel_rfl) (by simp) ?_
  refine AllReadyH.cons rfl (fun K hK => ?_) AllReadyH.nil
  go_simp
  refine (fclone _ _ _ _ (HBs.out.on HW.out) (Nat.le_refl _) (by have := HB0.out; omega)).mono ?_
  rintro e w1 ⟨r1, rfl, ho1, hb1⟩
  go_wp2_with fail
  have HO1 := Lib.hid ho1
  have HW1 := Lib.hid (HW.out.trans (hb1.mono HW.out.size))
  have hHeld1 := hHeld.on hb1
  clear hHeld
  have hHeld := hHeld1
  refine hK.out _ _ hHeld1 (fun hHeld => ?_)
  clear hK K hHeld1 hb1 ho1
  try simp only [Act.put, List.setIfInBounds_toArray, List.set_cons_zero, List.set_cons_succ]
  refine wpAnyH_ready (rs := [13]) (by kernel_rfl) (by simp) ?_
  refine AllReadyH.cons rfl (fun K hK => ?_) AllReadyH.nil
  go_simp
  refine (fclone _ _ _ _ (HBt.out.on HW1.out) (Nat.le_refl _) (by have := HB0.out; omega)).mono ?_
  rintro e w2 ⟨r2, rfl, ho2, hb2⟩
  go_wp2_with fail
  have HO2 := Lib.hid ho2
  have HO1' := Lib.hid (own_below HO1.out hb2 (Nat.le_refl _))
  have HW2 := Lib.hid (HW1.out.trans (hb2.mono HW1.out.size))
  have hHeld1 := hHeld.on hb2
  clear hHeld
  have hHeld := hHeld1
  refine hK.out _ _ hHeld1 (fun hHeld => ?_)
  clear hK K hHeld1
  try simp only [Act.put, List.setIfInBounds_toArray, List.set_cons_zero, List.set_cons_succ]
  have Hb2 := Lib.hid hb2
  clear hb2 ho2
  refine wpAnyH_ready (rs := [18]) (by kernel_rfl) (by simp) ?_
  refine AllReadyH.cons rfl (fun K hK => ?_) AllReadyH.nil
  go_simp
  refine (fclone_deeds Ad ld cd dvs _ ((HRd.out.below HW2.out (Nat.le_refl _)).mono HW2.out.size) (by rw [Hld.out]; exact HE.out.1) HE.out.one (by have := HB0.out; have := Hld.out; omega)).mono ?_
  rintro e w3 ⟨r3, rfl, ho3, hb3⟩
  go_wp2_with fail
  have HO3 := Lib.hid ho3
  have HO2' := Lib.hid (own_below HO2.out hb3 (Nat.le_refl _))
  have HO1'' := Lib.hid (own_below HO1'.out hb3 (Nat.le_refl _))
  have HW3 := Lib.hid (HW2.out.trans (hb3.mono HW2.out.size))
  have hHeld1 := hHeld.on hb3
  clear hHeld
  have hHeld := hHeld1
  refine hK.out _ _ hHeld1 (fun hHeld => ?_)
  clear hK K hHeld1
  try simp only [Act.put, List.setIfInBounds_toArray, List.set_cons_zero, List.set_cons_succ]
  have Hb3 := Lib.hid hb3
  clear hb3 ho3
  obtain ⟨A1, d1, e1, _, _, _⟩ := own_slice HO1.out
  obtain ⟨A2, d2, e2, _, _, _⟩ := own_slice HO2.out
  obtain ⟨A3, d3, e3, _, _, _⟩ := own_slice HO3.out
  obtain ⟨x1, hx1⟩ : ∃ x, x = s.safe.length := ⟨_, rfl⟩
  obtain ⟨x2, hx2⟩ : ∃ x, x = s.tail.length := ⟨_, rfl⟩
  rw [← hx1] at e1
  rw [← hx2] at e2
  clear hx1 hx2
  subst e1 e2 e3
  refine wpAnyH_take (i := 23) (v := ?_) opAt_23 (by kernel_rfl) (by kernel_rfl) (by kernel_rfl) (fun _ _ _ h => h) (Or.inl ⟨by rfl, ?_⟩) hHeld ?_
  rotate_left
  · (intro w' hSw; obtain ⟨k0, k1, k2, k3, k4, _, _, _, _, _⟩ := hSw; go_simp; try with_reducible rfl)
  try simp only [Act.put, List.setIfInBounds_toArray, List.set_cons_zero, List.set_cons_succ]
  refine wpAnyH_ready (rs := [24]) (by kernel_rfl) (by simp) ?_
  refine AllReadyH.cons rfl (fun K hK => ?_) AllReadyH.nil
  go_simp
  have hnew : Below w3.heap.size w3 (w3.alloc (.cells #[.slice A1 x1 d1, .int .i64 (kp : Int), .slice A2 x2 d2, .slice A3 ld d3, .int .i64 (lo : Int)] 51)) := (Below.refl _ _).alloc (Nat.le_refl _) _
  refine hK.out _ _ (hHeld.on hnew) (fun hHeld => ?_)
  clear hK K
  try simp only [Act.put, List.setIfInBounds_toArray, List.set_cons_zero, List.set_cons_succ]
  refine wpAnyH_ready (rs := [25]) (by kernel_rfl) (by simp) ?_
  refine AllReadyH.cons rfl (fun K hK => ?_) AllReadyH.nil
  go_simp
  refine hK.out _ _ hHeld (fun hHeld => ?_)
  refine wpAnyH_done (by kernel_rfl) ?_ _
  refine NoPanic.normal ?_
  clear hK K hHeld
  have Hnew := Lib.hid hnew
  clear hnew
  go_wp2_with fail
  go_ret
  have s1 := HW.out.size
  have s2 := HW1.out.size
  have s3 := HW2.out.size
  have s4 := HW3.out.size
  have sb2 := Hb2.out.size
  have sb3 := Hb3.out.size
  have l1 := HO1.out.lt
  have l2 := HO2.out.lt
  have l3 := HO3.out.lt
  have hfin : FileAt (w3.alloc (.cells #[.slice A1 x1 d1, .int .i64 (kp : Int), .slice A2 x2 d2, .slice A3 ld d3, .int .i64 (lo : Int)] 51)) w3.heap.size R (.slice A1 x1 d1) (.slice A2 x2 d2) (.slice A3 ld d3) dvs s := by
    refine ⟨?_, own_base (HO1''.out.alloc _) (Nat.zero_le _), own_base (HO2'.out.alloc _) (Nat.zero_le _), ?_, ?_, ⟨?_, ?_, ?_, ?_, ?_, ?_⟩, ?_⟩
    · rw [← Hkp.out, ← Hlo.out]
      exact FCells.new _ _ _ _ _ _ _
    · rw [← Hld.out]
      exact own_base (HO3.out.alloc _) (Nat.zero_le _)
    · exact HE.out.chg (Chg.of_below (M := fun _ => False) (HW3.out.trans (Hnew.out.mono HW3.out.size))) (fun i h => h.elim)
    · intro e; have := l1 _ e; omega
    · intro e; have := l2 _ e; omega
    · intro e; have := l3 _ e; omega
    · intro g e e'; have := l1 _ e; have := l2 _ e'; omega
    · intro g e e'; have := l1 _ e; have := l3 _ e'; omega
    · intro g e e'; have := l2 _ e; have := l3 _ e'; omega
    · rintro i (rfl | hi | hi | hi) hr
      · have := HR.out _ hr; omega
      · have := HR.out _ hr; have := l1 _ hi; omega
      · have := HR.out _ hr; have := l2 _ hi; omega
      · have := HR.out _ hr; have := l3 _ hi; omega
  refine ⟨_, fun i => FOwn w3.heap.size (.slice A1 x1 d1) (.slice A2 x2 d2) (.slice A3 ld d3) i, rfl, ⟨HOk.out, hfin.rows, hfin.lt, fun i hi => Nat.lt_of_lt_of_le (HR.out i hi) (Nat.le_trans s4 Hnew.out.size), _, _, _, _, hfin, fun i h => h⟩, HW3.out.trans (Hnew.out.mono s4), ?_⟩
  rintro i (rfl | hi | hi | hi)
  · exact s4
  · have := l1 _ hi; omega
  · have := l2 _ hi; omega
  · have := l3 _ hi; omega
end Go.Proofs.Ytmlbhconbabdhaa
