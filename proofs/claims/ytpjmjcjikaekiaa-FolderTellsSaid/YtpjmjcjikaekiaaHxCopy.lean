
/-
  Layer 6: the program's folder: Copy.
-/
import Derived.Test.YtpjmjcjikaekiaaHxSettle
set_option linter.unusedVariables false
set_option linter.unusedSimpArgs false
namespace Go.Proofs.Ytpjmjcjikaekiaa
open Go.RowKit Go.Maps

set_option maxRecDepth 100000 in
/-- slices.Clone of deeds -/
theorem hcloneF {w : World} {v : Value} {n : Nat} {xs : List Value} (h : w.ownsRow 0 68 1 v n xs) (h1 : ∀ u ∈ xs, u.oneCell' = true) (hn : n ≤ 1000000) :
    Calls Try.prog 29 #[v] w fun e w' => ∃ r, e = .returned r ∧ w'.ownsRow w.heap.size 68 1 r n xs ∧ Below w.heap.size w w' := by
  obtain ⟨i0, hi0, hz0, hz1, hz2⟩ := info_parts fn_info
  obtain ⟨A, c, rfl, hc, hcm, _⟩ := own_slice h
  have hxl : xs.length = n * 1 := h.1
  have hrd := Rd.of_own h
  have hq := @Lib.run_eql_slice_nil Try.prog
  have H1 := Lib.hid h1
  clear h1
  rcases A with _ | a
  · have hl : xs = [] := by
      rcases xs with _ | ⟨x, r⟩
      · rfl
      · obtain ⟨b, o, h, _⟩ := hrd (by simp)
        cases h
    subst hl
    obtain rfl : n = 0 := by simpa using hxl.symm
    clear hrd h
    go_enter Try.func29, Try.ntmps29
    go_wp2
    go_ret
    exact ⟨_, rfl, World.ownsRow_nil _ _ _ _, Below.refl _ _⟩
  · have hown0 : (w.alloc (Obj.cells #[] 68)).ownsRow w.heap.size 68 1 (.slice (some ⟨w.heap.size, 0, none⟩) 0 0) 0 [] := World.ownsRow_lit w #[] 0 (Nat.le_refl _) (Nat.zero_le _) rfl
    have Hr := Lib.hid hrd
    clear hrd h
    go_enter Try.func29, Try.ntmps29
    go_wp2_with (at_builtin; (refine wpList_append_rd _ rfl _ _ 63 rfl w.heap.size 68 i0 .nilFunc 1 8 Try.underlying63 hi0 hz0 hz1 hz2 rfl (by omega) (.slice (some ⟨w.heap.size, 0, none⟩) 0 0) 0 [] rfl hown0 w.heap.size (some a) n c xs rfl (by omega) (Hr.out.alloc (Nat.le_refl _) _) H1.out (by unfold maxLen; omega) (by omega) (by simp) ?_); intro v1 w1 hown1 hbw1 _ _)
    go_ret
    exact ⟨v1, rfl, by simpa using hown1, ((Below.refl _ _).alloc (Nat.le_refl _) _).trans hbw1⟩
set_option maxRecDepth 100000 in
set_option maxHeartbeats 8000000 in
theorem hcopy {w : World} {X : Nat} {M R : Nat → Prop} {s : PSt} (h : HFolM w X M R s) :
    Calls Try.prog 9 #[.pointer (some ⟨X, 0, none⟩)] w fun e w' => ∃ X' M', e = .returned (.pointer (some ⟨X', 0, none⟩)) ∧ HFolM w' X' M' R s ∧ Below w.heap.size w w' ∧ ∀ i, M' i → w.heap.size ≤ i := by
  obtain ⟨ho, hMR, hM, hR, bs, bn, vd, dvs, h, hvX, hOM⟩ := h
  have Hho := Lib.hid ho
  have HR := Lib.hid hR
  have H := Lib.hid h
  have hnd2 : s.deeds.length ≤ 100000 := by have := ho.few; omega
  obtain ⟨nd, hnd⟩ : ∃ nd, nd = s.deeds.length := ⟨_, rfl⟩
  rw [← hnd] at hnd2
  have Hnd := Lib.hid hnd
  have Hone := Lib.hid h.each.one
  have HC0 := Lib.hid h.cells
  clear ho hMR hM hR hvX hOM h hnd
  go_enter Try.func9, Try.ntmps9
  go_wp2_with fail
  refine (hmade HC0.out).mono ?_
  rintro e w' ⟨rfl, rfl⟩
  go_wp2_with fail
  have HCW := Lib.hid HC0.out.drew
  have HSW : Hid (MapAt w.drew bs s.safe) := H.out.safe.on (Below.refl _ _).drew
  have HNW : Hid (MapAt w.drew bn s.now) := H.out.now.on (Below.refl _ _).drew
  have HDW : Hid (w.drew.ownsRow 0 68 1 vd nd dvs) := by have := own_below H.out.deeds (Below.refl w.heap.size w).drew (Nat.le_refl _); rw [Hnd.out]; exact this
  have HBW : Hid (Below w.heap.size w w.drew) := (Below.refl _ _).drew
  refine wp_region_noPanic ?_
  refine wp_region_held_drew (S := fun w' => HCells w' X bs bn vd s.last s.settled) (by kernel_rfl) HCW.out (fun hHeld => ?_)
  generalize World.drew _ = W at *
  refine wpAnyH_take (i := 0) (v := ?_) opAt_0 (by kernel_rfl) (by kernel_rfl) (by kernel_rfl) (fun _ _ _ h => h) (Or.inl ⟨by rfl, ?_⟩) hHeld ?_
  rotate_left
  · (intro w' hSw; obtain ⟨k0, k1, k2, k3, k4, _⟩ := hSw; go_simp; try with_reducible rfl)
  try simp only [Act.put, List.setIfInBounds_toArray, List.set_cons_zero, List.set_cons_succ]
  refine wpAnyH_take (i := 1) (v := ?_) opAt_1 (by kernel_rfl) (by kernel_rfl) (by kernel_rfl) (fun _ _ _ h => h) (Or.inl ⟨by rfl, ?_⟩) hHeld ?_
  rotate_left
  · (intro w' hSw; obtain ⟨k0, k1, k2, k3, k4, _⟩ := hSw; go_simp; try with_reducible rfl)
  try simp only [Act.put, List.setIfInBounds_toArray, List.set_cons_zero, List.set_cons_succ]
  refine wpAnyH_take (i := 2) (v := ?_) opAt_2 (by kernel_rfl) (by kernel_rfl) (by kernel_rfl) (fun _ _ _ h => h) (Or.inl ⟨by rfl, ?_⟩) hHeld ?_
  rotate_left
  · (intro w' hSw; obtain ⟨k0, k1, k2, k3, k4, _⟩ := hSw; go_simp; try with_reducible rfl)
  try simp only [Act.put, List.setIfInBounds_toArray, List.set_cons_zero, List.set_cons_succ]
  refine wpAnyH_take (i := 3) (v := ?_) opAt_3 (by kernel_rfl) (by kernel_rfl) (by kernel_rfl) (fun _ _ _ h => h) (Or.inl ⟨by rfl, ?_⟩) hHeld ?_
  rotate_left
  · (intro w' hSw; obtain ⟨k0, k1, k2, k3, k4, _⟩ := hSw; go_simp; try with_reducible rfl)
  try simp only [Act.put, List.setIfInBounds_toArray, List.set_cons_zero, List.set_cons_succ]
  refine wpAnyH_take (i := 5) (v := ?_) opAt_5 (by kernel_rfl) (by kernel_rfl) (by kernel_rfl) (fun _ _ _ h => h) (Or.inl ⟨by rfl, ?_⟩) hHeld ?_
  rotate_left
  · (intro w' hSw; obtain ⟨k0, k1, k2, k3, k4, _⟩ := hSw; go_simp; try with_reducible rfl)
  try simp only [Act.put, List.setIfInBounds_toArray, List.set_cons_zero, List.set_cons_succ]
  refine wpAnyH_take (i := 6) (v := ?_) opAt_6 (by kernel_rfl) (by kernel_rfl) (by kernel_rfl) (fun _ _ _ h => h) (Or.inl ⟨by rfl, ?_⟩) hHeld ?_
  rotate_left
  · (intro w' hSw; obtain ⟨k0, k1, k2, k3, k4, _⟩ := hSw; go_simp; try with_reducible rfl)
  try simp only [Act.put, List.setIfInBounds_toArray, List.set_cons_zero, List.set_cons_succ]
  refine wpAnyH_take (i := 7) (v := ?_) opAt_7 (by kernel_rfl) (by kernel_rfl) (by kernel_rfl) (fun _ _ _ h => h) (Or.inl ⟨by rfl, ?_⟩) hHeld ?_
  rotate_left
  · (intro w' hSw; obtain ⟨k0, k1, k2, k3, k4, _⟩ := hSw; go_simp; try with_reducible rfl)
  try simp only [Act.put, List.setIfInBounds_toArray, List.set_cons_zero, List.set_cons_succ]
  refine wpAnyH_take (i := 8) (v := ?_) opAt_8 (by kernel_rfl) (by kernel_rfl) (by kernel_rfl) (fun _ _ _ h => h) (Or.inl ⟨by rfl, ?_⟩) hHeld ?_
  rotate_left
  · (intro w' hSw; obtain ⟨k0, k1, k2, k3, k4, _⟩ := hSw; go_simp; try with_reducible rfl)
  try simp only [Act.put, List.setIfInBounds_toArray, List.set_cons_zero, List.set_cons_succ]
  refine wpAnyH_take (i := 10) (v := ?_) opAt_10 (by kernel_rfl) (by kernel_rfl) (by kernel_rfl) (fun _ _ _ h => h) (Or.inl ⟨by rfl, ?_⟩) hHeld ?_
  rotate_left
  · (intro w' hSw; obtain ⟨k0, k1, k2, k3, k4, _⟩ := hSw; go_simp; try with_reducible rfl)
  try simp only [Act.put, List.setIfInBounds_toArray, List.set_cons_zero, List.set_cons_succ]
  refine wpAnyH_take (i := 11) (v := ?_) opAt_11 (by kernel_rfl) (by kernel_rfl) (by kernel_rfl) (fun _ _ _ h => h) (Or.inl ⟨by rfl, ?_⟩) hHeld ?_
  rotate_left
  · (intro w' hSw; obtain ⟨k0, k1, k2, k3, k4, _⟩ := hSw; go_simp; try with_reducible rfl)
  try simp only [Act.put, List.setIfInBounds_toArray, List.set_cons_zero, List.set_cons_succ]
  refine wpAnyH_take (i := 12) (v := ?_) opAt_12 (by kernel_rfl) (by kernel_rfl) (by kernel_rfl) (fun _ _ _ h => h) (Or.inl ⟨by rfl, ?_⟩) hHeld ?_
  rotate_left
  · (intro w' hSw; obtain ⟨k0, k1, k2, k3, k4, _⟩ := hSw; go_simp; try with_reducible rfl)
  try simp only [Act.put, List.setIfInBounds_toArray, List.set_cons_zero, List.set_cons_succ]
  refine wpAnyH_take (i := 13) (v := ?_) opAt_13 (by kernel_rfl) (by kernel_rfl) (by kernel_rfl) (fun _ _ _ h => h) (Or.inl ⟨by rfl, ?_⟩) hHeld ?_
  rotate_left
  · (intro w' hSw; obtain ⟨k0, k1, k2, k3, k4, _⟩ := hSw; go_simp; try with_reducible rfl)
  try simp only [Act.put, List.setIfInBounds_toArray, List.set_cons_zero, List.set_cons_succ]
  refine wpAnyH_take (i := 15) (v := ?_) opAt_15 (by kernel_rfl) (by kernel_rfl) (by kernel_rfl) (fun _ _ _ h => h) (Or.inl ⟨by rfl, ?_⟩) hHeld ?_
  rotate_left
  · (intro w' hSw; obtain ⟨k0, k1, k2, k3, k4, _⟩ := hSw; go_simp; try with_reducible rfl)
  try simp only [Act.put, List.setIfInBounds_toArray, List.set_cons_zero, List.set_cons_succ]
  refine wpAnyH_take (i := 16) (v := ?_) opAt_16 (by kernel_rfl) (by kernel_rfl) (by kernel_rfl) (fun _ _ _ h => h) (Or.inl ⟨by rfl, ?_⟩) hHeld ?_
  rotate_left
  · (intro w' hSw; obtain ⟨k0, k1, k2, k3, k4, _⟩ := hSw; go_simp; try with_reducible rfl)
  try simp only [Act.put, List.setIfInBounds_toArray, List.set_cons_zero, List.set_cons_succ]
  refine wpAnyH_take (i := 17) (v := ?_) opAt_17 (by kernel_rfl) (by kernel_rfl) (by kernel_rfl) (fun _ _ _ h => h) (Or.inl ⟨by rfl, ?_⟩) hHeld ?_
  rotate_left
  · (intro w' hSw; obtain ⟨k0, k1, k2, k3, k4, _⟩ := hSw; go_simp; try with_reducible rfl)
  try simp only [Act.put, List.setIfInBounds_toArray, List.set_cons_zero, List.set_cons_succ]
  refine wpAnyH_take (i := 18) (v := ?_) opAt_18 (by kernel_rfl) (by kernel_rfl) (by kernel_rfl) (fun _ _ _ h => h) (Or.inl ⟨by rfl, ?_⟩) hHeld ?_
  rotate_left
  · (intro w' hSw; obtain ⟨k0, k1, k2, k3, k4, _⟩ := hSw; go_simp; try with_reducible rfl)
  try simp only [Act.put, List.setIfInBounds_toArray, List.set_cons_zero, List.set_cons_succ]
  refine wpAnyH_take (i := 19) (v := ?_) opAt_19 (by kernel_rfl) (by kernel_rfl) (by kernel_rfl) (fun _ _ _ h => h) (Or.inl ⟨by rfl, ?_⟩) hHeld ?_
  rotate_left
  · (intro w' hSw; obtain ⟨k0, k1, k2, k3, k4, _⟩ := hSw; go_simp; try with_reducible rfl)
  try simp only [Act.put, List.setIfInBounds_toArray, List.set_cons_zero, List.set_cons_succ]
  refine wpAnyH_take (i := 20) (v := ?_) opAt_20 (by kernel_rfl) (by kernel_rfl) (by kernel_rfl) (fun _ _ _ h => h) (Or.inl ⟨by rfl, ?_⟩) hHeld ?_
  rotate_left
  · (intro w' hSw; obtain ⟨k0, k1, k2, k3, k4, _⟩ := hSw; go_simp; try with_reducible rfl)
  try simp only [Act.put, List.setIfInBounds_toArray, List.set_cons_zero, List.set_cons_succ]
  refine wpAnyH_take (i := 21) (v := ?_) opAt_21 (by kernel_rfl) (by kernel_rfl) (by kernel_rfl) (fun _ _ _ h => h) (Or.inl ⟨by rfl, ?_⟩) hHeld ?_
  rotate_left
  · (intro w' hSw; obtain ⟨k0, k1, k2, k3, k4, _⟩ := hSw; go_simp; try with_reducible rfl)
  try simp only [Act.put, List.setIfInBounds_toArray, List.set_cons_zero, List.set_cons_succ]
  refine wpAnyH_take (i := 22) (v := ?_) opAt_22 (by kernel_rfl) (by kernel_rfl) (by kernel_rfl) (fun _ _ _ h => h) (Or.inl ⟨by rfl, ?_⟩) hHeld ?_
  rotate_left
  · (intro w' hSw; obtain ⟨k0, k1, k2, k3, k4, _⟩ := hSw; go_simp; try with_reducible rfl)
  try simp only [Act.put, List.setIfInBounds_toArray, List.set_cons_zero, List.set_cons_succ]
  refine wpAnyH_ready (rs := [4]) (by kernel_rfl) (by simp) ?_
  refine AllReadyH.cons rfl (fun K hK => ?_) AllReadyH.nil
  go_simp
  refine (hclone HSW.out).mono ?_
  rintro e w2 ⟨b1, rfl, hm2, hb2, hge2, _⟩
  have HM2 := Lib.hid hm2
  have HB2 := Lib.hid hb2
  have Hge2 := Lib.hid hge2
  have hc2 := HCW.out.on hb2
  have HC2 := Lib.hid hc2
  have HN2 := Lib.hid (HNW.out.on hb2)
  clear hm2 hb2 hge2
  go_wp2_with fail
  refine hK.out _ _ hc2 (fun hHeld => ?_)
  clear hK K
  try simp only [Act.put, List.setIfInBounds_toArray, List.set_cons_zero, List.set_cons_succ]
  refine wpAnyH_ready (rs := [9]) (by kernel_rfl) (by simp) ?_
  refine AllReadyH.cons rfl (fun K hK => ?_) AllReadyH.nil
  go_simp
  refine (hclone HN2.out).mono ?_
  rintro e w3 ⟨b2, rfl, hm3, hb3, hge3, _⟩
  have HM3 := Lib.hid hm3
  have HB3 := Lib.hid hb3
  have Hge3 := Lib.hid hge3
  have hc3 := HC2.out.on hb3
  have HC3 := Lib.hid hc3
  have HD3 := Lib.hid (own_below HDW.out (HB2.out.trans (hb3.mono HB2.out.size)) (Nat.le_refl _))
  clear hm3 hb3 hge3
  go_wp2_with fail
  refine hK.out _ _ hc3 (fun hHeld => ?_)
  clear hK K
  try simp only [Act.put, List.setIfInBounds_toArray, List.set_cons_zero, List.set_cons_succ]
  refine wpAnyH_ready (rs := [14]) (by kernel_rfl) (by simp) ?_
  refine AllReadyH.cons rfl (fun K hK => ?_) AllReadyH.nil
  go_simp
  refine (hcloneF HD3.out Hone.out (by omega)).mono ?_
  rintro e w4 ⟨r, rfl, ho4, hb4⟩
  obtain ⟨Ar, cr, rfl, _, _, _⟩ := own_slice ho4
  have HO4 := Lib.hid ho4
  have HB4 := Lib.hid hb4
  have hc4 := HC3.out.on hb4
  have HC4 := Lib.hid hc4
  clear ho4 hb4
  go_wp2_with fail
  refine hK.out _ _ hc4 (fun hHeld => ?_)
  clear hK K
  try simp only [Act.put, List.setIfInBounds_toArray, List.set_cons_zero, List.set_cons_succ]
  refine wpAnyH_take (i := 23) (v := .agg #[.map (some b1), .map (some b2), .slice Ar nd cr, .int .u64 (s.last : Int), .int .u64 (s.settled : Int)]) opAt_23 (by kernel_rfl) (by kernel_rfl) (by kernel_rfl) (fun _ _ _ h => h) (Or.inl ⟨by rfl, ?_⟩) hHeld ?_
  · (intro w' hSw; obtain ⟨k0, k1, k2, k3, k4, _⟩ := hSw; go_simp; try with_reducible rfl)
  try simp only [Act.put, List.setIfInBounds_toArray, List.set_cons_zero, List.set_cons_succ]
  refine wpAnyH_ready (rs := [24]) (by kernel_rfl) (by simp) ?_
  refine AllReadyH.cons rfl (fun K hK => ?_) AllReadyH.nil
  go_simp
  refine hK.out _ _ (HC4.out.on ((Below.refl _ _).alloc (Nat.le_refl _) _)) (fun hHeld => ?_)
  clear hK K
  try simp only [Act.put, List.setIfInBounds_toArray, List.set_cons_zero, List.set_cons_succ]
  refine wpAnyH_take (i := 25) (v := ?_) opAt_25 (by kernel_rfl) (by kernel_rfl) (by kernel_rfl) (fun _ _ _ h => h) (Or.inl ⟨by rfl, ?_⟩) hHeld ?_
  rotate_left
  · (intro w' hSw; obtain ⟨k0, k1, k2, k3, k4, _⟩ := hSw; go_simp; try with_reducible rfl)
  try simp only [Act.put, List.setIfInBounds_toArray, List.set_cons_zero, List.set_cons_succ]
  refine wpAnyH_done (by kernel_rfl) ?_ _
  refine NoPanic.normal ?_
  go_wp2_with fail
  go_ret
  have hb5 : Below w4.heap.size w4 (w4.alloc (.cells #[.map (some b1), .map (some b2), .slice Ar nd cr, .int .u64 (s.last : Int), .int .u64 (s.settled : Int)] 65)) := (Below.refl _ _).alloc (Nat.le_refl _) _
  have hc5 := HCells.new w4 b1 b2 (.slice Ar nd cr) s.last s.settled 65
  have hsz5 : (w4.alloc (.cells #[.map (some b1), .map (some b2), .slice Ar nd cr, .int .u64 (s.last : Int), .int .u64 (s.settled : Int)] 65)).heap.size = w4.heap.size + 1 := by simp
  generalize w4.alloc _ = w5 at *
  have hW := HBW.out.size
  have s2 := HB2.out.size
  have s3 := HB3.out.size
  have s4 := HB4.out.size
  have g2 := Hge2.out
  have g3 := Hge3.out
  have hbw : Below w.heap.size w w5 := (((HBW.out.trans (HB2.out.mono hW)).trans (HB3.out.mono (by omega))).trans (HB4.out.mono (by omega))).trans (hb5.mono (by omega))
  have l2 := HM2.out.lt
  have l3 := HM3.out.lt
  have hrg : ∀ g, (Value.slice Ar nd cr).ownBlock = some g → w3.heap.size ≤ g ∧ g < w4.heap.size := fun g hg => HO4.out.lt g hg
  have hrows : ∀ i, HOwn w4.heap.size b1 b2 (.slice Ar nd cr) i → w.heap.size ≤ i := by
    rintro i (rfl | rfl | rfl | hi)
    · omega
    · omega
    · omega
    · have := (hrg i hi).1; omega
  have hFin : HFol w5 w4.heap.size b1 b2 R (.slice Ar nd cr) dvs s := ⟨hc5, ((HM2.out.on HB3.out).on HB4.out).on hb5, (HM3.out.on HB4.out).on hb5,
    by have := own_base (own_below HO4.out hb5 (by omega)) (Nat.zero_le _); rw [Hnd.out] at this ⊢; exact this, H.out.each.chg (Chg.of_below (M := fun _ => False) hbw) (fun i e => e.elim), by omega, fun i hi e => by have := hrows i hi; have := HR.out i e; omega⟩
  exact ⟨w4.heap.size, fun i => HOwn w4.heap.size b1 b2 (.slice Ar nd cr) i, rfl, ⟨Hho.out, hFin.rows, hFin.lt, fun i hi => Nat.lt_of_lt_of_le (HR.out i hi) hbw.size, b1, b2, _, _, hFin, fun e => by have := (hrg _ e).2; omega, fun i h => h⟩, hbw, hrows⟩
end Go.Proofs.Ytpjmjcjikaekiaa
