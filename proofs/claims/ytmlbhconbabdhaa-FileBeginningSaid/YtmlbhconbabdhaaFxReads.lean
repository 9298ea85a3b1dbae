
/-
  Layer 5: Read; what the laws call 'all'.
-/
import Derived.Test.YtmlbhconbabdhaaFxConcat
set_option linter.unusedVariables false
set_option linter.unusedSimpArgs false
namespace Go.Proofs.Ytmlbhconbabdhaa
open Go.RowKit

theorem fread_nil (a n : Int) (w : World) : Calls Try.prog 21 #[.pointer none, .int .i64 a, .int .i64 n] w fun e w' => e = .returned (.tuple #[.slice none 0 0, .int .i64 2]) ∧ Below w.heap.size w w' := by
  go_enter Try.func21, Try.ntmps21
  go_wp2
  go_ret2
  exact ⟨rfl, Below.refl _ _⟩
theorem fread_neg (F : Nat) (a n : Int) (hn : a < 0 ∨ n < 0) (w : World) : Calls Try.prog 21 #[.pointer (some ⟨F, 0, none⟩), .int .i64 a, .int .i64 n] w fun e w' => e = .returned (.tuple #[.slice none 0 0, .int .i64 1]) ∧ Below w.heap.size w w' := by
  by_cases ha : a < 0
  · have h0 : decide (a < 0) = true := by simpa using ha
    clear hn ha
    go_enter Try.func21, Try.ntmps21
    go_wp2
    go_ret2
    exact ⟨rfl, Below.refl _ _⟩
  · have h0 : decide (a < 0) = false := by simpa using ha
    have h1 : decide (n < 0) = true := by simp; omega
    clear hn ha
    go_enter Try.func21, Try.ntmps21
    go_wp2
    go_ret2
    exact ⟨rfl, Below.refl _ _⟩
section
variable {w : World} {F : Nat} {M R : Nat → Prop} {s : FSt}
set_option maxRecDepth 100000 in
theorem fread_short (h : FileM w F M R s) (hb : s.big ≤ 1000000) (a n : Int) (ha : 0 ≤ a) (hn : 0 ≤ n) (hs : (s.bytes.length : Int) < a ∨ (s.bytes.length : Int) - a < n) :
    Calls Try.prog 21 #[.pointer (some ⟨F, 0, none⟩), .int .i64 a, .int .i64 n] w fun e w' => e = .returned (.tuple #[.slice none 0 0, .int .i64 4]) ∧ Below w.heap.size w w' := by
  have hb2 : s.big ≤ 10000000 := by omega
  have hbl := FSt.bytes_length h.ok
  obtain ⟨l, hl⟩ : ∃ l, s.bytes.length = l := ⟨_, rfl⟩
  rw [hl] at hs hbl
  have Hl := Lib.hid hl
  have HM := Lib.hid h
  clear hl h
  have h0 : decide (a < 0) = false := by simp; omega
  have h1 : decide (n < 0) = false := by simp; omega
  by_cases h2 : (l : Int) < a
  · have h3 : decide (a > (l : Int)) = true := by simp; omega
    clear hs h2 ha hn
    go_enter Try.func21, Try.ntmps21
    go_wp2_with fail
    refine (fsize_m HM.out hb2 l Hl.out).mono ?_
    rintro e w1 ⟨rfl, hb1⟩
    go_wp2_with fail
    go_ret2
    exact ⟨rfl, hb1⟩
  · have h3 : decide (a > (l : Int)) = false := by simp; omega
    have h4 : decide (n > (l : Int) - a) = true := by simp; omega
    have hr : (l : Int) - a ≤ 10000000 ∧ 0 ≤ (l : Int) - a := by omega
    clear hs h2
    go_enter Try.func21, Try.ntmps21
    go_wp2_with fail
    refine (fsize_m HM.out hb2 l Hl.out).mono ?_
    rintro e w1 ⟨rfl, hb1⟩
    have HB1 := Lib.hid hb1
    clear hb1
    go_wp2_with fail
    refine (fsize_m (HM.out.on HB1.out) hb2 l Hl.out).mono ?_
    rintro e w2 ⟨rfl, hb3⟩
    have HB2 := Lib.hid (HB1.out.trans (hb3.mono HB1.out.size))
    clear hb3
    go_wp2_with fail
    go_ret2
    exact ⟨rfl, HB2.out⟩
set_option maxRecDepth 100000 in
set_option maxHeartbeats 8000000 in
theorem fread_m (h : FileM w F M R s) (hb : s.big ≤ 1000000) (a n : Nat) (han : a + n ≤ s.bytes.length) :
    Calls Try.prog 21 #[.pointer (some ⟨F, 0, none⟩), .int .i64 (a : Int), .int .i64 (n : Int)] w fun e w' => ∃ r, e = .returned (.tuple #[r, .int .i64 0]) ∧ w'.ownsRow w.heap.size 5 1 r n (bvs ((s.bytes.drop a).take n)) ∧ Below w.heap.size w w' := by
  have hb2 : s.big ≤ 10000000 := by omega
  have hbl := FSt.bytes_length h.ok
  obtain ⟨l, hl⟩ : ∃ l, s.bytes.length = l := ⟨_, rfl⟩
  rw [hl] at han hbl
  have hlb : l ≤ 1000000 := by omega
  have Hl := Lib.hid hl
  have Hb := Lib.hid hb
  have HM := Lib.hid h
  clear hl h hb hbl
  have h3 : decide ((a : Int) > (l : Int)) = false := by simp; omega
  have h4 : decide ((n : Int) > (l : Int) - (a : Int)) = false := by simp; omega
  go_enter Try.func21, Try.ntmps21
  go_wp2_with fail
  refine (fsize_m HM.out hb2 l Hl.out).mono ?_
  rintro e w1 ⟨rfl, hb1⟩
  have HB1 := Lib.hid hb1
  clear hb1
  go_wp2_with fail
  refine (fsize_m (HM.out.on HB1.out) hb2 l Hl.out).mono ?_
  rintro e w2 ⟨rfl, hb3⟩
  have HB2 := Lib.hid (HB1.out.trans (hb3.mono HB1.out.size))
  clear hb3 HB1
  have HM2 := Lib.hid (HM.out.on HB2.out)
  clear h3 h4
  obtain ⟨en, hen⟩ : ∃ en, en = a + n := ⟨_, rfl⟩
  have hsum : (a : Int) + (n : Int) = (en : Int) := by omega
  obtain ⟨ho, hMR, hMl, hRl, vs, vt, vd, dvs, h, hOM⟩ := HM2.out
  have hbt := FSt.length_bytes ho
  have hbg : s.big = s.safe.length + s.loose := rfl
  have hkp := ho.kept
  have HBs := Lib.hid (Bs.of_own h.safe)
  have HBt := Lib.hid (Bs.of_own h.tail)
  obtain ⟨As, cs, hvs, hsc, hscm, _⟩ := own_slice h.safe
  obtain ⟨At, ct, hvt, htc, htcm, _⟩ := own_slice h.tail
  have HC := Lib.hid h.cells
  obtain ⟨ls, hls⟩ : ∃ ls, ls = s.safe.length := ⟨_, rfl⟩
  obtain ⟨lt, hlt⟩ : ∃ lt, lt = s.tail.length := ⟨_, rfl⟩
  obtain ⟨kp, hkpe⟩ : ∃ kp, kp = s.kept := ⟨_, rfl⟩
  obtain ⟨lo, hlo⟩ : ∃ lo, lo = s.loose := ⟨_, rfl⟩
  rw [← hls] at hvs hsc hkp hbg
  rw [← hlt] at hvt htc hbt
  rw [← hkpe] at hkp hbt
  rw [← hkpe, ← hlo] at HC
  rw [Hl.out] at hbt
  have HBs0 : Hid (Rd w2 w2.heap.size As (bvs s.safe)) := by
    obtain ⟨A, c, e, _, hr⟩ := HBs.out
    rw [hvs] at e
    injection e with e1 _ _
    subst e1
    exact hr
  subst hvs hvt
  have hkb : kp ≤ 1000000 := by have := Hb.out; omega
  have hcut := cut_h As ls cs kp (by omega)
  have HBk : Hid (Bs w2 w2.heap.size (.slice As kp cs) (s.safe.take kp)) := ⟨As, cs, by rw [List.length_take, ← hls, show min kp ls = kp by omega], by rw [List.length_take, ← hls]; omega, by rw [bvs_take]; exact HBs0.out.take kp⟩
  have Hls := Lib.hid hls
  have Hlt := Lib.hid hlt
  have Hkpe := Lib.hid hkpe
  have Hen := Lib.hid hen
  have Hbt := Lib.hid hbt
  have Hbg := Lib.hid hbg
  have hkl : (s.safe.take kp).length = kp := by rw [List.length_take, ← hls]; omega
  have Hkl := Lib.hid hkl
  have hr1 : (a : Int) - (kp : Int) ≤ 10000000 ∧ -10000000 ≤ (a : Int) - (kp : Int) := by omega
  have hr2 : (en : Int) - (kp : Int) ≤ 10000000 ∧ -10000000 ≤ (en : Int) - (kp : Int) := by omega
  have hw1 : IntKind.i64.wrap ((a : Int) - (kp : Int)) = (a : Int) - (kp : Int) := IntWalk.i64_in _ (by omega)
  have hw2 : IntKind.i64.wrap ((en : Int) - (kp : Int)) = (en : Int) - (kp : Int) := IntWalk.i64_in _ (by omega)
  have HL7 : Hid (s.safe.length ≤ 1000000 ∧ s.tail.length ≤ 1000000) := by have := Hb.out; exact ⟨by omega, by omega⟩
  clear ho hMR hMl hRl h hOM hls hlt hkpe hlo hbt hbg hkp hen hkl
  have h3 : decide ((a : Int) > (l : Int)) = false := by simp; omega
  have h4 : decide ((n : Int) > (l : Int) - (a : Int)) = false := by simp; omega
  go_wp2_with fail
  refine wp_region_noPanic ?_
  refine wp_region_held_drew (S := fun w' => FCells w' F (.slice As ls cs) (.slice At lt ct) vd kp lo) (by kernel_rfl) HC.out.drew (fun hHeld => ?_)
  have HW : Hid (Below w2.heap.size w2 w2.drew) := (Below.refl _ _).drew
  generalize World.drew _ = W at *
  refine wpAnyH_take (i := 0) (v := ?_) opAt_0 (by kernel_rfl) (by kernel_rfl) (by kernel_rfl) (fun _ _ _ h => h) (Or.inl ⟨by rfl, ?_⟩) hHeld ?_
  rotate_left
  · (intro w' hSw; obtain ⟨k0, k1, k2, k3, k4, _, _, _, _, _⟩ := hSw; go_simp; try with_reducible rfl)
  try simp only [Act.put, List.setIfInBounds_toArray, List.set_cons_zero, List.set_cons_succ]
  refine wpAnyH_take (i := 1) (v := ?_) opAt_1 (by kernel_rfl) (by kernel_rfl) (by kernel_rfl) (fun _ _ _ h => h) (Or.inl ⟨by rfl, ?_⟩) hHeld ?_
  rotate_left
  · (intro w' hSw; obtain ⟨k0, k1, k2, k3, k4, _, _, _, _, _⟩ := hSw; go_simp; try with_reducible rfl)
  try simp only [Act.put, List.setIfInBounds_toArray, List.set_cons_zero, List.set_cons_succ]
  refine wpAnyH_take (i := 2) (v := ?_) opAt_2 (by kernel_rfl) (by kernel_rfl) (by kernel_rfl) (fun _ _ _ h => h) (Or.inl ⟨by rfl, ?_⟩) hHeld ?_
  rotate_left
  · (intro w' hSw; obtain ⟨k0, k1, k2, k3, k4, _, _, _, _, _⟩ := hSw; go_simp; try with_reducible rfl)
  try simp only [Act.put, List.setIfInBounds_toArray, List.set_cons_zero, List.set_cons_succ]
  refine wpAnyH_take (i := 3) (v := ?_) opAt_3 (by kernel_rfl) (by kernel_rfl) (by kernel_rfl) (fun _ _ _ h => h) (Or.inl ⟨by rfl, ?_⟩) hHeld ?_
  rotate_left
  · (intro w' hSw; obtain ⟨k0, k1, k2, k3, k4, _, _, _, _, _⟩ := hSw; go_simp; try with_reducible rfl)
  try simp only [Act.put, List.setIfInBounds_toArray, List.set_cons_zero, List.set_cons_succ]
  refine wpAnyH_take (i := 4) (v := ?_) opAt_4 (by kernel_rfl) (by kernel_rfl) (by kernel_rfl) (fun _ _ _ h => h) (Or.inl ⟨by rfl, ?_⟩) hHeld ?_
  rotate_left
  · (intro w' hSw; obtain ⟨k0, k1, k2, k3, k4, _, _, _, _, _⟩ := hSw; go_simp; try with_reducible rfl)
  try simp only [Act.put, List.setIfInBounds_toArray, List.set_cons_zero, List.set_cons_succ]
  refine wpAnyH_take (i := 5) (v := ?_) opAt_5 (by kernel_rfl) (by kernel_rfl) (by kernel_rfl) (fun _ _ _ h => h) (Or.inl ⟨by rfl, ?_⟩) hHeld ?_
  rotate_left
  · (intro w' hSw; obtain ⟨k0, k1, k2, k3, k4, _, _, _, _, _⟩ := hSw; go_simp; try with_reducible rfl)
  try simp only [Act.put, List.setIfInBounds_toArray, List.set_cons_zero, List.set_cons_succ]
  refine wpAnyH_take (i := 6) (v := ?_) opAt_6 (by kernel_rfl) (by kernel_rfl) (by kernel_rfl) (fun _ _ _ h => h) (Or.inl ⟨by rfl, ?_⟩) hHeld ?_
  rotate_left
  · (intro w' hSw; obtain ⟨k0, k1, k2, k3, k4, _, _, _, _, _⟩ := hSw; go_simp; try with_reducible rfl)
  try simp only [Act.put, List.setIfInBounds_toArray, List.set_cons_zero, List.set_cons_succ]
  refine wpAnyH_take (i := 7) (v := ?_) opAt_7 (by kernel_rfl) (by kernel_rfl) (by kernel_rfl) (fun _ _ _ h => h) (Or.inl ⟨by rfl, ?_⟩) hHeld ?_
  rotate_left
  · (intro w' hSw; obtain ⟨k0, k1, k2, k3, k4, _, _, _, _, _⟩ := hSw; go_simp; try with_reducible rfl)
  try simp only [Act.put, List.setIfInBounds_toArray, List.set_cons_zero, List.set_cons_succ]
  refine wpAnyH_take (i := 8) (v := ?_) opAt_8 (by kernel_rfl) (by kernel_rfl) (by kernel_rfl) (fun _ _ _ h => h) (Or.inl ⟨by rfl, ?_⟩) hHeld ?_
  rotate_left
  · (intro w' hSw; obtain ⟨k0, k1, k2, k3, k4, _, _, _, _, _⟩ := hSw; go_simp; try with_reducible rfl)
  try simp only [Act.put, List.setIfInBounds_toArray, List.set_cons_zero, List.set_cons_succ]
  refine wpAnyH_take (i := 9) (v := ?_) opAt_9 (by kernel_rfl) (by kernel_rfl) (by kernel_rfl) (fun _ _ _ h => h) (Or.inl ⟨by rfl, ?_⟩) hHeld ?_
  rotate_left
  · (intro w' hSw; obtain ⟨k0, k1, k2, k3, k4, _, _, _, _, _⟩ := hSw; go_simp; try with_reducible rfl)
  try simp only [Act.put, List.setIfInBounds_toArray, List.set_cons_zero, List.set_cons_succ]
  refine wpAnyH_take (i := 10) (v := ?_) opAt_10 (by kernel_rfl) (by kernel_rfl) (by kernel_rfl) (fun _ _ _ h => h) (Or.inl ⟨by rfl, ?_⟩) hHeld ?_
  rotate_left
  · (intro w' hSw; obtain ⟨k0, k1, k2, k3, k4, _, _, _, _, _⟩ := hSw; go_simp; try with_reducible rfl)
  try simp only [Act.put, List.setIfInBounds_toArray, List.set_cons_zero, List.set_cons_succ]
  refine wpAnyH_ready (rs := [11]) (by kernel_rfl) (by simp) ?_
  refine AllReadyH.cons rfl (fun K hK => ?_) AllReadyH.nil
  go_simp
  refine (fwithin (HBk.out.on HW.out) (Nat.le_refl _) (a : Int) (en : Int) (by omega) (by rw [Hkl.out]; omega)).mono ?_
  rintro e w3 ⟨r1, rfl, ho1, hb1⟩
  go_wp2_with fail
  have HO1 := Lib.hid ho1
  have HW1 := Lib.hid (HW.out.trans (hb1.mono HW.out.size))
  have hHeld1 := hHeld.on hb1
  clear hHeld
  have hHeld := hHeld1
  refine hK.out _ _ hHeld1 (fun hHeld => ?_)
  clear hK K hHeld1 hb1 ho1
  try simp only [Act.put, List.setIfInBounds_toArray, List.set_cons_zero, List.set_cons_succ]
  obtain ⟨A1, d1, e1, _, _⟩ := HO1.out
  obtain ⟨x1, hx1⟩ : ∃ x, x = (((s.safe.take kp).drop (clampN (a : Int) (s.safe.take kp).length)).take (clampN (en : Int) (s.safe.take kp).length - clampN (a : Int) (s.safe.take kp).length)).length := ⟨_, rfl⟩
  rw [← hx1] at e1
  clear hx1
  subst e1
  refine wpAnyH_ready (rs := [12]) (by kernel_rfl) (by simp) ?_
  refine AllReadyH.cons rfl (fun K hK => ?_) AllReadyH.nil
  go_simp
  refine hK.out _ _ hHeld (fun hHeld => ?_)
  refine wpAnyH_done (by kernel_rfl) ?_ _
  refine NoPanic.normal ?_
  clear hK K
  go_wp2_with fail
  refine wp_region_noPanic ?_
  refine wp_region_held_drew (S := fun w' => FCells w' F (.slice As ls cs) (.slice At lt ct) vd kp lo) (by kernel_rfl) hHeld.drew (fun hHeld => ?_)
  have HW2 : Hid (Below w2.heap.size w2 w3.drew) := HW1.out.drew
  have HO2 := Lib.hid (HO1.out.drewN 1)
  have HO2' : Hid (Bs w3.drew w3.drew.heap.size (.slice A1 x1 d1) _) := HO2.out
  clear HO1 HW1 HO2
  generalize World.drew _ = W2 at *
  refine wpAnyH_take (i := 0) (v := ?_) opAt_0 (by kernel_rfl) (by kernel_rfl) (by kernel_rfl) (fun _ _ _ h => h) (Or.inl ⟨by rfl, ?_⟩) hHeld ?_
  rotate_left
  · (intro w' hSw; obtain ⟨k0, k1, k2, k3, k4, _, _, _, _, _⟩ := hSw; go_simp; try with_reducible rfl)
  try simp only [Act.put, List.setIfInBounds_toArray, List.set_cons_zero, List.set_cons_succ]
  refine wpAnyH_take (i := 1) (v := ?_) opAt_1 (by kernel_rfl) (by kernel_rfl) (by kernel_rfl) (fun _ _ _ h => h) (Or.inl ⟨by rfl, ?_⟩) hHeld ?_
  rotate_left
  · (intro w' hSw; obtain ⟨k0, k1, k2, k3, k4, _, _, _, _, _⟩ := hSw; go_simp; try with_reducible rfl)
  try simp only [Act.put, List.setIfInBounds_toArray, List.set_cons_zero, List.set_cons_succ]
  refine wpAnyH_take (i := 2) (v := ?_) opAt_2 (by kernel_rfl) (by kernel_rfl) (by kernel_rfl) (fun _ _ _ h => h) (Or.inl ⟨by rfl, ?_⟩) hHeld ?_
  rotate_left
  · (intro w' hSw; obtain ⟨k0, k1, k2, k3, k4, _, _, _, _, _⟩ := hSw; go_simp; try with_reducible rfl)
  try simp only [Act.put, List.setIfInBounds_toArray, List.set_cons_zero, List.set_cons_succ]
  refine wpAnyH_take (i := 3) (v := ?_) opAt_3 (by kernel_rfl) (by kernel_rfl) (by kernel_rfl) (fun _ _ _ h => h) (Or.inl ⟨by rfl, ?_⟩) hHeld ?_
  rotate_left
  · (intro w' hSw; obtain ⟨k0, k1, k2, k3, k4, _, _, _, _, _⟩ := hSw; go_simp; try with_reducible rfl)
  try simp only [Act.put, List.setIfInBounds_toArray, List.set_cons_zero, List.set_cons_succ]
  refine wpAnyH_take (i := 4) (v := ?_) opAt_4 (by kernel_rfl) (by kernel_rfl) (by kernel_rfl) (fun _ _ _ h => h) (Or.inl ⟨by rfl, ?_⟩) hHeld ?_
  rotate_left
  · (intro w' hSw; obtain ⟨k0, k1, k2, k3, k4, _, _, _, _, _⟩ := hSw; go_simp; try with_reducible rfl)
  try simp only [Act.put, List.setIfInBounds_toArray, List.set_cons_zero, List.set_cons_succ]
  refine wpAnyH_take (i := 5) (v := ?_) opAt_5 (by kernel_rfl) (by kernel_rfl) (by kernel_rfl) (fun _ _ _ h => h) (Or.inl ⟨by rfl, ?_⟩) hHeld ?_
  rotate_left
  · (intro w' hSw; obtain ⟨k0, k1, k2, k3, k4, _, _, _, _, _⟩ := hSw; go_simp; try with_reducible rfl)
  try simp only [Act.put, List.setIfInBounds_toArray, List.set_cons_zero, List.set_cons_succ]
  refine wpAnyH_take (i := 6) (v := ?_) opAt_6 (by kernel_rfl) (by kernel_rfl) (by kernel_rfl) (fun _ _ _ h => h) (Or.inl ⟨by rfl, ?_⟩) hHeld ?_
  rotate_left
  · (intro w' hSw; obtain ⟨k0, k1, k2, k3, k4, _, _, _, _, _⟩ := hSw; go_simp; try with_reducible rfl)
  try simp only [Act.put, List.setIfInBounds_toArray, List.set_cons_zero, List.set_cons_succ]
  refine wpAnyH_take (i := 7) (v := ?_) opAt_7 (by kernel_rfl) (by kernel_rfl) (by kernel_rfl) (fun _ _ _ h => h) (Or.inl ⟨by rfl, ?_⟩) hHeld ?_
  rotate_left
  · (intro w' hSw; obtain ⟨k0, k1, k2, k3, k4, _, _, _, _, _⟩ := hSw; go_simp; try with_reducible rfl)
  try simp only [Act.put, List.setIfInBounds_toArray, List.set_cons_zero, List.set_cons_succ]
  refine wpAnyH_take (i := 8) (v := ?_) opAt_8 (by kernel_rfl) (by kernel_rfl) (by kernel_rfl) (fun _ _ _ h => h) (Or.inl ⟨by rfl, ?_⟩) hHeld ?_
  rotate_left
  · (intro w' hSw; obtain ⟨k0, k1, k2, k3, k4, _, _, _, _, _⟩ := hSw; go_simp; try with_reducible rfl)
  try simp only [Act.put, List.setIfInBounds_toArray, List.set_cons_zero, List.set_cons_succ]
  refine wpAnyH_take (i := 9) (v := ?_) opAt_9 (by kernel_rfl) (by kernel_rfl) (by kernel_rfl) (fun _ _ _ h => h) (Or.inl ⟨by rfl, ?_⟩) hHeld ?_
  rotate_left
  · (intro w' hSw; obtain ⟨k0, k1, k2, k3, k4, _, _, _, _, _⟩ := hSw; go_simp; try with_reducible rfl)
  try simp only [Act.put, List.setIfInBounds_toArray, List.set_cons_zero, List.set_cons_succ]
  refine wpAnyH_take (i := 10) (v := ?_) opAt_10 (by kernel_rfl) (by kernel_rfl) (by kernel_rfl) (fun _ _ _ h => h) (Or.inl ⟨by rfl, ?_⟩) hHeld ?_
  rotate_left
  · (intro w' hSw; obtain ⟨k0, k1, k2, k3, k4, _, _, _, _, _⟩ := hSw; go_simp; try with_reducible rfl)
  try simp only [Act.put, List.setIfInBounds_toArray, List.set_cons_zero, List.set_cons_succ]
  refine wpAnyH_take (i := 11) (v := ?_) opAt_11 (by kernel_rfl) (by kernel_rfl) (by kernel_rfl) (fun _ _ _ h => h) (Or.inl ⟨by rfl, ?_⟩) hHeld ?_
  rotate_left
  · (intro w' hSw; obtain ⟨k0, k1, k2, k3, k4, _, _, _, _, _⟩ := hSw; go_simp; try with_reducible rfl)
  try simp only [Act.put, List.setIfInBounds_toArray, List.set_cons_zero, List.set_cons_succ]
  refine wpAnyH_take (i := 12) (v := ?_) opAt_12 (by kernel_rfl) (by kernel_rfl) (by kernel_rfl) (fun _ _ _ h => h) (Or.inl ⟨by rfl, ?_⟩) hHeld ?_
  rotate_left
  · (intro w' hSw; obtain ⟨k0, k1, k2, k3, k4, _, _, _, _, _⟩ := hSw; go_simp; try with_reducible rfl)
  try simp only [Act.put, List.setIfInBounds_toArray, List.set_cons_zero, List.set_cons_succ]
  refine wpAnyH_take (i := 13) (v := ?_) opAt_13 (by kernel_rfl) (by kernel_rfl) (by kernel_rfl) (fun _ _ _ h => h) (Or.inl ⟨by rfl, ?_⟩) hHeld ?_
  rotate_left
  · (intro w' hSw; obtain ⟨k0, k1, k2, k3, k4, _, _, _, _, _⟩ := hSw; go_simp; try with_reducible rfl)
  try simp only [Act.put, List.setIfInBounds_toArray, List.set_cons_zero, List.set_cons_succ]
  refine wpAnyH_take (i := 14) (v := ?_) opAt_14 (by kernel_rfl) (by kernel_rfl) (by kernel_rfl) (fun _ _ _ h => h) (Or.inl ⟨by rfl, ?_⟩) hHeld ?_
  rotate_left
  · (intro w' hSw; obtain ⟨k0, k1, k2, k3, k4, _, _, _, _, _⟩ := hSw; go_simp; try with_reducible rfl)
  try simp only [Act.put, List.setIfInBounds_toArray, List.set_cons_zero, List.set_cons_succ]
  refine wpAnyH_take (i := 15) (v := ?_) opAt_15 (by kernel_rfl) (by kernel_rfl) (by kernel_rfl) (fun _ _ _ h => h) (Or.inl ⟨by rfl, ?_⟩) hHeld ?_
  rotate_left
  · (intro w' hSw; obtain ⟨k0, k1, k2, k3, k4, _, _, _, _, _⟩ := hSw; go_simp; try with_reducible rfl)
  try simp only [Act.put, List.setIfInBounds_toArray, List.set_cons_zero, List.set_cons_succ]
  refine wpAnyH_ready (rs := [16]) (by kernel_rfl) (by simp) ?_
  refine AllReadyH.cons rfl (fun K hK => ?_) AllReadyH.nil
  go_simp
  refine (fwithin (HBt.out.on HW2.out) (Nat.le_refl _) ((a : Int) - (kp : Int)) ((en : Int) - (kp : Int)) (by omega) (by have := HL7.out; omega)).mono ?_
  rintro e w4 ⟨r2, rfl, ho2, hb2⟩
  go_wp2_with fail
  have HO3 := Lib.hid ho2
  have HO4 := Lib.hid (HO2'.out.on hb2)
  have HW3 := Lib.hid (HW2.out.trans (hb2.mono HW2.out.size))
  have hHeld1 := hHeld.on hb2
  clear hHeld
  have hHeld := hHeld1
  refine hK.out _ _ hHeld1 (fun hHeld => ?_)
  clear hK K hHeld1 hb2 ho2
  try simp only [Act.put, List.setIfInBounds_toArray, List.set_cons_zero, List.set_cons_succ]
  obtain ⟨A2, d2, e2, _, _⟩ := HO3.out
  obtain ⟨x2, hx2⟩ : ∃ x, x = ((s.tail.drop (clampN ((a : Int) - (kp : Int)) s.tail.length)).take (clampN ((en : Int) - (kp : Int)) s.tail.length - clampN ((a : Int) - (kp : Int)) s.tail.length)).length := ⟨_, rfl⟩
  rw [← hx2] at e2
  clear hx2
  subst e2
  refine wpAnyH_ready (rs := [17]) (by kernel_rfl) (by simp) ?_
  refine AllReadyH.cons rfl (fun K hK => ?_) AllReadyH.nil
  go_simp
  refine hK.out _ _ hHeld (fun hHeld => ?_)
  refine wpAnyH_done (by kernel_rfl) ?_ _
  refine NoPanic.normal ?_
  clear hK K hHeld
  have Hw4 : Hid (Below w4.heap.size w4 (w4.alloc (.cells #[.slice A1 x1 d1, .slice A2 x2 d2] 22))) := (Below.refl _ _).alloc (Nat.le_refl _) _
  go_wp2_with fail
  have hlen : ∀ (q : List UInt8) (i j : Nat), q.length ≤ 1000000 → ((q.drop i).take j).length ≤ 1000000 := fun q i j h => by rw [List.length_take, List.length_drop]; omega
  refine (fconcat (X := w4.heap.size) (by simp) (by simp) (HO4.out.on Hw4.out) (HO3.out.on Hw4.out) (hlen _ _ _ (by rw [Hkl.out]; exact hkb)) (hlen _ _ _ HL7.out.2)).mono ?_
  rintro e w5 ⟨r, rfl, ho5, hb5⟩
  have HO5 := Lib.hid ho5
  have HB5 := Lib.hid hb5
  clear ho5 hb5
  go_wp2_with fail
  go_ret2
  have hp := read_parts (s.safe.take kp) s.tail a n (by rw [Hkl.out, ← Hlt.out]; have := Hbt.out; omega)
  rw [← Hen.out, Hkl.out, Hkpe.out] at hp
  have h5 := HO5.out
  rw [Hkl.out, Hkpe.out, hp] at h5
  have hlr : (((List.take s.kept s.safe ++ s.tail).drop a).take n).length = n := by
    rw [List.length_take, List.length_drop, show (List.take s.kept s.safe ++ s.tail).length = l from Hl.out]
    omega
  rw [hlr] at h5
  have hs1 := HB2.out.size
  have hs2 := HW3.out.size
  have hs3 := Hw4.out.size
  refine ⟨r, rfl, own_base h5 (by omega), HB2.out.trans ((HW3.out.mono hs1).trans ((Hw4.out.mono (by omega)).trans (HB5.out.mono (by omega))))⟩
set_option maxRecDepth 100000 in
theorem fall_m (h : FileM w F M R s) (hb : s.big ≤ 1000000) :
    Calls Try.prog 8 #[.pointer (some ⟨F, 0, none⟩)] w fun e w' => ∃ r, e = .returned r ∧ w'.ownsRow w.heap.size 5 1 r s.bytes.length (bvs s.bytes) ∧ Below w.heap.size w w' := by
  have hb2 : s.big ≤ 10000000 := by omega
  have HM := Lib.hid h
  have Hb := Lib.hid hb
  obtain ⟨l, hl⟩ : ∃ l, s.bytes.length = l := ⟨_, rfl⟩
  have Hl := Lib.hid hl
  rw [hl]
  clear h hb hl
  go_enter Try.func8, Try.ntmps8
  go_wp2_with fail
  refine (fsize_m HM.out hb2 l Hl.out).mono ?_
  rintro e w1 ⟨rfl, hb1⟩
  have HB1 := Lib.hid hb1
  clear hb1
  go_wp2_with fail
  refine (fread_m (HM.out.on HB1.out) Hb.out 0 l (by rw [Hl.out]; omega)).mono ?_
  rintro e w2 ⟨r, rfl, ho, hb3⟩
  have HO := Lib.hid ho
  have HB2 := Lib.hid hb3
  clear ho hb3
  go_wp2_with fail
  go_ret
  have h5 := HO.out
  rw [List.drop_zero, List.take_of_length_le (by rw [Hl.out]; exact Nat.le_refl _)] at h5
  exact ⟨r, rfl, own_base h5 HB1.out.size, HB1.out.trans (HB2.out.mono HB1.out.size)⟩
end
end Go.Proofs.Ytmlbhconbabdhaa
