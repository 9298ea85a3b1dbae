
/-
  Layer 5: Cut.
-/
import Derived.Test.YtmlbhconbabdhaaFxApp
set_option linter.unusedVariables false
set_option linter.unusedSimpArgs false
namespace Go.Proofs.Ytmlbhconbabdhaa
open Go.RowKit

theorem fcut_nil (n : Int) (w : World) : Calls Try.prog 23 #[.pointer none, .int .i64 n] w fun e w' => e = .returned (.int .i64 2) ∧ Below w.heap.size w w' := by
  go_enter Try.func23, Try.ntmps23
  go_wp2
  go_ret
  exact ⟨rfl, Below.refl _ _⟩
section
variable {w : World} {F : Nat} {M R : Nat → Prop} {s : FSt}
theorem fcut_neg (h : FileM w F M R s) (n : Int) (hn : n < 0) :
    Calls Try.prog 23 #[.pointer (some ⟨F, 0, none⟩), .int .i64 n] w fun e w' => e = .returned (.int .i64 1) ∧ Below w.heap.size w w' := by
  go_enter Try.func23, Try.ntmps23
  go_wp2
  go_ret
  exact ⟨rfl, Below.refl _ _⟩
theorem fcut_long (h : FileM w F M R s) (hb : s.big ≤ 10000000) (n : Int) (hn : (s.bytes.length : Int) < n) :
    Calls Try.prog 23 #[.pointer (some ⟨F, 0, none⟩), .int .i64 n] w fun e w' => e = .returned (.int .i64 1) ∧ Below w.heap.size w w' := by
  obtain ⟨l, hl⟩ : ∃ l, s.bytes.length = l := ⟨_, rfl⟩
  have Hl := Lib.hid hl
  rw [hl] at hn
  clear hl
  have hn0 : decide (n < 0) = false := by simp; omega
  go_enter Try.func23, Try.ntmps23
  go_wp2_with fail
  refine (fsize_m h hb l Hl.out).mono ?_
  rintro e w1 ⟨rfl, hb1⟩
  go_wp2_with fail
  go_ret
  exact ⟨rfl, hb1⟩
theorem fcut_same (h : FileM w F M R s) (hb : s.big ≤ 10000000) (n : Nat) (hn : s.bytes.length = n) :
    Calls Try.prog 23 #[.pointer (some ⟨F, 0, none⟩), .int .i64 (n : Int)] w fun e w' => e = .returned (.int .i64 0) ∧ Below w.heap.size w w' := by
  have Hl := Lib.hid hn
  have HM := Lib.hid h
  clear hn h
  go_enter Try.func23, Try.ntmps23
  go_wp2_with fail
  refine (fsize_m HM.out hb n Hl.out).mono ?_
  rintro e w1 ⟨rfl, hb1⟩
  have HB1 := Lib.hid hb1
  clear hb1
  go_wp2_with fail
  refine (fsize_m (HM.out.on HB1.out) hb n Hl.out).mono ?_
  rintro e w2 ⟨rfl, hb2⟩
  go_wp2_with fail
  go_ret
  exact ⟨rfl, HB1.out.trans (hb2.mono HB1.out.size)⟩

set_option maxRecDepth 100000 in
set_option maxHeartbeats 4000000 in
theorem fcut_m (h : FileM w F M R s) (n : Nat) (hn : n < s.bytes.length) (hb : s.big + 1 ≤ 10000000) :
    Calls Try.prog 23 #[.pointer (some ⟨F, 0, none⟩), .int .i64 (n : Int)] w fun e w' => e = .returned (.int .i64 0) ∧ Mut w w' F M R (s.cutd n) := by
  obtain ⟨l, hl⟩ : ∃ l, s.bytes.length = l := ⟨_, rfl⟩
  have hl7 : l ≤ 10000000 := by have := FSt.bytes_length h.ok; omega
  have Hl := Lib.hid hl
  have Hnl : Hid (n < s.bytes.length) := hn
  have HM := Lib.hid h
  have Hb := Lib.hid hb
  rw [hl] at hn
  clear hl h hb
  have hne : ((n : Int) == (l : Int)) = false := by simp; omega
  go_enter Try.func23, Try.ntmps23
  go_wp2_with fail
  refine (fsize_m HM.out (by have := Hb.out; omega) l Hl.out).mono ?_
  rintro e w1 ⟨rfl, hb1⟩
  have HB1 := Lib.hid hb1
  clear hb1
  go_wp2_with fail
  refine (fsize_m (HM.out.on HB1.out) (by have := Hb.out; omega) l Hl.out).mono ?_
  rintro e w2 ⟨rfl, hb2⟩
  have HB2 := Lib.hid (HB1.out.trans (hb2.mono HB1.out.size))
  clear hb2 HB1
  obtain ⟨ho, hMR, hM, hR, vs, vt, vd, dvs, h0, hOM⟩ := HM.out
  have hbl := FSt.bytes_length ho
  have hbt := FSt.length_bytes ho
  have hdl : s.deeds.length ≤ s.loose := length_le_units _ _ ho.valid
  have hbig : s.big = s.safe.length + s.loose := rfl
  have h2 := h0.chg (Chg.of_below (M := fun _ => False) HB2.out) (fun i e => e.elim)
  have HOk := Lib.hid ho
  have HMR := Lib.hid hMR
  have HR := Lib.hid hR
  have HOM := Lib.hid hOM
  have HR2 : Hid (∀ i, R i → i < w2.heap.size) := fun i hi => Nat.lt_of_lt_of_le (hR i hi) HB2.out.size
  have H2 := Lib.hid h2
  have HA : Hid (s.loose + 1 ≤ 10000000 ∧ s.deeds.length ≤ 10000000 ∧ s.kept + s.tail.length ≤ 10000000) := by have := Hb.out; exact ⟨by omega, by omega, by omega⟩
  have HB' := Lib.hid hbt
  clear ho hMR hM hR hOM h0 h2 hbl hbt hdl hbig
  go_wp2_with fail
  refine (fadd_cut (n := n) H2.out HR2.out (d := .cut n) ⟨rfl, by omega⟩ rfl HA.out.1 HA.out.2.1).mono ?_
  rintro e w3 ⟨rfl, vd2, h3, hc3, hd3⟩
  have H3 := Lib.hid h3
  have HC3 := Lib.hid hc3
  have HD3 := Lib.hid hd3
  obtain ⟨At, ct, hvt, hlt, hct, _⟩ := own_slice h3.tail
  obtain ⟨nt, hnt⟩ : ∃ nt, nt = s.tail.length := ⟨_, rfl⟩
  obtain ⟨kp, hkp⟩ : ∃ kp, kp = s.kept := ⟨_, rfl⟩
  obtain ⟨k', hk'⟩ : ∃ k', k' = min kp n := ⟨_, rfl⟩
  obtain ⟨q, hq⟩ : ∃ q, n = k' + q := ⟨n - k', by omega⟩
  have hvt' : vt = .slice At nt ct := by rw [hnt]; exact hvt
  have hOt : w3.ownsRow 0 5 1 (.slice At nt ct) nt (bvs s.tail) := by have := h3.tail; rw [hvt'] at this; rw [hnt]; rw [hnt] at this; exact this
  have hlt' : nt ≤ ct := by rw [hnt]; exact hlt
  have hHA := HA.out.2.2
  rw [← hnt, ← hkp] at hHA
  have hqt : q ≤ nt := by have h1 := HB'.out; rw [Hl.out, ← hkp, ← hnt] at h1; omega
  have hmin : min (kp : Int) (n : Int) = (k' : Int) := by omega
  have hcut := cut_h At nt ct q (by omega)
  have hsub : (n : Int) - (k' : Int) = (q : Int) := by omega
  have hwr : IntKind.i64.wrap (q : Int) = (q : Int) := IntWalk.i64_in _ (by omega)
  have hcl := h3.cells
  rw [hvt'] at hcl
  have hcl' : FCells w3 F vs (.slice At nt ct) vd2 kp (s.loose + 1) := by rw [hkp]; have := hcl; simpa [FSt.loose, unitsL_append, unitsL, Deed.units] using this
  have HCl := Lib.hid hcl'
  obtain ⟨c0, c1, c2, c3, c4, f0, f1, f2, f3, f4⟩ := hcl'
  have Hvt := Lib.hid hvt'
  have Hnt := Lib.hid hnt
  have Hkp := Lib.hid hkp
  have Hk' := Lib.hid hk'
  have Hq := Lib.hid hq
  have HOt := Lib.hid hOt
  have hTF : vt.ownBlock ≠ some F := h3.apart.t
  clear h3 hc3 hd3 hvt hlt hct hvt' hnt hkp hk' hq hOt hcl
  go_wp2_with fail
  have HC4 := Lib.hid (HCl.out.set1 k').drew
  clear c0 c1 c2 c3 c4 f0 f1 f2 f3 f4
  have HG4 : Hid (Chg (fun i => i = F ∨ vt.ownBlock = some i) w3 (w3.setCell ⟨F, 1, none⟩ (.int .i64 (k' : Int))).drew) := (Chg.refl.setCell (.inl rfl) _).drew
  have HGF : Hid (Chg (fun i => i = F) w3 (w3.setCell ⟨F, 1, none⟩ (.int .i64 (k' : Int))).drew) := ((Chg.refl (M := fun i => i = F) (w := w3)).setCell (p := ⟨F, 1, none⟩) rfl _).drew
  refine wp_region_noPanic ?_
  refine OrdL.wpL_region (fun w' => w'.cell? ⟨F, 1, none⟩ = some (.int .i64 (k' : Int)) ∧ w'.cell? ⟨F, 2, none⟩ = some (.slice At nt ct)) 14 (by kernel_rfl) ?_
  generalize World.drew _ = W at *
  have hHeld : W.cell? ⟨F, 1, none⟩ = some (.int .i64 (k' : Int)) ∧ W.cell? ⟨F, 2, none⟩ = some (.slice At nt ct) := ⟨HC4.out.c1, HC4.out.c2⟩
  refine OrdL.wpL_take (i := 0) (v := ?_) opAt_0 [] (by kernel_rfl) (by kernel_rfl) (by kernel_rfl) (by kernel_rfl) (by kernel_rfl) (by kernel_rfl) (fun _ _ _ h => h) (Or.inl ⟨by rfl, ?_⟩) hHeld ?_
  rotate_left
  · (intro w' hSw; obtain ⟨k1, k2⟩ := hSw; go_simp; try with_reducible rfl)
  try simp only [Act.put, List.setIfInBounds_toArray, List.set_cons_zero, List.set_cons_succ]
  refine OrdL.wpL_take (i := 1) (v := ?_) opAt_1 [] (by kernel_rfl) (by kernel_rfl) (by kernel_rfl) (by kernel_rfl) (by kernel_rfl) (by kernel_rfl) (fun _ _ _ h => h) (Or.inl ⟨by rfl, ?_⟩) hHeld ?_
  rotate_left
  · (intro w' hSw; obtain ⟨k1, k2⟩ := hSw; go_simp; try with_reducible rfl)
  try simp only [Act.put, List.setIfInBounds_toArray, List.set_cons_zero, List.set_cons_succ]
  refine OrdL.wpL_take (i := 2) (v := ?_) opAt_2 [] (by kernel_rfl) (by kernel_rfl) (by kernel_rfl) (by kernel_rfl) (by kernel_rfl) (by kernel_rfl) (fun _ _ _ h => h) (Or.inl ⟨by rfl, ?_⟩) hHeld ?_
  rotate_left
  · (intro w' hSw; obtain ⟨k1, k2⟩ := hSw; go_simp; try with_reducible rfl)
  try simp only [Act.put, List.setIfInBounds_toArray, List.set_cons_zero, List.set_cons_succ]
  refine OrdL.wpL_take (i := 3) (v := ?_) opAt_3 [] (by kernel_rfl) (by kernel_rfl) (by kernel_rfl) (by kernel_rfl) (by kernel_rfl) (by kernel_rfl) (fun _ _ _ h => h) (Or.inl ⟨by rfl, ?_⟩) hHeld ?_
  rotate_left
  · (intro w' hSw; obtain ⟨k1, k2⟩ := hSw; go_simp; try with_reducible rfl)
  try simp only [Act.put, List.setIfInBounds_toArray, List.set_cons_zero, List.set_cons_succ]
  refine OrdL.wpL_take (i := 4) (v := ?_) opAt_4 [] (by kernel_rfl) (by kernel_rfl) (by kernel_rfl) (by kernel_rfl) (by kernel_rfl) (by kernel_rfl) (fun _ _ _ h => h) (Or.inl ⟨by rfl, ?_⟩) hHeld ?_
  rotate_left
  · (intro w' hSw; obtain ⟨k1, k2⟩ := hSw; go_simp; try with_reducible rfl)
  try simp only [Act.put, List.setIfInBounds_toArray, List.set_cons_zero, List.set_cons_succ]
  refine OrdL.wpL_take (i := 5) (v := ?_) opAt_5 [] (by kernel_rfl) (by kernel_rfl) (by kernel_rfl) (by kernel_rfl) (by kernel_rfl) (by kernel_rfl) (fun _ _ _ h => h) (Or.inl ⟨by rfl, ?_⟩) hHeld ?_
  rotate_left
  · (intro w' hSw; obtain ⟨k1, k2⟩ := hSw; go_simp; try with_reducible rfl)
  try simp only [Act.put, List.setIfInBounds_toArray, List.set_cons_zero, List.set_cons_succ]
  refine OrdL.wpL_take (i := 6) (v := ?_) opAt_6 [] (by kernel_rfl) (by kernel_rfl) (by kernel_rfl) (by kernel_rfl) (by kernel_rfl) (by kernel_rfl) (fun _ _ _ h => h) (Or.inl ⟨by rfl, ?_⟩) hHeld ?_
  rotate_left
  · (intro w' hSw; obtain ⟨k1, k2⟩ := hSw; go_simp; try with_reducible rfl)
  try simp only [Act.put, List.setIfInBounds_toArray, List.set_cons_zero, List.set_cons_succ]
  refine OrdL.wpL_take (i := 7) (v := ?_) opAt_7 [] (by kernel_rfl) (by kernel_rfl) (by kernel_rfl) (by kernel_rfl) (by kernel_rfl) (by kernel_rfl) (fun _ _ _ h => h) (Or.inl ⟨by rfl, ?_⟩) hHeld ?_
  rotate_left
  · (intro w' hSw; obtain ⟨k1, k2⟩ := hSw; go_simp; try with_reducible rfl)
  try simp only [Act.put, List.setIfInBounds_toArray, List.set_cons_zero, List.set_cons_succ]
  refine OrdL.wpL_take (i := 8) (v := ?_) opAt_8 [] (by kernel_rfl) (by kernel_rfl) (by kernel_rfl) (by kernel_rfl) (by kernel_rfl) (by kernel_rfl) (fun _ _ _ h => h) (Or.inl ⟨by rfl, ?_⟩) hHeld ?_
  rotate_left
  · (intro w' hSw; obtain ⟨k1, k2⟩ := hSw; go_simp; try with_reducible rfl)
  try simp only [Act.put, List.setIfInBounds_toArray, List.set_cons_zero, List.set_cons_succ]
  refine OrdL.wpL_take (i := 9) (v := ?_) opAt_9 [] (by kernel_rfl) (by kernel_rfl) (by kernel_rfl) (by kernel_rfl) (by kernel_rfl) (by kernel_rfl) (fun _ _ _ h => h) (Or.inl ⟨by rfl, ?_⟩) hHeld ?_
  rotate_left
  · (intro w' hSw; obtain ⟨k1, k2⟩ := hSw; go_simp; try with_reducible rfl)
  try simp only [Act.put, List.setIfInBounds_toArray, List.set_cons_zero, List.set_cons_succ]
  refine OrdL.wpL_take (i := 10) (v := ?_) opAt_10 [] (by kernel_rfl) (by kernel_rfl) (by kernel_rfl) (by kernel_rfl) (by kernel_rfl) (by kernel_rfl) (fun _ _ _ h => h) (Or.inl ⟨by rfl, ?_⟩) hHeld ?_
  rotate_left
  · (intro w' hSw; obtain ⟨k1, k2⟩ := hSw; go_simp; try with_reducible rfl)
  try simp only [Act.put, List.setIfInBounds_toArray, List.set_cons_zero, List.set_cons_succ]
  refine OrdL.wpL_take (i := 11) (v := ?_) opAt_11 [] (by kernel_rfl) (by kernel_rfl) (by kernel_rfl) (by kernel_rfl) (by kernel_rfl) (by kernel_rfl) (fun _ _ _ h => h) (Or.inl ⟨by rfl, ?_⟩) hHeld ?_
  rotate_left
  · (intro w' hSw; obtain ⟨k1, k2⟩ := hSw; go_simp; try with_reducible rfl)
  try simp only [Act.put, List.setIfInBounds_toArray, List.set_cons_zero, List.set_cons_succ]
  refine OrdL.wpL_take (i := 12) (v := ?_) opAt_12 [13] (by kernel_rfl) (by kernel_rfl) (by kernel_rfl) (by kernel_rfl) (by kernel_rfl) (by kernel_rfl) (fun _ _ _ h => h) (Or.inl ⟨by rfl, ?_⟩) hHeld ?_
  rotate_left
  · (intro w' hSw; obtain ⟨k1, k2⟩ := hSw; go_simp; try with_reducible rfl)
  try simp only [Act.put, List.setIfInBounds_toArray, List.set_cons_zero, List.set_cons_succ]
  refine OrdL.wpL_take (i := 13) (v := ?_) opAt_13 [] (by kernel_rfl) (by kernel_rfl) (by kernel_rfl) (by kernel_rfl) (by kernel_rfl) (by kernel_rfl) (fun _ _ _ h => h) (Or.inl ⟨by rfl, ?_⟩) hHeld ?_
  rotate_left
  · (intro w' hSw; obtain ⟨k1, k2⟩ := hSw; go_simp; try with_reducible rfl)
  try simp only [Act.put, List.setIfInBounds_toArray, List.set_cons_zero, List.set_cons_succ]
  refine OrdL.wpL_ready (rs := [14]) (by kernel_rfl) (by simp) ?_
  refine OrdL.AllL.cons rfl (fun K hK => ?_) OrdL.AllL.nil
  have f2 := HC4.out.f2
  have c2 := HC4.out.c2
  go_simp
  refine hK.out _ _ (fun h => by simp at h) ?_
  refine OrdL.wpL_done (by kernel_rfl) ?_ _
  refine NoPanic.normal ?_
  clear f2 c2 hHeld
  go_wp2_with fail
  go_ret
  have hg5 : Chg (fun i => i = F ∨ vt.ownBlock = some i) w3 (W.setCell ⟨F, 2, none⟩ (.slice At q ct)) := HG4.out.setCell (.inl rfl) _
  have hq' : n - min s.kept n = q := by have h1 := Hk'.out; have h2 := Hkp.out; have h3 := Hq.out; omega
  have hk'' : min s.kept n = k' := by have h1 := Hk'.out; have h2 := Hkp.out; omega
  have hown5 : (W.setCell ⟨F, 2, none⟩ (.slice At q ct)).ownsRow 0 5 1 (.slice At q ct) (s.tail.take q).length (bvs (s.tail.take q)) := by
    have h1 := own_take (v := .nilIface) (w := w3) (A := At) (l := s.tail) (c := ct) (s := q) (by have := HOt.out; rw [Hnt.out] at this; exact this) (by have := Hnt.out; omega)
    have h2 := hg5
    have h3 : Chg (fun i => i = F) w3 (W.setCell ⟨F, 2, none⟩ (.slice At q ct)) := HGF.out.setCell rfl _
    refine h3.own h1 (fun g hg e => hTF ?_)
    rw [Hvt.out]
    cases At with
    | none => cases hg
    | some a => rw [← e]; exact hg
  have hob5 : (Value.slice At q ct).ownBlock = vt.ownBlock := by rw [Hvt.out]; cases At <;> rfl
  have hfin := H3.out.tailed (k := k') (fun i hi => Nat.lt_of_lt_of_le (HR2.out i hi) HC3.out.size) hg5 (by
    have := HC4.out.set2 (.slice At q ct)
    have e : FSt.loose ⟨s.safe, s.kept, s.tail, s.deeds ++ [.cut n]⟩ = s.loose + 1 := by simp [FSt.loose, unitsL_append, unitsL, Deed.units]
    rw [e]
    exact this) hown5 (.inl hob5)
  have hst : (⟨s.safe, k', s.tail.take q, s.deeds ++ [.cut n]⟩ : FSt) = s.cutd n := by unfold FSt.cutd; rw [hq', hk'']
  have hfin' : FileAt (W.setCell ⟨F, 2, none⟩ (.slice At q ct)) F R vs (.slice At q ct) vd2 (dvs ++ [cutV n]) (s.cutd n) := by rw [← hst]; exact hfin
  have hcw : Chg M w (W.setCell ⟨F, 2, none⟩ (.slice At q ct)) := ((Chg.of_below (M := M) HB2.out).trans HC3.out (fun i hi => .inl (HOM.out i (hi.elim .inl (fun h => .inr (.inr (.inr h))))))).trans hg5 (fun i hi => .inl (HOM.out i (hi.elim .inl (fun h => .inr (.inr (.inl h))))))
  refine ⟨rfl, fun i => FOwn F vs (.slice At q ct) vd2 i, R, ⟨FSt.cutd_ok HOk.out Hnl.out, hfin'.rows, hfin'.lt, fun i hi => Nat.lt_of_lt_of_le (HR.out i hi) hcw.size, vs, _, vd2, _, hfin', fun i h => h⟩, hcw, ?_, fun i hi => .inl hi⟩
  have hs2 := HB2.out.size
  rintro i (rfl | hi | hi | hi)
  · exact .inl (HOM.out _ (.inl rfl))
  · exact .inl (HOM.out _ (.inr (.inl hi)))
  · exact .inl (HOM.out _ (.inr (.inr (.inl (hob5 ▸ hi)))))
  · rcases HD3.out with h1 | h1
    · exact .inl (HOM.out _ (.inr (.inr (.inr (h1 ▸ hi)))))
    · have := h1 _ hi; exact .inr (by omega)
end
end Go.Proofs.Ytmlbhconbabdhaa
