
/-
  Layer 6: the program's folder: maps.Clone; settle; Sync, Crash.
-/
import Derived.Test.YtboeiadfmknidaaGreatHxPlain
import Derived.Test.YtboeiadfmknidaaGreatShelf6C
import Derived.Deep.RegionHeld3
set_option linter.unusedVariables false
set_option linter.unusedSimpArgs false
namespace Go.Proofs.YtboeiadfmknidaaGreat
open Go.RowKit Go.Maps

theorem hclone {w : World} {b : Nat} {es : List Ent} (h : MapAt w b es) : Calls Tryz.prog 84 #[.map (some b)] w fun e w' => ∃ k, e = .returned (.map (some k)) ∧ MapAt w' k es ∧ Below w.heap.size w w' ∧ w.heap.size ≤ k ∧ k < w'.heap.size := by
  obtain ⟨ho, D, hown, hr⟩ := h
  have hcon := AnyW.maps_Clone_owns Tryz.cloneS 9 (plainElem Tryz.prog 64) b _ D w hown
  change Calls Tryz.prog 84 _ _ _ at hcon
  refine hcon.mono ?_
  rintro e w' ⟨rfl, h1, h2, hb⟩
  exact ⟨_, rfl, ⟨ho, D, h1, hr⟩, hb, Nat.le_refl _, h1.lt⟩
theorem elFuncs : Tryz.prog.underlying 84 = some (.slice (Tryz.prog.elem 84)) := by kernel_rfl
/-- 's[:k]' of deeds -/
theorem run_cut_hF (A : Option Addr) (n c k : Nat) (hkc : k ≤ c) (w : World) :
    (Instr.sliceAt 84 (.slice A n c) none (some (.int .i64 (k : Int))) none).run Tryz.prog w = .ok (.slice A k c) w := by
  rw [run_sliceAt_slice _ 84 _ _ _ _ elFuncs, run_slice_h _ 84 A n c elFuncs .i64 k (by omega) (by omega)]
  have : (sizeOf (Tryz.prog.elem 84)).run Tryz.prog w = .ok 1 w := by kernel_rfl
  rw [this]
  have e : (if c = 0 then A else A.map (·.add 0)) = A := by
    split
    · rfl
    · cases A with
      | none => rfl
      | some a => simp [Addr.add]
  simp [Result.andThen, sliced, e]
/-- what holds through settle's loop, j deeds done -/
structure HSetR (w wr : World) (bs : Nat) (s : PSt) (j : Nat) : Prop where
  safe : MapAt wr bs (doAll s.safe (s.deeds.take j))
  chg : Chg (fun i => i = bs) w wr
section
variable {w : World} {X : Nat} {M R : Nat → Prop} {s : PSt}
set_option maxRecDepth 100000 in
set_option maxHeartbeats 4000000 in
theorem hsettle (h : HFolM w X M R s) (k : Nat) (hk : k ≤ s.deeds.length) :
    Calls Tryz.prog 76 #[.pointer (some ⟨X, 0, none⟩), .int .i64 (k : Int)] w fun e w' => (∃ u, e = .returned u) ∧ HMut w w' X M R (s.settle k) := by
  obtain ⟨ho, hMR, hM, hR, bs, bn, vd, dvs, h, hvX, hOM⟩ := h
  have Hho := Lib.hid ho
  have HMR := Lib.hid hMR
  have HM := Lib.hid hM
  have HR := Lib.hid hR
  have HOM := Lib.hid hOM
  have HvX := Lib.hid hvX
  have H := Lib.hid h
  obtain ⟨Ad, cd, hvd, hlc, hcm, _⟩ := own_slice h.deeds
  obtain ⟨nd, hnd⟩ : ∃ nd, nd = s.deeds.length := ⟨_, rfl⟩
  have Hnd := Lib.hid hnd
  have hkn : k ≤ nd := by omega
  have hnd2 : nd ≤ 100000 := by have := ho.few; omega
  have Hvd : Hid (vd = .slice Ad nd cd) := by rw [hnd]; exact hvd
  have hc0 := h.cells
  rw [Hvd.out] at hc0
  have HC0 := Lib.hid hc0
  have c0 := hc0.c0
  have c2 := hc0.c2
  have HRd : Hid (Rd w w.heap.size Ad dvs) := by have := h.deeds; rw [hvd] at this; exact Rd.of_own this
  have hcut := run_cut_hF Ad nd cd k (by omega)
  have HS0 : Hid (HSetR w w bs s 0) := ⟨by simpa [doAll] using h.safe, Chg.refl⟩
  clear ho hMR hM hR hvX hOM hvd hlc hcm hnd h hk hc0
  go_enter Tryz.func76, Tryz.ntmps76
  go_wp2_with fail
  clear c0 c2
  go_loopw [13] (fun i wr => ∃ j : Nat, j ≤ k ∧ i = .int .i64 j ∧ HSetR w wr bs s j) (fun i _ => k - (intOf i).toNat)
  case atStart => exact ⟨0, by omega, rfl, HS0.out⟩
  case round =>
    obtain ⟨j, hj, rfl, hS⟩ := hrel
    have HS := Lib.hid hS
    clear hS
    have hcl := HC0.out.of_block (HS.out.chg.block X HC0.out.lt H.out.xs)
    have HCl := Lib.hid hcl
    by_cases hjl : j < k
    · obtain ⟨d, hd⟩ : ∃ d, s.deeds[j]? = some d := ⟨s.deeds[j]'(by have := Hnd.out; omega), List.getElem?_eq_getElem _⟩
      obtain ⟨dv, hdv⟩ : ∃ dv, dvs[j]? = some dv := ⟨dvs[j]'(by have := H.out.each.1; have := Hnd.out; omega), List.getElem?_eq_getElem _⟩
      have hda := H.out.each.2 j dv d hdv hd
      have hnR : ∀ i, i = bs → ¬ R i := by
        rintro i rfl
        exact H.out.rows _ (.inr (.inl rfl))
      have hda2 := hda.chg HS.out.chg hnR
      have hok : d.Ok := Hho.out.deeds d (List.mem_of_getElem? hd)
      obtain ⟨g, cap, rfl, hen, hcall⟩ := hdeed hda2 hok
      have hlen : (doAll s.safe (s.deeds.take j)).length ≤ 1000000 := by
        have h1 := doAll_length (s.deeds.take j) s.safe
        have h2 := Hho.out.few
        have h3 : (s.deeds.take j).length ≤ s.deeds.length := by rw [List.length_take]; omega
        omega
      have HCa := Lib.hid (hcall wr bs _ HS.out.safe hlen hda2)
      obtain ⟨bb, oo, rfl, hbb, hcc⟩ := HRd.out (by intro e; rw [e] at hdv; simp at hdv)
      have cj : wr.cell? ⟨bb, oo + j, none⟩ = some (.func (.func g) #[] cap) := by
        have hne : ¬ (bb = bs) := fun e => H.out.gs (by rw [Hvd.out, ← e]; rfl)
        exact (HS.out.chg.cell (p := ⟨bb, oo + j, none⟩) hbb hne).trans (hcc j _ hdv)
      have c0 := hcl.c0
      have Hd := Lib.hid hd
      clear hd hdv hda hda2 hok hlen hcall hcc hnR hcl
      go_wp2_with fail
      refine HCa.out.mono ?_
      rintro e w1 ⟨⟨u, rfl⟩, hm1, ht1⟩
      have hfin : HSetR w w1 bs s (j + 1) := ⟨by rw [doAll_next Hd.out]; exact hm1, HS.out.chg.trans (Chg.of_turned ht1) (fun i hi => .inl hi)⟩
      have HF := Lib.hid hfin
      clear hm1 ht1 hfin
      go_wp2_with fail
      go_roundw
      case rel => exact ⟨j + 1, by omega, by go_num, HF.out⟩
      case measure => simp [intOf]; omega
    · obtain rfl : j = k := by omega
      clear hcl
      go_wp2_with fail
      have HSf : Hid (MapAt wr.drew bs (doAll s.safe (s.deeds.take j))) := HS.out.safe.on (Below.refl _ _).drew
      have HCW := Lib.hid HCl.out.drew
      have HCh : Hid (Chg (fun i => i = bs) w wr.drew) := HS.out.chg.drew
      refine wp_region_noPanic ?_
      refine wp_region_held_drew (S := fun w' => w'.cell? ⟨X, 0, none⟩ = some (.map (some bs)) ∧ w'.cell? ⟨X, 3, none⟩ = some (.int .u64 (s.last : Int))) (by kernel_rfl) ⟨HCW.out.c0, HCW.out.c3⟩ (fun hHeld => ?_)
      generalize World.drew _ = W at *
      refine wpAnyH_take (i := 0) (v := ?_) opAt_0 (by kernel_rfl) (by kernel_rfl) (by kernel_rfl) (fun _ _ _ h => h) (Or.inl ⟨by rfl, ?_⟩) hHeld ?_
      rotate_left
      · (intro w' hSw; obtain ⟨k0, k3⟩ := hSw; go_simp; try with_reducible rfl)
      try simp only [Act.put, List.setIfInBounds_toArray, List.set_cons_zero, List.set_cons_succ]
      refine wpAnyH_take (i := 1) (v := ?_) opAt_1 (by kernel_rfl) (by kernel_rfl) (by kernel_rfl) (fun _ _ _ h => h) (Or.inl ⟨by rfl, ?_⟩) hHeld ?_
      rotate_left
      · (intro w' hSw; obtain ⟨k0, k3⟩ := hSw; go_simp; try with_reducible rfl)
      try simp only [Act.put, List.setIfInBounds_toArray, List.set_cons_zero, List.set_cons_succ]
      refine wpAnyH_take (i := 2) (v := ?_) opAt_2 (by kernel_rfl) (by kernel_rfl) (by kernel_rfl) (fun _ _ _ h => h) (Or.inl ⟨by rfl, ?_⟩) hHeld ?_
      rotate_left
      · (intro w' hSw; obtain ⟨k0, k3⟩ := hSw; go_simp; try with_reducible rfl)
      try simp only [Act.put, List.setIfInBounds_toArray, List.set_cons_zero, List.set_cons_succ]
      refine wpAnyH_take (i := 3) (v := ?_) opAt_3 (by kernel_rfl) (by kernel_rfl) (by kernel_rfl) (fun _ _ _ h => h) (Or.inl ⟨by rfl, ?_⟩) hHeld ?_
      rotate_left
      · (intro w' hSw; obtain ⟨k0, k3⟩ := hSw; go_simp; try with_reducible rfl)
      try simp only [Act.put, List.setIfInBounds_toArray, List.set_cons_zero, List.set_cons_succ]
      refine wpAnyH_take (i := 4) (v := ?_) opAt_4 (by kernel_rfl) (by kernel_rfl) (by kernel_rfl) (fun _ _ _ h => h) (Or.inl ⟨by rfl, ?_⟩) hHeld ?_
      rotate_left
      · (intro w' hSw; obtain ⟨k0, k3⟩ := hSw; go_simp; try with_reducible rfl)
      try simp only [Act.put, List.setIfInBounds_toArray, List.set_cons_zero, List.set_cons_succ]
      refine wpAnyH_take (i := 5) (v := ?_) opAt_5 (by kernel_rfl) (by kernel_rfl) (by kernel_rfl) (fun _ _ _ h => h) (Or.inl ⟨by rfl, ?_⟩) hHeld ?_
      rotate_left
      · (intro w' hSw; obtain ⟨k0, k3⟩ := hSw; go_simp; try with_reducible rfl)
      try simp only [Act.put, List.setIfInBounds_toArray, List.set_cons_zero, List.set_cons_succ]
      refine wpAnyH_take (i := 6) (v := ?_) opAt_6 (by kernel_rfl) (by kernel_rfl) (by kernel_rfl) (fun _ _ _ h => h) (Or.inl ⟨by rfl, ?_⟩) hHeld ?_
      rotate_left
      · (intro w' hSw; obtain ⟨k0, k3⟩ := hSw; go_simp; try with_reducible rfl)
      try simp only [Act.put, List.setIfInBounds_toArray, List.set_cons_zero, List.set_cons_succ]
      refine wpAnyH_take (i := 8) (v := ?_) opAt_8 (by kernel_rfl) (by kernel_rfl) (by kernel_rfl) (fun _ _ _ h => h) (Or.inl ⟨by rfl, ?_⟩) hHeld ?_
      rotate_left
      · (intro w' hSw; obtain ⟨k0, k3⟩ := hSw; go_simp; try with_reducible rfl)
      try simp only [Act.put, List.setIfInBounds_toArray, List.set_cons_zero, List.set_cons_succ]
      refine wpAnyH_take (i := 9) (v := ?_) opAt_9 (by kernel_rfl) (by kernel_rfl) (by kernel_rfl) (fun _ _ _ h => h) (Or.inl ⟨by rfl, ?_⟩) hHeld ?_
      rotate_left
      · (intro w' hSw; obtain ⟨k0, k3⟩ := hSw; go_simp; try with_reducible rfl)
      try simp only [Act.put, List.setIfInBounds_toArray, List.set_cons_zero, List.set_cons_succ]
      refine wpAnyH_take (i := 10) (v := ?_) opAt_10 (by kernel_rfl) (by kernel_rfl) (by kernel_rfl) (fun _ _ _ h => h) (Or.inl ⟨by rfl, ?_⟩) hHeld ?_
      rotate_left
      · (intro w' hSw; obtain ⟨k0, k3⟩ := hSw; go_simp; try with_reducible rfl)
      try simp only [Act.put, List.setIfInBounds_toArray, List.set_cons_zero, List.set_cons_succ]
      refine wpAnyH_take (i := 11) (v := ?_) opAt_11 (by kernel_rfl) (by kernel_rfl) (by kernel_rfl) (fun _ _ _ h => h) (Or.inl ⟨by rfl, ?_⟩) hHeld ?_
      rotate_left
      · (intro w' hSw; obtain ⟨k0, k3⟩ := hSw; go_simp; try with_reducible rfl)
      try simp only [Act.put, List.setIfInBounds_toArray, List.set_cons_zero, List.set_cons_succ]
      refine wpAnyH_ready (rs := [7]) (by kernel_rfl) (by simp) ?_
      refine AllReadyH.cons rfl (fun K hK => ?_) AllReadyH.nil
      go_simp
      refine (hclone HSf.out).mono ?_
      rintro e w2 ⟨nb, rfl, hm2, hb2, hge, hlt⟩
      have HM2 := Lib.hid hm2
      have HB2 := Lib.hid hb2
      have Hge := Lib.hid hge
      have hc2 := HCW.out.on hb2
      have HC2 := Lib.hid hc2
      clear hm2 hb2 hge hlt
      go_wp2_with fail
      refine hK.out _ _ ⟨hc2.c0, hc2.c3⟩ (fun hHeld => ?_)
      clear hK K
      try simp only [Act.put, List.setIfInBounds_toArray, List.set_cons_zero, List.set_cons_succ]
      refine wpAnyH_take (i := 12) (v := ?_) opAt_12 (by kernel_rfl) (by kernel_rfl) (by kernel_rfl) (fun _ _ _ h => h) (Or.inl ⟨by rfl, ?_⟩) hHeld ?_
      rotate_left
      · (intro w' hSw; obtain ⟨k0, k3⟩ := hSw; go_simp; try with_reducible rfl)
      try simp only [Act.put, List.setIfInBounds_toArray, List.set_cons_zero, List.set_cons_succ]
      refine wpAnyH_take (i := 13) (v := ?_) opAt_13 (by kernel_rfl) (by kernel_rfl) (by kernel_rfl) (fun _ _ _ h => h) (Or.inl ⟨by rfl, ?_⟩) hHeld ?_
      rotate_left
      · (intro w' hSw; obtain ⟨k0, k3⟩ := hSw; go_simp; try with_reducible rfl)
      try simp only [Act.put, List.setIfInBounds_toArray, List.set_cons_zero, List.set_cons_succ]
      refine wpAnyH_ready (rs := [14]) (by kernel_rfl) (by simp) ?_
      refine AllReadyH.cons rfl (fun K hK => ?_) AllReadyH.nil
      have f1 := HC2.out.f1
      have c1 := HC2.out.c1
      go_simp
      have hc3 := HC2.out.set1 nb
      have HC3 := Lib.hid hc3
      refine hK.out _ _ ⟨hc3.c0, hc3.c3⟩ (fun hHeld => ?_)
      clear hK K
      try simp only [Act.put, List.setIfInBounds_toArray, List.set_cons_zero, List.set_cons_succ]
      refine wpAnyH_take (i := 15) (v := ?_) opAt_15 (by kernel_rfl) (by kernel_rfl) (by kernel_rfl) (fun _ _ _ h => h) (Or.inl ⟨by rfl, ?_⟩) hHeld ?_
      rotate_left
      · (intro w' hSw; obtain ⟨k0, k3⟩ := hSw; go_simp; try with_reducible rfl)
      try simp only [Act.put, List.setIfInBounds_toArray, List.set_cons_zero, List.set_cons_succ]
      refine wpAnyH_take (i := 16) (v := ?_) opAt_16 (by kernel_rfl) (by kernel_rfl) (by kernel_rfl) (fun _ _ _ h => h) (Or.inl ⟨by rfl, ?_⟩) hHeld ?_
      rotate_left
      · (intro w' hSw; obtain ⟨k0, k3⟩ := hSw; go_simp; try with_reducible rfl)
      try simp only [Act.put, List.setIfInBounds_toArray, List.set_cons_zero, List.set_cons_succ]
      refine wpAnyH_ready (rs := [17]) (by kernel_rfl) (by simp) ?_
      refine AllReadyH.cons rfl (fun K hK => ?_) AllReadyH.nil
      have f2 := HC3.out.f2
      have c2 := HC3.out.c2
      go_simp
      have hc4 := HC3.out.set2 (.slice none 0 0)
      have HC4 := Lib.hid hc4
      refine hK.out _ _ ⟨hc4.c0, hc4.c3⟩ (fun hHeld => ?_)
      clear hK K
      try simp only [Act.put, List.setIfInBounds_toArray, List.set_cons_zero, List.set_cons_succ]
      refine wpAnyH_take (i := 18) (v := ?_) opAt_18 (by kernel_rfl) (by kernel_rfl) (by kernel_rfl) (fun _ _ _ h => h) (Or.inl ⟨by rfl, ?_⟩) hHeld ?_
      rotate_left
      · (intro w' hSw; obtain ⟨k0, k3⟩ := hSw; go_simp; try with_reducible rfl)
      try simp only [Act.put, List.setIfInBounds_toArray, List.set_cons_zero, List.set_cons_succ]
      refine wpAnyH_take (i := 19) (v := ?_) opAt_19 (by kernel_rfl) (by kernel_rfl) (by kernel_rfl) (fun _ _ _ h => h) (Or.inl ⟨by rfl, ?_⟩) hHeld ?_
      rotate_left
      · (intro w' hSw; obtain ⟨k0, k3⟩ := hSw; go_simp; try with_reducible rfl)
      try simp only [Act.put, List.setIfInBounds_toArray, List.set_cons_zero, List.set_cons_succ]
      refine wpAnyH_ready (rs := [20]) (by kernel_rfl) (by simp) ?_
      refine AllReadyH.cons rfl (fun K hK => ?_) AllReadyH.nil
      have f4 := HC4.out.f4
      have c4 := HC4.out.c4
      go_simp
      have hc5 := HC4.out.set4 s.last
      have HC5 := Lib.hid hc5
      refine hK.out _ _ ⟨hc5.c0, hc5.c3⟩ (fun hHeld => ?_)
      clear hK K
      try simp only [Act.put, List.setIfInBounds_toArray, List.set_cons_zero, List.set_cons_succ]
      refine wpAnyH_done (by kernel_rfl) ?_ _
      refine NoPanic.normal ?_
      go_wp2_with fail
      go_end0
      refine ⟨⟨_, rfl⟩, ?_⟩
      obtain ⟨w5, hw5⟩ : ∃ w5, w5 = ((w2.setCell ⟨X, 1, none⟩ (.map (some nb))).setCell ⟨X, 2, none⟩ (.slice none 0 0)).setCell ⟨X, 4, none⟩ (.int .u64 (s.last : Int)) := ⟨_, rfl⟩
      rw [← hw5]
      have hcX : Chg (fun i => i = X) w2 w5 := by rw [hw5]; exact ((((Chg.refl (M := fun i => i = X) (w := w2)).setCell (p := ⟨X, 1, none⟩) rfl _).setCell (p := ⟨X, 2, none⟩) rfl _).setCell (p := ⟨X, 4, none⟩) rfl _)
      have hc5 : HCells w5 X bs nb (.slice none 0 0) s.last s.last := by rw [hw5]; exact HC5.out
      have hsW : w.heap.size ≤ W.heap.size := HCh.out.size
      have hX := H.out.cells.lt
      have hge := Hge.out
      have hcw : Chg M w w5 := ((HCh.out.mono (N := M) (fun i hi => HOM.out i (.inr (.inl hi)))).trans (Chg.of_below (M := fun _ => False) HB2.out) (fun i hi => hi.elim)).trans hcX (fun i hi => .inl (HOM.out i (.inl hi)))
      have hms : MapAt w5 bs (s.settle j).safe := (HSf.out.on HB2.out).chg hcX (fun e => H.out.xs e.symm)
      have hmn : MapAt w5 nb (s.settle j).now := HM2.out.chg hcX (fun e => by omega)
      have hbs : bs < w.heap.size := H.out.safe.lt
      have hrows : ∀ i, HOwn X bs nb (.slice none 0 0) i → ¬ R i := by
        rintro i (rfl | rfl | rfl | hi)
        · exact H.out.rows _ (.inl rfl)
        · exact H.out.rows _ (.inr (.inl rfl))
        · intro e; have := HR.out _ e; omega
        · simp [Value.ownBlock] at hi
      have hFin : HFol w5 X bs nb R (.slice none 0 0) [] (s.settle j) := ⟨hc5, hms, hmn, World.ownsRow_nil _ _ _ _, DdsAt.nil_, by omega, hrows⟩
      refine ⟨fun i => HOwn X bs nb (.slice none 0 0) i, R, ⟨PSt.settle_ok Hho.out j, hrows, hFin.lt, fun i hi => Nat.lt_of_lt_of_le (HR.out i hi) hcw.size, bs, nb, _, [], hFin, by simp [Value.ownBlock], fun i h => h⟩, hcw, ?_, fun i hi => .inl hi⟩
      rintro i (rfl | rfl | rfl | hi)
      · exact .inl (HOM.out _ (.inl rfl))
      · exact .inl (HOM.out _ (.inr (.inl rfl)))
      · exact .inr (by omega)
      · simp [Value.ownBlock] at hi
set_option maxRecDepth 100000 in
theorem hsync (h : HFolM w X M R s) : Calls Tryz.prog 41 #[.pointer (some ⟨X, 0, none⟩)] w fun e w' => e = .returned (.int .i64 0) ∧ HMut w w' X M R (s.settle s.deeds.length) := by
  have H := Lib.hid h
  obtain ⟨bs, bn, Ad, cd, hc, hms, hmn⟩ := h.cells
  have Hc := Lib.hid hc
  have c2 := hc.c2
  have hset := hsettle h s.deeds.length (Nat.le_refl _)
  have HS := Lib.hid hset
  clear h hc hms hmn hset
  go_enter Tryz.func41, Tryz.ntmps41
  go_wp2_with fail
  refine (hmade Hc.out).mono ?_
  rintro e w' ⟨rfl, rfl⟩
  go_wp2_with fail
  refine HS.out.mono ?_
  rintro e w' ⟨⟨u, rfl⟩, hm⟩
  have HM := Lib.hid hm
  clear hm
  go_wp2_with fail
  go_ret
  exact ⟨rfl, HM.out⟩
/-- how many deeds a crash keeps -/
def keepN (k : Int) (n : Nat) : Nat := min k.toNat n
set_option maxRecDepth 100000 in
theorem hcrash (h : HFolM w X M R s) (k : Int) : Calls Tryz.prog 47 #[.pointer (some ⟨X, 0, none⟩), .int .i64 k] w fun e w' => e = .returned (.int .i64 0) ∧ HMut w w' X M R (s.settle (keepN k s.deeds.length)) := by
  have H := Lib.hid h
  obtain ⟨bs, bn, Ad, cd, hc, hms, hmn⟩ := h.cells
  have Hc := Lib.hid hc
  have c2 := hc.c2
  obtain ⟨m, hm⟩ : ∃ m, m = keepN k s.deeds.length := ⟨_, rfl⟩
  have hmin : min (max k 0) (s.deeds.length : Int) = (m : Int) := by rw [hm]; unfold keepN; omega
  have hset := hsettle h m (by rw [hm]; unfold keepN; omega)
  rw [← hm]
  have HS := Lib.hid hset
  clear h hc hms hmn hset hm
  go_enter Tryz.func47, Tryz.ntmps47
  go_wp2_with fail
  refine (hmade Hc.out).mono ?_
  rintro e w' ⟨rfl, rfl⟩
  go_wp2_with fail
  refine HS.out.mono ?_
  rintro e w' ⟨⟨u, rfl⟩, hm⟩
  have HM := Lib.hid hm
  clear hm
  go_wp2_with fail
  go_ret
  exact ⟨rfl, HM.out⟩
end
end Go.Proofs.YtboeiadfmknidaaGreat

/-
  Layer 6: the program's folder: Copy.
-/
set_option linter.unusedVariables false
set_option linter.unusedSimpArgs false
namespace Go.Proofs.YtboeiadfmknidaaGreat
open Go.RowKit Go.Maps

set_option maxRecDepth 100000 in
/-- slices.Clone of deeds -/
theorem hcloneF {w : World} {v : Value} {n : Nat} {xs : List Value} (h : w.ownsRow 0 89 1 v n xs) (h1 : ∀ u ∈ xs, u.oneCell' = true) (hn : n ≤ 1000000) :
    Calls Tryz.prog 85 #[v] w fun e w' => ∃ r, e = .returned r ∧ w'.ownsRow w.heap.size 89 1 r n xs ∧ Below w.heap.size w w' := by
  obtain ⟨i0, hi0, hz0, hz1, hz2⟩ := info_parts fn_info
  obtain ⟨A, c, rfl, hc, hcm, _⟩ := own_slice h
  have hxl : xs.length = n * 1 := h.1
  have hrd := Rd.of_own h
  have hq := @Lib.run_eql_slice_nil Tryz.prog
  have H1 := Lib.hid h1
  clear h1
  rcases A with _ | a
  · have hl : xs = [] := by
      rcases xs with _ | ⟨x, r⟩
      · rfl
      · obtain ⟨b, o, h, _⟩ := hrd (by simp)
        cases h
    subst hl
    obtain rfl : n = 0 := by simpa using hxl.symm
    clear hrd h
    go_enter Tryz.func85, Tryz.ntmps85
    go_wp2
    go_ret
    exact ⟨_, rfl, World.ownsRow_nil _ _ _ _, Below.refl _ _⟩
  · have hown0 : (w.alloc (Obj.cells #[] 89)).ownsRow w.heap.size 89 1 (.slice (some ⟨w.heap.size, 0, none⟩) 0 0) 0 [] := World.ownsRow_lit w #[] 0 (Nat.le_refl _) (Nat.zero_le _) rfl
    have Hr := Lib.hid hrd
    clear hrd h
    go_enter Tryz.func85, Tryz.ntmps85
    go_wp2_with (at_builtin; (refine wpList_append_rd _ rfl _ _ 84 rfl w.heap.size 89 i0 .nilFunc 1 8 Tryz.underlying84 hi0 hz0 hz1 hz2 rfl (by omega) (.slice (some ⟨w.heap.size, 0, none⟩) 0 0) 0 [] rfl hown0 w.heap.size (some a) n c xs rfl (by omega) (Hr.out.alloc (Nat.le_refl _) _) H1.out (by unfold maxLen; omega) (by omega) (by simp) ?_); intro v1 w1 hown1 hbw1 _ _)
    go_ret
    exact ⟨v1, rfl, by simpa using hown1, ((Below.refl _ _).alloc (Nat.le_refl _) _).trans hbw1⟩
set_option maxRecDepth 100000 in
set_option maxHeartbeats 8000000 in
theorem hcopy {w : World} {X : Nat} {M R : Nat → Prop} {s : PSt} (h : HFolM w X M R s) :
    Calls Tryz.prog 58 #[.pointer (some ⟨X, 0, none⟩)] w fun e w' => ∃ X' M', e = .returned (.pointer (some ⟨X', 0, none⟩)) ∧ HFolM w' X' M' R s ∧ Below w.heap.size w w' ∧ ∀ i, M' i → w.heap.size ≤ i := by
  obtain ⟨ho, hMR, hM, hR, bs, bn, vd, dvs, h, hvX, hOM⟩ := h
  have Hho := Lib.hid ho
  have HR := Lib.hid hR
  have H := Lib.hid h
  have hnd2 : s.deeds.length ≤ 100000 := by have := ho.few; omega
  obtain ⟨nd, hnd⟩ : ∃ nd, nd = s.deeds.length := ⟨_, rfl⟩
  rw [← hnd] at hnd2
  have Hnd := Lib.hid hnd
  have Hone := Lib.hid h.each.one
  have HC0 := Lib.hid h.cells
  clear ho hMR hM hR hvX hOM h hnd
  go_enter Tryz.func58, Tryz.ntmps58
  go_wp2_with fail
  refine (hmade HC0.out).mono ?_
  rintro e w' ⟨rfl, rfl⟩
  go_wp2_with fail
  have HCW := Lib.hid HC0.out.drew
  have HSW : Hid (MapAt w.drew bs s.safe) := H.out.safe.on (Below.refl _ _).drew
  have HNW : Hid (MapAt w.drew bn s.now) := H.out.now.on (Below.refl _ _).drew
  have HDW : Hid (w.drew.ownsRow 0 89 1 vd nd dvs) := by have := own_below H.out.deeds (Below.refl w.heap.size w).drew (Nat.le_refl _); rw [Hnd.out]; exact this
  have HBW : Hid (Below w.heap.size w w.drew) := (Below.refl _ _).drew
  refine wp_region_noPanic ?_
  refine wp_region_held_drew (S := fun w' => HCells w' X bs bn vd s.last s.settled) (by kernel_rfl) HCW.out (fun hHeld => ?_)
  generalize World.drew _ = W at *
  refine wpAnyH_take (i := 0) (v := ?_) opAt_0 (by kernel_rfl) (by kernel_rfl) (by kernel_rfl) (fun _ _ _ h => h) (Or.inl ⟨by rfl, ?_⟩) hHeld ?_
  rotate_left
  · (intro w' hSw; obtain ⟨k0, k1, k2, k3, k4, _⟩ := hSw; go_simp; try with_reducible rfl)
  try simp only [Act.put, List.setIfInBounds_toArray, List.set_cons_zero, List.set_cons_succ]
  refine wpAnyH_take (i := 1) (v := ?_) opAt_1 (by kernel_rfl) (by kernel_rfl) (by kernel_rfl) (fun _ _ _ h => h) (Or.inl ⟨by rfl, ?_⟩) hHeld ?_
  rotate_left
  · (intro w' hSw; obtain ⟨k0, k1, k2, k3, k4, _⟩ := hSw; go_simp; try with_reducible rfl)
  try simp only [Act.put, List.setIfInBounds_toArray, List.set_cons_zero, List.set_cons_succ]
  refine wpAnyH_take (i := 2) (v := ?_) opAt_2 (by kernel_rfl) (by kernel_rfl) (by kernel_rfl) (fun _ _ _ h => h) (Or.inl ⟨by rfl, ?_⟩) hHeld ?_
  rotate_left
  · (intro w' hSw; obtain ⟨k0, k1, k2, k3, k4, _⟩ := hSw; go_simp; try with_reducible rfl)
  try simp only [Act.put, List.setIfInBounds_toArray, List.set_cons_zero, List.set_cons_succ]
  refine wpAnyH_take (i := 3) (v := ?_) opAt_3 (by kernel_rfl) (by kernel_rfl) (by kernel_rfl) (fun _ _ _ h => h) (Or.inl ⟨by rfl, ?_⟩) hHeld ?_
  rotate_left
  · (intro w' hSw; obtain ⟨k0, k1, k2, k3, k4, _⟩ := hSw; go_simp; try with_reducible rfl)
  try simp only [Act.put, List.setIfInBounds_toArray, List.set_cons_zero, List.set_cons_succ]
  refine wpAnyH_take (i := 5) (v := ?_) opAt_5 (by kernel_rfl) (by kernel_rfl) (by kernel_rfl) (fun _ _ _ h => h) (Or.inl ⟨by rfl, ?_⟩) hHeld ?_
  rotate_left
  · (intro w' hSw; obtain ⟨k0, k1, k2, k3, k4, _⟩ := hSw; go_simp; try with_reducible rfl)
  try simp only [Act.put, List.setIfInBounds_toArray, List.set_cons_zero, List.set_cons_succ]
  refine wpAnyH_take (i := 6) (v := ?_) opAt_6 (by kernel_rfl) (by kernel_rfl) (by kernel_rfl) (fun _ _ _ h => h) (Or.inl ⟨by rfl, ?_⟩) hHeld ?_
  rotate_left
  · (intro w' hSw; obtain ⟨k0, k1, k2, k3, k4, _⟩ := hSw; go_simp; try with_reducible rfl)
  try simp only [Act.put, List.setIfInBounds_toArray, List.set_cons_zero, List.set_cons_succ]
  refine wpAnyH_take (i := 7) (v := ?_) opAt_7 (by kernel_rfl) (by kernel_rfl) (by kernel_rfl) (fun _ _ _ h => h) (Or.inl ⟨by rfl, ?_⟩) hHeld ?_
  rotate_left
  · (intro w' hSw; obtain ⟨k0, k1, k2, k3, k4, _⟩ := hSw; go_simp; try with_reducible rfl)
  try simp only [Act.put, List.setIfInBounds_toArray, List.set_cons_zero, List.set_cons_succ]
  refine wpAnyH_take (i := 8) (v := ?_) opAt_8 (by kernel_rfl) (by kernel_rfl) (by kernel_rfl) (fun _ _ _ h => h) (Or.inl ⟨by rfl, ?_⟩) hHeld ?_
  rotate_left
  · (intro w' hSw; obtain ⟨k0, k1, k2, k3, k4, _⟩ := hSw; go_simp; try with_reducible rfl)
  try simp only [Act.put, List.setIfInBounds_toArray, List.set_cons_zero, List.set_cons_succ]
  refine wpAnyH_take (i := 10) (v := ?_) opAt_10 (by kernel_rfl) (by kernel_rfl) (by kernel_rfl) (fun _ _ _ h => h) (Or.inl ⟨by rfl, ?_⟩) hHeld ?_
  rotate_left
  · (intro w' hSw; obtain ⟨k0, k1, k2, k3, k4, _⟩ := hSw; go_simp; try with_reducible rfl)
  try simp only [Act.put, List.setIfInBounds_toArray, List.set_cons_zero, List.set_cons_succ]
  refine wpAnyH_take (i := 11) (v := ?_) opAt_11 (by kernel_rfl) (by kernel_rfl) (by kernel_rfl) (fun _ _ _ h => h) (Or.inl ⟨by rfl, ?_⟩) hHeld ?_
  rotate_left
  · (intro w' hSw; obtain ⟨k0, k1, k2, k3, k4, _⟩ := hSw; go_simp; try with_reducible rfl)
  try simp only [Act.put, List.setIfInBounds_toArray, List.set_cons_zero, List.set_cons_succ]
  refine wpAnyH_take (i := 12) (v := ?_) opAt_12 (by kernel_rfl) (by kernel_rfl) (by kernel_rfl) (fun _ _ _ h => h) (Or.inl ⟨by rfl, ?_⟩) hHeld ?_
  rotate_left
  · (intro w' hSw; obtain ⟨k0, k1, k2, k3, k4, _⟩ := hSw; go_simp; try with_reducible rfl)
  try simp only [Act.put, List.setIfInBounds_toArray, List.set_cons_zero, List.set_cons_succ]
  refine wpAnyH_take (i := 13) (v := ?_) opAt_13 (by kernel_rfl) (by kernel_rfl) (by kernel_rfl) (fun _ _ _ h => h) (Or.inl ⟨by rfl, ?_⟩) hHeld ?_
  rotate_left
  · (intro w' hSw; obtain ⟨k0, k1, k2, k3, k4, _⟩ := hSw; go_simp; try with_reducible rfl)
  try simp only [Act.put, List.setIfInBounds_toArray, List.set_cons_zero, List.set_cons_succ]
  refine wpAnyH_take (i := 15) (v := ?_) opAt_15 (by kernel_rfl) (by kernel_rfl) (by kernel_rfl) (fun _ _ _ h => h) (Or.inl ⟨by rfl, ?_⟩) hHeld ?_
  rotate_left
  · (intro w' hSw; obtain ⟨k0, k1, k2, k3, k4, _⟩ := hSw; go_simp; try with_reducible rfl)
  try simp only [Act.put, List.setIfInBounds_toArray, List.set_cons_zero, List.set_cons_succ]
  refine wpAnyH_take (i := 16) (v := ?_) opAt_16 (by kernel_rfl) (by kernel_rfl) (by kernel_rfl) (fun _ _ _ h => h) (Or.inl ⟨by rfl, ?_⟩) hHeld ?_
  rotate_left
  · (intro w' hSw; obtain ⟨k0, k1, k2, k3, k4, _⟩ := hSw; go_simp; try with_reducible rfl)
  try simp only [Act.put, List.setIfInBounds_toArray, List.set_cons_zero, List.set_cons_succ]
  refine wpAnyH_take (i := 17) (v := ?_) opAt_17 (by kernel_rfl) (by kernel_rfl) (by kernel_rfl) (fun _ _ _ h => h) (Or.inl ⟨by rfl, ?_⟩) hHeld ?_
  rotate_left
  · (intro w' hSw; obtain ⟨k0, k1, k2, k3, k4, _⟩ := hSw; go_simp; try with_reducible rfl)
  try simp only [Act.put, List.setIfInBounds_toArray, List.set_cons_zero, List.set_cons_succ]
  refine wpAnyH_take (i := 18) (v := ?_) opAt_18 (by kernel_rfl) (by kernel_rfl) (by kernel_rfl) (fun _ _ _ h => h) (Or.inl ⟨by rfl, ?_⟩) hHeld ?_
  rotate_left
  · (intro w' hSw; obtain ⟨k0, k1, k2, k3, k4, _⟩ := hSw; go_simp; try with_reducible rfl)
  try simp only [Act.put, List.setIfInBounds_toArray, List.set_cons_zero, List.set_cons_succ]
  refine wpAnyH_take (i := 19) (v := ?_) opAt_19 (by kernel_rfl) (by kernel_rfl) (by kernel_rfl) (fun _ _ _ h => h) (Or.inl ⟨by rfl, ?_⟩) hHeld ?_
  rotate_left
  · (intro w' hSw; obtain ⟨k0, k1, k2, k3, k4, _⟩ := hSw; go_simp; try with_reducible rfl)
  try simp only [Act.put, List.setIfInBounds_toArray, List.set_cons_zero, List.set_cons_succ]
  refine wpAnyH_take (i := 20) (v := ?_) opAt_20 (by kernel_rfl) (by kernel_rfl) (by kernel_rfl) (fun _ _ _ h => h) (Or.inl ⟨by rfl, ?_⟩) hHeld ?_
  rotate_left
  · (intro w' hSw; obtain ⟨k0, k1, k2, k3, k4, _⟩ := hSw; go_simp; try with_reducible rfl)
  try simp only [Act.put, List.setIfInBounds_toArray, List.set_cons_zero, List.set_cons_succ]
  refine wpAnyH_take (i := 21) (v := ?_) opAt_21 (by kernel_rfl) (by kernel_rfl) (by kernel_rfl) (fun _ _ _ h => h) (Or.inl ⟨by rfl, ?_⟩) hHeld ?_
  rotate_left
  · (intro w' hSw; obtain ⟨k0, k1, k2, k3, k4, _⟩ := hSw; go_simp; try with_reducible rfl)
  try simp only [Act.put, List.setIfInBounds_toArray, List.set_cons_zero, List.set_cons_succ]
  refine wpAnyH_take (i := 22) (v := ?_) opAt_22 (by kernel_rfl) (by kernel_rfl) (by kernel_rfl) (fun _ _ _ h => h) (Or.inl ⟨by rfl, ?_⟩) hHeld ?_
  rotate_left
  · (intro w' hSw; obtain ⟨k0, k1, k2, k3, k4, _⟩ := hSw; go_simp; try with_reducible rfl)
  try simp only [Act.put, List.setIfInBounds_toArray, List.set_cons_zero, List.set_cons_succ]
  refine wpAnyH_ready (rs := [4]) (by kernel_rfl) (by simp) ?_
  refine AllReadyH.cons rfl (fun K hK => ?_) AllReadyH.nil
  go_simp
  refine (hclone HSW.out).mono ?_
  rintro e w2 ⟨b1, rfl, hm2, hb2, hge2, _⟩
  have HM2 := Lib.hid hm2
  have HB2 := Lib.hid hb2
  have Hge2 := Lib.hid hge2
  have hc2 := HCW.out.on hb2
  have HC2 := Lib.hid hc2
  have HN2 := Lib.hid (HNW.out.on hb2)
  clear hm2 hb2 hge2
  go_wp2_with fail
  refine hK.out _ _ hc2 (fun hHeld => ?_)
  clear hK K
  try simp only [Act.put, List.setIfInBounds_toArray, List.set_cons_zero, List.set_cons_succ]
  refine wpAnyH_ready (rs := [9]) (by kernel_rfl) (by simp) ?_
  refine AllReadyH.cons rfl (fun K hK => ?_) AllReadyH.nil
  go_simp
  refine (hclone HN2.out).mono ?_
  rintro e w3 ⟨b2, rfl, hm3, hb3, hge3, _⟩
  have HM3 := Lib.hid hm3
  have HB3 := Lib.hid hb3
  have Hge3 := Lib.hid hge3
  have hc3 := HC2.out.on hb3
  have HC3 := Lib.hid hc3
  have HD3 := Lib.hid (own_below HDW.out (HB2.out.trans (hb3.mono HB2.out.size)) (Nat.le_refl _))
  clear hm3 hb3 hge3
  go_wp2_with fail
  refine hK.out _ _ hc3 (fun hHeld => ?_)
  clear hK K
  try simp only [Act.put, List.setIfInBounds_toArray, List.set_cons_zero, List.set_cons_succ]
  refine wpAnyH_ready (rs := [14]) (by kernel_rfl) (by simp) ?_
  refine AllReadyH.cons rfl (fun K hK => ?_) AllReadyH.nil
  go_simp
  refine (hcloneF HD3.out Hone.out (by omega)).mono ?_
  rintro e w4 ⟨r, rfl, ho4, hb4⟩
  obtain ⟨Ar, cr, rfl, _, _, _⟩ := own_slice ho4
  have HO4 := Lib.hid ho4
  have HB4 := Lib.hid hb4
  have hc4 := HC3.out.on hb4
  have HC4 := Lib.hid hc4
  clear ho4 hb4
  go_wp2_with fail
  refine hK.out _ _ hc4 (fun hHeld => ?_)
  clear hK K
  try simp only [Act.put, List.setIfInBounds_toArray, List.set_cons_zero, List.set_cons_succ]
  refine wpAnyH_take (i := 23) (v := .agg #[.map (some b1), .map (some b2), .slice Ar nd cr, .int .u64 (s.last : Int), .int .u64 (s.settled : Int)]) opAt_23 (by kernel_rfl) (by kernel_rfl) (by kernel_rfl) (fun _ _ _ h => h) (Or.inl ⟨by rfl, ?_⟩) hHeld ?_
  · (intro w' hSw; obtain ⟨k0, k1, k2, k3, k4, _⟩ := hSw; go_simp; try with_reducible rfl)
  try simp only [Act.put, List.setIfInBounds_toArray, List.set_cons_zero, List.set_cons_succ]
  refine wpAnyH_ready (rs := [24]) (by kernel_rfl) (by simp) ?_
  refine AllReadyH.cons rfl (fun K hK => ?_) AllReadyH.nil
  go_simp
  refine hK.out _ _ (HC4.out.on ((Below.refl _ _).alloc (Nat.le_refl _) _)) (fun hHeld => ?_)
  clear hK K
  try simp only [Act.put, List.setIfInBounds_toArray, List.set_cons_zero, List.set_cons_succ]
  refine wpAnyH_take (i := 25) (v := ?_) opAt_25 (by kernel_rfl) (by kernel_rfl) (by kernel_rfl) (fun _ _ _ h => h) (Or.inl ⟨by rfl, ?_⟩) hHeld ?_
  rotate_left
  · (intro w' hSw; obtain ⟨k0, k1, k2, k3, k4, _⟩ := hSw; go_simp; try with_reducible rfl)
  try simp only [Act.put, List.setIfInBounds_toArray, List.set_cons_zero, List.set_cons_succ]
  refine wpAnyH_done (by kernel_rfl) ?_ _
  refine NoPanic.normal ?_
  go_wp2_with fail
  go_ret
  have hb5 : Below w4.heap.size w4 (w4.alloc (.cells #[.map (some b1), .map (some b2), .slice Ar nd cr, .int .u64 (s.last : Int), .int .u64 (s.settled : Int)] 86)) := (Below.refl _ _).alloc (Nat.le_refl _) _
  have hc5 := HCells.new w4 b1 b2 (.slice Ar nd cr) s.last s.settled 86
  have hsz5 : (w4.alloc (.cells #[.map (some b1), .map (some b2), .slice Ar nd cr, .int .u64 (s.last : Int), .int .u64 (s.settled : Int)] 86)).heap.size = w4.heap.size + 1 := by simp
  generalize w4.alloc _ = w5 at *
  have hW := HBW.out.size
  have s2 := HB2.out.size
  have s3 := HB3.out.size
  have s4 := HB4.out.size
  have g2 := Hge2.out
  have g3 := Hge3.out
  have hbw : Below w.heap.size w w5 := (((HBW.out.trans (HB2.out.mono hW)).trans (HB3.out.mono (by omega))).trans (HB4.out.mono (by omega))).trans (hb5.mono (by omega))
  have l2 := HM2.out.lt
  have l3 := HM3.out.lt
  have hrg : ∀ g, (Value.slice Ar nd cr).ownBlock = some g → w3.heap.size ≤ g ∧ g < w4.heap.size := fun g hg => HO4.out.lt g hg
  have hrows : ∀ i, HOwn w4.heap.size b1 b2 (.slice Ar nd cr) i → w.heap.size ≤ i := by
    rintro i (rfl | rfl | rfl | hi)
    · omega
    · omega
    · omega
    · have := (hrg i hi).1; omega
  have hFin : HFol w5 w4.heap.size b1 b2 R (.slice Ar nd cr) dvs s := ⟨hc5, ((HM2.out.on HB3.out).on HB4.out).on hb5, (HM3.out.on HB4.out).on hb5,
    by have := own_base (own_below HO4.out hb5 (by omega)) (Nat.zero_le _); rw [Hnd.out] at this ⊢; exact this, H.out.each.chg (Chg.of_below (M := fun _ => False) hbw) (fun i e => e.elim), by omega, fun i hi e => by have := hrows i hi; have := HR.out i e; omega⟩
  exact ⟨w4.heap.size, fun i => HOwn w4.heap.size b1 b2 (.slice Ar nd cr) i, rfl, ⟨Hho.out, hFin.rows, hFin.lt, fun i hi => Nat.lt_of_lt_of_le (HR.out i hi) hbw.size, b1, b2, _, _, hFin, fun e => by have := (hrg _ e).2; omega, fun i h => h⟩, hbw, hrows⟩
end Go.Proofs.YtboeiadfmknidaaGreat
