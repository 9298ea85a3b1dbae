/-
  SegKnown, part 13 of what the law's proof leans on: HxSettle, Shelf6S, HxNames, ArgsC, HxDoes, HxMapU, FxLook.
-/
import Derived.Deep.RegionHeld3
import Derived.Test.YtaicibmaogiibaaGreatDoorSegKnownQ12
import Derived.Shelf.SlIter.Nil
import Derived.Shelf.SortM.Plain
import Derived.Shelf.SortM.SortNone
import Derived.Test.YtaicibmaogiibaaGreatDoorProg
import Derived.RangeFuncNested
import Derived.RangeFuncBound
import Derived.RangeFuncCalls
import Derived.RangeFuncLeaves
import Derived.RangeFuncBox
import Derived.RangeFuncMany
import Derived.Shelf.Abstract
import Derived.Shelf.RegionOpen
import Derived.OwnWalkIn
import Derived.TacticsInMore
import Derived.LoopNIn
import Derived.LoopIn
import Derived.RegionIn
import Derived.Sort.MapsRangeIn
import Derived.Maps.OwnIn
import Derived.Maps.AppendAt
import Derived.Laws.StructEq
import Derived.Test.YtaicibmaogiibaaGreatDoorRows
import Derived.WalkKit
import Derived.ProofKit
import Derived.OpenShut
import Derived.ShutString
import Derived.ChangeOld
import Derived.Below
import Derived.SizedLaws
import Derived.Lib.SmallJoins
import Derived.Deep.Slices
import Derived.Test.YtaicibmaogiibaaGreatDoorSegKnownQ1
import Derived.Maps.OwnSet
import Derived.Maps.Range
import Derived.Laws.Cover3
import Derived.Test.YtaicibmaogiibaaGreatDoorSegKnownQ9
import Derived.Deep.DeepCutAuto
import Derived.IntWalk
/- HxSettle -/

/-
  Layer 6: the program's folder: maps.Clone; settle; Sync, Crash.
-/
set_option linter.unusedVariables false
set_option linter.unusedSimpArgs false
namespace Go.Proofs.YtaicibmaogiibaaGreatDoor
open Go.RowKit Go.Maps

theorem hclone {w : World} {b : Nat} {es : List Ent} (h : MapAt w b es) : Calls Tryz.prog 136 #[.map (some b)] w fun e w' => ∃ k, e = .returned (.map (some k)) ∧ MapAt w' k es ∧ Below w.heap.size w w' ∧ w.heap.size ≤ k ∧ k < w'.heap.size := by
  obtain ⟨ho, D, hown, hr⟩ := h
  have hcon := AnyW.maps_Clone_owns Tryz.cloneS 9 (plainElem Tryz.prog 37) b _ D w hown
  change Calls Tryz.prog 136 _ _ _ at hcon
  refine hcon.mono ?_
  rintro e w' ⟨rfl, h1, h2, hb⟩
  exact ⟨_, rfl, ⟨ho, D, h1, hr⟩, hb, Nat.le_refl _, h1.lt⟩
theorem elFuncs : Tryz.prog.underlying 123 = some (.slice (Tryz.prog.elem 123)) := by kernel_rfl
/-- 's[:k]' of deeds -/
theorem run_cut_hF (A : Option Addr) (n c k : Nat) (hkc : k ≤ c) (w : World) :
    (Instr.sliceAt 123 (.slice A n c) none (some (.int .i64 (k : Int))) none).run Tryz.prog w = .ok (.slice A k c) w := by
  rw [run_sliceAt_slice _ 123 _ _ _ _ elFuncs, run_slice_h _ 123 A n c elFuncs .i64 k (by omega) (by omega)]
  have : (sizeOf (Tryz.prog.elem 123)).run Tryz.prog w = .ok 1 w := by kernel_rfl
  rw [this]
  have e : (if c = 0 then A else A.map (·.add 0)) = A := by
    split
    · rfl
    · cases A with
      | none => rfl
      | some a => simp [Addr.add]
  simp [Result.andThen, sliced, e]
/-- what holds through settle's loop, j deeds done -/
structure HSetR (w wr : World) (bs : Nat) (s : PSt) (j : Nat) : Prop where
  safe : MapAt wr bs (doAll s.safe (s.deeds.take j))
  chg : Chg (fun i => i = bs) w wr
section
variable {w : World} {X : Nat} {M R : Nat → Prop} {s : PSt}
set_option maxRecDepth 100000 in
set_option maxHeartbeats 4000000 in
theorem hsettle (h : HFolM w X M R s) (k : Nat) (hk : k ≤ s.deeds.length) :
    Calls Tryz.prog 98 #[.pointer (some ⟨X, 0, none⟩), .int .i64 (k : Int)] w fun e w' => (∃ u, e = .returned u) ∧ HMut w w' X M R (s.settle k) := by
  obtain ⟨ho, hMR, hM, hR, bs, bn, vd, dvs, h, hvX, hOM⟩ := h
  have Hho := Lib.hid ho
  have HMR := Lib.hid hMR
  have HM := Lib.hid hM
  have HR := Lib.hid hR
  have HOM := Lib.hid hOM
  have HvX := Lib.hid hvX
  have H := Lib.hid h
  obtain ⟨Ad, cd, hvd, hlc, hcm, _⟩ := own_slice h.deeds
  obtain ⟨nd, hnd⟩ : ∃ nd, nd = s.deeds.length := ⟨_, rfl⟩
  have Hnd := Lib.hid hnd
  have hkn : k ≤ nd := by omega
  have hnd2 : nd ≤ 100000 := by have := ho.few; omega
  have Hvd : Hid (vd = .slice Ad nd cd) := by rw [hnd]; exact hvd
  have hc0 := h.cells
  rw [Hvd.out] at hc0
  have HC0 := Lib.hid hc0
  have c0 := hc0.c0
  have c2 := hc0.c2
  have HRd : Hid (Rd w w.heap.size Ad dvs) := by have := h.deeds; rw [hvd] at this; exact Rd.of_own this
  have hcut := run_cut_hF Ad nd cd k (by omega)
  have HS0 : Hid (HSetR w w bs s 0) := ⟨by simpa [doAll] using h.safe, Chg.refl⟩
  clear ho hMR hM hR hvX hOM hvd hlc hcm hnd h hk hc0
  go_enter Tryz.func98, Tryz.ntmps98
  go_wp2_with fail
  clear c0 c2
  go_loopw [13] (fun i wr => ∃ j : Nat, j ≤ k ∧ i = .int .i64 j ∧ HSetR w wr bs s j) (fun i _ => k - (intOf i).toNat)
  case atStart => exact ⟨0, by omega, rfl, HS0.out⟩
  case round =>
    obtain ⟨j, hj, rfl, hS⟩ := hrel
    have HS := Lib.hid hS
    clear hS
    have hcl := HC0.out.of_block (HS.out.chg.block X HC0.out.lt H.out.xs)
    have HCl := Lib.hid hcl
    by_cases hjl : j < k
    · obtain ⟨d, hd⟩ : ∃ d, s.deeds[j]? = some d := ⟨s.deeds[j]'(by have := Hnd.out; omega), List.getElem?_eq_getElem _⟩
      obtain ⟨dv, hdv⟩ : ∃ dv, dvs[j]? = some dv := ⟨dvs[j]'(by have := H.out.each.1; have := Hnd.out; omega), List.getElem?_eq_getElem _⟩
      have hda := H.out.each.2 j dv d hdv hd
      have hnR : ∀ i, i = bs → ¬ R i := by
        rintro i rfl
        exact H.out.rows _ (.inr (.inl rfl))
      have hda2 := hda.chg HS.out.chg hnR
      have hok : d.Ok := Hho.out.deeds d (List.mem_of_getElem? hd)
      obtain ⟨g, cap, rfl, hen, hcall⟩ := hdeed hda2 hok
      have hlen : (doAll s.safe (s.deeds.take j)).length ≤ 1000000 := by
        have h1 := doAll_length (s.deeds.take j) s.safe
        have h2 := Hho.out.few
        have h3 : (s.deeds.take j).length ≤ s.deeds.length := by rw [List.length_take]; omega
        omega
      have HCa := Lib.hid (hcall wr bs _ HS.out.safe hlen hda2)
      obtain ⟨bb, oo, rfl, hbb, hcc⟩ := HRd.out (by intro e; rw [e] at hdv; simp at hdv)
      have cj : wr.cell? ⟨bb, oo + j, none⟩ = some (.func (.func g) #[] cap) := by
        have hne : ¬ (bb = bs) := fun e => H.out.gs (by rw [Hvd.out, ← e]; rfl)
        exact (HS.out.chg.cell (p := ⟨bb, oo + j, none⟩) hbb hne).trans (hcc j _ hdv)
      have c0 := hcl.c0
      have Hd := Lib.hid hd
      clear hd hdv hda hda2 hok hlen hcall hcc hnR hcl
      go_wp2_with fail
      refine HCa.out.mono ?_
      rintro e w1 ⟨⟨u, rfl⟩, hm1, ht1⟩
      have hfin : HSetR w w1 bs s (j + 1) := ⟨by rw [doAll_next Hd.out]; exact hm1, HS.out.chg.trans (Chg.of_turned ht1) (fun i hi => .inl hi)⟩
      have HF := Lib.hid hfin
      clear hm1 ht1 hfin
      go_wp2_with fail
      go_roundw
      case rel => exact ⟨j + 1, by omega, by go_num, HF.out⟩
      case measure => simp [intOf]; omega
    · obtain rfl : j = k := by omega
      clear hcl
      go_wp2_with fail
      have HSf : Hid (MapAt wr.drew bs (doAll s.safe (s.deeds.take j))) := HS.out.safe.on (Below.refl _ _).drew
      have HCW := Lib.hid HCl.out.drew
      have HCh : Hid (Chg (fun i => i = bs) w wr.drew) := HS.out.chg.drew
      refine wp_region_noPanic ?_
      refine wp_region_held_drew (S := fun w' => w'.cell? ⟨X, 0, none⟩ = some (.map (some bs)) ∧ w'.cell? ⟨X, 3, none⟩ = some (.int .u64 (s.last : Int))) (by kernel_rfl) ⟨HCW.out.c0, HCW.out.c3⟩ (fun hHeld => ?_)
      generalize World.drew _ = W at *
      refine wpAnyH_take (i := 0) (v := ?_) opAt_0 (by kernel_rfl) (by kernel_rfl) (by kernel_rfl) (fun _ _ _ h => h) (Or.inl ⟨by rfl, ?_⟩) hHeld ?_
      rotate_left
      · (intro w' hSw; obtain ⟨k0, k3⟩ := hSw; go_simp; try with_reducible rfl)
      try simp only [Act.put, List.setIfInBounds_toArray, List.set_cons_zero, List.set_cons_succ]
      refine wpAnyH_take (i := 1) (v := ?_) opAt_1 (by kernel_rfl) (by kernel_rfl) (by kernel_rfl) (fun _ _ _ h => h) (Or.inl ⟨by rfl, ?_⟩) hHeld ?_
      rotate_left
      · (intro w' hSw; obtain ⟨k0, k3⟩ := hSw; go_simp; try with_reducible rfl)
      try simp only [Act.put, List.setIfInBounds_toArray, List.set_cons_zero, List.set_cons_succ]
      refine wpAnyH_take (i := 2) (v := ?_) opAt_2 (by kernel_rfl) (by kernel_rfl) (by kernel_rfl) (fun _ _ _ h => h) (Or.inl ⟨by rfl, ?_⟩) hHeld ?_
      rotate_left
      · (intro w' hSw; obtain ⟨k0, k3⟩ := hSw; go_simp; try with_reducible rfl)
      try simp only [Act.put, List.setIfInBounds_toArray, List.set_cons_zero, List.set_cons_succ]
      refine wpAnyH_take (i := 3) (v := ?_) opAt_3 (by kernel_rfl) (by kernel_rfl) (by kernel_rfl) (fun _ _ _ h => h) (Or.inl ⟨by rfl, ?_⟩) hHeld ?_
      rotate_left
      · (intro w' hSw; obtain ⟨k0, k3⟩ := hSw; go_simp; try with_reducible rfl)
      try simp only [Act.put, List.setIfInBounds_toArray, List.set_cons_zero, List.set_cons_succ]
      refine wpAnyH_take (i := 4) (v := ?_) opAt_4 (by kernel_rfl) (by kernel_rfl) (by kernel_rfl) (fun _ _ _ h => h) (Or.inl ⟨by rfl, ?_⟩) hHeld ?_
      rotate_left
      · (intro w' hSw; obtain ⟨k0, k3⟩ := hSw; go_simp; try with_reducible rfl)
      try simp only [Act.put, List.setIfInBounds_toArray, List.set_cons_zero, List.set_cons_succ]
      refine wpAnyH_take (i := 5) (v := ?_) opAt_5 (by kernel_rfl) (by kernel_rfl) (by kernel_rfl) (fun _ _ _ h => h) (Or.inl ⟨by rfl, ?_⟩) hHeld ?_
      rotate_left
      · (intro w' hSw; obtain ⟨k0, k3⟩ := hSw; go_simp; try with_reducible rfl)
      try simp only [Act.put, List.setIfInBounds_toArray, List.set_cons_zero, List.set_cons_succ]
      refine wpAnyH_take (i := 6) (v := ?_) opAt_6 (by kernel_rfl) (by kernel_rfl) (by kernel_rfl) (fun _ _ _ h => h) (Or.inl ⟨by rfl, ?_⟩) hHeld ?_
      rotate_left
      · (intro w' hSw; obtain ⟨k0, k3⟩ := hSw; go_simp; try with_reducible rfl)
      try simp only [Act.put, List.setIfInBounds_toArray, List.set_cons_zero, List.set_cons_succ]
      refine wpAnyH_take (i := 8) (v := ?_) opAt_8 (by kernel_rfl) (by kernel_rfl) (by kernel_rfl) (fun _ _ _ h => h) (Or.inl ⟨by rfl, ?_⟩) hHeld ?_
      rotate_left
      · (intro w' hSw; obtain ⟨k0, k3⟩ := hSw; go_simp; try with_reducible rfl)
      try simp only [Act.put, List.setIfInBounds_toArray, List.set_cons_zero, List.set_cons_succ]
      refine wpAnyH_take (i := 9) (v := ?_) opAt_9 (by kernel_rfl) (by kernel_rfl) (by kernel_rfl) (fun _ _ _ h => h) (Or.inl ⟨by rfl, ?_⟩) hHeld ?_
      rotate_left
      · (intro w' hSw; obtain ⟨k0, k3⟩ := hSw; go_simp; try with_reducible rfl)
      try simp only [Act.put, List.setIfInBounds_toArray, List.set_cons_zero, List.set_cons_succ]
      refine wpAnyH_take (i := 10) (v := ?_) opAt_10 (by kernel_rfl) (by kernel_rfl) (by kernel_rfl) (fun _ _ _ h => h) (Or.inl ⟨by rfl, ?_⟩) hHeld ?_
      rotate_left
      · (intro w' hSw; obtain ⟨k0, k3⟩ := hSw; go_simp; try with_reducible rfl)
      try simp only [Act.put, List.setIfInBounds_toArray, List.set_cons_zero, List.set_cons_succ]
      refine wpAnyH_take (i := 11) (v := ?_) opAt_11 (by kernel_rfl) (by kernel_rfl) (by kernel_rfl) (fun _ _ _ h => h) (Or.inl ⟨by rfl, ?_⟩) hHeld ?_
      rotate_left
      · (intro w' hSw; obtain ⟨k0, k3⟩ := hSw; go_simp; try with_reducible rfl)
      try simp only [Act.put, List.setIfInBounds_toArray, List.set_cons_zero, List.set_cons_succ]
      refine wpAnyH_ready (rs := [7]) (by kernel_rfl) (by simp) ?_
      refine AllReadyH.cons rfl (fun K hK => ?_) AllReadyH.nil
      go_simp
      refine (hclone HSf.out).mono ?_
      rintro e w2 ⟨nb, rfl, hm2, hb2, hge, hlt⟩
      have HM2 := Lib.hid hm2
      have HB2 := Lib.hid hb2
      have Hge := Lib.hid hge
      have hc2 := HCW.out.on hb2
      have HC2 := Lib.hid hc2
      clear hm2 hb2 hge hlt
      go_wp2_with fail
      refine hK.out _ _ ⟨hc2.c0, hc2.c3⟩ (fun hHeld => ?_)
      clear hK K
      try simp only [Act.put, List.setIfInBounds_toArray, List.set_cons_zero, List.set_cons_succ]
      refine wpAnyH_take (i := 12) (v := ?_) opAt_12 (by kernel_rfl) (by kernel_rfl) (by kernel_rfl) (fun _ _ _ h => h) (Or.inl ⟨by rfl, ?_⟩) hHeld ?_
      rotate_left
      · (intro w' hSw; obtain ⟨k0, k3⟩ := hSw; go_simp; try with_reducible rfl)
      try simp only [Act.put, List.setIfInBounds_toArray, List.set_cons_zero, List.set_cons_succ]
      refine wpAnyH_take (i := 13) (v := ?_) opAt_13 (by kernel_rfl) (by kernel_rfl) (by kernel_rfl) (fun _ _ _ h => h) (Or.inl ⟨by rfl, ?_⟩) hHeld ?_
      rotate_left
      · (intro w' hSw; obtain ⟨k0, k3⟩ := hSw; go_simp; try with_reducible rfl)
      try simp only [Act.put, List.setIfInBounds_toArray, List.set_cons_zero, List.set_cons_succ]
      refine wpAnyH_ready (rs := [14]) (by kernel_rfl) (by simp) ?_
      refine AllReadyH.cons rfl (fun K hK => ?_) AllReadyH.nil
      have f1 := HC2.out.f1
      have c1 := HC2.out.c1
      go_simp
      have hc3 := HC2.out.set1 nb
      have HC3 := Lib.hid hc3
      refine hK.out _ _ ⟨hc3.c0, hc3.c3⟩ (fun hHeld => ?_)
      clear hK K
      try simp only [Act.put, List.setIfInBounds_toArray, List.set_cons_zero, List.set_cons_succ]
      refine wpAnyH_take (i := 15) (v := ?_) opAt_15 (by kernel_rfl) (by kernel_rfl) (by kernel_rfl) (fun _ _ _ h => h) (Or.inl ⟨by rfl, ?_⟩) hHeld ?_
      rotate_left
      · (intro w' hSw; obtain ⟨k0, k3⟩ := hSw; go_simp; try with_reducible rfl)
      try simp only [Act.put, List.setIfInBounds_toArray, List.set_cons_zero, List.set_cons_succ]
      refine wpAnyH_take (i := 16) (v := ?_) opAt_16 (by kernel_rfl) (by kernel_rfl) (by kernel_rfl) (fun _ _ _ h => h) (Or.inl ⟨by rfl, ?_⟩) hHeld ?_
      rotate_left
      · (intro w' hSw; obtain ⟨k0, k3⟩ := hSw; go_simp; try with_reducible rfl)
      try simp only [Act.put, List.setIfInBounds_toArray, List.set_cons_zero, List.set_cons_succ]
      refine wpAnyH_ready (rs := [17]) (by kernel_rfl) (by simp) ?_
      refine AllReadyH.cons rfl (fun K hK => ?_) AllReadyH.nil
      have f2 := HC3.out.f2
      have c2 := HC3.out.c2
      go_simp
      have hc4 := HC3.out.set2 (.slice none 0 0)
      have HC4 := Lib.hid hc4
      refine hK.out _ _ ⟨hc4.c0, hc4.c3⟩ (fun hHeld => ?_)
      clear hK K
      try simp only [Act.put, List.setIfInBounds_toArray, List.set_cons_zero, List.set_cons_succ]
      refine wpAnyH_take (i := 18) (v := ?_) opAt_18 (by kernel_rfl) (by kernel_rfl) (by kernel_rfl) (fun _ _ _ h => h) (Or.inl ⟨by rfl, ?_⟩) hHeld ?_
      rotate_left
      · (intro w' hSw; obtain ⟨k0, k3⟩ := hSw; go_simp; try with_reducible rfl)
      try simp only [Act.put, List.setIfInBounds_toArray, List.set_cons_zero, List.set_cons_succ]
      refine wpAnyH_take (i := 19) (v := ?_) opAt_19 (by kernel_rfl) (by kernel_rfl) (by kernel_rfl) (fun _ _ _ h => h) (Or.inl ⟨by rfl, ?_⟩) hHeld ?_
      rotate_left
      · (intro w' hSw; obtain ⟨k0, k3⟩ := hSw; go_simp; try with_reducible rfl)
      try simp only [Act.put, List.setIfInBounds_toArray, List.set_cons_zero, List.set_cons_succ]
      refine wpAnyH_ready (rs := [20]) (by kernel_rfl) (by simp) ?_
      refine AllReadyH.cons rfl (fun K hK => ?_) AllReadyH.nil
      have f4 := HC4.out.f4
      have c4 := HC4.out.c4
      go_simp
      have hc5 := HC4.out.set4 s.last
      have HC5 := Lib.hid hc5
      refine hK.out _ _ ⟨hc5.c0, hc5.c3⟩ (fun hHeld => ?_)
      clear hK K
      try simp only [Act.put, List.setIfInBounds_toArray, List.set_cons_zero, List.set_cons_succ]
      refine wpAnyH_done (by kernel_rfl) ?_ _
      refine NoPanic.normal ?_
      go_wp2_with fail
      go_end0
      refine ⟨⟨_, rfl⟩, ?_⟩
      obtain ⟨w5, hw5⟩ : ∃ w5, w5 = ((w2.setCell ⟨X, 1, none⟩ (.map (some nb))).setCell ⟨X, 2, none⟩ (.slice none 0 0)).setCell ⟨X, 4, none⟩ (.int .u64 (s.last : Int)) := ⟨_, rfl⟩
      rw [← hw5]
      have hcX : Chg (fun i => i = X) w2 w5 := by rw [hw5]; exact ((((Chg.refl (M := fun i => i = X) (w := w2)).setCell (p := ⟨X, 1, none⟩) rfl _).setCell (p := ⟨X, 2, none⟩) rfl _).setCell (p := ⟨X, 4, none⟩) rfl _)
      have hc5 : HCells w5 X bs nb (.slice none 0 0) s.last s.last := by rw [hw5]; exact HC5.out
      have hsW : w.heap.size ≤ W.heap.size := HCh.out.size
      have hX := H.out.cells.lt
      have hge := Hge.out
      have hcw : Chg M w w5 := ((HCh.out.mono (N := M) (fun i hi => HOM.out i (.inr (.inl hi)))).trans (Chg.of_below (M := fun _ => False) HB2.out) (fun i hi => hi.elim)).trans hcX (fun i hi => .inl (HOM.out i (.inl hi)))
      have hms : MapAt w5 bs (s.settle j).safe := (HSf.out.on HB2.out).chg hcX (fun e => H.out.xs e.symm)
      have hmn : MapAt w5 nb (s.settle j).now := HM2.out.chg hcX (fun e => by omega)
      have hbs : bs < w.heap.size := H.out.safe.lt
      have hrows : ∀ i, HOwn X bs nb (.slice none 0 0) i → ¬ R i := by
        rintro i (rfl | rfl | rfl | hi)
        · exact H.out.rows _ (.inl rfl)
        · exact H.out.rows _ (.inr (.inl rfl))
        · intro e; have := HR.out _ e; omega
        · simp [Value.ownBlock] at hi
      have hFin : HFol w5 X bs nb R (.slice none 0 0) [] (s.settle j) := ⟨hc5, hms, hmn, World.ownsRow_nil _ _ _ _, DdsAt.nil_, by omega, hrows⟩
      refine ⟨fun i => HOwn X bs nb (.slice none 0 0) i, R, ⟨PSt.settle_ok Hho.out j, hrows, hFin.lt, fun i hi => Nat.lt_of_lt_of_le (HR.out i hi) hcw.size, bs, nb, _, [], hFin, by simp [Value.ownBlock], fun i h => h⟩, hcw, ?_, fun i hi => .inl hi⟩
      rintro i (rfl | rfl | rfl | hi)
      · exact .inl (HOM.out _ (.inl rfl))
      · exact .inl (HOM.out _ (.inr (.inl rfl)))
      · exact .inr (by omega)
      · simp [Value.ownBlock] at hi
set_option maxRecDepth 100000 in
theorem hsync (h : HFolM w X M R s) : Calls Tryz.prog 122 #[.pointer (some ⟨X, 0, none⟩)] w fun e w' => e = .returned (.int .i64 0) ∧ HMut w w' X M R (s.settle s.deeds.length) := by
  have H := Lib.hid h
  obtain ⟨bs, bn, Ad, cd, hc, hms, hmn⟩ := h.cells
  have Hc := Lib.hid hc
  have c2 := hc.c2
  have hset := hsettle h s.deeds.length (Nat.le_refl _)
  have HS := Lib.hid hset
  clear h hc hms hmn hset
  go_enter Tryz.func122, Tryz.ntmps122
  go_wp2_with fail
  refine (hmade Hc.out).mono ?_
  rintro e w' ⟨rfl, rfl⟩
  go_wp2_with fail
  refine HS.out.mono ?_
  rintro e w' ⟨⟨u, rfl⟩, hm⟩
  have HM := Lib.hid hm
  clear hm
  go_wp2_with fail
  go_ret
  exact ⟨rfl, HM.out⟩
/-- how many deeds a crash keeps -/
def keepN (k : Int) (n : Nat) : Nat := min k.toNat n
end
end Go.Proofs.YtaicibmaogiibaaGreatDoor

/-
  Layer 6: the program's folder: Copy.
-/
set_option linter.unusedVariables false
set_option linter.unusedSimpArgs false
namespace Go.Proofs.YtaicibmaogiibaaGreatDoor
open Go.RowKit Go.Maps

end Go.Proofs.YtaicibmaogiibaaGreatDoor

/- Shelf6S -/

/-
  The shelf's contracts laid at this dump, in plain words (tools/shelf.py): tables of numbers, and for each laying one theorem, a field a fact of the dump.
-/
namespace Go.Proofs.YtaicibmaogiibaaGreatDoor
open Go.Shelf

def Tryz.keysS_ren : Go.Shelf.Ren := ⟨fun | 7 => 141 | 10 => 174 | n => n, fun | 23 => 122 | 26 => 9 | 3 => 37 | 28 => 193 | 0 => 0 | 27 => 192 | 33 => 167 | 4 => 4 | n => n, fun | n => n⟩
theorem Tryz.keysS : Go.Proofs.SlLaysZ.n7 Tryz.prog Tryz.keysS_ren := {
  mixed := by kernel_rfl
  f7 := ⟨Tryz.f141.name, by decide, Tryz.func141.trans (congrArg some (by kernel_rfl))⟩
  f10 := ⟨Tryz.f174.name, by decide, Tryz.func174.trans (congrArg some (by kernel_rfl))⟩
  t0 := Tryz.underlying0
  a0 := Tryz.isAgg0
  z0 := Tryz.sizeOf0
  v0 := Tryz.zeroValue0
  t4 := Tryz.underlying4
  a4 := Tryz.isAgg4
  z4 := Tryz.sizeOf4
  v4 := Tryz.zeroValue4
  t23 := Tryz.underlying122
  a23 := Tryz.isAgg122
  z23 := Tryz.sizeOf122
  v23 := Tryz.zeroValue122
  t26 := Tryz.underlying9
  a26 := Tryz.isAgg9
  z26 := Tryz.sizeOf9
  v26 := Tryz.zeroValue9
  t27 := Tryz.underlying192
  a27 := Tryz.isAgg192
  z27 := Tryz.sizeOf192
  v27 := Tryz.zeroValue192
  t28 := Tryz.underlying193
  a28 := Tryz.isAgg193
  z28 := Tryz.sizeOf193
  v28 := Tryz.zeroValue193
  t33 := Tryz.underlying167
  a33 := Tryz.isAgg167
  z33 := Tryz.sizeOf167
  v33 := Tryz.zeroValue167 }

def Tryz.sortedS_ren : Go.Shelf.Ren := ⟨fun | 6 => 140 | 8 => 172 | 9 => 173 | 11 => 195 | 13 => 171 | 12 => 196 | 23 => 194 | 24 => 176 | 14 => 206 | 15 => 207 | 16 => 208 | 17 => 209 | 18 => 210 | 19 => 211 | 20 => 212 | 21 => 213 | 22 => 214 | 25 => 217 | 26 => 201 | 27 => 202 | 28 => 218 | 29 => 219 | 30 => 220 | 31 => 221 | n => n, fun | 26 => 9 | 28 => 193 | 24 => 69 | 0 => 0 | 3 => 3 | 37 => 158 | 48 => 23 | 50 => 37 | 4 => 4 | 40 => 236 | 39 => 235 | 45 => 241 | 5 => 5 | 9 => 9 | 51 => 249 | 55 => 252 | 57 => 262 | 58 => 263 | 33 => 167 | n => n, fun | n => n⟩
theorem Tryz.sortedS : Go.Proofs.SlLaysZ.n6 Tryz.prog Tryz.sortedS_ren := {
  mixed := by kernel_rfl
  f6 := ⟨Tryz.f140.name, by decide, Tryz.func140.trans (congrArg some (by kernel_rfl))⟩
  f8 := ⟨Tryz.f172.name, by decide, Tryz.func172.trans (congrArg some (by kernel_rfl))⟩
  f11 := ⟨Tryz.f195.name, by decide, Tryz.func195.trans (congrArg some (by kernel_rfl))⟩
  t0 := Tryz.underlying0
  a0 := Tryz.isAgg0
  z0 := Tryz.sizeOf0
  v0 := Tryz.zeroValue0
  t24 := Tryz.underlying69
  a24 := Tryz.isAgg69
  z24 := Tryz.sizeOf69
  v24 := Tryz.zeroValue69
  t26 := Tryz.underlying9
  a26 := Tryz.isAgg9
  z26 := Tryz.sizeOf9
  v26 := Tryz.zeroValue9
  t28 := Tryz.underlying193
  a28 := Tryz.isAgg193
  z28 := Tryz.sizeOf193
  v28 := Tryz.zeroValue193
  i26 := by kernel_rfl }

def Tryz.sortS_ren : Go.Shelf.Ren := ⟨fun | 6 => 173 | 8 => 171 | 9 => 196 | 19 => 194 | 20 => 176 | 21 => 206 | 22 => 207 | 23 => 208 | 24 => 209 | 25 => 210 | 26 => 211 | 27 => 212 | 28 => 213 | 29 => 214 | 36 => 217 | 31 => 201 | 32 => 202 | 37 => 218 | 38 => 219 | 39 => 220 | 41 => 221 | n => n, fun | 27 => 69 | 29 => 9 | 3 => 3 | 32 => 158 | 26 => 69 | 0 => 0 | 44 => 23 | 46 => 37 | 4 => 4 | 36 => 236 | 35 => 235 | 41 => 241 | 5 => 5 | 9 => 9 | 53 => 249 | 57 => 252 | 63 => 262 | 64 => 263 | n => n, fun | n => n⟩
theorem Tryz.sortS : Go.Proofs.SlLaysM.n6 Tryz.prog Tryz.sortS_ren := {
  mixed := by kernel_rfl
  f6 := ⟨Tryz.f173.name, by decide, Tryz.func173.trans (congrArg some (by kernel_rfl))⟩
  f8 := Tryz.func171.trans (congrArg some (by kernel_rfl))
  f9 := ⟨Tryz.f196.name, by decide, Tryz.func196.trans (congrArg some (by kernel_rfl))⟩
  f19 := Tryz.func194.trans (congrArg some (by kernel_rfl))
  f20 := Tryz.func176.trans (congrArg some (by kernel_rfl))
  f21 := ⟨Tryz.f206.name, by decide, Tryz.func206.trans (congrArg some (by kernel_rfl))⟩
  f22 := ⟨Tryz.f207.name, by decide, Tryz.func207.trans (congrArg some (by kernel_rfl))⟩
  f23 := ⟨Tryz.f208.name, by decide, Tryz.func208.trans (congrArg some (by kernel_rfl))⟩
  f24 := ⟨Tryz.f209.name, by decide, Tryz.func209.trans (congrArg some (by kernel_rfl))⟩
  f25 := ⟨Tryz.f210.name, by decide, Tryz.func210.trans (congrArg some (by kernel_rfl))⟩
  f26 := ⟨Tryz.f211.name, by decide, Tryz.func211.trans (congrArg some (by kernel_rfl))⟩
  f27 := ⟨Tryz.f212.name, by decide, Tryz.func212.trans (congrArg some (by kernel_rfl))⟩
  f28 := ⟨Tryz.f213.name, by decide, Tryz.func213.trans (congrArg some (by kernel_rfl))⟩
  f29 := ⟨Tryz.f214.name, by decide, Tryz.func214.trans (congrArg some (by kernel_rfl))⟩
  f31 := Tryz.func201.trans (congrArg some (by kernel_rfl))
  f32 := Tryz.func202.trans (congrArg some (by kernel_rfl))
  f36 := ⟨Tryz.f217.name, by decide, Tryz.func217.trans (congrArg some (by kernel_rfl))⟩
  f37 := ⟨Tryz.f218.name, by decide, Tryz.func218.trans (congrArg some (by kernel_rfl))⟩
  f38 := ⟨Tryz.f219.name, by decide, Tryz.func219.trans (congrArg some (by kernel_rfl))⟩
  f39 := ⟨Tryz.f220.name, by decide, Tryz.func220.trans (congrArg some (by kernel_rfl))⟩
  f41 := ⟨Tryz.f221.name, by decide, Tryz.func221.trans (congrArg some (by kernel_rfl))⟩
  t0 := Tryz.underlying0
  a0 := Tryz.isAgg0
  z0 := Tryz.sizeOf0
  v0 := Tryz.zeroValue0
  t3 := Tryz.underlying3
  a3 := Tryz.isAgg3
  z3 := Tryz.sizeOf3
  v3 := Tryz.zeroValue3
  t4 := Tryz.underlying4
  a4 := Tryz.isAgg4
  z4 := Tryz.sizeOf4
  v4 := Tryz.zeroValue4
  t5 := Tryz.underlying5
  a5 := Tryz.isAgg5
  z5 := Tryz.sizeOf5
  v5 := Tryz.zeroValue5
  t9 := Tryz.underlying9
  a9 := Tryz.isAgg9
  z9 := Tryz.sizeOf9
  v9 := Tryz.zeroValue9
  t26 := Tryz.underlying69
  a26 := Tryz.isAgg69
  z26 := Tryz.sizeOf69
  v26 := Tryz.zeroValue69
  t27 := Tryz.underlying69
  a27 := Tryz.isAgg69
  z27 := Tryz.sizeOf69
  v27 := Tryz.zeroValue69
  t29 := Tryz.underlying9
  a29 := Tryz.isAgg9
  z29 := Tryz.sizeOf9
  v29 := Tryz.zeroValue9
  t32 := Tryz.underlying158
  a32 := Tryz.isAgg158
  z32 := Tryz.sizeOf158
  v32 := Tryz.zeroValue158
  t35 := Tryz.underlying235
  a35 := Tryz.isAgg235
  z35 := Tryz.sizeOf235
  v35 := Tryz.zeroValue235
  t36 := Tryz.underlying236
  a36 := Tryz.isAgg236
  z36 := Tryz.sizeOf236
  v36 := Tryz.zeroValue236
  t41 := Tryz.underlying241
  a41 := Tryz.isAgg241
  z41 := Tryz.sizeOf241
  v41 := Tryz.zeroValue241
  t44 := Tryz.underlying23
  a44 := Tryz.isAgg23
  z44 := Tryz.sizeOf23
  v44 := Tryz.zeroValue23
  t46 := Tryz.underlying37
  a46 := Tryz.isAgg37
  z46 := Tryz.sizeOf37
  v46 := Tryz.zeroValue37
  t53 := Tryz.underlying249
  a53 := Tryz.isAgg249
  z53 := Tryz.sizeOf249
  v53 := Tryz.zeroValue249
  t57 := Tryz.underlying252
  a57 := Tryz.isAgg252
  z57 := Tryz.sizeOf252
  v57 := Tryz.zeroValue252
  t63 := Tryz.underlying262
  a63 := Tryz.isAgg262
  z63 := Tryz.sizeOf262
  v63 := Tryz.zeroValue262
  t64 := Tryz.underlying263
  a64 := Tryz.isAgg263
  z64 := Tryz.sizeOf263
  v64 := Tryz.zeroValue263 }

end Go.Proofs.YtaicibmaogiibaaGreatDoor

/- HxNames -/

/-
  Layer 6: the program's folder: the names of a map, sorted.
-/
set_option linter.unusedVariables false
set_option linter.unusedSimpArgs false
namespace Go.Proofs.YtaicibmaogiibaaGreatDoor
open Go.RowKit Go.Maps Go.Sort Go.Shelf

theorem hkeys (mb : Option Nat) (W : World) : Calls Tryz.prog 141 #[.map mb] W fun e w' => e = .returned (.func (.func 174) #[] #[.pointer (some ⟨W.heap.size, 0, none⟩)]) ∧ w' = W.alloc (.cells #[.map mb] 122) :=
  callsIn_wide.1 (AnyZ.keys_in Tryz.keysS Fence.wide 5 trivial rfl mb W)
theorem hsorts (m : Nat) : AnyZ.SortsIn Tryz.prog Tryz.sortedS_ren Fence.wide m :=
  ⟨fun blk off cap ss W hH hblk hsz => callsIn_wide.2 (AnyM.slices_Sort_string Tryz.sortS blk off cap ss W hH hblk hsz),
   fun p cap W => callsIn_wide.2 (AnyM.slices_Sort_string_none Tryz.sortS p cap W)⟩
theorem mergeSort_names {es : List Ent} (h : SortE es) : (es.map fun x => x.1.data.toList).mergeSort leB = es.map fun x => x.1.data.toList := by
  apply List.mergeSort_of_pairwise
  rw [List.pairwise_map]
  refine h.imp ?_
  intro a b hl
  have h2 := ltN_iff.1 hl
  rw [ByteArray.toList_eq, ByteArray.toList_eq] at h2
  simp only [leB, decide_eq_true_eq]
  exact List.le_of_lt h2
set_option maxHeartbeats 1000000 in
theorem hnames {w : World} {b : Nat} {es : List Ent} (h : MapAt w b es) (hl : es.length ≤ 1000000) :
    Calls Tryz.prog 140 #[.func (.func 174) #[] #[.pointer (some ⟨w.heap.size, 0, none⟩)]] (w.alloc (.cells #[.map (some b)] 122)) fun e w' => ∃ v, e = .returned v ∧
      w'.ownsRow (w.heap.size + 1) 9 1 v es.length (es.map fun x => Value.string x.1) ∧ Below (w.heap.size + 1) (w.alloc (.cells #[.map (some b)] 122)) w' := by
  obtain ⟨ho, D0, hown, hr⟩ := h
  have hsz := size_es hown hr ho.1
  have hbl := hown.lt
  have hseq : SeqGives Fence.wide 2 Tryz.prog 174 #[.pointer (some ⟨w.heap.size, 0, none⟩)] encStr (fun ss => ss.Perm (strKeys D0)) (Maps.size D0) (w.alloc (.cells #[.map (some b)] 122)) :=
    AnyZ.keys_gives (ρ := Tryz.keysS_ren) { Tryz.keysS with } Fence.wide _ trivial rfl (by omega) w.heap.size b es.length D0 _ (by simp) (by simp) (by
      obtain ⟨es', clock, hb, Ft, hs, hD⟩ := hown
      exact ⟨es', clock, (Below.heap_alloc _ _ b hbl).trans hb, Ft, hs, hD⟩)
  have hcon := AnyZ.sorted_in Tryz.sortedS Fence.wide 5 trivial trivial trivial trivial rfl (by omega) (hsorts _) (enters_of Tryz.func173 (by kernel_rfl) rfl) 174 #[.pointer (some ⟨w.heap.size, 0, none⟩)] trivial (enters_of Tryz.func174 (by kernel_rfl) rfl) _ _ (by unfold maxLen; omega) (by omega) _ hseq
  have hcon2 := callsIn_wide.1 hcon
  change Calls Tryz.prog 140 _ _ _ at hcon2
  refine hcon2.mono ?_
  rintro e w' ⟨v, ss, rfl, hS, hrow, hnil, hb⟩
  have hperm := (names_perm hown hr ho.1)
  have hms : ss.mergeSort leB = es.map fun x => x.1.data.toList := by rw [mergeSort_of_perm (hS.trans hperm.symm), mergeSort_names ho.1]
  have hlen : ss.length = es.length := by have := (hS.trans hperm.symm).length_eq; simpa using this
  refine ⟨v, rfl, ?_, ?_⟩
  · have e1 : (ss.mergeSort leB).map encStr = es.map fun x => Value.string x.1 := by
      rw [hms, List.map_map]
      refine List.map_congr_left fun x _ => ?_
      simp [encStr]
    rw [e1, hlen] at hrow
    have hrow2 : w'.ownsRow (w.alloc (.cells #[.map (some b)] 122)).heap.size 9 1 v es.length (es.map fun x => Value.string x.1) := hrow
    simpa using hrow2
  · simpa using hb
end Go.Proofs.YtaicibmaogiibaaGreatDoor

/-
  Layer 6: the program's folder: List.
-/
set_option linter.unusedVariables false
set_option linter.unusedSimpArgs false
namespace Go.Proofs.YtaicibmaogiibaaGreatDoor
open Go.RowKit Go.Maps

theorem fent_info : (Tryz.prog.info? 153).map (fun i => (i.zero, i.size, i.bytes)) = some (some (.agg #[.string .empty, .int .u64 0]), 2, 24) := by kernel_rfl
set_option maxRecDepth 100000 in
set_option maxHeartbeats 4000000 in
theorem hlist_c {w : World} {X bs bn : Nat} {vd : Value} {last settled : Nat} {es : List Ent} (hc : HCells w X bs bn vd last settled) (hm : MapAt w bn es) (hl : es.length ≤ 100000) :
    Calls Tryz.prog 103 #[.pointer (some ⟨X, 0, none⟩)] w fun e w' => ∃ v, e = .returned v ∧ w'.ownsRow w.heap.size 153 2 v es.length (evs es) ∧ Below w.heap.size w w' := by
  obtain ⟨i0, hi0, hz0, hz1, hz2⟩ := info_parts fent_info
  have HC := Lib.hid hc
  have HM := Lib.hid hm
  have c1 := hc.c1
  clear hc hm
  go_enter Tryz.func103, Tryz.ntmps103
  go_wp2_with fail
  refine (hmade HC.out).mono ?_
  rintro e w' ⟨rfl, rfl⟩
  go_wp2_with fail
  refine (hkeys _ _).mono ?_
  rintro e w' ⟨rfl, rfl⟩
  go_wp2_with fail
  refine (hnames HM.out (by omega)).mono ?_
  rintro e w1 ⟨v, rfl, ho1, hb1⟩
  have hbw1 : Below w.heap.size w w1 := ((Below.refl _ _).alloc (Nat.le_refl _) _).trans (hb1.mono (by omega))
  obtain ⟨As, cs, rfl, hcs, hcm, _⟩ := own_slice ho1
  have hrd := Rd.of_own ho1
  obtain ⟨k, hk⟩ : ∃ k, k = es.length := ⟨_, rfl⟩
  rw [← hk] at hl hcs
  rw [← hk]
  have HRd := Lib.hid hrd
  have HBW := Lib.hid hbw1
  have Hk := Lib.hid hk
  have HC1 := Lib.hid (HC.out.on hbw1)
  have HM1 := Lib.hid (HM.out.on hbw1)
  clear hb1 hbw1 ho1 hrd hk c1
  go_wp2_with fail
  go_loopw [3, 16] (fun o i wr => ∃ j : Nat, j ≤ k ∧ i = .int .i64 j ∧ wr.ownsRow w1.heap.size 153 2 o j (evs (es.take j)) ∧ Below w1.heap.size w1 wr) (fun _ i _ => k - (intOf i).toNat)
  case atStart => exact ⟨0, by omega, rfl, by simpa [evs] using World.ownsRow_nil _ _ _ _, Below.refl _ _⟩
  case round =>
    obtain ⟨j, hj, rfl, hown, hb⟩ := hrel
    have HB := Lib.hid hb
    by_cases hjl : j < k
    · obtain ⟨x, hx⟩ : ∃ x, es[j]? = some x := ⟨es[j]'(by have := Hk.out; omega), List.getElem?_eq_getElem _⟩
      obtain ⟨bb, oo, rfl, hbb, hcc⟩ := HRd.out (by intro e; rw [List.map_eq_nil_iff] at e; have h9 := Hk.out; rw [e] at h9; simp at h9; omega)
      have cj : wr.cell? ⟨bb, oo + j, none⟩ = some (.string x.1) := (hb.cell (p := ⟨bb, oo + j, none⟩) hbb).trans (hcc j _ (by rw [List.getElem?_map, hx]; rfl))
      have hxm : x ∈ es := List.mem_of_getElem? hx
      have c1 := (HC1.out.on hb).c1
      have hlk := ((HM1.out.on hb).look (n := x.1) (by have := (HM1.out.1.2 x hxm).1; unfold maxLen; omega)).2
      rw [(findL_iff HM1.out.1.1).2 hxm] at hlk
      simp only [Option.getD_some] at hlk
      have HX := Lib.hid hx
      obtain ⟨Ao, co, rfl, _, _, _⟩ := own_slice hown
      have HO := Lib.hid hown
      have hwb : w1.heap.size ≤ wr.heap.size := hb.size
      have HRn : Hid (Rd (wr.alloc (.cells #[.string x.1, .int .u64 (x.2 : Int)] 153)) (wr.heap.size + 1) (some ⟨wr.heap.size, 0, none⟩) (evs [x])) := fun _ => ⟨wr.heap.size, 0, rfl, by omega, fun i u hu => by
        rw [Nat.zero_add, World.cell?_alloc_new]
        simpa [evs, encE] using hu⟩
      clear hcc hx hxm hown hb
      go_wp2_with (at_builtin; (refine wpList_append_rd _ rfl _ _ 150 rfl w1.heap.size 153 i0 (.agg #[.string .empty, .int .u64 0]) 2 24 Tryz.underlying150 hi0 hz0 hz1 hz2 rfl (by omega) (.slice Ao j co) j (evs (es.take j)) rfl (HO.out.alloc _) (wr.heap.size + 1) (some ⟨wr.heap.size, 0, none⟩) 1 1 (evs [x]) rfl (by simp [evs, encE]) HRn.out (evs_one _) (by unfold maxLen; omega) (by omega) (by simp; omega) ?_); intro v3 w3 hown3 hb3 _ _; (have HO3 := Lib.hid hown3); (have HB3 := Lib.hid hb3); clear hown3 hb3)
      have hfin : w3.ownsRow w1.heap.size 153 2 v3 (j + 1) (evs (es.take (j + 1))) := by
        rw [take_next6 HX.out, evs_append]
        exact HO3.out
      have hbf : Below w1.heap.size w1 w3 := (HB.out.alloc HB.out.size _).trans HB3.out
      have HF := Lib.hid hfin
      have HBF := Lib.hid hbf
      clear hfin hbf
      go_roundw
      case rel => exact ⟨j + 1, by omega, by go_num, HF.out, HBF.out⟩
      case measure => simp [intOf]; omega
    · obtain rfl : j = k := by omega
      have HO := Lib.hid hown
      clear hown hb
      go_wp2_with fail
      go_ret
      have he : es.take j = es := List.take_of_length_le (by have := Hk.out; omega)
      have h1 := HO.out
      rw [he, Hk.out] at h1
      exact ⟨_, rfl, own_base h1 HBW.out.size, HBW.out.trans (HB.out.mono HBW.out.size)⟩
end Go.Proofs.YtaicibmaogiibaaGreatDoor

/-
  Layer 6: the program's folder: the inodes of a map, in whatever order: maps.Values, slices.AppendSeq, slices.Collect at uint64.
-/
set_option linter.unusedVariables false
set_option linter.unusedSimpArgs false
namespace Go.Proofs.YtaicibmaogiibaaGreatDoor
open Go.RowKit Go.Maps Go.Sort Go.Shelf
attribute [local go_sem] Oper.semAt_some

abbrev encU (i : Nat) : Value := .int .u64 (i : Int)
/-- some of the entries have come, in some order -/
def Come (es ps : List Ent) : Prop := (ps.map (·.1)).Nodup ∧ ∀ p ∈ ps, p ∈ es
theorem Come.perm {es ps : List Ent} (h : Come es ps) (hs : SortE es) (hall : ∀ x ∈ es, x.1 ∈ ps.map (·.1)) : ps.Perm es := by
  have hnd : ps.Nodup := (List.pairwise_map.1 h.1).imp (by intro a b hn e; exact hn (by rw [e]))
  refine (List.perm_ext_iff_of_nodup hnd hs.nodup).2 fun x => ⟨h.2 x, fun hx => ?_⟩
  obtain ⟨y, hy, e⟩ := List.mem_map.1 (hall x hx)
  have hy2 := h.2 y hy
  have : x.2 = y.2 := hs.one (n := x.1) hx (by rw [← e]; exact hy2)
  have e2 : x = y := Prod.ext e.symm this
  rw [e2]
  exact hy
set_option maxRecDepth 100000 in
set_option maxHeartbeats 1000000 in
theorem hvals1_in (n : Nat) (hn : 1 ≤ n) (l Bm b : Nat) (es : List Ent) (J Jx : List Nat → World → Prop)
    (hY : ∀ pre x W, J pre W → pre.length < es.length → YieldAt Fence.wide (n - 1) Tryz.prog l #[encU x] W fun e W' =>
      (e = .returned (.bool true) ∧ J (pre ++ [x]) W' ∧ KeepsWalks W W') ∨ (e = .returned (.bool false) ∧ Jx (pre ++ [x]) W'))
    (W : World) (hJ : AbidesFrom W.heap.size J) (hm : W.cell? ⟨Bm, 0, none⟩ = some (.map (some b))) (hmap : MapAt W b es) (h0 : J [] W) :
    CallsIn Fence.wide n Tryz.prog 139 #[.func (.yield l) #[] #[], .pointer (some ⟨Bm, 0, none⟩)] W fun e W' => (∃ v, e = .returned v) ∧
      ((∃ xs, (∃ ps, Come es ps ∧ ps.Perm es ∧ xs = ps.map (·.2)) ∧ J xs W') ∨ (∃ pre, True ∧ Jx pre W')) := by
  obtain ⟨ho, D0, hown, hr⟩ := hmap
  have hsz := size_es hown hr ho.1
  refine callsIn_of_wp Tryz.func139 rfl trivial ?_ rfl
  simp only [Tryz.ntmps139, List.size_toArray, List.length_cons, List.length_nil, Nat.reduceAdd, Nat.reduceSub, Array.replicate_succ, Array.replicate_zero, List.push_toArray, List.append_toArray, List.nil_append, List.cons_append]
  gi_wp2_with (first
    | (gi_at_range; refine wpListIn_range_own _ rfl _ 122 rfl 9 37 keyedS Tryz.underlying122 _ b es.length _ rfl hown ?_; intro w0 hrg0 hg0 hs0)
    | gi_in)
  go_frame
  gi_loopw [4] (fun _ wr => ∃ (left : Lit → Bool) (cnt : Nat) (ps : List Ent), wr.ranges Tryz.prog 9 (plainElem Tryz.prog 37) b W.heap.size es.length D0 left cnt ∧ ps.length + cnt ≤ es.length ∧ Collected D0 left (ps.map (·.1.data.toList)) ∧ Come es ps ∧ J (ps.map (·.2)) wr)
    (fun _ wr => wr.rangeLeft b W.heap.size)
  case atStart =>
    exact ⟨_, _, [], hrg0, by simp [hsz], Collected.start D0, ⟨by simp, by simp⟩, hJ [] W w0 none h0 hg0 (fun r e => by cases e)⟩
  case round =>
    obtain ⟨left, cnt, ps, hrg, hcs, hC, hV, hJs⟩ := hrel
    gi_wp2_with (first
      | (gi_at_next; refine wpListIn_next_ranges _ rfl _ rfl 9 keyedS (plainElem Tryz.prog 37) encStr (Value.int .u64) (fun key kl hk => by obtain ⟨x, hx, _⟩ := Maps.keyOf_str Tryz.underlying9 hk; exact ⟨x, hx⟩) (fun v z hv => by obtain ⟨a, ha, _⟩ := plainElem_int_inv Tryz.underlying37 hv; exact ⟨a, ha⟩) b W.heap.size es.length _ _ _ rfl hrg ?_ ?_)
      | gi_in)
    · -- nothing is left
      intro hc0 hl0
      gi_wp2
      go_end0
      refine ⟨⟨_, rfl⟩, .inl ⟨_, ⟨ps, hV, hV.perm ho.1 (fun x hx => ?_), rfl⟩, hJs⟩⟩
      have h1 : x.1.data.toList ∈ ps.map (·.1.data.toList) := (hC.2 _).2 ⟨by
        have := hr.has x.1
        rw [(findL_iff ho.1).2 hx] at this
        exact this, hl0 _⟩
      obtain ⟨y, hy, e⟩ := List.mem_map.1 h1
      exact List.mem_map.2 ⟨y, hy, toList_inj (by rw [ByteArray.toList_eq, ByteArray.toList_eq]; exact e)⟩
    · -- an entry has come
      intro x c kl yd yp w2 cnt2 hkey hlk hv hat hrg2 hlt hg2 hs2 hen
      obtain ⟨x', ex, rfl, _⟩ := Maps.keyOf_str Tryz.underlying9 hkey
      obtain rfl : x = x' := encStr_inj ex
      obtain ⟨c', ec, ez, _⟩ := plainElem_int_inv Tryz.underlying37 hv
      obtain rfl : c = c' := by simpa using ec
      obtain rfl : yd = .lit (.int .u64 c) := (Prod.mk.inj ez).1
      have hhas : Maps.has D0 (.string x) = true := has_true_of_atKey hat
      have ekn : (.string x : Lit) = kn ⟨x.toArray⟩ := by simp [kn]
      rw [ekn, hr.has] at hhas
      obtain ⟨i, hi⟩ := Option.isSome_iff_exists.1 hhas
      have hci : c = (i : Int) := by
        have h1 := hat (.lit (.int .u64 0))
        rw [ekn, hr.some_ hi] at h1
        injection h1 with h1
        injection h1 with _ h1
        exact h1.symm
      subst hci
      have hmem := findL_mem hi
      have hJ2 : J (ps.map (·.2)) w2 := hJ _ wr w2 (some W.heap.size) hJs hg2 (fun r e => by cases e; exact ⟨Nat.le_refl _, hrg.iter_walk⟩)
      obtain ⟨fn, tmps, assign, body, hy, hR⟩ := hY (ps.map (·.2)) i w2 hJ2 (by simp; omega)
      dsimp only [encU] at hy
      clear hs2
      gi_wp2
      refine hR.mono ?_
      have hC2 : Collected D0 (fun z => left z && !z.sameKey (.string x)) ((ps ++ [((⟨x.toArray⟩ : ByteArray), i)]).map (fun p : Ent => p.1.data.toList)) := by simpa using hC.step hlk hat
      have hV2 : Come es (ps ++ [(⟨x.toArray⟩, i)]) := by
        refine ⟨?_, fun p hp => (List.mem_append.1 hp).elim (hV.2 p) (fun e => by simp at e; subst e; exact hmem)⟩
        have h1 := hC2.1
        have h2 : ((ps ++ [((⟨x.toArray⟩ : ByteArray), i)]).map (·.1)).Pairwise (fun a b => a.data.toList ≠ b.data.toList) := by
          rw [List.pairwise_map]
          rw [List.nodup_iff_pairwise_ne, List.pairwise_map] at h1
          exact h1
        exact h2.imp (by intro a b hn e; exact hn (by rw [e]))
      rintro e W3 (⟨rfl, hJ3, hk3⟩ | ⟨rfl, hJx3⟩)
      · gi_wp2
        have hrg3 := hrg2.of_walks hk3
        go_roundw
        case rel => exact ⟨_, cnt2, ps ++ [(⟨x.toArray⟩, i)], hrg3, by simp; omega, hC2, hV2, by simpa using hJ3⟩
        case measure => rw [hrg3.left_eq, hrg.left_eq]; exact hlt
      · gi_wp2
        refine bodyPost_ret (results_none rfl _ _ _) rfl ?_
        exact ⟨⟨_, rfl⟩, .inr ⟨_, trivial, hJx3⟩⟩
theorem hvals_stops (n : Nat) (hn : 1 ≤ n) (Bm b : Nat) (es : List Ent) (w : World) (hBm : Bm < w.heap.size) (hm : w.cell? ⟨Bm, 0, none⟩ = some (.map (some b))) (hmap : MapAt w b es) :
    SeqStops Fence.wide n Tryz.prog 139 #[.pointer (some ⟨Bm, 0, none⟩)] encU (fun xs => ∃ ps, Come es ps ∧ ps.Perm es ∧ xs = ps.map (·.2)) (fun _ => True) es.length w := fun l J Jx W hW hJ _ hY h0 =>
  hvals1_in n hn l Bm b es J Jx hY W hJ ((hW.cell (p := ⟨Bm, 0, none⟩) hBm).trans hm) (hmap.on hW) h0
theorem hvalues (mb : Option Nat) (w : World) : Calls Tryz.prog 100 #[.map mb] w fun e w' => e = .returned (.func (.func 139) #[] #[.pointer (some ⟨w.heap.size, 0, none⟩)]) ∧ w' = w.alloc (.cells #[.map mb] 122) := by
  go_enter Tryz.func100, Tryz.ntmps100
  go_wp2
  go_ret
  exact ⟨rfl, rfl⟩
end Go.Proofs.YtaicibmaogiibaaGreatDoor

/-
  Layer 6: the program's folder: slices.AppendSeq, slices.Collect at uint64.
-/
set_option linter.unusedVariables false
set_option linter.unusedSimpArgs false
namespace Go.Proofs.YtaicibmaogiibaaGreatDoor
open Go.RowKit Go.Maps Go.Sort Go.Shelf
attribute [local go_sem] Oper.semAt_some

theorem u64_info : (Tryz.prog.info? 37).map (fun i => (i.zero, i.size, i.bytes)) = some (some (.int .u64 0), 1, 8) := by kernel_rfl
set_option maxRecDepth 100000 in
set_option maxHeartbeats 2000000 in
theorem happ_in (n : Nat) (hn : 2 ≤ n) (g : Nat) (lb : Array Value) (eg : ∀ args w, (callFunc g args).run Tryz.prog w = .ok (.enter g args) w)
    (S : List Nat → Prop) (N : Nat) (hN : N ≤ 1000000) (w : World) (hseq : SeqStops Fence.wide (n - 1) Tryz.prog g lb encU S (fun _ => True) N w) :
    CallsIn Fence.wide n Tryz.prog 169 #[.slice none 0 0, .func (.func g) #[] lb] w fun e w' => ∃ (v : Value) (xs : List Nat), e = .returned v ∧ S xs ∧ w'.ownsRow w.heap.size 37 1 v xs.length (xs.map encU) ∧ (v = .slice none 0 0 ↔ xs = []) ∧ Below w.heap.size w w' := by
  have h1 : 1 ≤ n := by omega
  obtain ⟨i0, hi0, hz0, hz1, hz2⟩ := info_parts u64_info
  refine callsIn_of_wp_marks Tryz.func169 rfl trivial ?_ rfl
  simp only [Tryz.ntmps169, List.size_toArray, List.length_cons, List.length_nil, Nat.reduceAdd, Nat.reduceSub, Array.replicate_succ, Array.replicate_zero, List.push_toArray, List.append_toArray, List.nil_append, List.cons_append]
  gi_wp2
  obtain ⟨W0, hW0⟩ : ∃ W0, w.alloc (.cells #[.slice none 0 0] 101) = W0 := ⟨_, rfl⟩
  have hs0 : W0.heap.size = w.heap.size + 1 := by rw [← hW0]; simp
  have hB0 : Boxed W0 w.heap.size 101 (.slice none 0 0) := by rw [← hW0]; exact Boxed.new w _ _
  have hb0 : Below w.heap.size w W0 := by rw [← hW0]; exact (Below.refl _ w).alloc (Nat.le_refl _) _
  rw [hW0]
  refine wpIn_rangeFunc_ownF rfl h1 (gf := g) (lb := lb) rfl trivial eg hseq walksK_t walksK_b hb0 (fun _ => rfl)
    (fun pre W => (∃ v, Boxed W w.heap.size 101 v ∧ W.ownsRow w.heap.size 37 1 v pre.length (pre.map encU) ∧ (v = .slice none 0 0 ↔ pre = [])) ∧ Below w.heap.size w W)
    (fun _ _ _ => False)
    (OwnFrom.and (Own.from (holdsRow_own w.heap.size w.heap.size 101 37 1 (fun pre : List Nat => pre.length) (fun pre => pre.map encU) (fun pre v => v = .slice none 0 0 ↔ pre = [])) _) (ownFrom_below (Nat.le_refl _) (by omega)))
    (fun c s A B row hs hg hr => hs)
    ⟨⟨_, hB0, World.ownsRow_nil _ _ _ _, by simp⟩, hb0⟩
    (fun x => { tmps := #[.slice none 0 0, .func (.func g) #[] lb, .pointer (some ⟨w.heap.size, 0, none⟩), undef, .slice none 0 0, encU x, .func (.func g) #[] lb, encU x, undef, undef, undef, undef, undef], defers := [] }) ?assign ?body ?done ?stop
  case assign =>
    intro l x W K hK
    gi_wp2
    exact hK
  case body =>
    rintro l pre x W ⟨⟨v, hv, hrow, hnil⟩, hB⟩ hlt
    have hvc := hv.cell
    gi_wp2_with (first
      | (gi_at_builtin; refine wpListIn_append_own _ rfl _ _ 101 rfl w.heap.size 37 i0 (.int .u64 0) 1 8 Tryz.underlying101 hi0 hz0 hz1 hz2 rfl (by decide) _ _ _ rfl (hrow.alloc _) ⟨W.heap.size, 0, none⟩ 1 1 [encU x] rfl rfl (cell_one_new _ _ _) (by simp [Value.oneCell']) (by unfold maxLen; omega) (by omega) (by have := hB.size; simp; omega) ?_; intro v' w1 hown' hgrow _; obtain ⟨g', cap', rfl⟩ := ownsRow_succ hown'; obtain ⟨hv1, hv2, hr2, hk2, hb2⟩ := hv.appended (by decide) hrow hB.size (Nat.le_refl _) hown' hgrow; have hc1 := hv1.cell; have hf1 := hv1.frozen)
      | gi_in)
    exact ⟨hk2, hk2.walks, ⟨⟨_, hv2, by simpa using hr2, by simp⟩, hB.trans hb2⟩⟩
  case done =>
    rintro D xs W hD hS ⟨⟨v, hv, hrow, hnil⟩, hB⟩ hK
    have hvc := hv.cell
    gi_wp2
    refine ⟨by simp, .inl ⟨_, _, rfl, run_takeDeferred hK, ?_⟩⟩
    exact ⟨_, results_tmp rfl _ _ _, v, xs, rfl, hS, ownsRow_putObj hrow _ hK rfl, hnil, hB.trans (belowK_b (w := w) (Nat.le_refl _) W D _ _ (by omega) hK rfl rfl)⟩
  case stop =>
    rintro D c pre W hD _ hf
    exact hf.elim
theorem hcollect {w : World} (g : Nat) (lb : Array Value) (eg : ∀ args w, (callFunc g args).run Tryz.prog w = .ok (.enter g args) w)
    (S : List Nat → Prop) (N : Nat) (hN : N ≤ 1000000) (hseq : ∀ n, 1 ≤ n → SeqStops Fence.wide n Tryz.prog g lb encU S (fun _ => True) N w) :
    Calls Tryz.prog 137 #[.func (.func g) #[] lb] w fun e w' => ∃ (v : Value) (xs : List Nat), e = .returned v ∧ S xs ∧ w'.ownsRow w.heap.size 37 1 v xs.length (xs.map encU) ∧ (v = .slice none 0 0 ↔ xs = []) ∧ Below w.heap.size w w' := by
  have hc := callsIn_wide.1 (happ_in 2 (by omega) g lb eg S N hN w (hseq 1 (by omega)))
  go_enter Tryz.func137, Tryz.ntmps137
  go_wp2_with fail
  refine hc.mono ?_
  rintro e w' ⟨v, xs, rfl, hS, hrow, hnil, hb⟩
  go_wp2_with fail
  go_ret
  exact ⟨v, xs, rfl, hS, hrow, hnil, hb⟩
set_option maxRecDepth 100000 in
theorem hins0 (w : World) : Calls Tryz.prog 185 #[.slice none 0 0, .int .i64 0, .int .i64 0] w fun e w' => (∃ u, e = .returned u) ∧ w = w' := by
  go_enter Tryz.func185, Tryz.ntmps185
  go_wp2_with fail
  go_loopw [6] (fun i wr => i = .int .i64 1 ∧ w = wr) (fun _ _ => 0)
  case atStart => exact ⟨rfl, rfl⟩
  case round =>
    obtain ⟨rfl, rfl⟩ := hrel
    go_wp2_with fail
    go_end0
    exact ⟨⟨_, rfl⟩, rfl⟩
set_option maxRecDepth 100000 in
theorem hpdq0 (w : World) (k : Int) : Calls Tryz.prog 170 #[.slice none 0 0, .int .i64 0, .int .i64 0, .int .i64 k] w fun e w' => (∃ u, e = .returned u) ∧ w = w' := by
  go_enter Tryz.func170, Tryz.ntmps170
  go_wp2_with fail
  go_loopw [1, 2, 10] (fun a b _ wr => a = .int .i64 0 ∧ b = .int .i64 0 ∧ w = wr) (fun _ _ _ _ => 0)
  case atStart => exact ⟨rfl, rfl, rfl⟩
  case round =>
    obtain ⟨rfl, rfl, rfl⟩ := hrel
    go_wp2_with (go_at_call 185; refine (hins0 _).mono ?_; rintro e w' ⟨⟨u, rfl⟩, rfl⟩)
    refine bodyPost_ret (results_none rfl _ _ _) rfl ?_
    exact ⟨⟨_, rfl⟩, rfl⟩
set_option maxRecDepth 100000 in
theorem hlen0 (w : World) : Calls Tryz.prog 171 #[.int .u64 0] w fun e w' => (∃ k : Int, e = .returned (.int .i64 k)) ∧ w = w' := by
  go_enter Tryz.func171, Tryz.ntmps171
  go_wp2
  go_ret
  exact ⟨⟨_, rfl⟩, rfl⟩
set_option maxRecDepth 100000 in
theorem hsort0 (w : World) : Calls Tryz.prog 138 #[.slice none 0 0] w fun e w' => (∃ u, e = .returned u) ∧ w = w' := by
  go_enter Tryz.func138, Tryz.ntmps138
  go_wp2_with (first
    | (go_at_call 171; refine (hlen0 _).mono ?_; rintro e w' ⟨⟨k, rfl⟩, rfl⟩)
    | (go_at_call 170; refine (hpdq0 _ _).mono ?_; rintro e w' ⟨⟨u, rfl⟩, rfl⟩))
  go_end0
  exact ⟨⟨_, rfl⟩, rfl⟩
end Go.Proofs.YtaicibmaogiibaaGreatDoor

/-
  Layer 6: the program's folder: Live, over whatever slices.Sorted tells of the safe inodes.
-/
set_option linter.unusedVariables false
set_option linter.unusedSimpArgs false
namespace Go.Proofs.YtaicibmaogiibaaGreatDoor
open Go.RowKit Go.Maps Go.Sort Go.Shelf

/-- what Live tells -/
def liveP (xs : List Nat) (settled last : Nat) : List Nat := xs ++ List.range' (settled + 1) (last - settled)
theorem liveP_next {xs : List Nat} {s j : Nat} : xs ++ List.range' (s + 1) (j + 1) = (xs ++ List.range' (s + 1) j) ++ [s + 1 + j] := by
  rw [List.range'_concat, List.append_assoc]
  simp
/-- slices.Sorted's contract at the inodes of the map in block b -/
def SortedAt (w : World) (b : Nat) (xs : List Nat) : Prop :=
  Calls Tryz.prog 99 #[.func (.func 139) #[] #[.pointer (some ⟨w.heap.size, 0, none⟩)]] (w.alloc (.cells #[.map (some b)] 122)) fun e w' => ∃ v, e = .returned v ∧
    w'.ownsRow (w.heap.size + 1) 37 1 v xs.length (xs.map encU) ∧ Below (w.heap.size + 1) (w.alloc (.cells #[.map (some b)] 122)) w'
set_option maxRecDepth 100000 in
set_option maxHeartbeats 4000000 in
theorem hlive_c {w : World} {X bs bn : Nat} {vd : Value} {last settled : Nat} {xs : List Nat} (hc : HCells w X bs bn vd last settled) (hs : SortedAt w bs xs) (hx : xs.length ≤ 100000) (hl : settled ≤ last) (hl2 : last ≤ 100000) :
    Calls Tryz.prog 54 #[.pointer (some ⟨X, 0, none⟩)] w fun e w' => ∃ v, e = .returned v ∧ w'.ownsRow w.heap.size 37 1 v (liveP xs settled last).length ((liveP xs settled last).map encU) ∧ Below w.heap.size w w' := by
  obtain ⟨i0, hi0, hz0, hz1, hz2⟩ := info_parts u64_info
  have HC := Lib.hid hc
  have HS := Lib.hid hs
  have c0 := hc.c0
  clear hc hs
  go_enter Tryz.func54, Tryz.ntmps54
  go_wp2_with fail
  refine (hmade HC.out).mono ?_
  rintro e w' ⟨rfl, rfl⟩
  go_wp2_with fail
  refine (hvalues _ _).mono ?_
  rintro e w' ⟨rfl, rfl⟩
  go_wp2_with fail
  refine Calls.mono HS.out ?_
  rintro e w1 ⟨v, rfl, ho1, hb1⟩
  have hbw1 : Below w.heap.size w w1 := ((Below.refl _ _).alloc (Nat.le_refl _) _).trans (hb1.mono (by omega))
  have HBW := Lib.hid hbw1
  have HC1 := Lib.hid (HC.out.on hbw1)
  have HO1 := Lib.hid (own_base ho1 (Nat.le_succ _))
  have c4 := HC1.out.c4
  have hw1 : IntKind.u64.wrap ((settled : Int) + 1) = ((settled + 1 : Nat) : Int) := by
    rw [show ((settled : Int) + 1) = ((settled + 1 : Nat) : Int) by omega]
    exact IntWalk.u64_in _ (by omega)
  clear hb1 hbw1 ho1 c0
  go_wp2_with fail
  clear c4
  go_loopw [3, 4] (fun o i wr => ∃ j : Nat, settled + j ≤ last ∧ i = .int .u64 ((settled + 1 + j : Nat) : Int) ∧ wr.ownsRow w.heap.size 37 1 o (xs.length + j) ((xs ++ List.range' (settled + 1) j).map encU) ∧ Below w.heap.size w wr) (fun _ i _ => last + 1 - (intOf i).toNat)
  case atStart => exact ⟨0, by omega, by go_num, by simpa using HO1.out, HBW.out⟩
  case round =>
    obtain ⟨j, hj, rfl, hown, hb⟩ := hrel
    have hcr := HC.out.on hb
    have c3 := hcr.c3
    have HO := Lib.hid hown
    have HB := Lib.hid hb
    obtain ⟨q, hq⟩ : ∃ q, q = settled + 1 + j := ⟨_, rfl⟩
    have hq2 : q ≤ 200000 := by omega
    rw [← hq]
    have Hq := Lib.hid hq
    by_cases hjl : q ≤ last
    · obtain ⟨Ao, co, rfl, _, _, _⟩ := own_slice hown
      have hd : decide ((q : Int) ≤ (last : Int)) = true := decide_eq_true (by omega)
      have hw2 : IntKind.u64.wrap ((q : Int) + 1) = ((q + 1 : Nat) : Int) := by
        rw [show ((q : Int) + 1) = ((q + 1 : Nat) : Int) by omega]
        exact IntWalk.u64_in _ (by omega)
      have hxj : xs.length + j ≤ 300000 := by omega
      have hwb : w.heap.size ≤ wr.heap.size := hb.size
      clear hcr hown hb hq
      go_wp2_with (at_builtin; (refine wpList_append_1 _ rfl _ _ 101 rfl w.heap.size 37 i0 (.int .u64 0) 8 Tryz.underlying101 hi0 hz0 hz1 hz2 rfl (.slice Ao (xs.length + j) co) (xs.length + j) ((xs ++ List.range' (settled + 1) j).map encU) rfl (HO.out.alloc _) ⟨wr.heap.size, 0, none⟩ 1 (.int .u64 (q : Int)) rfl (by simp) rfl (by unfold maxLen; omega) (by omega) (by simp; omega) ?_); intro v3 w3 hown3 hb3 _ _; (have HO3 := Lib.hid hown3); (have HB3 := Lib.hid hb3); clear hown3 hb3)
      have hfin : w3.ownsRow w.heap.size 37 1 v3 (xs.length + (j + 1)) ((xs ++ List.range' (settled + 1) (j + 1)).map encU) := by
        have e : (xs ++ List.range' (settled + 1) (j + 1)).map encU = (xs ++ List.range' (settled + 1) j).map encU ++ [.int .u64 (q : Int)] := by
          rw [liveP_next, List.map_append, Hq.out]
          rfl
        rw [e]
        exact HO3.out
      have hbf : Below w.heap.size w w3 := (HB.out.alloc HB.out.size _).trans HB3.out
      have HF := Lib.hid hfin
      have HBF := Lib.hid hbf
      clear hfin hbf
      go_roundw
      case rel => exact ⟨j + 1, by have := Hq.out; omega, by have := Hq.out; go_num, HF.out, HBF.out⟩
      case measure => simp [intOf]; have := Hq.out; omega
    · have hd : decide ((q : Int) ≤ (last : Int)) = false := decide_eq_false (by omega)
      clear hcr hown hb hq
      go_wp2_with fail
      go_ret
      have he : j = last - settled := by have := Hq.out; omega
      refine ⟨_, rfl, ?_, HB.out⟩
      have h1 := HO.out
      rw [he] at h1
      have h2 : (liveP xs settled last).length = xs.length + (last - settled) := by simp [liveP]
      rw [h2]
      exact h1
end Go.Proofs.YtaicibmaogiibaaGreatDoor

/-
  Layer 6: '==' of entries.
-/
set_option linter.unusedVariables false
set_option linter.unusedSimpArgs false
namespace Go.Proofs.YtaicibmaogiibaaGreatDoor
open Go.RowKit Go.Maps

end Go.Proofs.YtaicibmaogiibaaGreatDoor

/-
  Layer 6: the chapter's rows: knows.
-/
set_option linter.unusedVariables false
set_option linter.unusedSimpArgs false
namespace Go.Proofs.YtaicibmaogiibaaGreatDoor
open Go.RowKit Go.Maps

def nB : ByteArray := ⟨#[98]⟩
theorem mayB : mayN nB = true := by decide
theorem HMut.below {w0 w w' : World} {X : Nat} {M R : Nat → Prop} {s : PSt} (hm : HMut w w' X M R s) (hb : Below w0.heap.size w0 w) (hM : ∀ i, M i → w0.heap.size ≤ i) :
    ∃ M' R', HFolM w' X M' R' s ∧ Below w0.heap.size w0 w' ∧ (∀ i, M' i → w0.heap.size ≤ i) ∧ Chg M w w' := by
  obtain ⟨M', R', h1, h2, h3, h4⟩ := hm
  exact ⟨M', R', h1, hb.trans (h2.below hb.size hM), fun i hi => (h3 i hi).elim (hM i) (fun e => Nat.le_trans hb.size e), h2⟩
end Go.Proofs.YtaicibmaogiibaaGreatDoor

/- ArgsC -/

/-
  Layer 6: the laws' argument opened: a slice of calls (a number, two names, a number).
-/
set_option linter.unusedVariables false
set_option linter.unusedSimpArgs false
namespace Go.Proofs.YtaicibmaogiibaaGreatDoor
open Go.ChangeShapes Go.WideShapes Go.ChangeAt Go.RowKit Go.Joins Go.Deep

/-- a call -/
structure Call6 where
  what : Int
  name : ByteArray
  dst6 : ByteArray
  keep : Int
def Call6.cells (a : Call6) : List Value := [.int .i64 a.what, .string a.name, .string a.dst6, .int .i64 a.keep]
def Call6.ok (a : Call6) : Prop := a.name.size ≤ 9223372036854775807 ∧ a.dst6.size ≤ 9223372036854775807
/-- The value v is a slice that reads as the calls l, and lies below block B. -/
def Calls6 (w : World) (B : Nat) (v : Value) (l : List Call6) : Prop := ∃ A c, v = .slice A l.length c ∧ l.length ≤ c ∧ c ≤ maxLen ∧ (∀ a ∈ l, a.ok) ∧
  ∀ (i : Nat) a, l[i]? = some a → ∃ b o, A = some ⟨b, o, none⟩ ∧ b < B ∧ ∀ j u, a.cells[j]? = some u → w.cell? ⟨b, o + i * 4 + j, none⟩ = some u

section
variable {H : Type} {enc : TypeId × Value → H} {W : World} {held : Bool} {r : Reach} {base : Nat}
end
end Go.Proofs.YtaicibmaogiibaaGreatDoor

/- HxDoes -/

/-
  Layer 6: a call of the laws on the program's folder ('does').
-/
set_option linter.unusedVariables false
set_option linter.unusedSimpArgs false
namespace Go.Proofs.YtaicibmaogiibaaGreatDoor
open Go.RowKit Go.Maps

/-- what a call tells and makes of the program's folder -/
def doP (s : PSt) (c : Call6) : Nat × Nat × PSt :=
  if c.what = 0 ∨ c.what = 1 ∨ c.what = 2 then createP s c.name
  else if c.what = 3 then (0, (renameP s c.name c.dst6).1, (renameP s c.name c.dst6).2)
  else if c.what = 4 then (0, (removeP s c.name).1, (removeP s c.name).2)
  else if c.what = 5 then (0, 0, s.settle s.deeds.length)
  else if c.what = 6 then (0, 0, s.settle (keepN c.keep s.deeds.length))
  else (0, 0, s)
section
variable {w : World} {X : Nat} {M R : Nat → Prop} {s : PSt}
end
end Go.Proofs.YtaicibmaogiibaaGreatDoor

/-
  Layer 6: what a folder's state keeps, call by call, and a folder in new memory.
-/
set_option linter.unusedVariables false
set_option linter.unusedSimpArgs false
namespace Go.Proofs.YtaicibmaogiibaaGreatDoor
open Go.RowKit Go.Maps

/-- how many names and deeds there are at most -/
def PSt.big (s : PSt) : Nat := s.safe.length + s.deeds.length
theorem settle_big (s : PSt) (k : Nat) : (s.settle k).big ≤ s.big := by
  have h1 := doAll_length (s.deeds.take k) s.safe
  have h3 : (s.deeds.take k).length ≤ s.deeds.length := by rw [List.length_take]; omega
  simp only [PSt.big, PSt.settle, List.length_nil]
  omega
theorem push_big (s : PSt) (d : Dd) : (s.push d).big = s.big + 1 := by simp [PSt.big, PSt.push]; omega
/-- what a call may make of a state -/
theorem doP_cases (s : PSt) (c : Call6) : (doP s c).2.2 = s ∨ ((doP s c).2.2 = s.made c.name ∧ (0 ≤ c.what ∧ c.what ≤ 2) ∧ doP s c = (s.last + 1, 0, s.made c.name) ∧ mayN c.name = true ∧ findL s.now c.name = none ∧ s.now.length < 256) ∨
    ((doP s c).2.2 = s.push (.mv c.name c.dst6) ∧ c.what = 3 ∧ doP s c = (0, 0, s.push (.mv c.name c.dst6)) ∧ mayN c.name = true ∧ mayN c.dst6 = true ∧ (findL s.now c.name).isSome = true ∧ c.name ≠ c.dst6) ∨
    ((doP s c).2.2 = s.push (.rm c.name) ∧ c.what = 4 ∧ doP s c = (0, 0, s.push (.rm c.name)) ∧ mayN c.name = true ∧ (findL s.now c.name).isSome = true) ∨
    (∃ k, k ≤ s.deeds.length ∧ (doP s c).2.2 = s.settle k ∧ doP s c = (0, 0, s.settle k) ∧ ((c.what = 5 ∧ k = s.deeds.length) ∨ (c.what = 6 ∧ k = keepN c.keep s.deeds.length))) := by
  unfold doP
  split
  · rename_i hw
    unfold createP
    split
    · exact .inl rfl
    · rename_i h1
      split
      · exact .inl rfl
      · rename_i h2
        split
        · exact .inl rfl
        · rename_i h3
          exact .inr (.inl ⟨rfl, by omega, rfl, by simpa using h1, by simpa using h2, by omega⟩)
  · split
    · rename_i hw
      unfold renameP
      split
      · exact .inl rfl
      · rename_i h1
        split
        · exact .inl rfl
        · rename_i h2
          split
          · exact .inl rfl
          · rename_i h3
            refine .inr (.inr (.inl ⟨rfl, hw, rfl, ?_, ?_, by cases h : (findL s.now c.name).isSome; exact absurd h h2; rfl, fun e => h3 (by rw [e]; simp)⟩))
            · cases h : mayN c.name
              · exact absurd (.inl h) h1
              · rfl
            · cases h : mayN c.dst6
              · exact absurd (.inr h) h1
              · rfl
    · split
      · rename_i hw
        unfold removeP
        split
        · exact .inl rfl
        · rename_i h1
          split
          · rename_i h2
            exact .inr (.inr (.inr (.inl ⟨rfl, hw, rfl, by simpa using h1, h2⟩)))
          · exact .inl rfl
      · split
        · rename_i hw
          exact .inr (.inr (.inr (.inr ⟨_, Nat.le_refl _, rfl, rfl, .inl ⟨hw, rfl⟩⟩)))
        · split
          · rename_i hw
            exact .inr (.inr (.inr (.inr ⟨_, by unfold keepN; omega, rfl, rfl, .inr ⟨hw, rfl⟩⟩)))
          · exact .inl rfl
theorem doP_big (s : PSt) (c : Call6) : (doP s c).2.2.big ≤ s.big + 1 ∧ (doP s c).2.2.last ≤ s.last + 1 := by
  rcases doP_cases s c with h | ⟨h, _⟩ | ⟨h, _⟩ | ⟨h, _⟩ | ⟨k, _, h, _⟩
  · rw [h]; omega
  · rw [h]
    refine ⟨?_, Nat.le_refl _⟩
    unfold PSt.made
    rw [push_big]
    exact Nat.le_refl _
  · rw [h, push_big]; exact ⟨Nat.le_refl _, Nat.le_succ _⟩
  · rw [h, push_big]; exact ⟨Nat.le_refl _, Nat.le_succ _⟩
  · rw [h]; exact ⟨Nat.le_succ_of_le (settle_big s k), Nat.le_succ _⟩
/-- a deed that says nothing of the name k -/
def Dd.shuns (k : ByteArray) : Dd → Prop
  | .mk n _ => k ≠ n
  | .mv a b => k ≠ a ∧ k ≠ b
  | .rm n => k ≠ n
theorem findL_shuns {d : Dd} {s : List Ent} {k : ByteArray} (hs : SortE s) (h : d.shuns k) : findL (d.app s) k = findL s k := by
  rw [findL_app hs]
  cases d with
  | mk n i => simp [show k ≠ n from h]
  | mv a b => simp [show k ≠ a from h.1, show k ≠ b from h.2]
  | rm n => simp [show k ≠ n from h]
theorem findL_doAll {k : ByteArray} : ∀ {ds : List Dd} {s : List Ent}, OkE s → (∀ d ∈ ds, d.Ok ∧ d.shuns k) → findL (doAll s ds) k = findL s k
  | [], s, _, _ => rfl
  | d :: r, s, hs, h => by
    have h1 := h d (by simp)
    exact (findL_doAll (Dd.app_ok h1.1 hs) (fun x hx => h x (by simp [hx]))).trans (findL_shuns hs.1 h1.2)
/-- the name k leads to r (or nowhere) in the safe state, and no loose deed says anything of it -/
def KInv (k : ByteArray) (r : Option Nat) (s : PSt) : Prop := findL s.safe k = r ∧ ∀ d ∈ s.deeds, d.shuns k
theorem KInv.now {k : ByteArray} {r : Option Nat} {s : PSt} (h : KInv k r s) (ho : s.Ok) : findL s.now k = r := (findL_doAll ho.safe (fun d hd => ⟨ho.deeds d hd, h.2 d hd⟩)).trans h.1
theorem KInv.settle {k : ByteArray} {r : Option Nat} {s : PSt} (h : KInv k r s) (ho : s.Ok) (n : Nat) : KInv k r (s.settle n) :=
  ⟨(findL_doAll ho.safe (fun d hd => ⟨ho.deeds d (List.mem_of_mem_take hd), h.2 d (List.mem_of_mem_take hd)⟩)).trans h.1, by simp [PSt.settle]⟩
theorem KInv.push {k : ByteArray} {r : Option Nat} {s : PSt} (h : KInv k r s) {d : Dd} (hd : d.shuns k) : KInv k r (s.push d) :=
  ⟨h.1, fun x hx => by
    rcases List.mem_append.1 hx with h1 | h1
    · exact h.2 x h1
    · simp at h1; subst h1; exact hd⟩
theorem KInv.doP {k : ByteArray} {r : Option Nat} {s : PSt} (h : KInv k r s) (ho : s.Ok) {c : Call6} (h1 : k ≠ c.name) (h2 : k ≠ c.dst6) : KInv k r (doP s c).2.2 := by
  rcases doP_cases s c with e | ⟨e, _⟩ | ⟨e, _⟩ | ⟨e, _⟩ | ⟨n, _, e, _⟩
  · rw [e]; exact h
  · rw [e]
    have h3 : KInv k r { s with last := s.last + 1 } := h
    exact h3.push h1
  · rw [e]; exact h.push ⟨h1, h2⟩
  · rw [e]; exact h.push h1
  · rw [e]; exact h.settle ho n
/-- a folder in memory that is new since w -/
structure HLive (w wk : World) (X : Nat) (M R : Nat → Prop) (s : PSt) : Prop where
  fol : HFolM wk X M R s
  below : Below w.heap.size w wk
  newM : ∀ i, M i → w.heap.size ≤ i
section
variable {w wk w' : World} {X : Nat} {M R : Nat → Prop} {s s' : PSt}
theorem HLive.ok (h : HLive w wk X M R s) : s.Ok := h.fol.ok
theorem HLive.on (h : HLive w wk X M R s) (hb : Below wk.heap.size wk w') : HLive w w' X M R s := ⟨h.fol.on hb, h.below.trans (hb.mono h.below.size), h.newM⟩
/-- a call's cells, later -/
theorem Calls6.at_ {v : Value} {l : List Call6} (h : Calls6 w w.heap.size v l) (hb : Below w.heap.size w wk) {A : Option Addr} {n c : Nat} (hv : v = .slice A n c) {i : Nat} {a : Call6} (ha : l[i]? = some a) :
    ∃ b o, A = some ⟨b, o, none⟩ ∧ a.ok ∧ wk.cell? ⟨b, o + i * 4, none⟩ = some (.int .i64 a.what) ∧ wk.cell? ⟨b, o + i * 4 + 1, none⟩ = some (.string a.name) ∧ wk.cell? ⟨b, o + i * 4 + 2, none⟩ = some (.string a.dst6) ∧ wk.cell? ⟨b, o + i * 4 + 3, none⟩ = some (.int .i64 a.keep) := by
  obtain ⟨A', c', e, _, _, hok, h2⟩ := h
  obtain ⟨b, o, e2, hB, hc⟩ := h2 i a ha
  rw [hv] at e
  injection e with e _ _
  subst e
  have key : ∀ j u, a.cells[j]? = some u → wk.cell? ⟨b, o + i * 4 + j, none⟩ = some u := fun j u hu => (hb.cell (p := ⟨b, o + i * 4 + j, none⟩) hB).trans (hc j u hu)
  exact ⟨b, o, e2, hok a (List.mem_of_getElem? ha), key 0 _ rfl, key 1 _ rfl, key 2 _ rfl, key 3 _ rfl⟩
end
end Go.Proofs.YtaicibmaogiibaaGreatDoor

/- HxMapU -/

/-
  Layer 6: a map of numbers (map[uint64]int) in memory, each key at 1, that reads as a row of them.
-/
set_option linter.unusedVariables false
set_option linter.unusedSimpArgs false
namespace Go.Proofs.YtaicibmaogiibaaGreatDoor
open Go.RowKit Go.Maps

def ku (i : Nat) : Lit := .int .u64 (i : Int)
theorem ku_inj {a b : Nat} (h : ku a = ku b) : a = b := by
  unfold ku at h
  injection h with _ h
  omega
theorem keyedU : Keyed Tryz.prog 37 := int_keyed Tryz.underlying37
theorem wfU {i : Nat} (hi : i < 1000000000) : (Lit.int .u64 (i : Int)).wf = true := by
  have e1 : IntKind.u64.min = 0 := by decide
  have e2 : IntKind.u64.max = 18446744073709551615 := by decide
  simp only [Lit.wf, e1, e2, Bool.and_eq_true, decide_eq_true_eq]
  omega
theorem keyOf_ku {i : Nat} (hi : i < 1000000000) : keyOf Tryz.prog 37 (.int .u64 (i : Int)) = some (ku i) := keyOf_int_mk Tryz.underlying37 (wfU hi)
theorem isKey_ku (i : Nat) : WideAt.IsKeyLit (ku i) := trivial
/-- block b is a map of at most n keys, of which those of l are at 1, and no others there -/
def MapU (w : World) (b n : Nat) (l : List Nat) : Prop := ∃ D : DataW Unit, w.ownsMap Tryz.prog 37 (plainElem Tryz.prog 3) b n D ∧ (∀ i, i ∈ l → ∀ zd, D.atKey (ku i) zd = .lit (.int .i64 1)) ∧ (∀ k, (∀ i, i ∈ l → k ≠ ku i) → Maps.has D k = false)
section
variable {w w' : World} {b n : Nat} {l : List Nat} {M : Nat → Prop}
theorem MapU.lt (h : MapU w b n l) : b < w.heap.size := by obtain ⟨D, h, _⟩ := h; exact h.lt
theorem MapU.of_block (h : MapU w b n l) (hb : w'.heap[b]? = w.heap[b]?) : MapU w' b n l := by
  obtain ⟨D, ⟨es', clock, h1, h2⟩, hr⟩ := h
  exact ⟨D, ⟨es', clock, hb.trans h1, h2⟩, hr⟩
theorem MapU.chg (h : MapU w b n l) (hc : Chg M w w') (hM : ¬ M b) : MapU w' b n l := h.of_block (hc.block b h.lt hM)
theorem MapU.on (h : MapU w b n l) (hb : Below w.heap.size w w') : MapU w' b n l := h.of_block (hb.block b h.lt)
theorem MapU.new (w : World) : MapU (w.alloc (.map #[] 0)) w.heap.size 0 [] := ⟨_, World.ownsMap_made w _ _ _, (fun i hi => absurd hi (by simp)), (fun k _ => rfl)⟩
theorem MapU.congr {l' : List Nat} (h : MapU w b n l) (he : ∀ i, i ∈ l ↔ i ∈ l') : MapU w b n l' := by
  obtain ⟨D, h1, h2, h3⟩ := h
  exact ⟨D, h1, fun i hi => h2 i ((he i).2 hi), fun k hk => h3 k (fun i hi => hk i ((he i).1 hi))⟩
end
end Go.Proofs.YtaicibmaogiibaaGreatDoor

/- FxLook -/

/-
  Layer 5: Size, Safe, Loose.
-/
set_option linter.unusedVariables false
set_option linter.unusedSimpArgs false
namespace Go.Proofs.YtaicibmaogiibaaGreatDoor
open Go.RowKit

theorem fbdrewN {n : Nat} {w w' : World} (h : Below n w w') (q : Nat) : Below n w (w'.drewN q) := ⟨h.os, h.tape, h.output, h.size, h.block⟩
theorem fsize_c {w : World} {F kept loose n c : Nat} {A : Option Addr} {vs vd : Value} (h : FCells w F vs (.slice A n c) vd kept loose) (hb : kept + n ≤ 1000000000) :
    Calls Tryz.prog 85 #[.pointer (some ⟨F, 0, none⟩)] w fun e w' => e = .returned (.int .i64 ((kept + n : Nat) : Int)) ∧ Below w.heap.size w w' := by
  obtain ⟨c0, c1, c2, c3, c4, f0, f1, f2, f3, f4⟩ := h
  go_enter Tryz.func85, Tryz.ntmps85
  go_wp2_with fail
  go_quiet (fail)
  go_wp2_with fail
  go_ret
  exact ⟨by push_cast; rfl, fbdrewN (Below.refl _ _) _⟩
section
variable {w : World} {F : Nat} {M R : Nat → Prop} {s : FSt}
theorem fsize_m (h : FileM w F M R s) (hb : s.big ≤ 10000000) (n : Nat) (hn : s.bytes.length = n) :
    Calls Tryz.prog 85 #[.pointer (some ⟨F, 0, none⟩)] w fun e w' => e = .returned (.int .i64 (n : Int)) ∧ Below w.heap.size w w' := by
  obtain ⟨ho, _, _, _, vs, vt, vd, dvs, h, _⟩ := h
  have h1 := FSt.bytes_length ho
  have h2 := FSt.length_bytes ho
  obtain ⟨A, c, rfl, _⟩ := own_slice h.tail
  subst hn
  rw [h2]
  exact fsize_c h.cells (by omega)
end
end Go.Proofs.YtaicibmaogiibaaGreatDoor

/-
  Layer 5: a deed more.
-/
set_option linter.unusedVariables false
set_option linter.unusedSimpArgs false
namespace Go.Proofs.YtaicibmaogiibaaGreatDoor
open Go.RowKit

theorem deed_info : (Tryz.prog.info? 189).map (fun i => (i.zero, i.size, i.bytes)) = some (some .nilIface, 1, 16) := by kernel_rfl
/-- a deed more, as memory has it -/
theorem FileAt.more {w w' : World} {F : Nat} {R : Nat → Prop} {vs vt vd v v1 : Value} {dvs : List Value} {s : FSt} {d : Deed} (h : FileAt w F R vs vt vd dvs s) (hd : DeedAt w R v d) (hR : ∀ i, R i → i < w.heap.size)
    (hc : Chg (fun i => i = F ∨ vd.ownBlock = some i) w w') (hcells : FCells w' F vs vt v1 s.kept (s.loose + d.units)) (hown : w'.ownsRow 0 189 1 v1 (s.deeds.length + 1) (dvs ++ [v])) (hob : v1.ownBlock = vd.ownBlock ∨ ∀ g, v1.ownBlock = some g → w.heap.size ≤ g) :
    FileAt w' F R vs vt v1 (dvs ++ [v]) ⟨s.safe, s.kept, s.tail, s.deeds ++ [d]⟩ := by
  have hno : ∀ i, (i = F ∨ vd.ownBlock = some i) → ¬ R i := by
    rintro i (rfl | hi)
    · exact h.rows _ (.inl rfl)
    · exact h.rows _ (.inr (.inr (.inr hi)))
  have hs := (h.safe.lt)
  have ht := (h.tail.lt)
  have hF := h.cells.lt
  refine ⟨?_, hc.own h.safe ?_, hc.own h.tail ?_, by simpa using hown, (h.each.chg hc hno).add (hd.chg hc hno), ⟨h.apart.s, h.apart.t, ?_, h.apart.st, ?_, ?_⟩, ?_⟩
  · have e : FSt.loose ⟨s.safe, s.kept, s.tail, s.deeds ++ [d]⟩ = s.loose + d.units := by simp [FSt.loose, unitsL_append, unitsL]
    rw [e]
    exact hcells
  · rintro g hg (rfl | e)
    · exact h.apart.s hg
    · exact h.apart.sd g hg e
  · rintro g hg (rfl | e)
    · exact h.apart.t hg
    · exact h.apart.td g hg e
  · intro e
    rcases hob with h1 | h1
    · exact h.apart.d (h1 ▸ e)
    · have := h1 _ e; omega
  · intro g hg e
    rcases hob with h1 | h1
    · exact h.apart.sd g hg (h1 ▸ e)
    · have := h1 _ e; have := (hs g hg).2; omega
  · intro g hg e
    rcases hob with h1 | h1
    · exact h.apart.td g hg (h1 ▸ e)
    · have := h1 _ e; have := (ht g hg).2; omega
  · rintro i (rfl | hi | hi | hi) hr
    · exact h.rows _ (.inl rfl) hr
    · exact h.rows _ (.inr (.inl hi)) hr
    · exact h.rows _ (.inr (.inr (.inl hi))) hr
    · rcases hob with h1 | h1
      · exact h.rows _ (.inr (.inr (.inr (h1 ▸ hi)))) hr
      · have := h1 _ hi; have := hR i hr; omega

set_option maxRecDepth 100000 in
set_option maxHeartbeats 4000000 in
theorem fadd_added {w : World} {F : Nat} {R : Nat → Prop} {vs vt vd : Value} {dvs : List Value} {s : FSt} (h : FileAt w F R vs vt vd dvs s) (hR : ∀ i, R i → i < w.heap.size) {A : Option Addr} {n c : Nat} {d : Deed} (hd : DeedAt w R (addV A n c) d) (hn : d.units = n) (hb : s.loose + n ≤ 10000000) (hl : s.deeds.length ≤ 10000000) :
    Calls Tryz.prog 106 #[.pointer (some ⟨F, 0, none⟩), addV A n c] w fun e w' => e = .returned (.tuple #[]) ∧ ∃ vd', FileAt w' F R vs vt vd' (dvs ++ [addV A n c]) ⟨s.safe, s.kept, s.tail, s.deeds ++ [d]⟩ ∧ Chg (fun i => i = F ∨ vd.ownBlock = some i) w w' ∧ (vd'.ownBlock = vd.ownBlock ∨ ∀ g, vd'.ownBlock = some g → w.heap.size ≤ g) := by
  obtain ⟨i0, hi0, hz0, hz1, hz2⟩ := info_parts deed_info
  have hm : ∀ w : World, (method 99 183 (.agg #[.slice A n c]) "hourbook/file.units").run Tryz.prog w = .ok (241, (.agg #[.slice A n c])) w := fun _ => by kernel_rfl
  have H := Lib.hid h
  have HR := Lib.hid hR
  have HD := Lib.hid hd
  have HN := Lib.hid hn
  obtain ⟨Ad, cd, rfl, hlc, hcm, hAb⟩ := own_slice h.deeds
  obtain ⟨c0, c1, c2, c3, c4, f0, f1, f2, f3, f4⟩ := h.cells
  have hF := h.cells.lt
  have hFd := h.apart.d
  have HOwn0 := Lib.hid (h.deeds)
  have HE := Lib.hid (show ∀ R', FileAt w F R vs vt (.slice Ad s.deeds.length cd) dvs s → R' = R → True from fun _ _ _ => trivial)
  clear HE
  obtain ⟨nd, hlen⟩ : ∃ nd, nd = s.deeds.length := ⟨_, rfl⟩
  obtain ⟨vd, hvd⟩ : ∃ vd, vd = Value.slice Ad nd cd := ⟨_, rfl⟩
  rw [← hlen, ← hvd] at H HOwn0 hFd
  rw [← hlen] at c3 hl hlc
  rw [← hlen, ← hvd]
  have Hlen := Lib.hid hlen
  have Hvd := Lib.hid hvd
  clear hlen hvd hd h hn hAb hR
  have HOwn1 := Lib.hid HOwn0.out
  rw [Hvd.out] at HOwn1
  unfold addV
  go_enter Tryz.func106, Tryz.ntmps106
  go_wp2_with (at_builtin; (refine wpList_append_1 _ rfl _ _ 145 rfl 0 189 i0 .nilIface 16 Tryz.underlying145 hi0 hz0 hz1 hz2 rfl _ nd dvs rfl (HOwn1.out.alloc _) ⟨w.heap.size, 0, none⟩ 1 _ rfl (cell_new1 _ _ _) rfl (by unfold maxLen; omega) (by omega) (Nat.zero_le _) ?_); intro v1 w1 hown1 hbw1 hg1 hv1; obtain ⟨A1, n1, rfl, hlc1, hcm1, hAb1⟩ := own_slice hown1; rw [← Hvd.out] at hg1 hv1; have hbF : w1.heap[F]? = w.heap[F]? := (hg1.block F (by simp; omega) (fun e => hFd e.symm)).trans (Below.heap_alloc w _ F hF); have hcl := H.out.cells.of_block hbF; have HC1 := Lib.hid hcl; have HG1 := Lib.hid hg1; have HV1 := Lib.hid hv1; have HOwn2 := Lib.hid hown1; clear hg1 hv1 hown1 hbw1 hAb1 hbF; clear c0 c1 c2 c3 c4 f0 f1 f2 f3 f4; obtain ⟨c0, c1, c2, c3, c4, f0, f1, f2, f3, f4⟩ := hcl)
  clear c0 c1 c2 c3 c4 f0 f1 f2 f3 f4
  have HC2 := Lib.hid (HC1.out.set3 (.slice A1 (nd + 1) n1)).drew
  have HG2 : Hid (Chg (fun i => i = F ∨ vd.ownBlock = some i) w (w1.setCell ⟨F, 3, none⟩ (.slice A1 (nd + 1) n1)).drew) := ((Chg.trans (Chg.refl.alloc _) (Chg.of_grown HG1.out (fun g hg => .inr hg)) (fun i hi => .inl hi)).setCell (.inl rfl) _).drew
  have HF1 : Hid (∀ g, (Value.slice A1 (nd + 1) n1).ownBlock = some g → g ≠ F) := fun g hg e => by
    subst e
    rcases HV1.out with h1 | h1
    · exact hFd (h1 ▸ hg)
    · rw [hg] at h1; injection h1 with h1; simp at h1; omega
  have HOwn3 : Hid ((w1.setCell ⟨F, 3, none⟩ (.slice A1 (nd + 1) n1)).drew.ownsRow 0 189 1 (.slice A1 (nd + 1) n1) (nd + 1) (dvs ++ [addV A n c])) := (((Chg.refl (M := fun i => i = F) (w := w1)).setCell rfl _).drew).own HOwn2.out HF1.out
  have HV2 : Hid ((Value.slice A1 (nd + 1) n1).ownBlock = vd.ownBlock ∨ ∀ g, (Value.slice A1 (nd + 1) n1).ownBlock = some g → w.heap.size ≤ g) := HV1.out.imp id (fun h1 g hg => by rw [h1] at hg; injection hg with hg; simp at hg; omega)
  refine wp_region_noPanic ?_
  refine OrdL.wpL_region (fun w' => w'.cell? ⟨F, 4, none⟩ = some (.int .i64 (s.loose : Int))) 9 (by kernel_rfl) ?_
  clear HC1 HG1 HOwn2 HV1 HOwn1
  generalize World.drew _ = W at *
  have hHeld := HC2.out.c4
  refine OrdL.wpL_take (i := 0) (v := ?_) opAt_0 [] (by kernel_rfl) (by kernel_rfl) (by kernel_rfl) (by kernel_rfl) (by kernel_rfl) (by kernel_rfl) (fun _ _ _ h => h) (Or.inl ⟨by rfl, ?_⟩) hHeld ?_
  rotate_left
  · (intro w' hSw; go_simp; try with_reducible rfl)
  try simp only [Act.put, List.setIfInBounds_toArray, List.set_cons_zero, List.set_cons_succ]
  refine OrdL.wpL_take (i := 1) (v := ?_) opAt_1 [] (by kernel_rfl) (by kernel_rfl) (by kernel_rfl) (by kernel_rfl) (by kernel_rfl) (by kernel_rfl) (fun _ _ _ h => h) (Or.inl ⟨by rfl, ?_⟩) hHeld ?_
  rotate_left
  · (intro w' hSw; go_simp; try with_reducible rfl)
  try simp only [Act.put, List.setIfInBounds_toArray, List.set_cons_zero, List.set_cons_succ]
  refine OrdL.wpL_take (i := 2) (v := ?_) opAt_2 [] (by kernel_rfl) (by kernel_rfl) (by kernel_rfl) (by kernel_rfl) (by kernel_rfl) (by kernel_rfl) (fun _ _ _ h => h) (Or.inl ⟨by rfl, ?_⟩) hHeld ?_
  rotate_left
  · (intro w' hSw; go_simp; try with_reducible rfl)
  try simp only [Act.put, List.setIfInBounds_toArray, List.set_cons_zero, List.set_cons_succ]
  refine OrdL.wpL_take (i := 3) (v := ?_) opAt_3 [] (by kernel_rfl) (by kernel_rfl) (by kernel_rfl) (by kernel_rfl) (by kernel_rfl) (by kernel_rfl) (fun _ _ _ h => h) (Or.inl ⟨by rfl, ?_⟩) hHeld ?_
  rotate_left
  · (intro w' hSw; go_simp; try with_reducible rfl)
  try simp only [Act.put, List.setIfInBounds_toArray, List.set_cons_zero, List.set_cons_succ]
  refine OrdL.wpL_take (i := 4) (v := ?_) opAt_4 [] (by kernel_rfl) (by kernel_rfl) (by kernel_rfl) (by kernel_rfl) (by kernel_rfl) (by kernel_rfl) (fun _ _ _ h => h) (Or.inl ⟨by rfl, ?_⟩) hHeld ?_
  rotate_left
  · (intro w' hSw; go_simp; try with_reducible rfl)
  try simp only [Act.put, List.setIfInBounds_toArray, List.set_cons_zero, List.set_cons_succ]
  refine OrdL.wpL_ready (rs := [5]) (by kernel_rfl) (by simp) ?_
  refine OrdL.AllL.cons rfl (fun K hK => ?_) OrdL.AllL.nil
  go_simp
  refine (added_units A n c _).mono ?_
  rintro e w2 ⟨rfl, hb2⟩
  go_wp2_with fail
  have HC3 := Lib.hid (HC2.out.on hb2)
  have HG3 := Lib.hid (HG2.out.trans (Chg.of_below (M := fun _ => False) hb2) (fun _ h => h.elim))
  have HOwn4 := Lib.hid (own_below HOwn3.out hb2 (Nat.le_refl _))
  clear hHeld
  have hHeld := HC3.out.c4
  refine hK.out _ _ (fun _ => hHeld) ?_
  clear hK K
  try simp only [Act.put, List.setIfInBounds_toArray, List.set_cons_zero, List.set_cons_succ]
  refine OrdL.wpL_take (i := 6) (v := ?_) opAt_6 [] (by kernel_rfl) (by kernel_rfl) (by kernel_rfl) (by kernel_rfl) (by kernel_rfl) (by kernel_rfl) (fun _ _ _ h => h) (Or.inl ⟨by rfl, ?_⟩) hHeld ?_
  rotate_left
  · (intro w' hSw; go_simp; try with_reducible rfl)
  try simp only [Act.put, List.setIfInBounds_toArray, List.set_cons_zero, List.set_cons_succ]
  refine OrdL.wpL_take (i := 7) (v := ?_) opAt_7 [8] (by kernel_rfl) (by kernel_rfl) (by kernel_rfl) (by kernel_rfl) (by kernel_rfl) (by kernel_rfl) (fun _ _ _ h => h) (Or.inl ⟨by rfl, ?_⟩) hHeld ?_
  rotate_left
  · (intro w' hSw; go_simp; try with_reducible rfl)
  try simp only [Act.put, List.setIfInBounds_toArray, List.set_cons_zero, List.set_cons_succ]
  refine OrdL.wpL_take (i := 8) (v := ?_) opAt_8 [] (by kernel_rfl) (by kernel_rfl) (by kernel_rfl) (by kernel_rfl) (by kernel_rfl) (by kernel_rfl) (fun _ _ _ h => h) (Or.inl ⟨by rfl, ?_⟩) hHeld ?_
  rotate_left
  · (intro w' hSw; go_simp; try with_reducible rfl)
  try simp only [Act.put, List.setIfInBounds_toArray, List.set_cons_zero, List.set_cons_succ]
  refine OrdL.wpL_ready (rs := [9]) (by kernel_rfl) (by simp) ?_
  refine OrdL.AllL.cons rfl (fun K hK => ?_) OrdL.AllL.nil
  have f4 := HC3.out.f4
  go_simp
  refine hK.out _ _ (fun h => by simp at h) ?_
  refine OrdL.wpL_done (by kernel_rfl) ?_ _
  refine NoPanic.normal ?_
  go_wp2_with fail
  go_end0
  have e2 : ((s.loose : Int) + (n : Int)) = ((s.loose + d.units : Nat) : Int) := by rw [HN.out]; push_cast; rfl
  rw [e2]
  try rw [IntWalk.i64_in _ (by have := HN.out; omega)]
  have hg5 : Chg (fun i => i = F ∨ vd.ownBlock = some i) w (w2.setCell ⟨F, 4, none⟩ (.int .i64 ((s.loose + d.units : Nat) : Int))) := HG3.out.setCell (.inl rfl) _
  exact ⟨rfl, .slice A1 (nd + 1) n1, H.out.more HD.out HR.out hg5 (HC3.out.set4 _) (by rw [← Hlen.out]; exact ((Chg.refl (M := fun i => i = F) (w := w2)).setCell rfl _).own HOwn4.out HF1.out) HV2.out, hg5, HV2.out⟩
end Go.Proofs.YtaicibmaogiibaaGreatDoor

/-
  Layer 5: Append.
-/
set_option linter.unusedVariables false
set_option linter.unusedSimpArgs false
namespace Go.Proofs.YtaicibmaogiibaaGreatDoor
open Go.RowKit

/-- the value v is a slice that reads as the bytes l, out of a block of N -/
def BsIn (w : World) (N : Nat → Prop) (v : Value) (l : List UInt8) : Prop := ∃ A c, v = .slice A l.length c ∧ l.length ≤ c ∧ RdR w N A (bvs l)
theorem BsIn.bs {w : World} {N : Nat → Prop} {v : Value} {l : List UInt8} (h : BsIn w N v l) : Bs w w.heap.size v l := by
  obtain ⟨A, c, e, hc, hr⟩ := h
  exact ⟨A, c, e, hc, hr.rd⟩
theorem BsIn.chg {w w' : World} {N M : Nat → Prop} {v : Value} {l : List UInt8} (h : BsIn w N v l) (hc : Chg M w w') (hM : ∀ i, M i → ¬ N i) : BsIn w' N v l := by
  obtain ⟨A, c, e, hc', hr⟩ := h
  exact ⟨A, c, e, hc', hr.chg hc hM⟩
theorem BsIn.mono {w : World} {N N' : Nat → Prop} {v : Value} {l : List UInt8} (h : BsIn w N v l) (hN : ∀ i, N i → N' i) : BsIn w N' v l := by
  obtain ⟨A, c, e, hc', hr⟩ := h
  exact ⟨A, c, e, hc', hr.mono hN⟩
theorem BsIn.of_own {w : World} {b n : Nat} {e : TypeId} {v : Value} {l : List UInt8} (h : w.ownsRow b e 1 v n (bvs l)) : BsIn w (fun i => v.ownBlock = some i) v l := by
  have hn : l.length = n := by have := h.1; simpa [bvs] using this
  subst hn
  obtain ⟨A, c, rfl, hc, _⟩ := own_slice h
  refine ⟨A, c, rfl, hc, fun hx => ?_⟩
  obtain ⟨b, o, rfl, hb, hcell⟩ := Rd.of_own h hx
  exact ⟨b, o, rfl, rfl, hcell⟩

theorem FileAt.mono {w : World} {F : Nat} {R R' : Nat → Prop} {vs vt vd : Value} {dvs : List Value} {s : FSt} (h : FileAt w F R vs vt vd dvs s) (hR : ∀ i, R i → R' i) (hn : ∀ i, FOwn F vs vt vd i → ¬ R' i) : FileAt w F R' vs vt vd dvs s :=
  ⟨h.cells, h.safe, h.tail, h.deeds, h.each.mono hR, h.apart, hn⟩
/-- another tail, as memory has it -/
theorem FileAt.tailed {w w' : World} {F k : Nat} {R : Nat → Prop} {vs vt vt' vd : Value} {dvs : List Value} {s : FSt} {t : List UInt8} (h : FileAt w F R vs vt vd dvs s) (hR : ∀ i, R i → i < w.heap.size)
    (hc : Chg (fun i => i = F ∨ vt.ownBlock = some i) w w') (hcells : FCells w' F vs vt' vd k s.loose) (hown : w'.ownsRow 0 5 1 vt' t.length (bvs t)) (hob : vt'.ownBlock = vt.ownBlock ∨ ∀ g, vt'.ownBlock = some g → w.heap.size ≤ g) :
    FileAt w' F R vs vt' vd dvs ⟨s.safe, k, t, s.deeds⟩ := by
  have hno : ∀ i, (i = F ∨ vt.ownBlock = some i) → ¬ R i := by
    rintro i (rfl | hi)
    · exact h.rows _ (.inl rfl)
    · exact h.rows _ (.inr (.inr (.inl hi)))
  have hs := (h.safe.lt)
  have ht := (h.deeds.lt)
  have hF := h.cells.lt
  refine ⟨hcells, hc.own h.safe ?_, hown, hc.own h.deeds ?_, h.each.chg hc hno, ⟨h.apart.s, ?_, h.apart.d, ?_, h.apart.sd, ?_⟩, ?_⟩
  · rintro g hg (rfl | e)
    · exact h.apart.s hg
    · exact h.apart.st g hg e
  · rintro g hg (rfl | e)
    · exact h.apart.d hg
    · exact h.apart.td g e hg
  · intro e
    rcases hob with h1 | h1
    · exact h.apart.t (h1 ▸ e)
    · have := h1 _ e; omega
  · intro g hg e
    rcases hob with h1 | h1
    · exact h.apart.st g hg (h1 ▸ e)
    · have := h1 _ e; have := (hs g hg).2; omega
  · intro g e hg
    rcases hob with h1 | h1
    · exact h.apart.td g (h1 ▸ e) hg
    · have := h1 _ e; have := (ht g hg).2; omega
  · rintro i (rfl | hi | hi | hi) hr
    · exact h.rows _ (.inl rfl) hr
    · exact h.rows _ (.inr (.inl hi)) hr
    · rcases hob with h1 | h1
      · exact h.rows _ (.inr (.inr (.inl (h1 ▸ hi)))) hr
      · have := h1 _ hi; have := hR i hr; omega
    · exact h.rows _ (.inr (.inr (.inr hi))) hr
theorem fappend_none {w : World} (F c : Nat) (A : Option Addr) : Calls Tryz.prog 95 #[.pointer (some ⟨F, 0, none⟩), .slice A 0 c] w fun e w' => e = .returned (.int .i64 0) ∧ Below w.heap.size w w' := by
  go_enter Tryz.func95, Tryz.ntmps95
  go_wp2
  go_ret
  exact ⟨rfl, Below.refl _ _⟩

set_option maxRecDepth 100000 in
set_option maxHeartbeats 4000000 in
theorem fappend_m {w : World} {F : Nat} {M R N : Nat → Prop} {s : FSt} {v : Value} {r : List UInt8} (h : FileM w F M R s) (hv : BsIn w N v r) (hN : ∀ i, M i → ¬ N i) (hr : r ≠ []) (hb : s.big + r.length ≤ 10000000) :
    Calls Tryz.prog 95 #[.pointer (some ⟨F, 0, none⟩), v] w fun e w' => e = .returned (.int .i64 0) ∧ Mut w w' F M R (s.app r) := by
  obtain ⟨i0, hi0, hz0, hz1, hz2⟩ := info_parts fbyte_info
  obtain ⟨ho, hMR, hM, hR, vs, vt, vd, dvs, h, hOM⟩ := h
  have hbl := FSt.bytes_length ho
  have hbt := FSt.length_bytes ho
  have hdl : s.deeds.length ≤ s.loose := length_le_units _ _ ho.valid
  have hbig : s.big = s.safe.length + s.loose := rfl
  have HV := Lib.hid hv
  have HBs := Lib.hid hv.bs
  have HOk := Lib.hid ho
  have HMR := Lib.hid hMR
  have HM := Lib.hid hM
  have HR := Lib.hid hR
  have HOM := Lib.hid hOM
  have HN := Lib.hid hN
  have H := Lib.hid h
  obtain ⟨A, c, rfl, hlc, _⟩ := hv
  have hlen : 0 < r.length := List.length_pos_iff.2 hr
  have hne : ((r.length : Int) == 0) = false := by simp; omega
  obtain ⟨nr, hnr⟩ : ∃ nr, nr = r.length := ⟨_, rfl⟩
  rw [← hnr] at hne hlc hb
  rw [← hnr] at HV HBs
  rw [← hnr]
  have HNr := Lib.hid hnr
  clear ho hMR hM hR hOM hN h hnr
  go_enter Tryz.func95, Tryz.ntmps95
  go_wp2_with fail
  refine (fclone _ r _ _ HBs.out (Nat.le_refl _) (by have := HNr.out; omega)).mono ?_
  rintro e w1 ⟨v1, rfl, hown1, hb1⟩
  obtain ⟨A1, c1, rfl, hlc1, hcm1, hAb1⟩ := own_slice hown1
  have HO1 := Lib.hid hown1
  have HB1 := Lib.hid hb1
  clear hAb1 hown1 hb1
  go_wp2_with fail
  have HR1 : Hid (∀ i, (R i ∨ (w.heap.size ≤ i ∧ i < w1.heap.size)) → i < w1.heap.size) := fun i hi => hi.elim (fun h => Nat.lt_of_lt_of_le (HR.out i h) HB1.out.size) (fun h => h.2)
  have H1 : Hid (FileAt w1 F (fun i => R i ∨ (w.heap.size ≤ i ∧ i < w1.heap.size)) vs vt vd dvs s) :=
    (H.out.chg (Chg.of_below (M := fun _ => False) HB1.out) (fun i e => e.elim)).mono (fun i h => .inl h) (fun i hi hr => hr.elim (H.out.rows i hi) (fun h => by have := H.out.lt i hi; omega))
  have HD1 : Hid (DeedAt w1 (fun i => R i ∨ (w.heap.size ≤ i ∧ i < w1.heap.size)) (addV A1 r.length c1) (.added r)) :=
    ⟨A1, c1, rfl, hlc1, by
      obtain ⟨A2, c2, e, _, hr2⟩ := BsIn.of_own HO1.out
      injection e with e1 e2 e3
      subst e1
      exact hr2.mono (fun i hi => .inr (HO1.out.lt i hi))⟩
  refine (fadd_added H1.out HR1.out HD1.out rfl (by have := HNr.out; omega) (by omega)).mono ?_
  rintro e w2 ⟨rfl, vd2, h2, hc2, hd2⟩
  have H2 := Lib.hid h2
  have HC2 := Lib.hid hc2
  have HD2 := Lib.hid hd2
  have HV2 : Hid (BsIn w2 N (.slice A nr c) r) := (HV.out.chg (Chg.of_below (M := fun _ => False) HB1.out) (fun i e => e.elim)).chg HC2.out (fun i hi => HN.out i (HOM.out i (hi.elim .inl (fun h => .inr (.inr (.inr h))))))
  have HBs2 := Lib.hid HV2.out.bs
  obtain ⟨At, ct, hvt, hlt, hct, _⟩ := own_slice h2.tail
  obtain ⟨nt, hnt⟩ : ∃ nt, nt = s.tail.length := ⟨_, rfl⟩
  have hvt' : vt = .slice At nt ct := by rw [hnt]; exact hvt
  have HOt : Hid (w2.ownsRow 0 5 1 (.slice At nt ct) nt (bvs s.tail)) := by have := h2.tail; rw [hvt'] at this; rw [hnt]; rw [hnt] at this; exact this
  obtain ⟨c0, k1, c2, c3, c4, f0, f1, f2, f3, f4⟩ := h2.cells
  rw [hvt'] at c2
  have Hvt := Lib.hid hvt'
  have Hnt := Lib.hid hnt
  have hnt3 : nt ≤ 10000000 := by have : nt = s.tail.length := hnt; omega
  have hF2 := h2.cells.lt
  have hTF : vt.ownBlock ≠ some F := h2.apart.t
  clear h2 hc2 hd2 hvt hlt hct hvt' hnt
  obtain ⟨Ab, cb, eb, hcb, hrb⟩ := HBs2.out
  injection eb with eb1 eb2 eb3
  subst eb1 eb3
  have Hrb := Lib.hid hrb
  have Hcb := Lib.hid hcb
  clear hcb hrb eb2
  go_wp2_with (at_builtin; (refine wpList_append_rd _ rfl _ _ 47 rfl 0 5 i0 (.int .u8 0) 1 1 Tryz.underlying47 hi0 hz0 hz1 hz2 rfl (by omega) _ nt (bvs s.tail) rfl HOt.out w2.heap.size A nr c (bvs r) rfl (by rw [bvs_length, ← HNr.out]; omega) Hrb.out (bvs_one r) (by unfold maxLen; omega) (by omega) (Nat.zero_le _) ?_); intro v3 w3 hown3 hb3 hg3 hv3; rw [← Hvt.out] at hg3 hv3; have hbF : w3.heap[F]? = w2.heap[F]? := (hg3.block F hF2 (fun e => hTF e.symm)); have hcl := H2.out.cells.of_block hbF; have HC3 := Lib.hid hcl; have HG3 := Lib.hid hg3; have HV3 := Lib.hid hv3; have HO3 := Lib.hid hown3; obtain ⟨A3, n3, rfl, _, _, _⟩ := own_slice hown3; clear hg3 hv3 hown3 hb3 hbF; clear c0 k1 c2 c3 c4 f0 f1 f2 f3 f4; obtain ⟨c0, k1, c2, c3, c4, f0, f1, f2, f3, f4⟩ := hcl)
  go_ret
  have hcc : Chg (fun i => i = F ∨ vt.ownBlock = some i) w2 (w3.setCell ⟨F, 2, none⟩ (.slice A3 (nt + nr) n3)) := (Chg.of_grown HG3.out (fun g hg => .inr hg)).setCell (.inl rfl) _
  have hown4 : (w3.setCell ⟨F, 2, none⟩ (.slice A3 (nt + nr) n3)).ownsRow 0 5 1 (.slice A3 (nt + nr) n3) (s.tail ++ r).length (bvs (s.tail ++ r)) := by
    rw [List.length_append, ← Hnt.out, ← HNr.out, bvs_append]
    refine ((Chg.refl (M := fun i => i = F) (w := w3)).setCell rfl _).own HO3.out (fun g hg e => ?_)
    subst e
    rcases HV3.out with h1 | h1
    · exact hTF (h1 ▸ hg)
    · rw [hg] at h1; injection h1 with h1; omega
  have hfin := H2.out.tailed (fun i hi => Nat.lt_of_lt_of_le (HR1.out i hi) HC2.out.size) hcc (HC3.out.set2 _) hown4 (HV3.out.imp id (fun h1 g hg => by rw [h1] at hg; injection hg with hg; omega))
  have hcw : Chg M w (w3.setCell ⟨F, 2, none⟩ (.slice A3 (nt + nr) n3)) := ((Chg.of_below (M := M) HB1.out).trans HC2.out (fun i hi => .inl (HOM.out i (hi.elim .inl (fun h => .inr (.inr (.inr h))))))).trans hcc (fun i hi => .inl (HOM.out i (hi.elim .inl (fun h => .inr (.inr (.inl h))))))
  refine ⟨rfl, fun i => FOwn F vs (.slice A3 (nt + nr) n3) vd2 i, fun i => R i ∨ (w.heap.size ≤ i ∧ i < w1.heap.size), ⟨FSt.app_ok HOk.out hr, hfin.rows, hfin.lt, fun i hi => Nat.lt_of_lt_of_le (HR1.out i hi) (Nat.le_trans HC2.out.size hcc.size), vs, _, vd2, _, hfin, fun i h => h⟩, hcw, ?_, fun i hi => hi.imp id (fun h => h.1)⟩
  have hs1 := HB1.out.size
  have hs2 := HC2.out.size
  rintro i (rfl | hi | hi | hi)
  · exact .inl (HOM.out _ (.inl rfl))
  · exact .inl (HOM.out _ (.inr (.inl hi)))
  · rcases HV3.out with h1 | h1
    · exact .inl (HOM.out _ (.inr (.inr (.inl (h1 ▸ hi)))))
    · rw [hi] at h1; injection h1 with h1; exact .inr (by omega)
  · rcases HD2.out with h1 | h1
    · exact .inl (HOM.out _ (.inr (.inr (.inr (h1 ▸ hi)))))
    · have := h1 _ hi; exact .inr (by omega)
end Go.Proofs.YtaicibmaogiibaaGreatDoor

/-
  Layer 5: Cut.
-/
set_option linter.unusedVariables false
set_option linter.unusedSimpArgs false
namespace Go.Proofs.YtaicibmaogiibaaGreatDoor
open Go.RowKit

section
variable {w : World} {F : Nat} {M R : Nat → Prop} {s : FSt}
end
end Go.Proofs.YtaicibmaogiibaaGreatDoor

