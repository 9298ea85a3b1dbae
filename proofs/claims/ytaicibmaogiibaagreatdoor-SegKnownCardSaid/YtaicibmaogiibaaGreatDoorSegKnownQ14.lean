/-
  SegKnown, part 14 of what the law's proof leans on: FxSettle, FxRead, FxDoes.
-/
import Derived.Deep.LoopGhost
import Derived.Test.YtaicibmaogiibaaGreatDoorSegKnownQ13
import Derived.Lib.AppendZerosOnto
/- FxSettle -/

/-
  Layer 5: what a crash makes safe (settle).
-/
set_option linter.unusedVariables false
set_option linter.unusedSimpArgs false
namespace Go.Proofs.YtaicibmaogiibaaGreatDoor
open Go.RowKit

/-- what a deed's calls do, whichever kind it is -/
theorem DeedAt.run {w : World} {R : Nat → Prop} {v : Value} {d : Deed} (h : DeedAt w R v d) : ∃ t u fu fd, v = .iface t u ∧
    (∀ (k : Nat) (w : World), (method (k + 1) t u "hourbook/file.units").run Tryz.prog w = .ok (fu, u) w) ∧ (∀ (k : Nat) (w : World), (method (k + 1) t u "hourbook/file.do").run Tryz.prog w = .ok (fd, u) w) ∧
    (∀ (k : Nat) (w : World), (nilAhead (k + 1) t u "hourbook/file.do").run Tryz.prog w = .ok (some false) w) ∧
    (∀ (args : Array Value) (w : World), (callFunc fu args).run Tryz.prog w = .ok (.enter fu args) w) ∧ (∀ (args : Array Value) (w : World), (callFunc fd args).run Tryz.prog w = .ok (.enter fd args) w) ∧
    (∀ w1, Calls Tryz.prog fu #[u] w1 fun e w' => e = .returned (.int .i64 (d.units : Int)) ∧ Below w1.heap.size w1 w') ∧
    (∀ w1, Below w.heap.size w w1 → ∀ (x : Value) (b : List UInt8) (m : Nat), m ≤ d.units → (m = 0 ∨ d.ok b) → w1.ownsRow 0 5 1 x b.length (bvs b) → b.length + d.units ≤ 10000000 →
      Calls Tryz.prog fd #[u, x, .int .i64 (m : Int)] w1 fun e w' => ∃ x', e = .returned x' ∧ w'.ownsRow 0 5 1 x' (d.act b m).length (bvs (d.act b m)) ∧ w1.grownBy w' x.ownBlock ∧ (x'.ownBlock = x.ownBlock ∨ ∀ g, x'.ownBlock = some g → w1.heap.size ≤ g)) := by
  cases d with
  | added r =>
    obtain ⟨A, c, rfl, hc, hr⟩ := h
    refine ⟨183, .agg #[.slice A r.length c], 241, 240, rfl, fun _ _ => by kernel_rfl, fun _ _ => by kernel_rfl, fun _ _ => by kernel_rfl, fun _ _ => by kernel_rfl, fun _ _ => by kernel_rfl, fun w1 => added_units A r.length c w1, ?_⟩
    intro w1 hb x b m hm hok hx hbig
    exact added_do A r c m w.heap.size x b w1 hc hm (hr.rd.below hb (Nat.le_refl _)) hb.size hx hbig
  | cut s =>
    obtain ⟨rfl, hs⟩ := h
    refine ⟨157, .agg #[.int .i64 (s : Int)], 238, 237, rfl, fun _ _ => by kernel_rfl, fun _ _ => by kernel_rfl, fun _ _ => by kernel_rfl, fun _ _ => by kernel_rfl, fun _ _ => by kernel_rfl, fun w1 => cut_units s w1, ?_⟩
    intro w1 hb x b m hm hok hx hbig
    exact cut_do s m x b w1 (hok.imp id (fun h => Nat.le_of_lt h)) (by omega) hx hm

/-- how far settle has come -/
structure SetR (w wr : World) (F : Nat) (vs vt vd : Value) (s : FSt) (k j kj : Nat) (b : List UInt8) (v : Value) : Prop where
  cells : FCells wr F v vt vd s.kept s.loose
  own : wr.ownsRow 0 5 1 v b.length (bvs b)
  chg : Chg (fun i => i = F ∨ vs.ownBlock = some i) w wr
  ob : v.ownBlock = vs.ownBlock ∨ ∀ g, v.ownBlock = some g → w.heap.size ≤ g
  sem : settleL b kj (s.deeds.drop j) = s.behind k
  ok : kj = 0 ∨ Valid b (s.deeds.drop j)
  big : b.length + kj ≤ s.safe.length + k
theorem SetR.ne {w wr : World} {F : Nat} {vs vt vd v : Value} {s : FSt} {k j kj : Nat} {b : List UInt8} (h : SetR w wr F vs vt vd s k j kj b v) (h1 : vs.ownBlock ≠ some F) (hF : F < w.heap.size) : v.ownBlock ≠ some F := fun e => by
  rcases h.ob with h2 | h2
  · exact h1 (h2 ▸ e)
  · have := h2 _ e; omega
theorem SetR.next {w wr wx : World} {F : Nat} {vs vt vd v v' : Value} {s : FSt} {k j kj m : Nat} {b : List UInt8} {d : Deed} (h : SetR w wr F vs vt vd s k j kj b v) (hd : s.deeds[j]? = some d) (hm : m = min kj d.units)
    (hc : FCells wx F v' vt vd s.kept s.loose) (ho : wx.ownsRow 0 5 1 v' (d.act b m).length (bvs (d.act b m))) (hg : Chg (fun i => i = F ∨ v.ownBlock = some i) wr wx) (hob : v'.ownBlock = v.ownBlock ∨ ∀ g, v'.ownBlock = some g → wr.heap.size ≤ g) :
    SetR w wx F vs vt vd s k (j + 1) (kj - m) (d.act b m) v' := by
  have hdr : s.deeds.drop j = d :: s.deeds.drop (j + 1) := by
    obtain ⟨hj, rfl⟩ := List.getElem?_eq_some_iff.1 hd
    exact List.drop_eq_getElem_cons hj
  have hs := h.sem
  have hv := h.ok
  rw [hdr] at hs hv
  refine ⟨hc, ho, h.chg.trans hg ?_, ?_, ?_, ?_, ?_⟩
  · rintro i (rfl | hi)
    · exact .inl (.inl rfl)
    · rcases h.ob with h2 | h2
      · exact .inl (.inr (h2 ▸ hi))
      · exact .inr (h2 _ hi)
  · rcases hob with h2 | h2
    · rw [h2]; exact h.ob
    · exact .inr fun g hg => Nat.le_trans h.chg.size (h2 g hg)
  · rw [hm]; exact hs
  · rcases hv with h0 | hv
    · exact .inl (by omega)
    · by_cases h0 : kj - m = 0
      · exact .inl h0
      · right
        have : m = d.units := by omega
        rw [this]
        exact hv.2
  · have := Deed.act_length b m d
    have := h.big
    omega
theorem SetR.okd {w wr : World} {F : Nat} {vs vt vd v : Value} {s : FSt} {k j kj m : Nat} {b : List UInt8} {d : Deed} (h : SetR w wr F vs vt vd s k j kj b v) (hd : s.deeds[j]? = some d) (hm : m = min kj d.units) : m = 0 ∨ d.ok b := by
  have hdr : s.deeds.drop j = d :: s.deeds.drop (j + 1) := by
    obtain ⟨hj, rfl⟩ := List.getElem?_eq_some_iff.1 hd
    exact List.drop_eq_getElem_cons hj
  have hv := h.ok
  rw [hdr] at hv
  rcases hv with h0 | hv
  · exact .inl (by omega)
  · exact .inr hv.1

theorem unitsL_get : ∀ (ds : List Deed) (j : Nat) (d : Deed), ds[j]? = some d → d.units ≤ unitsL ds
  | [], j, d, h => by simp at h
  | c :: ds, 0, d, h => by simp at h; subst h; simp only [unitsL]; omega
  | c :: ds, j + 1, d, h => by have := unitsL_get ds j d (by simpa using h); simp only [unitsL]; omega
theorem FileAt.row {w : World} {F : Nat} {R : Nat → Prop} {vs vt vd : Value} {dvs : List Value} {s : FSt} (h : FileAt w F R vs vt vd dvs s) {j : Nat} {d : Deed} (hd : s.deeds[j]? = some d) : ∃ dv, dvs[j]? = some dv ∧ DeedAt w R dv d := by
  have hj : j < dvs.length := by rw [h.each.1]; exact (List.getElem?_eq_some_iff.1 hd).1
  exact ⟨dvs[j], List.getElem?_eq_getElem hj, h.each.2 j _ d (List.getElem?_eq_getElem hj) hd⟩

set_option maxRecDepth 100000 in
set_option maxHeartbeats 8000000 in
theorem fsettle_m {w : World} {F : Nat} {M R : Nat → Prop} {s : FSt} (h : FileM w F M R s) (k : Nat) (hk : k ≤ s.loose) (hb : s.big ≤ 1000000) :
    Calls Tryz.prog 101 #[.pointer (some ⟨F, 0, none⟩), .int .i64 (k : Int)] w fun e w' => e = .returned (.tuple #[]) ∧ Mut w w' F M R (s.settled k) := by
  obtain ⟨ho, hMR, hM, hR, vs, vt, vd, dvs, h, hOM⟩ := h
  have hdl : s.deeds.length ≤ s.loose := length_le_units _ _ ho.valid
  have hbig : s.big = s.safe.length + s.loose := rfl
  have HB0 : Hid (s.safe.length + s.loose ≤ 1000000 ∧ k ≤ s.loose ∧ s.deeds.length ≤ s.loose) := ⟨by omega, hk, hdl⟩
  have HOk := Lib.hid ho
  have HMR := Lib.hid hMR
  have HM := Lib.hid hM
  have HR := Lib.hid hR
  have HOM := Lib.hid hOM
  have H := Lib.hid h
  obtain ⟨Ad, cd, hvd, hlc, hcm, _⟩ := own_slice h.deeds
  obtain ⟨nd, hnd⟩ : ∃ nd, nd = s.deeds.length := ⟨_, rfl⟩
  have Hnd := Lib.hid hnd
  have hvd' : vd = .slice Ad nd cd := by rw [hnd]; exact hvd
  have hcm' : nd ≤ 1000000 := by omega
  rw [← hnd] at hlc
  have Hvd := Lib.hid hvd'
  have hcl := h.cells
  rw [hvd'] at hcl
  obtain ⟨c0, c1, c2, c3, c4, f0, f1, f2, f3, f4⟩ := hcl
  have hF := h.cells.lt
  have HAp := Lib.hid h.apart
  have HRd : Hid (Rd w w.heap.size Ad dvs) := by have := h.deeds; rw [hvd] at this; exact Rd.of_own this
  have HS0 : Hid (SetR w w F vs vt vd s k 0 k s.safe vs) := ⟨h.cells, h.safe, Chg.refl, .inl rfl, rfl, .inr ho.valid, Nat.le_refl _⟩
  clear ho hMR hM hR hOM h hdl hbig hb hk hvd hnd hvd'
  go_enter Tryz.func101, Tryz.ntmps101
  go_wp2_with fail
  clear c0 c1 c2 c3 c4 f0 f1 f2 f3 f4
  go_loopw [1, 12] (fun q i wr => ∃ (j kj : Nat) (b : List UInt8) (v : Value), j ≤ nd ∧ kj ≤ 1000000 ∧ q = .int .i64 kj ∧ i = .int .i64 j ∧ SetR w wr F vs vt vd s k j kj b v) (fun q i _ => nd - (intOf i).toNat)
  case atStart => exact ⟨0, k, _, _, by omega, by have := HB0.out; omega, rfl, rfl, HS0.out⟩
  case round =>
    obtain ⟨j, kj, b, v, hj, hkj, rfl, rfl, hS⟩ := hrel
    have HS := Lib.hid hS
    clear hS
    by_cases hjl : j < nd
    · obtain ⟨d, hd⟩ : ∃ d, s.deeds[j]? = some d := ⟨s.deeds[j]'(by have := Hnd.out; omega), List.getElem?_eq_getElem _⟩
      obtain ⟨dv, hdv, hda⟩ := H.out.row hd
      have hno : ∀ i, (i = F ∨ vs.ownBlock = some i) → ¬ R i := by
        rintro i (rfl | hi)
        · exact H.out.rows _ (.inl rfl)
        · exact H.out.rows _ (.inr (.inl hi))
      obtain ⟨t, u, fu, fd, rfl, hmu, hmd, hna, heu, hed, hcu, hcd⟩ := (hda.chg HS.out.chg hno).run
      obtain ⟨bb, oo, rfl, hbb, hcc⟩ := HRd.out (by intro e; rw [e] at hdv; simp at hdv)
      have cj : wr.cell? ⟨bb, oo + j, none⟩ = some (.iface t u) := by
        have hne : ¬ (bb = F ∨ vs.ownBlock = some bb) := by
          have e : vd.ownBlock = some bb := by rw [Hvd.out]; rfl
          rintro (e2 | e2)
          · exact HAp.out.d (e2 ▸ e)
          · exact HAp.out.sd bb e2 e
        exact (HS.out.chg.cell (p := ⟨bb, oo + j, none⟩) hbb hne).trans (hcc j _ hdv)
      have Hd := Lib.hid hd
      have Hcu := Lib.hid hcu
      have Hcd := Lib.hid hcd
      obtain ⟨un, hun⟩ : ∃ un, un = d.units := ⟨_, rfl⟩
      have hul : un ≤ 1000000 := by have h1 := unitsL_get _ _ _ hd; have h2 := HB0.out; have : s.loose = unitsL s.deeds := rfl; omega
      obtain ⟨m, hm⟩ : ∃ m, m = min kj un := ⟨_, rfl⟩
      have hmin : min (kj : Int) (un : Int) = (m : Int) := by omega
      have Hm : Hid (m = min kj d.units) := by rw [hm, hun]; exact rfl
      have Hun := Lib.hid hun
      have hmk : m ≤ kj := by omega
      rw [← hun] at Hcu
      clear hcc hda hdv hcu hcd hno hd hun hm
      go_wp2_with fail
      refine (Hcu.out _).mono ?_
      rintro e w1 ⟨rfl, hb1⟩
      have HB1 := Lib.hid hb1
      clear hb1
      go_wp2_with fail
      have HC1 := Lib.hid (HS.out.cells.on HB1.out).drew
      have HO1 := Lib.hid (own_below HS.out.own HB1.out.drew (Nat.le_refl _))
      have HB1' := Lib.hid HB1.out.drew
      refine wp_region_noPanic ?_
      refine OrdL.wpL_region (fun w' => w'.cell? ⟨F, 0, none⟩ = some v) 13 (by kernel_rfl) ?_
      clear HB1
      generalize World.drew _ = W at *
      have hHeld := HC1.out.c0
      refine OrdL.wpL_take (i := 0) (v := ?_) opAt_0 [] (by kernel_rfl) (by kernel_rfl) (by kernel_rfl) (by kernel_rfl) (by kernel_rfl) (by kernel_rfl) (fun _ _ _ h => h) (Or.inl ⟨by rfl, ?_⟩) hHeld ?_
      rotate_left
      · (intro w' hSw; go_simp; try with_reducible rfl)
      try simp only [Act.put, List.setIfInBounds_toArray, List.set_cons_zero, List.set_cons_succ]
      refine OrdL.wpL_take (i := 1) (v := ?_) opAt_1 [] (by kernel_rfl) (by kernel_rfl) (by kernel_rfl) (by kernel_rfl) (by kernel_rfl) (by kernel_rfl) (fun _ _ _ h => h) (Or.inl ⟨by rfl, ?_⟩) hHeld ?_
      rotate_left
      · (intro w' hSw; go_simp; try with_reducible rfl)
      try simp only [Act.put, List.setIfInBounds_toArray, List.set_cons_zero, List.set_cons_succ]
      refine OrdL.wpL_take (i := 2) (v := ?_) opAt_2 [] (by kernel_rfl) (by kernel_rfl) (by kernel_rfl) (by kernel_rfl) (by kernel_rfl) (by kernel_rfl) (fun _ _ _ h => h) (Or.inl ⟨by rfl, ?_⟩) hHeld ?_
      rotate_left
      · (intro w' hSw; go_simp; try with_reducible rfl)
      try simp only [Act.put, List.setIfInBounds_toArray, List.set_cons_zero, List.set_cons_succ]
      refine OrdL.wpL_take (i := 3) (v := ?_) opAt_3 [] (by kernel_rfl) (by kernel_rfl) (by kernel_rfl) (by kernel_rfl) (by kernel_rfl) (by kernel_rfl) (fun _ _ _ h => h) (Or.inl ⟨by rfl, ?_⟩) hHeld ?_
      rotate_left
      · (intro w' hSw; go_simp; try with_reducible rfl)
      try simp only [Act.put, List.setIfInBounds_toArray, List.set_cons_zero, List.set_cons_succ]
      refine OrdL.wpL_take (i := 4) (v := ?_) opAt_4 [] (by kernel_rfl) (by kernel_rfl) (by kernel_rfl) (by kernel_rfl) (by kernel_rfl) (by kernel_rfl) (fun _ _ _ h => h) (Or.inl ⟨by rfl, ?_⟩) hHeld ?_
      rotate_left
      · (intro w' hSw; go_simp; try with_reducible rfl)
      try simp only [Act.put, List.setIfInBounds_toArray, List.set_cons_zero, List.set_cons_succ]
      refine OrdL.wpL_take (i := 5) (v := ?_) opAt_5 [] (by kernel_rfl) (by kernel_rfl) (by kernel_rfl) (by kernel_rfl) (by kernel_rfl) (by kernel_rfl) (fun _ _ _ h => h) (Or.inl ⟨by rfl, ?_⟩) hHeld ?_
      rotate_left
      · (intro w' hSw; go_simp; try with_reducible rfl)
      try simp only [Act.put, List.setIfInBounds_toArray, List.set_cons_zero, List.set_cons_succ]
      refine OrdL.wpL_take (i := 6) (v := ?_) opAt_6 [] (by kernel_rfl) (by kernel_rfl) (by kernel_rfl) (by kernel_rfl) (by kernel_rfl) (by kernel_rfl) (fun _ _ _ h => h) (Or.inl ⟨by rfl, ?_⟩) hHeld ?_
      rotate_left
      · (intro w' hSw; go_simp; try with_reducible rfl)
      try simp only [Act.put, List.setIfInBounds_toArray, List.set_cons_zero, List.set_cons_succ]
      refine OrdL.wpL_take (i := 7) (v := ?_) opAt_7 [] (by kernel_rfl) (by kernel_rfl) (by kernel_rfl) (by kernel_rfl) (by kernel_rfl) (by kernel_rfl) (fun _ _ _ h => h) (Or.inl ⟨by rfl, ?_⟩) hHeld ?_
      rotate_left
      · (intro w' hSw; go_simp; try with_reducible rfl)
      try simp only [Act.put, List.setIfInBounds_toArray, List.set_cons_zero, List.set_cons_succ]
      refine OrdL.wpL_take (i := 8) (v := ?_) opAt_8 [] (by kernel_rfl) (by kernel_rfl) (by kernel_rfl) (by kernel_rfl) (by kernel_rfl) (by kernel_rfl) (fun _ _ _ h => h) (Or.inl ⟨by rfl, ?_⟩) hHeld ?_
      rotate_left
      · (intro w' hSw; go_simp; try with_reducible rfl)
      try simp only [Act.put, List.setIfInBounds_toArray, List.set_cons_zero, List.set_cons_succ]
      refine OrdL.wpL_take (i := 9) (v := ?_) opAt_9 [] (by kernel_rfl) (by kernel_rfl) (by kernel_rfl) (by kernel_rfl) (by kernel_rfl) (by kernel_rfl) (fun _ _ _ h => h) (Or.inl ⟨by rfl, ?_⟩) hHeld ?_
      rotate_left
      · (intro w' hSw; go_simp; try with_reducible rfl)
      try simp only [Act.put, List.setIfInBounds_toArray, List.set_cons_zero, List.set_cons_succ]
      refine OrdL.wpL_ready (rs := [10]) (by kernel_rfl) (by simp) ?_
      refine OrdL.AllL.cons rfl (fun K hK => ?_) OrdL.AllL.nil
      go_simp
      refine (Hcd.out _ HB1'.out v b m (by have := Hm.out; omega) (HS.out.okd Hd.out Hm.out) HO1.out (by have h1 := HS.out.big; have h2 := HB0.out; have h3 := Hun.out; omega)).mono ?_
      rintro e w2 ⟨x', rfl, hox, hgx, hobx⟩
      go_wp2_with fail
      have hvF : v.ownBlock ≠ some F := HS.out.ne HAp.out.s hF
      have HC2 := Lib.hid (HC1.out.of_block (hgx.block F HC1.out.lt (fun e => hvF e.symm)))
      have HOx := Lib.hid hox
      have HGx := Lib.hid hgx
      have HObx := Lib.hid hobx
      clear hHeld hox hgx hobx
      have hHeld := HC2.out.c0
      refine hK.out _ _ (fun _ => hHeld) ?_
      clear hK K
      try simp only [Act.put, List.setIfInBounds_toArray, List.set_cons_zero, List.set_cons_succ]
      refine OrdL.wpL_take (i := 11) (v := ?_) opAt_11 [12] (by kernel_rfl) (by kernel_rfl) (by kernel_rfl) (by kernel_rfl) (by kernel_rfl) (by kernel_rfl) (fun _ _ _ h => h) (Or.inl ⟨by rfl, ?_⟩) hHeld ?_
      rotate_left
      · (intro w' hSw; go_simp; try with_reducible rfl)
      try simp only [Act.put, List.setIfInBounds_toArray, List.set_cons_zero, List.set_cons_succ]
      refine OrdL.wpL_take (i := 12) (v := ?_) opAt_12 [] (by kernel_rfl) (by kernel_rfl) (by kernel_rfl) (by kernel_rfl) (by kernel_rfl) (by kernel_rfl) (fun _ _ _ h => h) (Or.inl ⟨by rfl, ?_⟩) hHeld ?_
      rotate_left
      · (intro w' hSw; go_simp; try with_reducible rfl)
      try simp only [Act.put, List.setIfInBounds_toArray, List.set_cons_zero, List.set_cons_succ]
      refine OrdL.wpL_ready (rs := [13]) (by kernel_rfl) (by simp) ?_
      refine OrdL.AllL.cons rfl (fun K hK => ?_) OrdL.AllL.nil
      have f0 := HC2.out.f0
      obtain ⟨Ax, cx, hxe, _, _, _⟩ := own_slice HOx.out
      obtain ⟨nx, hnx⟩ : ∃ nx, nx = (d.act b m).length := ⟨_, rfl⟩
      rw [← hnx] at hxe
      have Hnx := Lib.hid hnx
      have Hxe := Lib.hid hxe
      clear hnx
      subst hxe
      go_simp
      refine hK.out _ _ (fun h => by simp at h) ?_
      refine OrdL.wpL_done (by kernel_rfl) ?_ _
      refine NoPanic.normal ?_
      go_wp2_with fail
      go_roundw
      case rel =>
        have hxF : (Value.slice Ax nx cx).ownBlock ≠ some F := fun e => by
          rcases HObx.out with h1 | h1
          · exact hvF (h1 ▸ e)
          · have := h1 _ e; have := HC1.out.lt; omega
        refine ⟨j + 1, kj - m, _, _, by omega, by omega, by go_num, by go_num, HS.out.next Hd.out Hm.out (HC2.out.set0 _) (((Chg.refl (M := fun i => i = F) (w := w2)).setCell (p := ⟨F, 0, none⟩) rfl _).own HOx.out (fun g hg e => hxF (e ▸ hg))) ?_ ?_⟩
        · exact ((Chg.of_below (M := fun i => i = F ∨ v.ownBlock = some i) HB1'.out).trans (Chg.of_grown (M := fun i => v.ownBlock = some i) HGx.out (fun g hg => hg)) (fun i hi => .inl (.inr hi))).setCell (.inl rfl) _
        · exact HObx.out.imp id (fun h1 g hg => Nat.le_trans HB1'.out.size (h1 g hg))
      case measure => simp [intOf]; omega
    · obtain rfl : j = nd := by omega
      have HCl := Lib.hid HS.out.cells
      obtain ⟨Av, cv, hve, _, hcv, _⟩ := own_slice HS.out.own
      obtain ⟨nb, hnb⟩ : ∃ nb, nb = b.length := ⟨_, rfl⟩
      have hve' : v = .slice Av nb cv := by rw [hnb]; exact hve
      have hvF : v.ownBlock ≠ some F := HS.out.ne HAp.out.s hF
      have hcl := HCl.out
      rw [hve'] at hcl
      have HCv := Lib.hid hcl
      obtain ⟨c0, c1, c2, c3, c4, f0, f1, f2, f3, f4⟩ := hcl
      have Hve := Lib.hid hve'
      have Hnb := Lib.hid hnb
      clear hve hve' hnb
      go_wp2_with fail
      go_end0
      have hbe : b = s.behind k := by
        have := HS.out.sem
        rw [Hnd.out, List.drop_length] at this
        exact this
      have hc5 := (((HCv.out.set1 nb).set2 (.slice none 0 0)).set3 (.slice none 0 0)).set4 0
      have hg5 : Chg (fun i => i = F) wr ((((wr.setCell ⟨F, 1, none⟩ (.int .i64 (nb : Int))).setCell ⟨F, 2, none⟩ (.slice none 0 0)).setCell ⟨F, 3, none⟩ (.slice none 0 0)).setCell ⟨F, 4, none⟩ (.int .i64 ((0 : Nat) : Int))) := ((((Chg.refl (M := fun i => i = F) (w := wr)).setCell (p := ⟨F, 1, none⟩) rfl _).setCell (p := ⟨F, 2, none⟩) rfl _).setCell (p := ⟨F, 3, none⟩) rfl _).setCell (p := ⟨F, 4, none⟩) rfl _
      generalize World.setCell _ _ _ = W at *
      have ho5 := hg5.own HS.out.own (fun g hg e => hvF (e ▸ hg))
      have hvlt := fun g hg => (HS.out.own.lt g hg).2
      have hMw : Chg M w W := (HS.out.chg.mono (fun i hi => HOM.out i (hi.elim .inl (fun h => .inr (.inl h))))).trans hg5 (fun i hi => .inl (HOM.out i (.inl hi)))
      have hfin : FileAt W F R (.slice Av nb cv) (.slice none 0 0) (.slice none 0 0) [] (s.settled k) := by
        refine ⟨?_, ?_, World.ownsRow_nil _ _ _ _, World.ownsRow_nil _ _ _ _, DeedsAt.nil_, ⟨?_, by simp [Value.ownBlock], by simp [Value.ownBlock], by simp [Value.ownBlock], by simp [Value.ownBlock], by simp [Value.ownBlock]⟩, ?_⟩
        · have e : (s.settled k).kept = nb := by rw [Hnb.out, hbe]; rfl
          rw [e]
          exact hc5
        · have e : (s.settled k).safe = b := hbe.symm
          rw [e, ← Hve.out]
          exact ho5
        · rw [← Hve.out]; exact hvF
        · rintro i (rfl | hi | hi | hi) hr
          · exact H.out.rows _ (.inl rfl) hr
          · rw [← Hve.out] at hi
            rcases HS.out.ob with h1 | h1
            · exact H.out.rows _ (.inr (.inl (h1 ▸ hi))) hr
            · have := h1 _ hi; have := HR.out i hr; omega
          · simp [Value.ownBlock] at hi
          · simp [Value.ownBlock] at hi
      refine ⟨rfl, fun i => FOwn F (.slice Av nb cv) (.slice none 0 0) (.slice none 0 0) i, R, ⟨FSt.settled_ok _ _, hfin.rows, hfin.lt, fun i hi => Nat.lt_of_lt_of_le (HR.out i hi) hMw.size, _, _, _, _, hfin, fun i h => h⟩, hMw, ?_, fun i hi => .inl hi⟩
      rintro i (rfl | hi | hi | hi)
      · exact .inl (HOM.out _ (.inl rfl))
      · rw [← Hve.out] at hi
        rcases HS.out.ob with h1 | h1
        · exact .inl (HOM.out _ (.inr (.inl (h1 ▸ hi))))
        · exact .inr (h1 _ hi)
      · simp [Value.ownBlock] at hi
      · simp [Value.ownBlock] at hi
end Go.Proofs.YtaicibmaogiibaaGreatDoor

/-
  Layer 5: New, Crash, Sync, Flip.
-/
set_option linter.unusedVariables false
set_option linter.unusedSimpArgs false
namespace Go.Proofs.YtaicibmaogiibaaGreatDoor
open Go.RowKit

section
variable {w : World} {F : Nat} {M R : Nat → Prop} {s : FSt}
theorem fsync_m (h : FileM w F M R s) (hb : s.big ≤ 1000000) :
    Calls Tryz.prog 91 #[.pointer (some ⟨F, 0, none⟩)] w fun e w' => e = .returned (.int .i64 0) ∧ Mut w w' F M R (s.settled s.loose) := by
  have HM := Lib.hid h
  have HB := Lib.hid hb
  obtain ⟨ho, _, _, _, vs, vt, vd, dvs, h, _⟩ := h
  obtain ⟨c0, c1, c2, c3, c4, f0, f1, f2, f3, f4⟩ := h.cells
  clear hb ho h
  go_enter Tryz.func91, Tryz.ntmps91
  go_wp2_with fail
  refine (fsettle_m HM.out _ (Nat.le_refl _) HB.out).mono ?_
  rintro e w1 ⟨rfl, hmut⟩
  have HX := Lib.hid hmut
  clear hmut
  go_wp2_with fail
  go_ret
  exact ⟨rfl, HX.out⟩
theorem fnew_b {B : Nat} {v : Value} {b : List UInt8} (hv : Bs w B v b) (hB : B ≤ w.heap.size) (hl : b.length ≤ 1000000) :
    Calls Tryz.prog 118 #[v] w fun e w' => ∃ F M, e = .returned (.pointer (some ⟨F, 0, none⟩)) ∧ FileM w' F M (fun _ => False) (FSt.new b) ∧ Below w.heap.size w w' ∧ ∀ i, M i → w.heap.size ≤ i := by
  have HV := Lib.hid hv
  obtain ⟨A, c, rfl, hc, hr⟩ := hv
  clear hr
  obtain ⟨n, hn⟩ : ∃ n, n = b.length := ⟨_, rfl⟩
  rw [← hn] at HV
  rw [← hn]
  have Hn := Lib.hid hn
  have Hl := Lib.hid hl
  clear hn hl hc
  go_enter Tryz.func118, Tryz.ntmps118
  go_wp2_with fail
  refine (fclone _ b B w HV.out hB (by have := Hl.out; omega)).mono ?_
  rintro e w1 ⟨v1, rfl, hown1, hb1⟩
  obtain ⟨A1, c1, rfl, _, _, _⟩ := own_slice hown1
  have HO := Lib.hid hown1
  have HB1 := Lib.hid hb1
  clear hown1 hb1
  go_wp2_with fail
  go_ret
  have hw2 : Below w1.heap.size w1 (w1.alloc (.cells #[.slice A1 b.length c1, .int .i64 (n : Int), .slice none 0 0, .slice none 0 0, .int .i64 0] 147)) := (Below.refl _ _).alloc (Nat.le_refl _) _
  have hF : FileAt (w1.alloc (.cells #[.slice A1 b.length c1, .int .i64 (n : Int), .slice none 0 0, .slice none 0 0, .int .i64 0] 147)) w1.heap.size (fun _ => False) (.slice A1 b.length c1) (.slice none 0 0) (.slice none 0 0) [] (FSt.new b) := by
    refine ⟨?_, own_base (HO.out.alloc _) (Nat.zero_le _), World.ownsRow_nil _ _ _ _, World.ownsRow_nil _ _ _ _, DeedsAt.nil_, ⟨?_, by simp [Value.ownBlock], by simp [Value.ownBlock], by simp [Value.ownBlock], by simp [Value.ownBlock], by simp [Value.ownBlock]⟩, fun i _ h => h⟩
    · have := FCells.new w1 (.slice A1 b.length c1) (.slice none 0 0) (.slice none 0 0) n 0 147
      rw [Hn.out] at this
      rw [Hn.out]
      exact this
    · intro e
      have := (HO.out.lt _ e).2
      omega
  refine ⟨_, fun i => FOwn w1.heap.size (.slice A1 b.length c1) (.slice none 0 0) (.slice none 0 0) i, rfl, ⟨FSt.new_ok _, hF.rows, hF.lt, fun i h => h.elim, _, _, _, _, hF, fun i h => h⟩, HB1.out.trans (hw2.mono HB1.out.size), ?_⟩
  rintro i (rfl | hi | hi | hi)
  · exact HB1.out.size
  · exact (HO.out.lt _ hi).1
  · simp [Value.ownBlock] at hi
  · simp [Value.ownBlock] at hi
end
section
variable {w : World} {F : Nat} {M R : Nat → Prop} {s : FSt}
end
end Go.Proofs.YtaicibmaogiibaaGreatDoor

/-
  Layer 5: Copy.
-/
set_option linter.unusedVariables false
set_option linter.unusedSimpArgs false
namespace Go.Proofs.YtaicibmaogiibaaGreatDoor
open Go.RowKit

end Go.Proofs.YtaicibmaogiibaaGreatDoor

/- FxRead -/

/-
  Layer 5: Read.
-/
set_option linter.unusedVariables false
set_option linter.unusedSimpArgs false
namespace Go.Proofs.YtaicibmaogiibaaGreatDoor
open Go.RowKit

/-- a place, brought within a row -/
def clampN (x : Int) (l : Nat) : Nat := min x.toNat l
theorem clampN_eq (x : Int) (l : Nat) : min (max x 0) (l : Int) = (clampN x l : Int) := by unfold clampN; omega
theorem clampN_le (x : Int) (l : Nat) : clampN x l ≤ l := Nat.min_le_right _ _
theorem clampN_mono {x y : Int} (h : x ≤ y) (l : Nat) : clampN x l ≤ clampN y l := by unfold clampN; omega
theorem read_parts (a b : List UInt8) (at_ n : Nat) (h : at_ + n ≤ a.length + b.length) :
    (a.drop (clampN (at_ : Int) a.length)).take (clampN ((at_ + n : Nat) : Int) a.length - clampN (at_ : Int) a.length) ++
    (b.drop (clampN ((at_ : Int) - (a.length : Int)) b.length)).take (clampN (((at_ + n : Nat) : Int) - (a.length : Int)) b.length - clampN ((at_ : Int) - (a.length : Int)) b.length) = ((a ++ b).drop at_).take n := by
  rw [List.drop_append, List.take_append]
  have e1 : clampN (at_ : Int) a.length = min at_ a.length := by unfold clampN; omega
  have e2 : clampN ((at_ + n : Nat) : Int) a.length = min (at_ + n) a.length := by unfold clampN; omega
  have e3 : clampN ((at_ : Int) - (a.length : Int)) b.length = at_ - a.length := by unfold clampN; omega
  have e4 : clampN (((at_ + n : Nat) : Int) - (a.length : Int)) b.length = at_ + n - a.length := by unfold clampN; omega
  rw [e1, e2, e3, e4]
  congr 1
  · by_cases hk : at_ ≤ a.length
    · rw [show min at_ a.length = at_ by omega, List.take_eq_take_iff, List.length_drop]
      omega
    · rw [List.drop_eq_nil_of_le (by omega), List.drop_eq_nil_of_le (by omega)]
      simp
  · congr 1
    rw [List.length_drop]
    omega

theorem fwithin1 {w : World} {X n c i : Nat} {A : Option Addr} {x : Int} (hX : w.cell? ⟨X, 0, none⟩ = some (.slice A n c)) (hi : min (max x 0) (n : Int) = (i : Int)) :
    Calls Tryz.prog 158 #[.int .i64 x, .pointer (some ⟨X, 0, none⟩)] w fun e w' => e = .returned (.int .i64 (i : Int)) ∧ w = w' := by
  go_enter Tryz.func158, Tryz.ntmps158
  go_wp2
  go_ret
  exact ⟨rfl, rfl⟩

set_option maxRecDepth 100000 in
set_option maxHeartbeats 4000000 in
theorem fwithin {w : World} {B : Nat} {v : Value} {l : List UInt8} (hv : Bs w B v l) (hB : B ≤ w.heap.size) (x y : Int) (hxy : x ≤ y) (hl : l.length ≤ 10000000) :
    Calls Tryz.prog 125 #[v, .int .i64 x, .int .i64 y] w fun e w' => ∃ v', e = .returned v' ∧ Bs w' w'.heap.size v' ((l.drop (clampN x l.length)).take (clampN y l.length - clampN x l.length)) ∧ Below w.heap.size w w' := by
  have hmf : ∀ (fn : Fn) (first cap : Array Value) (w : World), (Instr.makeFunc fn first cap).run Tryz.prog w = .ok (.func fn first cap) w := fun _ _ _ _ => rfl
  obtain ⟨A, c, rfl, hc, hr⟩ := hv
  obtain ⟨n, hn⟩ : ∃ n, n = l.length := ⟨_, rfl⟩
  obtain ⟨i, hi⟩ : ∃ i, i = clampN x n := ⟨_, rfl⟩
  obtain ⟨k, hk⟩ : ∃ k, k = clampN y n := ⟨_, rfl⟩
  have hix := clampN_eq x n
  have hky := clampN_eq y n
  have hkn := clampN_le y n
  have hik := clampN_mono hxy n
  rw [← hi] at hix hik
  rw [← hk] at hky hkn hik
  rw [← hn]
  rw [← hi, ← hk]
  rw [← hn] at hc hl
  obtain ⟨m, hm⟩ : ∃ m, k = i + m := ⟨k - i, by omega⟩
  obtain ⟨A', c', hrun, hmc, hrd⟩ := cut_lh A n c i k m hm (by omega)
  have Hn := Lib.hid hn
  have Hm := Lib.hid hm
  have HRd := Lib.hid hrd
  have Hix := Lib.hid hix
  have Hky := Lib.hid hky
  have HB := Lib.hid hB
  have Hc : Hid (l.length ≤ c) := by rw [← hn]; exact hc
  have HR := Lib.hid (hr.mono hB)
  clear hr hn hi hk hm hrd hix hky hB
  go_enter Tryz.func125, Tryz.ntmps125
  go_wp2_with fail
  have hnew : Below w.heap.size w (w.alloc (.cells #[.slice A n c] 47)).drew := ((Below.refl _ _).alloc (Nat.le_refl _) _).drew
  have hS0 : (w.alloc (.cells #[.slice A n c] 47)).drew.cell? ⟨w.heap.size, 0, none⟩ = some (.slice A n c) := by
    show (w.alloc _).cell? _ = _
    simp
  refine wp_region_noPanic ?_
  refine wp_region_held_drew (S := fun w' => w'.cell? ⟨w.heap.size, 0, none⟩ = some (.slice A n c)) (by kernel_rfl) hS0 (fun hHeld => ?_)
  have HW := Lib.hid hnew
  clear hnew
  generalize hX : w.heap.size = X at *
  have HX := Lib.hid hX
  clear hX
  generalize World.drew _ = W at *
  refine wpAnyH_take (i := 0) (v := ?_) opAt_0 (by kernel_rfl) (by kernel_rfl) (by kernel_rfl) (fun _ _ _ h => h) (Or.inl ⟨by rfl, ?_⟩) hHeld ?_
  rotate_left
  · (intro w' hSw; go_simp; try with_reducible rfl)
  try simp only [Act.put, List.setIfInBounds_toArray, List.set_cons_zero, List.set_cons_succ]
  refine wpAnyH_take (i := 1) (v := ?_) opAt_1 (by kernel_rfl) (by kernel_rfl) (by kernel_rfl) (fun _ _ _ h => h) (Or.inl ⟨by rfl, ?_⟩) hHeld ?_
  rotate_left
  · (intro w' hSw; go_simp; try with_reducible rfl)
  try simp only [Act.put, List.setIfInBounds_toArray, List.set_cons_zero, List.set_cons_succ]
  refine wpAnyH_take (i := 2) (v := ?_) opAt_2 (by kernel_rfl) (by kernel_rfl) (by kernel_rfl) (fun _ _ _ h => h) (Or.inl ⟨by rfl, ?_⟩) hHeld ?_
  rotate_left
  · (intro w' hSw; go_simp; try with_reducible rfl)
  try simp only [Act.put, List.setIfInBounds_toArray, List.set_cons_zero, List.set_cons_succ]
  refine wpAnyH_take (i := 4) (v := ?_) opAt_4 (by kernel_rfl) (by kernel_rfl) (by kernel_rfl) (fun _ _ _ h => h) (Or.inl ⟨by rfl, ?_⟩) hHeld ?_
  rotate_left
  · (intro w' hSw; go_simp; try with_reducible rfl)
  try simp only [Act.put, List.setIfInBounds_toArray, List.set_cons_zero, List.set_cons_succ]
  refine wpAnyH_take (i := 5) (v := ?_) opAt_5 (by kernel_rfl) (by kernel_rfl) (by kernel_rfl) (fun _ _ _ h => h) (Or.inl ⟨by rfl, ?_⟩) hHeld ?_
  rotate_left
  · (intro w' hSw; go_simp; try with_reducible rfl)
  try simp only [Act.put, List.setIfInBounds_toArray, List.set_cons_zero, List.set_cons_succ]
  refine wpAnyH_ready (rs := [3]) (by kernel_rfl) (by simp) ?_
  refine AllReadyH.cons rfl (fun K hK => ?_) AllReadyH.nil
  go_simp
  refine (fwithin1 hHeld Hix.out).mono ?_
  rintro e w1 ⟨rfl, rfl⟩
  go_wp2_with fail
  refine hK.out _ _ hHeld (fun hHeld => ?_)
  clear hK K
  try simp only [Act.put, List.setIfInBounds_toArray, List.set_cons_zero, List.set_cons_succ]
  refine wpAnyH_ready (rs := [6]) (by kernel_rfl) (by simp) ?_
  refine AllReadyH.cons rfl (fun K hK => ?_) AllReadyH.nil
  go_simp
  refine (fwithin1 hHeld Hky.out).mono ?_
  rintro e w1 ⟨rfl, rfl⟩
  go_wp2_with fail
  refine hK.out _ _ hHeld (fun hHeld => ?_)
  clear hK K
  try simp only [Act.put, List.setIfInBounds_toArray, List.set_cons_zero, List.set_cons_succ]
  refine wpAnyH_take (i := 7) (v := ?_) opAt_7 (by kernel_rfl) (by kernel_rfl) (by kernel_rfl) (fun _ _ _ h => h) (Or.inl ⟨by rfl, ?_⟩) hHeld ?_
  rotate_left
  · (intro w' hSw; go_simp; try with_reducible rfl)
  try simp only [Act.put, List.setIfInBounds_toArray, List.set_cons_zero, List.set_cons_succ]
  refine wpAnyH_ready (rs := [8]) (by kernel_rfl) (by simp) ?_
  refine AllReadyH.cons rfl (fun K hK => ?_) AllReadyH.nil
  go_simp
  refine hK.out _ _ hHeld (fun hHeld => ?_)
  refine wpAnyH_done (by kernel_rfl) ?_ _
  refine NoPanic.normal ?_
  clear hK K hHeld
  go_wp2_with fail
  go_ret
  have hXe := HX.out
  subst hXe
  have hrd1 := HRd.out W w.heap.size l Hc.out (HR.out.below HW.out (Nat.le_refl _))
  have hlen : ((l.drop i).take m).length = m := by rw [List.length_take, List.length_drop]; have := Hn.out; have := Hm.out; omega
  rw [show k - i = m by have := Hm.out; omega]
  refine ⟨_, rfl, ⟨A', c', by rw [hlen]; rfl, by rw [hlen]; exact hmc, hrd1.mono (by have := HW.out.size; omega)⟩, ?_⟩
  exact HW.out

set_option maxRecDepth 100000 in
/-- slices.Grow of nil -/
theorem fgrow (k : Nat) (w : World) (hk : k ≤ 10000000) :
    Calls Tryz.prog 159 #[.slice none 0 0, .int .i64 (k : Int)] w fun e w' => ∃ v, e = .returned v ∧ w'.ownsRow w.heap.size 5 1 v 0 [] ∧ Below w.heap.size w w' := by
  obtain ⟨i0, hi0, hz0, hz1, hz2⟩ := info_parts fbyte_info
  rcases Nat.eq_zero_or_pos k with rfl | h0
  · go_enter Tryz.func159, Tryz.ntmps159
    go_wp2
    go_ret
    exact ⟨_, rfl, World.ownsRow_nil _ _ _ _, Below.refl _ _⟩
  · have hold : (Builtin.firstCells i0.size 0 (.slice none 0 0)).run Tryz.prog w.drew = .ok ([] : List Value).toArray w.drew := run_firstCells_none w.drew i0.size 0 0 0
    have hfit := growslice_fits (need := 0 + k) (old := 0) (bytes := i0.bytes) (by omega) (by rw [hz2]; omega)
    have hrz := fun ty => Lib.run_append_grow_zeros w 47 3 ty 5 i0 (.int .u8 0) .i64 .i64 Tryz.underlying47 Tryz.underlying3 hi0 hz0 none 0 0 [] hold k h0 (by omega) (by omega) (by omega) (by rw [hz2]; omega) hfit
    have hG : 0 + k ≤ grownCap w (0 + k) 0 5 := grownCap_ge w _ _ _
    have hGm := grownCap_le_maxLen w (0 + k) 0 5 (by unfold maxLen; omega)
    generalize grownCap w (0 + k) 0 5 = G at *
    have hc0 := cut_h (some ⟨w.heap.size, 0, none⟩) (0 + k) G 0 (by omega)
    have hc1 := cut_h none 0 0 0 (by omega)
    have hz : ((k : Int) - 0) = (k : Int) := by omega
    have hd : decide ((k : Int) > 0) = true := by simp; omega
    go_enter Tryz.func159, Tryz.ntmps159
    go_wp2_with (at_builtin; refine Lib.wpList_append_run _ rfl _ _ _ _ rfl _ _ rfl rfl _ _ (hrz _) ?_)
    go_ret
    refine ⟨_, rfl, ⟨by simp, .inr ⟨w.heap.size, G, _, rfl, Nat.le_refl _, heap_alloc_new _ _, Nat.zero_le _, hGm, ?_, by simp⟩⟩, ((Below.refl _ _).drew).alloc (Nat.le_refl _) _⟩
    simp [Builtin.zeroCells, Value.cells]
    omega
end Go.Proofs.YtaicibmaogiibaaGreatDoor

/-
  Layer 5: slices.Concat of two rows; Read; what the laws call 'all'.
-/
set_option linter.unusedVariables false
set_option linter.unusedSimpArgs false
namespace Go.Proofs.YtaicibmaogiibaaGreatDoor
open Go.RowKit

/-- the first j of two rows, one behind the other -/
def pre2 (a b : List UInt8) (j : Nat) : List UInt8 := if j = 0 then [] else if j = 1 then a else a ++ b
set_option maxRecDepth 100000 in
set_option maxHeartbeats 4000000 in
theorem fconcat {w : World} {X : Nat} {v1 v2 : Value} {l1 l2 : List UInt8} (c0 : w.cell? ⟨X, 0, none⟩ = some v1) (c1 : w.cell? ⟨X, 1, none⟩ = some v2) (h1 : Bs w w.heap.size v1 l1) (h2 : Bs w w.heap.size v2 l2) (hb1 : l1.length ≤ 1000000) (hb2 : l2.length ≤ 1000000) :
    Calls Tryz.prog 126 #[.slice (some ⟨X, 0, none⟩) 2 2] w fun e w' => ∃ r, e = .returned r ∧ w'.ownsRow w.heap.size 5 1 r (l1 ++ l2).length (bvs (l1 ++ l2)) ∧ Below w.heap.size w w' := by
  obtain ⟨i0, hi0, hz0, hz1, hz2⟩ := info_parts fbyte_info
  have H1 := Lib.hid h1
  have H2 := Lib.hid h2
  obtain ⟨A1, d1, rfl, _, _⟩ := h1
  obtain ⟨A2, d2, rfl, _, _⟩ := h2
  obtain ⟨n1, hn1⟩ : ∃ n1, n1 = l1.length := ⟨_, rfl⟩
  obtain ⟨n2, hn2⟩ : ∃ n2, n2 = l2.length := ⟨_, rfl⟩
  rw [← hn1] at c0 H1 hb1
  rw [← hn2] at c1 H2 hb2
  have Hn1 := Lib.hid hn1
  have Hn2 := Lib.hid hn2
  have C0 := Lib.hid c0
  have C1 := Lib.hid c1
  have hX : X < w.heap.size := fblock_of_cell c0
  clear hn1 hn2 c0 c1
  go_enter Tryz.func126, Tryz.ntmps126
  go_wp2_with fail
  go_loopw [3, 11] (fun q i wr => ∃ (j t : Nat), j ≤ 2 ∧ i = .int .i64 j ∧ q = .int .i64 t ∧ w = wr ∧ t = (if j = 0 then 0 else if j = 1 then n1 else n1 + n2)) (fun _ i _ => 2 - (intOf i).toNat)
  case atStart => exact ⟨0, 0, by omega, rfl, rfl, rfl, rfl⟩
  case round =>
    obtain ⟨j, t, hj, rfl, rfl, rfl, ht⟩ := hrel
    have c0 := C0.out
    have c1 := C1.out
    rcases (show j = 0 ∨ j = 1 ∨ j = 2 by omega) with rfl | rfl | rfl
    · have ht0 : t = 0 := ht
      subst ht0
      have hnn : decide ((n1 : Int) < 0) = false := by simp
      clear ht
      go_wp2_with fail
      go_roundw
      case rel => exact ⟨1, n1, by omega, by go_num, by go_num, by simp⟩
      case measure => simp [intOf]
    · have ht1 : t = n1 := ht
      subst ht1
      clear ht
      have hnn : decide ((t : Int) + (n2 : Int) < 0) = false := by simp; omega
      go_wp2_with fail
      go_roundw
      case rel => exact ⟨2, t + n2, by omega, by go_num, by go_num, by simp⟩
      case measure => simp [intOf]
    · have ht2 : t = n1 + n2 := ht
      have Ht2 := Lib.hid ht2
      have htb : t ≤ 2000000 := by omega
      clear ht ht2 c0 c1
      go_wp2_with fail
      refine (fgrow t _ (by omega)).mono ?_
      rintro e w1 ⟨r, rfl, hown, hb⟩
      have HO := Lib.hid hown
      have HB := Lib.hid hb
      clear hown hb
      go_wp2_with fail
      go_loopw [6, 27] (fun q i wx => ∃ (j : Nat), j ≤ 2 ∧ i = .int .i64 j ∧ wx.ownsRow w.heap.size 5 1 q (pre2 l1 l2 j).length (bvs (pre2 l1 l2 j)) ∧ Below w.heap.size w wx) (fun _ i _ => 2 - (intOf i).toNat)
      case atStart => exact ⟨0, by omega, rfl, HO.out, HB.out⟩
      case round =>
        obtain ⟨j, hj, rfl, hown, hb⟩ := hrel
        have HO2 := Lib.hid hown
        have HB2 := Lib.hid hb
        clear hown hb
        obtain ⟨Aq, cq, hq, _, _, _⟩ := own_slice HO2.out
        obtain ⟨nq, hnq⟩ : ∃ nq, nq = (pre2 l1 l2 j).length := ⟨_, rfl⟩
        rw [← hnq] at hq
        have HO3 : Hid (wr.ownsRow w.heap.size 5 1 (.slice Aq nq cq) nq (bvs (pre2 l1 l2 j))) := by rw [hq] at HO2; rw [hnq]; rw [hnq] at HO2; exact HO2
        have Hnq := Lib.hid hnq
        have hnqb : nq ≤ 2000000 := by
          rw [hnq]
          unfold pre2
          have := Hn1.out
          have := Hn2.out
          split
          · simp
          · split
            · omega
            · simp; omega
        subst hq
        clear hnq HO2
        have c0 := (HB2.out.cell (p := ⟨X, 0, none⟩) hX).trans C0.out
        have c1 := (HB2.out.cell (p := ⟨X, 1, none⟩) hX).trans C1.out
        have G1 : Hid (Bs wr w.heap.size (.slice A1 n1 d1) l1) := Lib.hid (H1.out.below HB2.out (Nat.le_refl _))
        have G2 : Hid (Bs wr w.heap.size (.slice A2 n2 d2) l2) := Lib.hid (H2.out.below HB2.out (Nat.le_refl _))
        rcases (show j = 0 ∨ j = 1 ∨ j = 2 by omega) with rfl | rfl | rfl
        · obtain ⟨Ab, cb, eb, hcb, hrb⟩ := G1.out
          injection eb with eb1 eb2 eb3
          subst eb1 eb3
          have Hrb := Lib.hid hrb
          clear hrb hcb eb2
          go_wp2_with (at_builtin; (refine wpList_append_rd _ rfl _ _ 47 rfl _ 5 i0 (.int .u8 0) 1 1 Tryz.underlying47 hi0 hz0 hz1 hz2 rfl (by omega) _ nq (bvs (pre2 l1 l2 0)) rfl HO3.out _ A1 n1 d1 (bvs l1) rfl (by rw [bvs_length, ← Hn1.out]; omega) Hrb.out (bvs_one l1) (by unfold maxLen; omega) (by omega) HB2.out.size ?_); intro v3 w3 hown3 hb3 hg3 hv3)
          go_roundw
          case rel => exact ⟨1, by omega, by go_num, by
            have h0 := Hnq.out
            have : nq = 0 := h0
            rw [this, Nat.zero_add, Hn1.out] at hown3
            exact hown3, HB2.out.trans hb3⟩
          case measure => simp [intOf]
        · obtain ⟨Ab, cb, eb, hcb, hrb⟩ := G2.out
          injection eb with eb1 eb2 eb3
          subst eb1 eb3
          have Hrb := Lib.hid hrb
          clear hrb hcb eb2
          go_wp2_with (at_builtin; (refine wpList_append_rd _ rfl _ _ 47 rfl _ 5 i0 (.int .u8 0) 1 1 Tryz.underlying47 hi0 hz0 hz1 hz2 rfl (by omega) _ nq (bvs (pre2 l1 l2 1)) rfl HO3.out _ A2 n2 d2 (bvs l2) rfl (by rw [bvs_length, ← Hn2.out]; omega) Hrb.out (bvs_one l2) (by unfold maxLen; omega) (by omega) HB2.out.size ?_); intro v3 w3 hown3 hb3 hg3 hv3)
          go_roundw
          case rel => exact ⟨2, by omega, by go_num, by
            have h0 := Hnq.out
            have : nq = l1.length := h0
            rw [this, Hn2.out, ← bvs_append] at hown3
            have e : (pre2 l1 l2 2).length = l1.length + l2.length := by simp [pre2]
            rw [e]
            exact hown3, HB2.out.trans hb3⟩
          case measure => simp [intOf]
        · go_wp2_with fail
          go_ret
          exact ⟨.slice Aq nq cq, rfl, by
            have h3 := HO3.out
            have e : nq = (l1 ++ l2).length := Hnq.out
            rw [e] at h3
            rw [e]
            exact h3, HB2.out⟩
end Go.Proofs.YtaicibmaogiibaaGreatDoor

/-
  Layer 5: Read; what the laws call 'all'.
-/
set_option linter.unusedVariables false
set_option linter.unusedSimpArgs false
namespace Go.Proofs.YtaicibmaogiibaaGreatDoor
open Go.RowKit

section
variable {w : World} {F : Nat} {M R : Nat → Prop} {s : FSt}
set_option maxRecDepth 100000 in
set_option maxHeartbeats 8000000 in
theorem fread_m (h : FileM w F M R s) (hb : s.big ≤ 1000000) (a n : Nat) (han : a + n ≤ s.bytes.length) :
    Calls Tryz.prog 76 #[.pointer (some ⟨F, 0, none⟩), .int .i64 (a : Int), .int .i64 (n : Int)] w fun e w' => ∃ r, e = .returned (.tuple #[r, .int .i64 0]) ∧ w'.ownsRow w.heap.size 5 1 r n (bvs ((s.bytes.drop a).take n)) ∧ Below w.heap.size w w' := by
  have hb2 : s.big ≤ 10000000 := by omega
  have hbl := FSt.bytes_length h.ok
  obtain ⟨l, hl⟩ : ∃ l, s.bytes.length = l := ⟨_, rfl⟩
  rw [hl] at han hbl
  have hlb : l ≤ 1000000 := by omega
  have Hl := Lib.hid hl
  have Hb := Lib.hid hb
  have HM := Lib.hid h
  clear hl h hb hbl
  have h3 : decide ((a : Int) > (l : Int)) = false := by simp; omega
  have h4 : decide ((n : Int) > (l : Int) - (a : Int)) = false := by simp; omega
  go_enter Tryz.func76, Tryz.ntmps76
  go_wp2_with fail
  refine (fsize_m HM.out hb2 l Hl.out).mono ?_
  rintro e w1 ⟨rfl, hb1⟩
  have HB1 := Lib.hid hb1
  clear hb1
  go_wp2_with fail
  refine (fsize_m (HM.out.on HB1.out) hb2 l Hl.out).mono ?_
  rintro e w2 ⟨rfl, hb3⟩
  have HB2 := Lib.hid (HB1.out.trans (hb3.mono HB1.out.size))
  clear hb3 HB1
  have HM2 := Lib.hid (HM.out.on HB2.out)
  clear h3 h4
  obtain ⟨en, hen⟩ : ∃ en, en = a + n := ⟨_, rfl⟩
  have hsum : (a : Int) + (n : Int) = (en : Int) := by omega
  obtain ⟨ho, hMR, hMl, hRl, vs, vt, vd, dvs, h, hOM⟩ := HM2.out
  have hbt := FSt.length_bytes ho
  have hbg : s.big = s.safe.length + s.loose := rfl
  have hkp := ho.kept
  have HBs := Lib.hid (Bs.of_own h.safe)
  have HBt := Lib.hid (Bs.of_own h.tail)
  obtain ⟨As, cs, hvs, hsc, hscm, _⟩ := own_slice h.safe
  obtain ⟨At, ct, hvt, htc, htcm, _⟩ := own_slice h.tail
  have HC := Lib.hid h.cells
  obtain ⟨ls, hls⟩ : ∃ ls, ls = s.safe.length := ⟨_, rfl⟩
  obtain ⟨lt, hlt⟩ : ∃ lt, lt = s.tail.length := ⟨_, rfl⟩
  obtain ⟨kp, hkpe⟩ : ∃ kp, kp = s.kept := ⟨_, rfl⟩
  obtain ⟨lo, hlo⟩ : ∃ lo, lo = s.loose := ⟨_, rfl⟩
  rw [← hls] at hvs hsc hkp hbg
  rw [← hlt] at hvt htc hbt
  rw [← hkpe] at hkp hbt
  rw [← hkpe, ← hlo] at HC
  rw [Hl.out] at hbt
  have HBs0 : Hid (Rd w2 w2.heap.size As (bvs s.safe)) := by
    obtain ⟨A, c, e, _, hr⟩ := HBs.out
    rw [hvs] at e
    injection e with e1 _ _
    subst e1
    exact hr
  subst hvs hvt
  have hkb : kp ≤ 1000000 := by have := Hb.out; omega
  have hcut := cut_h As ls cs kp (by omega)
  have HBk : Hid (Bs w2 w2.heap.size (.slice As kp cs) (s.safe.take kp)) := ⟨As, cs, by rw [List.length_take, ← hls, show min kp ls = kp by omega], by rw [List.length_take, ← hls]; omega, by rw [bvs_take]; exact HBs0.out.take kp⟩
  have Hls := Lib.hid hls
  have Hlt := Lib.hid hlt
  have Hkpe := Lib.hid hkpe
  have Hen := Lib.hid hen
  have Hbt := Lib.hid hbt
  have Hbg := Lib.hid hbg
  have hkl : (s.safe.take kp).length = kp := by rw [List.length_take, ← hls]; omega
  have Hkl := Lib.hid hkl
  have hr1 : (a : Int) - (kp : Int) ≤ 10000000 ∧ -10000000 ≤ (a : Int) - (kp : Int) := by omega
  have hr2 : (en : Int) - (kp : Int) ≤ 10000000 ∧ -10000000 ≤ (en : Int) - (kp : Int) := by omega
  have hw1 : IntKind.i64.wrap ((a : Int) - (kp : Int)) = (a : Int) - (kp : Int) := IntWalk.i64_in _ (by omega)
  have hw2 : IntKind.i64.wrap ((en : Int) - (kp : Int)) = (en : Int) - (kp : Int) := IntWalk.i64_in _ (by omega)
  have HL7 : Hid (s.safe.length ≤ 1000000 ∧ s.tail.length ≤ 1000000) := by have := Hb.out; exact ⟨by omega, by omega⟩
  clear ho hMR hMl hRl h hOM hls hlt hkpe hlo hbt hbg hkp hen hkl
  have h3 : decide ((a : Int) > (l : Int)) = false := by simp; omega
  have h4 : decide ((n : Int) > (l : Int) - (a : Int)) = false := by simp; omega
  go_wp2_with fail
  refine wp_region_noPanic ?_
  refine wp_region_held_drew (S := fun w' => FCells w' F (.slice As ls cs) (.slice At lt ct) vd kp lo) (by kernel_rfl) HC.out.drew (fun hHeld => ?_)
  have HW : Hid (Below w2.heap.size w2 w2.drew) := (Below.refl _ _).drew
  generalize World.drew _ = W at *
  refine wpAnyH_take (i := 0) (v := ?_) opAt_0 (by kernel_rfl) (by kernel_rfl) (by kernel_rfl) (fun _ _ _ h => h) (Or.inl ⟨by rfl, ?_⟩) hHeld ?_
  rotate_left
  · (intro w' hSw; obtain ⟨k0, k1, k2, k3, k4, _, _, _, _, _⟩ := hSw; go_simp; try with_reducible rfl)
  try simp only [Act.put, List.setIfInBounds_toArray, List.set_cons_zero, List.set_cons_succ]
  refine wpAnyH_take (i := 1) (v := ?_) opAt_1 (by kernel_rfl) (by kernel_rfl) (by kernel_rfl) (fun _ _ _ h => h) (Or.inl ⟨by rfl, ?_⟩) hHeld ?_
  rotate_left
  · (intro w' hSw; obtain ⟨k0, k1, k2, k3, k4, _, _, _, _, _⟩ := hSw; go_simp; try with_reducible rfl)
  try simp only [Act.put, List.setIfInBounds_toArray, List.set_cons_zero, List.set_cons_succ]
  refine wpAnyH_take (i := 2) (v := ?_) opAt_2 (by kernel_rfl) (by kernel_rfl) (by kernel_rfl) (fun _ _ _ h => h) (Or.inl ⟨by rfl, ?_⟩) hHeld ?_
  rotate_left
  · (intro w' hSw; obtain ⟨k0, k1, k2, k3, k4, _, _, _, _, _⟩ := hSw; go_simp; try with_reducible rfl)
  try simp only [Act.put, List.setIfInBounds_toArray, List.set_cons_zero, List.set_cons_succ]
  refine wpAnyH_take (i := 3) (v := ?_) opAt_3 (by kernel_rfl) (by kernel_rfl) (by kernel_rfl) (fun _ _ _ h => h) (Or.inl ⟨by rfl, ?_⟩) hHeld ?_
  rotate_left
  · (intro w' hSw; obtain ⟨k0, k1, k2, k3, k4, _, _, _, _, _⟩ := hSw; go_simp; try with_reducible rfl)
  try simp only [Act.put, List.setIfInBounds_toArray, List.set_cons_zero, List.set_cons_succ]
  refine wpAnyH_take (i := 4) (v := ?_) opAt_4 (by kernel_rfl) (by kernel_rfl) (by kernel_rfl) (fun _ _ _ h => h) (Or.inl ⟨by rfl, ?_⟩) hHeld ?_
  rotate_left
  · (intro w' hSw; obtain ⟨k0, k1, k2, k3, k4, _, _, _, _, _⟩ := hSw; go_simp; try with_reducible rfl)
  try simp only [Act.put, List.setIfInBounds_toArray, List.set_cons_zero, List.set_cons_succ]
  refine wpAnyH_take (i := 5) (v := ?_) opAt_5 (by kernel_rfl) (by kernel_rfl) (by kernel_rfl) (fun _ _ _ h => h) (Or.inl ⟨by rfl, ?_⟩) hHeld ?_
  rotate_left
  · (intro w' hSw; obtain ⟨k0, k1, k2, k3, k4, _, _, _, _, _⟩ := hSw; go_simp; try with_reducible rfl)
  try simp only [Act.put, List.setIfInBounds_toArray, List.set_cons_zero, List.set_cons_succ]
  refine wpAnyH_take (i := 6) (v := ?_) opAt_6 (by kernel_rfl) (by kernel_rfl) (by kernel_rfl) (fun _ _ _ h => h) (Or.inl ⟨by rfl, ?_⟩) hHeld ?_
  rotate_left
  · (intro w' hSw; obtain ⟨k0, k1, k2, k3, k4, _, _, _, _, _⟩ := hSw; go_simp; try with_reducible rfl)
  try simp only [Act.put, List.setIfInBounds_toArray, List.set_cons_zero, List.set_cons_succ]
  refine wpAnyH_take (i := 7) (v := ?_) opAt_7 (by kernel_rfl) (by kernel_rfl) (by kernel_rfl) (fun _ _ _ h => h) (Or.inl ⟨by rfl, ?_⟩) hHeld ?_
  rotate_left
  · (intro w' hSw; obtain ⟨k0, k1, k2, k3, k4, _, _, _, _, _⟩ := hSw; go_simp; try with_reducible rfl)
  try simp only [Act.put, List.setIfInBounds_toArray, List.set_cons_zero, List.set_cons_succ]
  refine wpAnyH_take (i := 8) (v := ?_) opAt_8 (by kernel_rfl) (by kernel_rfl) (by kernel_rfl) (fun _ _ _ h => h) (Or.inl ⟨by rfl, ?_⟩) hHeld ?_
  rotate_left
  · (intro w' hSw; obtain ⟨k0, k1, k2, k3, k4, _, _, _, _, _⟩ := hSw; go_simp; try with_reducible rfl)
  try simp only [Act.put, List.setIfInBounds_toArray, List.set_cons_zero, List.set_cons_succ]
  refine wpAnyH_take (i := 9) (v := ?_) opAt_9 (by kernel_rfl) (by kernel_rfl) (by kernel_rfl) (fun _ _ _ h => h) (Or.inl ⟨by rfl, ?_⟩) hHeld ?_
  rotate_left
  · (intro w' hSw; obtain ⟨k0, k1, k2, k3, k4, _, _, _, _, _⟩ := hSw; go_simp; try with_reducible rfl)
  try simp only [Act.put, List.setIfInBounds_toArray, List.set_cons_zero, List.set_cons_succ]
  refine wpAnyH_take (i := 10) (v := ?_) opAt_10 (by kernel_rfl) (by kernel_rfl) (by kernel_rfl) (fun _ _ _ h => h) (Or.inl ⟨by rfl, ?_⟩) hHeld ?_
  rotate_left
  · (intro w' hSw; obtain ⟨k0, k1, k2, k3, k4, _, _, _, _, _⟩ := hSw; go_simp; try with_reducible rfl)
  try simp only [Act.put, List.setIfInBounds_toArray, List.set_cons_zero, List.set_cons_succ]
  refine wpAnyH_ready (rs := [11]) (by kernel_rfl) (by simp) ?_
  refine AllReadyH.cons rfl (fun K hK => ?_) AllReadyH.nil
  go_simp
  refine (fwithin (HBk.out.on HW.out) (Nat.le_refl _) (a : Int) (en : Int) (by omega) (by rw [Hkl.out]; omega)).mono ?_
  rintro e w3 ⟨r1, rfl, ho1, hb1⟩
  go_wp2_with fail
  have HO1 := Lib.hid ho1
  have HW1 := Lib.hid (HW.out.trans (hb1.mono HW.out.size))
  have hHeld1 := hHeld.on hb1
  clear hHeld
  have hHeld := hHeld1
  refine hK.out _ _ hHeld1 (fun hHeld => ?_)
  clear hK K hHeld1 hb1 ho1
  try simp only [Act.put, List.setIfInBounds_toArray, List.set_cons_zero, List.set_cons_succ]
  obtain ⟨A1, d1, e1, _, _⟩ := HO1.out
  obtain ⟨x1, hx1⟩ : ∃ x, x = (((s.safe.take kp).drop (clampN (a : Int) (s.safe.take kp).length)).take (clampN (en : Int) (s.safe.take kp).length - clampN (a : Int) (s.safe.take kp).length)).length := ⟨_, rfl⟩
  rw [← hx1] at e1
  clear hx1
  subst e1
  refine wpAnyH_ready (rs := [12]) (by kernel_rfl) (by simp) ?_
  refine AllReadyH.cons rfl (fun K hK => ?_) AllReadyH.nil
  go_simp
  refine hK.out _ _ hHeld (fun hHeld => ?_)
  refine wpAnyH_done (by kernel_rfl) ?_ _
  refine NoPanic.normal ?_
  clear hK K
  go_wp2_with fail
  refine wp_region_noPanic ?_
  refine wp_region_held_drew (S := fun w' => FCells w' F (.slice As ls cs) (.slice At lt ct) vd kp lo) (by kernel_rfl) hHeld.drew (fun hHeld => ?_)
  have HW2 : Hid (Below w2.heap.size w2 w3.drew) := HW1.out.drew
  have HO2 := Lib.hid (HO1.out.drewN 1)
  have HO2' : Hid (Bs w3.drew w3.drew.heap.size (.slice A1 x1 d1) _) := HO2.out
  clear HO1 HW1 HO2
  generalize World.drew _ = W2 at *
  refine wpAnyH_take (i := 0) (v := ?_) opAt_0 (by kernel_rfl) (by kernel_rfl) (by kernel_rfl) (fun _ _ _ h => h) (Or.inl ⟨by rfl, ?_⟩) hHeld ?_
  rotate_left
  · (intro w' hSw; obtain ⟨k0, k1, k2, k3, k4, _, _, _, _, _⟩ := hSw; go_simp; try with_reducible rfl)
  try simp only [Act.put, List.setIfInBounds_toArray, List.set_cons_zero, List.set_cons_succ]
  refine wpAnyH_take (i := 1) (v := ?_) opAt_1 (by kernel_rfl) (by kernel_rfl) (by kernel_rfl) (fun _ _ _ h => h) (Or.inl ⟨by rfl, ?_⟩) hHeld ?_
  rotate_left
  · (intro w' hSw; obtain ⟨k0, k1, k2, k3, k4, _, _, _, _, _⟩ := hSw; go_simp; try with_reducible rfl)
  try simp only [Act.put, List.setIfInBounds_toArray, List.set_cons_zero, List.set_cons_succ]
  refine wpAnyH_take (i := 2) (v := ?_) opAt_2 (by kernel_rfl) (by kernel_rfl) (by kernel_rfl) (fun _ _ _ h => h) (Or.inl ⟨by rfl, ?_⟩) hHeld ?_
  rotate_left
  · (intro w' hSw; obtain ⟨k0, k1, k2, k3, k4, _, _, _, _, _⟩ := hSw; go_simp; try with_reducible rfl)
  try simp only [Act.put, List.setIfInBounds_toArray, List.set_cons_zero, List.set_cons_succ]
  refine wpAnyH_take (i := 3) (v := ?_) opAt_3 (by kernel_rfl) (by kernel_rfl) (by kernel_rfl) (fun _ _ _ h => h) (Or.inl ⟨by rfl, ?_⟩) hHeld ?_
  rotate_left
  · (intro w' hSw; obtain ⟨k0, k1, k2, k3, k4, _, _, _, _, _⟩ := hSw; go_simp; try with_reducible rfl)
  try simp only [Act.put, List.setIfInBounds_toArray, List.set_cons_zero, List.set_cons_succ]
  refine wpAnyH_take (i := 4) (v := ?_) opAt_4 (by kernel_rfl) (by kernel_rfl) (by kernel_rfl) (fun _ _ _ h => h) (Or.inl ⟨by rfl, ?_⟩) hHeld ?_
  rotate_left
  · (intro w' hSw; obtain ⟨k0, k1, k2, k3, k4, _, _, _, _, _⟩ := hSw; go_simp; try with_reducible rfl)
  try simp only [Act.put, List.setIfInBounds_toArray, List.set_cons_zero, List.set_cons_succ]
  refine wpAnyH_take (i := 5) (v := ?_) opAt_5 (by kernel_rfl) (by kernel_rfl) (by kernel_rfl) (fun _ _ _ h => h) (Or.inl ⟨by rfl, ?_⟩) hHeld ?_
  rotate_left
  · (intro w' hSw; obtain ⟨k0, k1, k2, k3, k4, _, _, _, _, _⟩ := hSw; go_simp; try with_reducible rfl)
  try simp only [Act.put, List.setIfInBounds_toArray, List.set_cons_zero, List.set_cons_succ]
  refine wpAnyH_take (i := 6) (v := ?_) opAt_6 (by kernel_rfl) (by kernel_rfl) (by kernel_rfl) (fun _ _ _ h => h) (Or.inl ⟨by rfl, ?_⟩) hHeld ?_
  rotate_left
  · (intro w' hSw; obtain ⟨k0, k1, k2, k3, k4, _, _, _, _, _⟩ := hSw; go_simp; try with_reducible rfl)
  try simp only [Act.put, List.setIfInBounds_toArray, List.set_cons_zero, List.set_cons_succ]
  refine wpAnyH_take (i := 7) (v := ?_) opAt_7 (by kernel_rfl) (by kernel_rfl) (by kernel_rfl) (fun _ _ _ h => h) (Or.inl ⟨by rfl, ?_⟩) hHeld ?_
  rotate_left
  · (intro w' hSw; obtain ⟨k0, k1, k2, k3, k4, _, _, _, _, _⟩ := hSw; go_simp; try with_reducible rfl)
  try simp only [Act.put, List.setIfInBounds_toArray, List.set_cons_zero, List.set_cons_succ]
  refine wpAnyH_take (i := 8) (v := ?_) opAt_8 (by kernel_rfl) (by kernel_rfl) (by kernel_rfl) (fun _ _ _ h => h) (Or.inl ⟨by rfl, ?_⟩) hHeld ?_
  rotate_left
  · (intro w' hSw; obtain ⟨k0, k1, k2, k3, k4, _, _, _, _, _⟩ := hSw; go_simp; try with_reducible rfl)
  try simp only [Act.put, List.setIfInBounds_toArray, List.set_cons_zero, List.set_cons_succ]
  refine wpAnyH_take (i := 9) (v := ?_) opAt_9 (by kernel_rfl) (by kernel_rfl) (by kernel_rfl) (fun _ _ _ h => h) (Or.inl ⟨by rfl, ?_⟩) hHeld ?_
  rotate_left
  · (intro w' hSw; obtain ⟨k0, k1, k2, k3, k4, _, _, _, _, _⟩ := hSw; go_simp; try with_reducible rfl)
  try simp only [Act.put, List.setIfInBounds_toArray, List.set_cons_zero, List.set_cons_succ]
  refine wpAnyH_take (i := 10) (v := ?_) opAt_10 (by kernel_rfl) (by kernel_rfl) (by kernel_rfl) (fun _ _ _ h => h) (Or.inl ⟨by rfl, ?_⟩) hHeld ?_
  rotate_left
  · (intro w' hSw; obtain ⟨k0, k1, k2, k3, k4, _, _, _, _, _⟩ := hSw; go_simp; try with_reducible rfl)
  try simp only [Act.put, List.setIfInBounds_toArray, List.set_cons_zero, List.set_cons_succ]
  refine wpAnyH_take (i := 11) (v := ?_) opAt_11 (by kernel_rfl) (by kernel_rfl) (by kernel_rfl) (fun _ _ _ h => h) (Or.inl ⟨by rfl, ?_⟩) hHeld ?_
  rotate_left
  · (intro w' hSw; obtain ⟨k0, k1, k2, k3, k4, _, _, _, _, _⟩ := hSw; go_simp; try with_reducible rfl)
  try simp only [Act.put, List.setIfInBounds_toArray, List.set_cons_zero, List.set_cons_succ]
  refine wpAnyH_take (i := 12) (v := ?_) opAt_12 (by kernel_rfl) (by kernel_rfl) (by kernel_rfl) (fun _ _ _ h => h) (Or.inl ⟨by rfl, ?_⟩) hHeld ?_
  rotate_left
  · (intro w' hSw; obtain ⟨k0, k1, k2, k3, k4, _, _, _, _, _⟩ := hSw; go_simp; try with_reducible rfl)
  try simp only [Act.put, List.setIfInBounds_toArray, List.set_cons_zero, List.set_cons_succ]
  refine wpAnyH_take (i := 13) (v := ?_) opAt_13 (by kernel_rfl) (by kernel_rfl) (by kernel_rfl) (fun _ _ _ h => h) (Or.inl ⟨by rfl, ?_⟩) hHeld ?_
  rotate_left
  · (intro w' hSw; obtain ⟨k0, k1, k2, k3, k4, _, _, _, _, _⟩ := hSw; go_simp; try with_reducible rfl)
  try simp only [Act.put, List.setIfInBounds_toArray, List.set_cons_zero, List.set_cons_succ]
  refine wpAnyH_take (i := 14) (v := ?_) opAt_14 (by kernel_rfl) (by kernel_rfl) (by kernel_rfl) (fun _ _ _ h => h) (Or.inl ⟨by rfl, ?_⟩) hHeld ?_
  rotate_left
  · (intro w' hSw; obtain ⟨k0, k1, k2, k3, k4, _, _, _, _, _⟩ := hSw; go_simp; try with_reducible rfl)
  try simp only [Act.put, List.setIfInBounds_toArray, List.set_cons_zero, List.set_cons_succ]
  refine wpAnyH_take (i := 15) (v := ?_) opAt_15 (by kernel_rfl) (by kernel_rfl) (by kernel_rfl) (fun _ _ _ h => h) (Or.inl ⟨by rfl, ?_⟩) hHeld ?_
  rotate_left
  · (intro w' hSw; obtain ⟨k0, k1, k2, k3, k4, _, _, _, _, _⟩ := hSw; go_simp; try with_reducible rfl)
  try simp only [Act.put, List.setIfInBounds_toArray, List.set_cons_zero, List.set_cons_succ]
  refine wpAnyH_ready (rs := [16]) (by kernel_rfl) (by simp) ?_
  refine AllReadyH.cons rfl (fun K hK => ?_) AllReadyH.nil
  go_simp
  refine (fwithin (HBt.out.on HW2.out) (Nat.le_refl _) ((a : Int) - (kp : Int)) ((en : Int) - (kp : Int)) (by omega) (by have := HL7.out; omega)).mono ?_
  rintro e w4 ⟨r2, rfl, ho2, hb2⟩
  go_wp2_with fail
  have HO3 := Lib.hid ho2
  have HO4 := Lib.hid (HO2'.out.on hb2)
  have HW3 := Lib.hid (HW2.out.trans (hb2.mono HW2.out.size))
  have hHeld1 := hHeld.on hb2
  clear hHeld
  have hHeld := hHeld1
  refine hK.out _ _ hHeld1 (fun hHeld => ?_)
  clear hK K hHeld1 hb2 ho2
  try simp only [Act.put, List.setIfInBounds_toArray, List.set_cons_zero, List.set_cons_succ]
  obtain ⟨A2, d2, e2, _, _⟩ := HO3.out
  obtain ⟨x2, hx2⟩ : ∃ x, x = ((s.tail.drop (clampN ((a : Int) - (kp : Int)) s.tail.length)).take (clampN ((en : Int) - (kp : Int)) s.tail.length - clampN ((a : Int) - (kp : Int)) s.tail.length)).length := ⟨_, rfl⟩
  rw [← hx2] at e2
  clear hx2
  subst e2
  refine wpAnyH_ready (rs := [17]) (by kernel_rfl) (by simp) ?_
  refine AllReadyH.cons rfl (fun K hK => ?_) AllReadyH.nil
  go_simp
  refine hK.out _ _ hHeld (fun hHeld => ?_)
  refine wpAnyH_done (by kernel_rfl) ?_ _
  refine NoPanic.normal ?_
  clear hK K hHeld
  have Hw4 : Hid (Below w4.heap.size w4 (w4.alloc (.cells #[.slice A1 x1 d1, .slice A2 x2 d2] 47))) := (Below.refl _ _).alloc (Nat.le_refl _) _
  go_wp2_with fail
  have hlen : ∀ (q : List UInt8) (i j : Nat), q.length ≤ 1000000 → ((q.drop i).take j).length ≤ 1000000 := fun q i j h => by rw [List.length_take, List.length_drop]; omega
  refine (fconcat (X := w4.heap.size) (by simp) (by simp) (HO4.out.on Hw4.out) (HO3.out.on Hw4.out) (hlen _ _ _ (by rw [Hkl.out]; exact hkb)) (hlen _ _ _ HL7.out.2)).mono ?_
  rintro e w5 ⟨r, rfl, ho5, hb5⟩
  have HO5 := Lib.hid ho5
  have HB5 := Lib.hid hb5
  clear ho5 hb5
  go_wp2_with fail
  go_ret2
  have hp := read_parts (s.safe.take kp) s.tail a n (by rw [Hkl.out, ← Hlt.out]; have := Hbt.out; omega)
  rw [← Hen.out, Hkl.out, Hkpe.out] at hp
  have h5 := HO5.out
  rw [Hkl.out, Hkpe.out, hp] at h5
  have hlr : (((List.take s.kept s.safe ++ s.tail).drop a).take n).length = n := by
    rw [List.length_take, List.length_drop, show (List.take s.kept s.safe ++ s.tail).length = l from Hl.out]
    omega
  rw [hlr] at h5
  have hs1 := HB2.out.size
  have hs2 := HW3.out.size
  have hs3 := Hw4.out.size
  refine ⟨r, rfl, own_base h5 (by omega), HB2.out.trans ((HW3.out.mono hs1).trans ((Hw4.out.mono (by omega)).trans (HB5.out.mono (by omega))))⟩
end
end Go.Proofs.YtaicibmaogiibaaGreatDoor

/- FxDoes -/

/-
  Layer 5: bytes.HasPrefix; a call of the laws on a file ('does').
-/
set_option linter.unusedVariables false
set_option linter.unusedSimpArgs false
namespace Go.Proofs.YtaicibmaogiibaaGreatDoor
open Go.RowKit

theorem fprefix {w : World} {B B' : Nat} {v v' : Value} {l p : List UInt8} (h : Bs w B v l) (h' : Bs w B' v' p) (hp : p <+: l) (hl : l.length ≤ 10000000) :
    Calls Tryz.prog 28 #[v, v'] w fun e w' => e = .returned (.bool true) ∧ w = w' := by
  obtain ⟨t, rfl⟩ := hp
  rw [List.length_append] at hl
  have H' := Lib.hid h'
  obtain ⟨A, c, rfl, hc, hr⟩ := h
  obtain ⟨A', c', rfl, hc', hr'⟩ := h'
  rw [List.length_append] at hc
  obtain ⟨n, hn⟩ : ∃ n, n = p.length := ⟨_, rfl⟩
  obtain ⟨k, hk⟩ : ∃ k, k = t.length := ⟨_, rfl⟩
  rw [List.length_append]
  rw [← hn] at H' hc hc' hl
  rw [← hk] at hc hl
  rw [← hn, ← hk]
  have hcut := cut_h A (n + k) c n (by omega)
  have HT : Hid (Bs w B (.slice A n c) p) := ⟨A, c, by rw [← hn], by rw [← hn]; omega, by
    have := hr.take n
    rw [← bvs_take, hn, List.take_left] at this
    exact this⟩
  have hge : decide (((n + k : Nat) : Int) ≥ (n : Int)) = true := by simp; omega
  have Hn := Lib.hid hn
  clear hr hr' hn hk
  go_enter Tryz.func28, Tryz.ntmps28
  go_wp2_with fail
  refine (fequal _ _ p p _ _ _ HT.out H'.out).mono ?_
  rintro e w1 ⟨rfl, rfl⟩
  go_wp2_with fail
  go_ret
  exact ⟨by simp, rfl⟩

theorem Mut.of_below {w w' : World} {F : Nat} {M R : Nat → Prop} {s : FSt} (h : FileM w F M R s) (hb : Below w.heap.size w w') : Mut w w' F M R s :=
  ⟨M, R, h.on hb, Chg.of_below hb, fun _ h => .inl h, fun _ h => .inl h⟩
theorem Mut.after {w w1 w' : World} {F : Nat} {M R : Nat → Prop} {s : FSt} (hb : Below w.heap.size w w1) (h : Mut w1 w' F M R s) : Mut w w' F M R s := by
  obtain ⟨M', R', h, hc, h1, h2⟩ := h
  exact ⟨M', R', h, (Chg.of_below hb).trans hc (fun _ h => .inl h), fun i hi => (h1 i hi).imp id (fun h => Nat.le_trans hb.size h), fun i hi => (h2 i hi).imp id (fun h => Nat.le_trans hb.size h)⟩
theorem Mut.drop {w w1 w' : World} {F : Nat} {M R : Nat → Prop} {s : FSt} (h : Mut w w1 F M R s) (hb : Below w1.heap.size w1 w') : Mut w w' F M R s := by
  obtain ⟨M', R', h, hc, h1, h2⟩ := h
  exact ⟨M', R', h.on hb, hc.trans (Chg.of_below (M := fun _ => False) hb) (fun _ h => h.elim), h1, h2⟩
theorem BsIn.take {w : World} {N : Nat → Prop} {A : Option Addr} {l : List UInt8} {n c k : Nat} (h : BsIn w N (.slice A n c) l) (hk : k ≤ n) : BsIn w N (.slice A k c) (l.take k) := by
  obtain ⟨A', c', e, hc, hr⟩ := h
  injection e with e1 e2 e3
  subst e1 e2 e3
  have hl : (l.take k).length = k := by rw [List.length_take]; omega
  refine ⟨A, c, by rw [hl], by rw [hl]; omega, fun hx => ?_⟩
  obtain ⟨b, o, e, hb, hcell⟩ := hr (fun e => hx (by rw [bvs_take, e]; simp))
  refine ⟨b, o, e, hb, fun j u hu => hcell j u ?_⟩
  rw [bvs_take, List.getElem?_take] at hu
  split at hu
  · exact hu
  · cases hu

section
variable {w : World} {F : Nat} {M R N : Nat → Prop} {s : FSt}
end
end Go.Proofs.YtaicibmaogiibaaGreatDoor

