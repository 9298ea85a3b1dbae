
/-
  Layer 5: what a crash makes safe (settle).
-/
import Derived.Test.YtboeiadfmknidaaGreatFxLook
import Derived.Deep.LoopGhost
set_option linter.unusedVariables false
set_option linter.unusedSimpArgs false
namespace Go.Proofs.YtboeiadfmknidaaGreat
open Go.RowKit

/-- what a deed's calls do, whichever kind it is -/
theorem DeedAt.run {w : World} {R : Nat → Prop} {v : Value} {d : Deed} (h : DeedAt w R v d) : ∃ t u fu fd, v = .iface t u ∧
    (∀ (k : Nat) (w : World), (method (k + 1) t u "hourbook/file.units").run Tryz.prog w = .ok (fu, u) w) ∧ (∀ (k : Nat) (w : World), (method (k + 1) t u "hourbook/file.do").run Tryz.prog w = .ok (fd, u) w) ∧
    (∀ (k : Nat) (w : World), (nilAhead (k + 1) t u "hourbook/file.do").run Tryz.prog w = .ok (some false) w) ∧
    (∀ (args : Array Value) (w : World), (callFunc fu args).run Tryz.prog w = .ok (.enter fu args) w) ∧ (∀ (args : Array Value) (w : World), (callFunc fd args).run Tryz.prog w = .ok (.enter fd args) w) ∧
    (∀ w1, Calls Tryz.prog fu #[u] w1 fun e w' => e = .returned (.int .i64 (d.units : Int)) ∧ Below w1.heap.size w1 w') ∧
    (∀ w1, Below w.heap.size w w1 → ∀ (x : Value) (b : List UInt8) (m : Nat), m ≤ d.units → (m = 0 ∨ d.ok b) → w1.ownsRow 0 5 1 x b.length (bvs b) → b.length + d.units ≤ 10000000 →
      Calls Tryz.prog fd #[u, x, .int .i64 (m : Int)] w1 fun e w' => ∃ x', e = .returned x' ∧ w'.ownsRow 0 5 1 x' (d.act b m).length (bvs (d.act b m)) ∧ w1.grownBy w' x.ownBlock ∧ (x'.ownBlock = x.ownBlock ∨ ∀ g, x'.ownBlock = some g → w1.heap.size ≤ g)) := by
  cases d with
  | added r =>
    obtain ⟨A, c, rfl, hc, hr⟩ := h
    refine ⟨95, .agg #[.slice A r.length c], 154, 153, rfl, fun _ _ => by kernel_rfl, fun _ _ => by kernel_rfl, fun _ _ => by kernel_rfl, fun _ _ => by kernel_rfl, fun _ _ => by kernel_rfl, fun w1 => added_units A r.length c w1, ?_⟩
    intro w1 hb x b m hm hok hx hbig
    exact added_do A r c m w.heap.size x b w1 hc hm (hr.rd.below hb (Nat.le_refl _)) hb.size hx hbig
  | cut s =>
    obtain ⟨rfl, hs⟩ := h
    refine ⟨116, .agg #[.int .i64 (s : Int)], 156, 155, rfl, fun _ _ => by kernel_rfl, fun _ _ => by kernel_rfl, fun _ _ => by kernel_rfl, fun _ _ => by kernel_rfl, fun _ _ => by kernel_rfl, fun w1 => cut_units s w1, ?_⟩
    intro w1 hb x b m hm hok hx hbig
    exact cut_do s m x b w1 (hok.imp id (fun h => Nat.le_of_lt h)) (by omega) hx hm

/-- how far settle has come -/
structure SetR (w wr : World) (F : Nat) (vs vt vd : Value) (s : FSt) (k j kj : Nat) (b : List UInt8) (v : Value) : Prop where
  cells : FCells wr F v vt vd s.kept s.loose
  own : wr.ownsRow 0 5 1 v b.length (bvs b)
  chg : Chg (fun i => i = F ∨ vs.ownBlock = some i) w wr
  ob : v.ownBlock = vs.ownBlock ∨ ∀ g, v.ownBlock = some g → w.heap.size ≤ g
  sem : settleL b kj (s.deeds.drop j) = s.behind k
  ok : kj = 0 ∨ Valid b (s.deeds.drop j)
  big : b.length + kj ≤ s.safe.length + k
theorem SetR.ne {w wr : World} {F : Nat} {vs vt vd v : Value} {s : FSt} {k j kj : Nat} {b : List UInt8} (h : SetR w wr F vs vt vd s k j kj b v) (h1 : vs.ownBlock ≠ some F) (hF : F < w.heap.size) : v.ownBlock ≠ some F := fun e => by
  rcases h.ob with h2 | h2
  · exact h1 (h2 ▸ e)
  · have := h2 _ e; omega
theorem SetR.next {w wr wx : World} {F : Nat} {vs vt vd v v' : Value} {s : FSt} {k j kj m : Nat} {b : List UInt8} {d : Deed} (h : SetR w wr F vs vt vd s k j kj b v) (hd : s.deeds[j]? = some d) (hm : m = min kj d.units)
    (hc : FCells wx F v' vt vd s.kept s.loose) (ho : wx.ownsRow 0 5 1 v' (d.act b m).length (bvs (d.act b m))) (hg : Chg (fun i => i = F ∨ v.ownBlock = some i) wr wx) (hob : v'.ownBlock = v.ownBlock ∨ ∀ g, v'.ownBlock = some g → wr.heap.size ≤ g) :
    SetR w wx F vs vt vd s k (j + 1) (kj - m) (d.act b m) v' := by
  have hdr : s.deeds.drop j = d :: s.deeds.drop (j + 1) := by
    obtain ⟨hj, rfl⟩ := List.getElem?_eq_some_iff.1 hd
    exact List.drop_eq_getElem_cons hj
  have hs := h.sem
  have hv := h.ok
  rw [hdr] at hs hv
  refine ⟨hc, ho, h.chg.trans hg ?_, ?_, ?_, ?_, ?_⟩
  · rintro i (rfl | hi)
    · exact .inl (.inl rfl)
    · rcases h.ob with h2 | h2
      · exact .inl (.inr (h2 ▸ hi))
      · exact .inr (h2 _ hi)
  · rcases hob with h2 | h2
    · rw [h2]; exact h.ob
    · exact .inr fun g hg => Nat.le_trans h.chg.size (h2 g hg)
  · rw [hm]; exact hs
  · rcases hv with h0 | hv
    · exact .inl (by omega)
    · by_cases h0 : kj - m = 0
      · exact .inl h0
      · right
        have : m = d.units := by omega
        rw [this]
        exact hv.2
  · have := Deed.act_length b m d
    have := h.big
    omega
theorem SetR.okd {w wr : World} {F : Nat} {vs vt vd v : Value} {s : FSt} {k j kj m : Nat} {b : List UInt8} {d : Deed} (h : SetR w wr F vs vt vd s k j kj b v) (hd : s.deeds[j]? = some d) (hm : m = min kj d.units) : m = 0 ∨ d.ok b := by
  have hdr : s.deeds.drop j = d :: s.deeds.drop (j + 1) := by
    obtain ⟨hj, rfl⟩ := List.getElem?_eq_some_iff.1 hd
    exact List.drop_eq_getElem_cons hj
  have hv := h.ok
  rw [hdr] at hv
  rcases hv with h0 | hv
  · exact .inl (by omega)
  · exact .inr hv.1

theorem unitsL_get : ∀ (ds : List Deed) (j : Nat) (d : Deed), ds[j]? = some d → d.units ≤ unitsL ds
  | [], j, d, h => by simp at h
  | c :: ds, 0, d, h => by simp at h; subst h; simp only [unitsL]; omega
  | c :: ds, j + 1, d, h => by have := unitsL_get ds j d (by simpa using h); simp only [unitsL]; omega
theorem FileAt.row {w : World} {F : Nat} {R : Nat → Prop} {vs vt vd : Value} {dvs : List Value} {s : FSt} (h : FileAt w F R vs vt vd dvs s) {j : Nat} {d : Deed} (hd : s.deeds[j]? = some d) : ∃ dv, dvs[j]? = some dv ∧ DeedAt w R dv d := by
  have hj : j < dvs.length := by rw [h.each.1]; exact (List.getElem?_eq_some_iff.1 hd).1
  exact ⟨dvs[j], List.getElem?_eq_getElem hj, h.each.2 j _ d (List.getElem?_eq_getElem hj) hd⟩

set_option maxRecDepth 100000 in
set_option maxHeartbeats 8000000 in
theorem fsettle_m {w : World} {F : Nat} {M R : Nat → Prop} {s : FSt} (h : FileM w F M R s) (k : Nat) (hk : k ≤ s.loose) (hb : s.big ≤ 1000000) :
    Calls Tryz.prog 75 #[.pointer (some ⟨F, 0, none⟩), .int .i64 (k : Int)] w fun e w' => e = .returned (.tuple #[]) ∧ Mut w w' F M R (s.settled k) := by
  obtain ⟨ho, hMR, hM, hR, vs, vt, vd, dvs, h, hOM⟩ := h
  have hdl : s.deeds.length ≤ s.loose := length_le_units _ _ ho.valid
  have hbig : s.big = s.safe.length + s.loose := rfl
  have HB0 : Hid (s.safe.length + s.loose ≤ 1000000 ∧ k ≤ s.loose ∧ s.deeds.length ≤ s.loose) := ⟨by omega, hk, hdl⟩
  have HOk := Lib.hid ho
  have HMR := Lib.hid hMR
  have HM := Lib.hid hM
  have HR := Lib.hid hR
  have HOM := Lib.hid hOM
  have H := Lib.hid h
  obtain ⟨Ad, cd, hvd, hlc, hcm, _⟩ := own_slice h.deeds
  obtain ⟨nd, hnd⟩ : ∃ nd, nd = s.deeds.length := ⟨_, rfl⟩
  have Hnd := Lib.hid hnd
  have hvd' : vd = .slice Ad nd cd := by rw [hnd]; exact hvd
  have hcm' : nd ≤ 1000000 := by omega
  rw [← hnd] at hlc
  have Hvd := Lib.hid hvd'
  have hcl := h.cells
  rw [hvd'] at hcl
  obtain ⟨c0, c1, c2, c3, c4, f0, f1, f2, f3, f4⟩ := hcl
  have hF := h.cells.lt
  have HAp := Lib.hid h.apart
  have HRd : Hid (Rd w w.heap.size Ad dvs) := by have := h.deeds; rw [hvd] at this; exact Rd.of_own this
  have HS0 : Hid (SetR w w F vs vt vd s k 0 k s.safe vs) := ⟨h.cells, h.safe, Chg.refl, .inl rfl, rfl, .inr ho.valid, Nat.le_refl _⟩
  clear ho hMR hM hR hOM h hdl hbig hb hk hvd hnd hvd'
  go_enter Tryz.func75, Tryz.ntmps75
  go_wp2_with fail
  clear c0 c1 c2 c3 c4 f0 f1 f2 f3 f4
  go_loopw [1, 12] (fun q i wr => ∃ (j kj : Nat) (b : List UInt8) (v : Value), j ≤ nd ∧ kj ≤ 1000000 ∧ q = .int .i64 kj ∧ i = .int .i64 j ∧ SetR w wr F vs vt vd s k j kj b v) (fun q i _ => nd - (intOf i).toNat)
  case atStart => exact ⟨0, k, _, _, by omega, by have := HB0.out; omega, rfl, rfl, HS0.out⟩
  case round =>
    obtain ⟨j, kj, b, v, hj, hkj, rfl, rfl, hS⟩ := hrel
    have HS := Lib.hid hS
    clear hS
    by_cases hjl : j < nd
    · obtain ⟨d, hd⟩ : ∃ d, s.deeds[j]? = some d := ⟨s.deeds[j]'(by have := Hnd.out; omega), List.getElem?_eq_getElem _⟩
      obtain ⟨dv, hdv, hda⟩ := H.out.row hd
      have hno : ∀ i, (i = F ∨ vs.ownBlock = some i) → ¬ R i := by
        rintro i (rfl | hi)
        · exact H.out.rows _ (.inl rfl)
        · exact H.out.rows _ (.inr (.inl hi))
      obtain ⟨t, u, fu, fd, rfl, hmu, hmd, hna, heu, hed, hcu, hcd⟩ := (hda.chg HS.out.chg hno).run
      obtain ⟨bb, oo, rfl, hbb, hcc⟩ := HRd.out (by intro e; rw [e] at hdv; simp at hdv)
      have cj : wr.cell? ⟨bb, oo + j, none⟩ = some (.iface t u) := by
        have hne : ¬ (bb = F ∨ vs.ownBlock = some bb) := by
          have e : vd.ownBlock = some bb := by rw [Hvd.out]; rfl
          rintro (e2 | e2)
          · exact HAp.out.d (e2 ▸ e)
          · exact HAp.out.sd bb e2 e
        exact (HS.out.chg.cell (p := ⟨bb, oo + j, none⟩) hbb hne).trans (hcc j _ hdv)
      have Hd := Lib.hid hd
      have Hcu := Lib.hid hcu
      have Hcd := Lib.hid hcd
      obtain ⟨un, hun⟩ : ∃ un, un = d.units := ⟨_, rfl⟩
      have hul : un ≤ 1000000 := by have h1 := unitsL_get _ _ _ hd; have h2 := HB0.out; have : s.loose = unitsL s.deeds := rfl; omega
      obtain ⟨m, hm⟩ : ∃ m, m = min kj un := ⟨_, rfl⟩
      have hmin : min (kj : Int) (un : Int) = (m : Int) := by omega
      have Hm : Hid (m = min kj d.units) := by rw [hm, hun]; exact rfl
      have Hun := Lib.hid hun
      have hmk : m ≤ kj := by omega
      rw [← hun] at Hcu
      clear hcc hda hdv hcu hcd hno hd hun hm
      go_wp2_with fail
      refine (Hcu.out _).mono ?_
      rintro e w1 ⟨rfl, hb1⟩
      have HB1 := Lib.hid hb1
      clear hb1
      go_wp2_with fail
      have HC1 := Lib.hid (HS.out.cells.on HB1.out).drew
      have HO1 := Lib.hid (own_below HS.out.own HB1.out.drew (Nat.le_refl _))
      have HB1' := Lib.hid HB1.out.drew
      refine wp_region_noPanic ?_
      refine OrdL.wpL_region (fun w' => w'.cell? ⟨F, 0, none⟩ = some v) 13 (by kernel_rfl) ?_
      clear HB1
      generalize World.drew _ = W at *
      have hHeld := HC1.out.c0
      refine OrdL.wpL_take (i := 0) (v := ?_) opAt_0 [] (by kernel_rfl) (by kernel_rfl) (by kernel_rfl) (by kernel_rfl) (by kernel_rfl) (by kernel_rfl) (fun _ _ _ h => h) (Or.inl ⟨by rfl, ?_⟩) hHeld ?_
      rotate_left
      · (intro w' hSw; go_simp; try with_reducible rfl)
      try simp only [Act.put, List.setIfInBounds_toArray, List.set_cons_zero, List.set_cons_succ]
      refine OrdL.wpL_take (i := 1) (v := ?_) opAt_1 [] (by kernel_rfl) (by kernel_rfl) (by kernel_rfl) (by kernel_rfl) (by kernel_rfl) (by kernel_rfl) (fun _ _ _ h => h) (Or.inl ⟨by rfl, ?_⟩) hHeld ?_
      rotate_left
      · (intro w' hSw; go_simp; try with_reducible rfl)
      try simp only [Act.put, List.setIfInBounds_toArray, List.set_cons_zero, List.set_cons_succ]
      refine OrdL.wpL_take (i := 2) (v := ?_) opAt_2 [] (by kernel_rfl) (by kernel_rfl) (by kernel_rfl) (by kernel_rfl) (by kernel_rfl) (by kernel_rfl) (fun _ _ _ h => h) (Or.inl ⟨by rfl, ?_⟩) hHeld ?_
      rotate_left
      · (intro w' hSw; go_simp; try with_reducible rfl)
      try simp only [Act.put, List.setIfInBounds_toArray, List.set_cons_zero, List.set_cons_succ]
      refine OrdL.wpL_take (i := 3) (v := ?_) opAt_3 [] (by kernel_rfl) (by kernel_rfl) (by kernel_rfl) (by kernel_rfl) (by kernel_rfl) (by kernel_rfl) (fun _ _ _ h => h) (Or.inl ⟨by rfl, ?_⟩) hHeld ?_
      rotate_left
      · (intro w' hSw; go_simp; try with_reducible rfl)
      try simp only [Act.put, List.setIfInBounds_toArray, List.set_cons_zero, List.set_cons_succ]
      refine OrdL.wpL_take (i := 4) (v := ?_) opAt_4 [] (by kernel_rfl) (by kernel_rfl) (by kernel_rfl) (by kernel_rfl) (by kernel_rfl) (by kernel_rfl) (fun _ _ _ h => h) (Or.inl ⟨by rfl, ?_⟩) hHeld ?_
      rotate_left
      · (intro w' hSw; go_simp; try with_reducible rfl)
      try simp only [Act.put, List.setIfInBounds_toArray, List.set_cons_zero, List.set_cons_succ]
      refine OrdL.wpL_take (i := 5) (v := ?_) opAt_5 [] (by kernel_rfl) (by kernel_rfl) (by kernel_rfl) (by kernel_rfl) (by kernel_rfl) (by kernel_rfl) (fun _ _ _ h => h) (Or.inl ⟨by rfl, ?_⟩) hHeld ?_
      rotate_left
      · (intro w' hSw; go_simp; try with_reducible rfl)
      try simp only [Act.put, List.setIfInBounds_toArray, List.set_cons_zero, List.set_cons_succ]
      refine OrdL.wpL_take (i := 6) (v := ?_) opAt_6 [] (by kernel_rfl) (by kernel_rfl) (by kernel_rfl) (by kernel_rfl) (by kernel_rfl) (by kernel_rfl) (fun _ _ _ h => h) (Or.inl ⟨by rfl, ?_⟩) hHeld ?_
      rotate_left
      · (intro w' hSw; go_simp; try with_reducible rfl)
      try simp only [Act.put, List.setIfInBounds_toArray, List.set_cons_zero, List.set_cons_succ]
      refine OrdL.wpL_take (i := 7) (v := ?_) opAt_7 [] (by kernel_rfl) (by kernel_rfl) (by kernel_rfl) (by kernel_rfl) (by kernel_rfl) (by kernel_rfl) (fun _ _ _ h => h) (Or.inl ⟨by rfl, ?_⟩) hHeld ?_
      rotate_left
      · (intro w' hSw; go_simp; try with_reducible rfl)
      try simp only [Act.put, List.setIfInBounds_toArray, List.set_cons_zero, List.set_cons_succ]
      refine OrdL.wpL_take (i := 8) (v := ?_) opAt_8 [] (by kernel_rfl) (by kernel_rfl) (by kernel_rfl) (by kernel_rfl) (by kernel_rfl) (by kernel_rfl) (fun _ _ _ h => h) (Or.inl ⟨by rfl, ?_⟩) hHeld ?_
      rotate_left
      · (intro w' hSw; go_simp; try with_reducible rfl)
      try simp only [Act.put, List.setIfInBounds_toArray, List.set_cons_zero, List.set_cons_succ]
      refine OrdL.wpL_take (i := 9) (v := ?_) opAt_9 [] (by kernel_rfl) (by kernel_rfl) (by kernel_rfl) (by kernel_rfl) (by kernel_rfl) (by kernel_rfl) (fun _ _ _ h => h) (Or.inl ⟨by rfl, ?_⟩) hHeld ?_
      rotate_left
      · (intro w' hSw; go_simp; try with_reducible rfl)
      try simp only [Act.put, List.setIfInBounds_toArray, List.set_cons_zero, List.set_cons_succ]
      refine OrdL.wpL_ready (rs := [10]) (by kernel_rfl) (by simp) ?_
      refine OrdL.AllL.cons rfl (fun K hK => ?_) OrdL.AllL.nil
      go_simp
      refine (Hcd.out _ HB1'.out v b m (by have := Hm.out; omega) (HS.out.okd Hd.out Hm.out) HO1.out (by have h1 := HS.out.big; have h2 := HB0.out; have h3 := Hun.out; omega)).mono ?_
      rintro e w2 ⟨x', rfl, hox, hgx, hobx⟩
      go_wp2_with fail
      have hvF : v.ownBlock ≠ some F := HS.out.ne HAp.out.s hF
      have HC2 := Lib.hid (HC1.out.of_block (hgx.block F HC1.out.lt (fun e => hvF e.symm)))
      have HOx := Lib.hid hox
      have HGx := Lib.hid hgx
      have HObx := Lib.hid hobx
      clear hHeld hox hgx hobx
      have hHeld := HC2.out.c0
      refine hK.out _ _ (fun _ => hHeld) ?_
      clear hK K
      try simp only [Act.put, List.setIfInBounds_toArray, List.set_cons_zero, List.set_cons_succ]
      refine OrdL.wpL_take (i := 11) (v := ?_) opAt_11 [12] (by kernel_rfl) (by kernel_rfl) (by kernel_rfl) (by kernel_rfl) (by kernel_rfl) (by kernel_rfl) (fun _ _ _ h => h) (Or.inl ⟨by rfl, ?_⟩) hHeld ?_
      rotate_left
      · (intro w' hSw; go_simp; try with_reducible rfl)
      try simp only [Act.put, List.setIfInBounds_toArray, List.set_cons_zero, List.set_cons_succ]
      refine OrdL.wpL_take (i := 12) (v := ?_) opAt_12 [] (by kernel_rfl) (by kernel_rfl) (by kernel_rfl) (by kernel_rfl) (by kernel_rfl) (by kernel_rfl) (fun _ _ _ h => h) (Or.inl ⟨by rfl, ?_⟩) hHeld ?_
      rotate_left
      · (intro w' hSw; go_simp; try with_reducible rfl)
      try simp only [Act.put, List.setIfInBounds_toArray, List.set_cons_zero, List.set_cons_succ]
      refine OrdL.wpL_ready (rs := [13]) (by kernel_rfl) (by simp) ?_
      refine OrdL.AllL.cons rfl (fun K hK => ?_) OrdL.AllL.nil
      have f0 := HC2.out.f0
      obtain ⟨Ax, cx, hxe, _, _, _⟩ := own_slice HOx.out
      obtain ⟨nx, hnx⟩ : ∃ nx, nx = (d.act b m).length := ⟨_, rfl⟩
      rw [← hnx] at hxe
      have Hnx := Lib.hid hnx
      have Hxe := Lib.hid hxe
      clear hnx
      subst hxe
      go_simp
      refine hK.out _ _ (fun h => by simp at h) ?_
      refine OrdL.wpL_done (by kernel_rfl) ?_ _
      refine NoPanic.normal ?_
      go_wp2_with fail
      go_roundw
      case rel =>
        have hxF : (Value.slice Ax nx cx).ownBlock ≠ some F := fun e => by
          rcases HObx.out with h1 | h1
          · exact hvF (h1 ▸ e)
          · have := h1 _ e; have := HC1.out.lt; omega
        refine ⟨j + 1, kj - m, _, _, by omega, by omega, by go_num, by go_num, HS.out.next Hd.out Hm.out (HC2.out.set0 _) (((Chg.refl (M := fun i => i = F) (w := w2)).setCell (p := ⟨F, 0, none⟩) rfl _).own HOx.out (fun g hg e => hxF (e ▸ hg))) ?_ ?_⟩
        · exact ((Chg.of_below (M := fun i => i = F ∨ v.ownBlock = some i) HB1'.out).trans (Chg.of_grown (M := fun i => v.ownBlock = some i) HGx.out (fun g hg => hg)) (fun i hi => .inl (.inr hi))).setCell (.inl rfl) _
        · exact HObx.out.imp id (fun h1 g hg => Nat.le_trans HB1'.out.size (h1 g hg))
      case measure => simp [intOf]; omega
    · obtain rfl : j = nd := by omega
      have HCl := Lib.hid HS.out.cells
      obtain ⟨Av, cv, hve, _, hcv, _⟩ := own_slice HS.out.own
      obtain ⟨nb, hnb⟩ : ∃ nb, nb = b.length := ⟨_, rfl⟩
      have hve' : v = .slice Av nb cv := by rw [hnb]; exact hve
      have hvF : v.ownBlock ≠ some F := HS.out.ne HAp.out.s hF
      have hcl := HCl.out
      rw [hve'] at hcl
      have HCv := Lib.hid hcl
      obtain ⟨c0, c1, c2, c3, c4, f0, f1, f2, f3, f4⟩ := hcl
      have Hve := Lib.hid hve'
      have Hnb := Lib.hid hnb
      clear hve hve' hnb
      go_wp2_with fail
      go_end0
      have hbe : b = s.behind k := by
        have := HS.out.sem
        rw [Hnd.out, List.drop_length] at this
        exact this
      have hc5 := (((HCv.out.set1 nb).set2 (.slice none 0 0)).set3 (.slice none 0 0)).set4 0
      have hg5 : Chg (fun i => i = F) wr ((((wr.setCell ⟨F, 1, none⟩ (.int .i64 (nb : Int))).setCell ⟨F, 2, none⟩ (.slice none 0 0)).setCell ⟨F, 3, none⟩ (.slice none 0 0)).setCell ⟨F, 4, none⟩ (.int .i64 ((0 : Nat) : Int))) := ((((Chg.refl (M := fun i => i = F) (w := wr)).setCell (p := ⟨F, 1, none⟩) rfl _).setCell (p := ⟨F, 2, none⟩) rfl _).setCell (p := ⟨F, 3, none⟩) rfl _).setCell (p := ⟨F, 4, none⟩) rfl _
      generalize World.setCell _ _ _ = W at *
      have ho5 := hg5.own HS.out.own (fun g hg e => hvF (e ▸ hg))
      have hvlt := fun g hg => (HS.out.own.lt g hg).2
      have hMw : Chg M w W := (HS.out.chg.mono (fun i hi => HOM.out i (hi.elim .inl (fun h => .inr (.inl h))))).trans hg5 (fun i hi => .inl (HOM.out i (.inl hi)))
      have hfin : FileAt W F R (.slice Av nb cv) (.slice none 0 0) (.slice none 0 0) [] (s.settled k) := by
        refine ⟨?_, ?_, World.ownsRow_nil _ _ _ _, World.ownsRow_nil _ _ _ _, DeedsAt.nil_, ⟨?_, by simp [Value.ownBlock], by simp [Value.ownBlock], by simp [Value.ownBlock], by simp [Value.ownBlock], by simp [Value.ownBlock]⟩, ?_⟩
        · have e : (s.settled k).kept = nb := by rw [Hnb.out, hbe]; rfl
          rw [e]
          exact hc5
        · have e : (s.settled k).safe = b := hbe.symm
          rw [e, ← Hve.out]
          exact ho5
        · rw [← Hve.out]; exact hvF
        · rintro i (rfl | hi | hi | hi) hr
          · exact H.out.rows _ (.inl rfl) hr
          · rw [← Hve.out] at hi
            rcases HS.out.ob with h1 | h1
            · exact H.out.rows _ (.inr (.inl (h1 ▸ hi))) hr
            · have := h1 _ hi; have := HR.out i hr; omega
          · simp [Value.ownBlock] at hi
          · simp [Value.ownBlock] at hi
      refine ⟨rfl, fun i => FOwn F (.slice Av nb cv) (.slice none 0 0) (.slice none 0 0) i, R, ⟨FSt.settled_ok _ _, hfin.rows, hfin.lt, fun i hi => Nat.lt_of_lt_of_le (HR.out i hi) hMw.size, _, _, _, _, hfin, fun i h => h⟩, hMw, ?_, fun i hi => .inl hi⟩
      rintro i (rfl | hi | hi | hi)
      · exact .inl (HOM.out _ (.inl rfl))
      · rw [← Hve.out] at hi
        rcases HS.out.ob with h1 | h1
        · exact .inl (HOM.out _ (.inr (.inl (h1 ▸ hi))))
        · exact .inr (h1 _ hi)
      · simp [Value.ownBlock] at hi
      · simp [Value.ownBlock] at hi
end Go.Proofs.YtboeiadfmknidaaGreat

/-
  Layer 5: New, Crash, Sync, Flip.
-/
set_option linter.unusedVariables false
set_option linter.unusedSimpArgs false
namespace Go.Proofs.YtboeiadfmknidaaGreat
open Go.RowKit

theorem fcrash_nil (n : Int) (w : World) : Calls Tryz.prog 50 #[.pointer none, .int .i64 n] w fun e w' => e = .returned (.tuple #[.int .i64 0, .int .i64 2]) ∧ Below w.heap.size w w' := by
  go_enter Tryz.func50, Tryz.ntmps50
  go_wp2
  go_ret2
  exact ⟨rfl, Below.refl _ _⟩
theorem fsync_nil (w : World) : Calls Tryz.prog 39 #[.pointer none] w fun e w' => e = .returned (.int .i64 2) ∧ Below w.heap.size w w' := by
  go_enter Tryz.func39, Tryz.ntmps39
  go_wp2
  go_ret
  exact ⟨rfl, Below.refl _ _⟩
theorem fcrash_neg (F : Nat) (n : Int) (hn : n < 0) (w : World) : Calls Tryz.prog 50 #[.pointer (some ⟨F, 0, none⟩), .int .i64 n] w fun e w' => e = .returned (.tuple #[.int .i64 0, .int .i64 1]) ∧ Below w.heap.size w w' := by
  go_enter Tryz.func50, Tryz.ntmps50
  go_wp2
  go_ret2
  exact ⟨rfl, Below.refl _ _⟩
section
variable {w : World} {F : Nat} {M R : Nat → Prop} {s : FSt}
theorem fcrash_m (h : FileM w F M R s) (hb : s.big ≤ 1000000) (n m : Nat) (hm : m = min n s.loose) :
    Calls Tryz.prog 50 #[.pointer (some ⟨F, 0, none⟩), .int .i64 (n : Int)] w fun e w' => e = .returned (.tuple #[.int .i64 (m : Int), .int .i64 0]) ∧ Mut w w' F M R (s.settled m) := by
  have HM := Lib.hid h
  have HB := Lib.hid hb
  obtain ⟨ho, _, _, _, vs, vt, vd, dvs, h, _⟩ := h
  obtain ⟨lo, hlo⟩ : ∃ lo, lo = s.loose := ⟨_, rfl⟩
  obtain ⟨c0, c1, c2, c3, c4, f0, f1, f2, f3, f4⟩ := h.cells
  rw [← hlo] at c4 hm
  have hmin : min (n : Int) (lo : Int) = (m : Int) := by omega
  have Hm : Hid (m ≤ s.loose) := by rw [← hlo]; exact (by omega : m ≤ lo)
  clear hlo hm hb ho h
  go_enter Tryz.func50, Tryz.ntmps50
  go_wp2_with fail
  refine (fsettle_m HM.out m Hm.out HB.out).mono ?_
  rintro e w1 ⟨rfl, hmut⟩
  have HX := Lib.hid hmut
  clear hmut
  go_wp2_with fail
  go_ret2
  exact ⟨rfl, HX.out⟩
theorem fsync_m (h : FileM w F M R s) (hb : s.big ≤ 1000000) :
    Calls Tryz.prog 39 #[.pointer (some ⟨F, 0, none⟩)] w fun e w' => e = .returned (.int .i64 0) ∧ Mut w w' F M R (s.settled s.loose) := by
  have HM := Lib.hid h
  have HB := Lib.hid hb
  obtain ⟨ho, _, _, _, vs, vt, vd, dvs, h, _⟩ := h
  obtain ⟨c0, c1, c2, c3, c4, f0, f1, f2, f3, f4⟩ := h.cells
  clear hb ho h
  go_enter Tryz.func39, Tryz.ntmps39
  go_wp2_with fail
  refine (fsettle_m HM.out _ (Nat.le_refl _) HB.out).mono ?_
  rintro e w1 ⟨rfl, hmut⟩
  have HX := Lib.hid hmut
  clear hmut
  go_wp2_with fail
  go_ret
  exact ⟨rfl, HX.out⟩
theorem fnew_b {B : Nat} {v : Value} {b : List UInt8} (hv : Bs w B v b) (hB : B ≤ w.heap.size) (hl : b.length ≤ 1000000) :
    Calls Tryz.prog 35 #[v] w fun e w' => ∃ F M, e = .returned (.pointer (some ⟨F, 0, none⟩)) ∧ FileM w' F M (fun _ => False) (FSt.new b) ∧ Below w.heap.size w w' ∧ ∀ i, M i → w.heap.size ≤ i := by
  have HV := Lib.hid hv
  obtain ⟨A, c, rfl, hc, hr⟩ := hv
  clear hr
  obtain ⟨n, hn⟩ : ∃ n, n = b.length := ⟨_, rfl⟩
  rw [← hn] at HV
  rw [← hn]
  have Hn := Lib.hid hn
  have Hl := Lib.hid hl
  clear hn hl hc
  go_enter Tryz.func35, Tryz.ntmps35
  go_wp2_with fail
  refine (fclone _ b B w HV.out hB (by have := Hl.out; omega)).mono ?_
  rintro e w1 ⟨v1, rfl, hown1, hb1⟩
  obtain ⟨A1, c1, rfl, _, _, _⟩ := own_slice hown1
  have HO := Lib.hid hown1
  have HB1 := Lib.hid hb1
  clear hown1 hb1
  go_wp2_with fail
  go_ret
  have hw2 : Below w1.heap.size w1 (w1.alloc (.cells #[.slice A1 b.length c1, .int .i64 (n : Int), .slice none 0 0, .slice none 0 0, .int .i64 0] 92)) := (Below.refl _ _).alloc (Nat.le_refl _) _
  have hF : FileAt (w1.alloc (.cells #[.slice A1 b.length c1, .int .i64 (n : Int), .slice none 0 0, .slice none 0 0, .int .i64 0] 92)) w1.heap.size (fun _ => False) (.slice A1 b.length c1) (.slice none 0 0) (.slice none 0 0) [] (FSt.new b) := by
    refine ⟨?_, own_base (HO.out.alloc _) (Nat.zero_le _), World.ownsRow_nil _ _ _ _, World.ownsRow_nil _ _ _ _, DeedsAt.nil_, ⟨?_, by simp [Value.ownBlock], by simp [Value.ownBlock], by simp [Value.ownBlock], by simp [Value.ownBlock], by simp [Value.ownBlock]⟩, fun i _ h => h⟩
    · have := FCells.new w1 (.slice A1 b.length c1) (.slice none 0 0) (.slice none 0 0) n 0 92
      rw [Hn.out] at this
      rw [Hn.out]
      exact this
    · intro e
      have := (HO.out.lt _ e).2
      omega
  refine ⟨_, fun i => FOwn w1.heap.size (.slice A1 b.length c1) (.slice none 0 0) (.slice none 0 0) i, rfl, ⟨FSt.new_ok _, hF.rows, hF.lt, fun i h => h.elim, _, _, _, _, hF, fun i h => h⟩, HB1.out.trans (hw2.mono HB1.out.size), ?_⟩
  rintro i (rfl | hi | hi | hi)
  · exact HB1.out.size
  · exact (HO.out.lt _ hi).1
  · simp [Value.ownBlock] at hi
  · simp [Value.ownBlock] at hi
end
section
variable {w : World} {F : Nat} {M R : Nat → Prop} {s : FSt}
end
end Go.Proofs.YtboeiadfmknidaaGreat

/-
  Layer 5: Copy.
-/
set_option linter.unusedVariables false
set_option linter.unusedSimpArgs false
namespace Go.Proofs.YtboeiadfmknidaaGreat
open Go.RowKit

theorem fcopy_nil (w : World) : Calls Tryz.prog 59 #[.pointer none] w fun e w' => e = .returned (.pointer none) ∧ Below w.heap.size w w' := by
  go_enter Tryz.func59, Tryz.ntmps59
  go_wp2
  go_ret
  exact ⟨rfl, Below.refl _ _⟩
theorem fclone_deeds (A : Option Addr) (n c : Nat) (dvs : List Value) (w : World) (hr : Rd w w.heap.size A dvs) (hn : dvs.length = n) (h1 : ∀ u ∈ dvs, u.oneCell' = true) (hm : n ≤ 10000000) :
    Calls Tryz.prog 86 #[.slice A n c] w fun e w' => ∃ r, e = .returned r ∧ w'.ownsRow w.heap.size 114 1 r n dvs ∧ Below w.heap.size w w' := by
  obtain ⟨i0, hi0, hz0, hz1, hz2⟩ := info_parts deed_info
  have hq := fun (w : World) (a : Option Addr) (n c n' c' : Nat) => @Lib.run_eql_slice_nil Tryz.prog w 90 _ a n c n' c' Tryz.underlying90
  rcases A with _ | a
  · have hl : dvs = [] := by
      rcases dvs with _ | ⟨x, r⟩
      · rfl
      · obtain ⟨b, o, h, _⟩ := hr (by simp)
        cases h
    subst hl
    simp only [List.length_nil] at hn
    subst hn
    go_enter Tryz.func86, Tryz.ntmps86
    go_wp2
    go_ret
    exact ⟨_, rfl, World.ownsRow_nil _ _ _ _, Below.refl _ _⟩
  · have hown0 : (w.alloc (Obj.cells #[] 114)).ownsRow w.heap.size 114 1 (.slice (some ⟨w.heap.size, 0, none⟩) 0 0) 0 [] := World.ownsRow_lit w #[] 0 (Nat.le_refl _) (Nat.zero_le _) rfl
    have Hr := Lib.hid hr
    have Hn := Lib.hid hn
    clear hr hn
    go_enter Tryz.func86, Tryz.ntmps86
    go_wp2_with (at_builtin; (refine wpList_append_rd _ rfl _ _ 90 rfl w.heap.size 114 i0 .nilIface 1 16 Tryz.underlying90 hi0 hz0 hz1 hz2 rfl (by omega) (.slice (some ⟨w.heap.size, 0, none⟩) 0 0) 0 [] rfl hown0 w.heap.size (some a) n c dvs rfl (by rw [Hn.out, Nat.mul_one]) (Hr.out.alloc (Nat.le_refl _) _) h1 (by unfold maxLen; omega) (by omega) (by simp) ?_); intro v1 w1 hown1 hbw1 _ _)
    go_ret
    exact ⟨v1, rfl, by simpa using hown1, ((Below.refl _ _).alloc (Nat.le_refl _) _).trans hbw1⟩

set_option maxRecDepth 100000 in
set_option maxHeartbeats 8000000 in
theorem fcopy_m {w : World} {F : Nat} {M R : Nat → Prop} {s : FSt} (h : FileM w F M R s) (hb : s.big ≤ 1000000) :
    Calls Tryz.prog 59 #[.pointer (some ⟨F, 0, none⟩)] w fun e w' => ∃ F' M', e = .returned (.pointer (some ⟨F', 0, none⟩)) ∧ FileM w' F' M' R s ∧ Below w.heap.size w w' ∧ ∀ i, M' i → w.heap.size ≤ i := by
  obtain ⟨ho, hMR, hM, hR, vs, vt, vd, dvs, h, hOM⟩ := h
  have hdl : s.deeds.length ≤ s.loose := length_le_units _ _ ho.valid
  have hbig : s.big = s.safe.length + s.loose := rfl
  have hbt := FSt.length_bytes ho
  have hbl := FSt.bytes_length ho
  have HB0 : Hid (s.safe.length ≤ 1000000 ∧ s.tail.length ≤ 1000000 ∧ s.deeds.length ≤ 1000000) := ⟨by omega, by omega, by omega⟩
  have HOk := Lib.hid ho
  have HR := Lib.hid hR
  have HE := Lib.hid h.each
  have HBs := Lib.hid (Bs.of_own h.safe)
  have HBt := Lib.hid (Bs.of_own h.tail)
  obtain ⟨As, cs, hvs, _, _, _⟩ := own_slice h.safe
  obtain ⟨At, ct, hvt, _, _, _⟩ := own_slice h.tail
  obtain ⟨Ad, cd, hvd, _, _, _⟩ := own_slice h.deeds
  have HRd : Hid (Rd w w.heap.size Ad dvs) := by have := h.deeds; rw [hvd] at this; exact Rd.of_own this
  have HC := Lib.hid h.cells
  obtain ⟨c0, c1, c2, c3, c4, f0, f1, f2, f3, f4⟩ := h.cells
  obtain ⟨ls, hls⟩ : ∃ ls, ls = s.safe.length := ⟨_, rfl⟩
  obtain ⟨lt, hlt⟩ : ∃ lt, lt = s.tail.length := ⟨_, rfl⟩
  obtain ⟨ld, hld⟩ : ∃ ld, ld = s.deeds.length := ⟨_, rfl⟩
  obtain ⟨kp, hkp⟩ : ∃ kp, kp = s.kept := ⟨_, rfl⟩
  obtain ⟨lo, hlo⟩ : ∃ lo, lo = s.loose := ⟨_, rfl⟩
  rw [← hls] at hvs
  rw [← hlt] at hvt
  rw [← hld] at hvd
  rw [← hkp] at c1
  rw [← hlo] at c4
  rw [← hkp, ← hlo] at HC
  subst hvs hvt hvd
  have Hls := Lib.hid hls
  have Hlt := Lib.hid hlt
  have Hld := Lib.hid hld
  have Hkp := Lib.hid hkp
  have Hlo := Lib.hid hlo
  clear ho hMR hM hR h hOM hdl hbig hbt hbl hb hls hlt hld hkp hlo
  go_enter Tryz.func59, Tryz.ntmps59
  go_wp2_with fail
  clear c0 c1 c2 c3 c4 f0 f1 f2 f3 f4
  refine wp_region_noPanic ?_
  refine wp_region_held_drew (S := fun w' => FCells w' F (.slice As ls cs) (.slice At lt ct) (.slice Ad ld cd) kp lo) (by kernel_rfl) HC.out.drew (fun hHeld => ?_)
  have HW : Hid (Below w.heap.size w w.drew) := (Below.refl _ _).drew
  generalize World.drew _ = W at *
  refine wpAnyH_take (i := 0) (v := ?_) opAt_0 (by kernel_rfl) (by kernel_rfl) (by kernel_rfl) (fun _ _ _ h => h) (Or.inl ⟨by rfl, ?_⟩) hHeld ?_
  rotate_left
  · (intro w' hSw; obtain ⟨k0, k1, k2, k3, k4, _, _, _, _, _⟩ := hSw; go_simp; try with_reducible rfl)
  try simp only [Act.put, List.setIfInBounds_toArray, List.set_cons_zero, List.set_cons_succ]
  refine wpAnyH_take (i := 1) (v := ?_) opAt_1 (by kernel_rfl) (by kernel_rfl) (by kernel_rfl) (fun _ _ _ h => h) (Or.inl ⟨by rfl, ?_⟩) hHeld ?_
  rotate_left
  · (intro w' hSw; obtain ⟨k0, k1, k2, k3, k4, _, _, _, _, _⟩ := hSw; go_simp; try with_reducible rfl)
  try simp only [Act.put, List.setIfInBounds_toArray, List.set_cons_zero, List.set_cons_succ]
  refine wpAnyH_take (i := 2) (v := ?_) opAt_2 (by kernel_rfl) (by kernel_rfl) (by kernel_rfl) (fun _ _ _ h => h) (Or.inl ⟨by rfl, ?_⟩) hHeld ?_
  rotate_left
  · (intro w' hSw; obtain ⟨k0, k1, k2, k3, k4, _, _, _, _, _⟩ := hSw; go_simp; try with_reducible rfl)
  try simp only [Act.put, List.setIfInBounds_toArray, List.set_cons_zero, List.set_cons_succ]
  refine wpAnyH_take (i := 3) (v := ?_) opAt_3 (by kernel_rfl) (by kernel_rfl) (by kernel_rfl) (fun _ _ _ h => h) (Or.inl ⟨by rfl, ?_⟩) hHeld ?_
  rotate_left
  · (intro w' hSw; obtain ⟨k0, k1, k2, k3, k4, _, _, _, _, _⟩ := hSw; go_simp; try with_reducible rfl)
  try simp only [Act.put, List.setIfInBounds_toArray, List.set_cons_zero, List.set_cons_succ]
  refine wpAnyH_take (i := 5) (v := ?_) opAt_5 (by kernel_rfl) (by kernel_rfl) (by kernel_rfl) (fun _ _ _ h => h) (Or.inl ⟨by rfl, ?_⟩) hHeld ?_
  rotate_left
  · (intro w' hSw; obtain ⟨k0, k1, k2, k3, k4, _, _, _, _, _⟩ := hSw; go_simp; try with_reducible rfl)
  try simp only [Act.put, List.setIfInBounds_toArray, List.set_cons_zero, List.set_cons_succ]
  refine wpAnyH_take (i := 6) (v := ?_) opAt_6 (by kernel_rfl) (by kernel_rfl) (by kernel_rfl) (fun _ _ _ h => h) (Or.inl ⟨by rfl, ?_⟩) hHeld ?_
  rotate_left
  · (intro w' hSw; obtain ⟨k0, k1, k2, k3, k4, _, _, _, _, _⟩ := hSw; go_simp; try with_reducible rfl)
  try simp only [Act.put, List.setIfInBounds_toArray, List.set_cons_zero, List.set_cons_succ]
  refine wpAnyH_take (i := 7) (v := ?_) opAt_7 (by kernel_rfl) (by kernel_rfl) (by kernel_rfl) (fun _ _ _ h => h) (Or.inl ⟨by rfl, ?_⟩) hHeld ?_
  rotate_left
  · (intro w' hSw; obtain ⟨k0, k1, k2, k3, k4, _, _, _, _, _⟩ := hSw; go_simp; try with_reducible rfl)
  try simp only [Act.put, List.setIfInBounds_toArray, List.set_cons_zero, List.set_cons_succ]
  refine wpAnyH_take (i := 8) (v := ?_) opAt_8 (by kernel_rfl) (by kernel_rfl) (by kernel_rfl) (fun _ _ _ h => h) (Or.inl ⟨by rfl, ?_⟩) hHeld ?_
  rotate_left
  · (intro w' hSw; obtain ⟨k0, k1, k2, k3, k4, _, _, _, _, _⟩ := hSw; go_simp; try with_reducible rfl)
  try simp only [Act.put, List.setIfInBounds_toArray, List.set_cons_zero, List.set_cons_succ]
  refine wpAnyH_take (i := 9) (v := ?_) opAt_9 (by kernel_rfl) (by kernel_rfl) (by kernel_rfl) (fun _ _ _ h => h) (Or.inl ⟨by rfl, ?_⟩) hHeld ?_
  rotate_left
  · (intro w' hSw; obtain ⟨k0, k1, k2, k3, k4, _, _, _, _, _⟩ := hSw; go_simp; try with_reducible rfl)
  try simp only [Act.put, List.setIfInBounds_toArray, List.set_cons_zero, List.set_cons_succ]
  refine wpAnyH_take (i := 10) (v := ?_) opAt_10 (by kernel_rfl) (by kernel_rfl) (by kernel_rfl) (fun _ _ _ h => h) (Or.inl ⟨by rfl, ?_⟩) hHeld ?_
  rotate_left
  · (intro w' hSw; obtain ⟨k0, k1, k2, k3, k4, _, _, _, _, _⟩ := hSw; go_simp; try with_reducible rfl)
  try simp only [Act.put, List.setIfInBounds_toArray, List.set_cons_zero, List.set_cons_succ]
  refine wpAnyH_take (i := 11) (v := ?_) opAt_11 (by kernel_rfl) (by kernel_rfl) (by kernel_rfl) (fun _ _ _ h => h) (Or.inl ⟨by rfl, ?_⟩) hHeld ?_
  rotate_left
  · (intro w' hSw; obtain ⟨k0, k1, k2, k3, k4, _, _, _, _, _⟩ := hSw; go_simp; try with_reducible rfl)
  try simp only [Act.put, List.setIfInBounds_toArray, List.set_cons_zero, List.set_cons_succ]
  refine wpAnyH_take (i := 12) (v := ?_) opAt_12 (by kernel_rfl) (by kernel_rfl) (by kernel_rfl) (fun _ _ _ h => h) (Or.inl ⟨by rfl, ?_⟩) hHeld ?_
  rotate_left
  · (intro w' hSw; obtain ⟨k0, k1, k2, k3, k4, _, _, _, _, _⟩ := hSw; go_simp; try with_reducible rfl)
  try simp only [Act.put, List.setIfInBounds_toArray, List.set_cons_zero, List.set_cons_succ]
  refine wpAnyH_take (i := 14) (v := ?_) opAt_14 (by kernel_rfl) (by kernel_rfl) (by kernel_rfl) (fun _ _ _ h => h) (Or.inl ⟨by rfl, ?_⟩) hHeld ?_
  rotate_left
  · (intro w' hSw; obtain ⟨k0, k1, k2, k3, k4, _, _, _, _, _⟩ := hSw; go_simp; try with_reducible rfl)
  try simp only [Act.put, List.setIfInBounds_toArray, List.set_cons_zero, List.set_cons_succ]
  refine wpAnyH_take (i := 15) (v := ?_) opAt_15 (by kernel_rfl) (by kernel_rfl) (by kernel_rfl) (fun _ _ _ h => h) (Or.inl ⟨by rfl, ?_⟩) hHeld ?_
  rotate_left
  · (intro w' hSw; obtain ⟨k0, k1, k2, k3, k4, _, _, _, _, _⟩ := hSw; go_simp; try with_reducible rfl)
  try simp only [Act.put, List.setIfInBounds_toArray, List.set_cons_zero, List.set_cons_succ]
  refine wpAnyH_take (i := 16) (v := ?_) opAt_16 (by kernel_rfl) (by kernel_rfl) (by kernel_rfl) (fun _ _ _ h => h) (Or.inl ⟨by rfl, ?_⟩) hHeld ?_
  rotate_left
  · (intro w' hSw; obtain ⟨k0, k1, k2, k3, k4, _, _, _, _, _⟩ := hSw; go_simp; try with_reducible rfl)
  try simp only [Act.put, List.setIfInBounds_toArray, List.set_cons_zero, List.set_cons_succ]
  refine wpAnyH_take (i := 17) (v := ?_) opAt_17 (by kernel_rfl) (by kernel_rfl) (by kernel_rfl) (fun _ _ _ h => h) (Or.inl ⟨by rfl, ?_⟩) hHeld ?_
  rotate_left
  · (intro w' hSw; obtain ⟨k0, k1, k2, k3, k4, _, _, _, _, _⟩ := hSw; go_simp; try with_reducible rfl)
  try simp only [Act.put, List.setIfInBounds_toArray, List.set_cons_zero, List.set_cons_succ]
  refine wpAnyH_take (i := 19) (v := ?_) opAt_19 (by kernel_rfl) (by kernel_rfl) (by kernel_rfl) (fun _ _ _ h => h) (Or.inl ⟨by rfl, ?_⟩) hHeld ?_
  rotate_left
  · (intro w' hSw; obtain ⟨k0, k1, k2, k3, k4, _, _, _, _, _⟩ := hSw; go_simp; try with_reducible rfl)
  try simp only [Act.put, List.setIfInBounds_toArray, List.set_cons_zero, List.set_cons_succ]
  refine wpAnyH_take (i := 20) (v := ?_) opAt_20 (by kernel_rfl) (by kernel_rfl) (by kernel_rfl) (fun _ _ _ h => h) (Or.inl ⟨by rfl, ?_⟩) hHeld ?_
  rotate_left
  · (intro w' hSw; obtain ⟨k0, k1, k2, k3, k4, _, _, _, _, _⟩ := hSw; go_simp; try with_reducible rfl)
  try simp only [Act.put, List.setIfInBounds_toArray, List.set_cons_zero, List.set_cons_succ]
  refine wpAnyH_take (i := 21) (v := ?_) opAt_21 (by kernel_rfl) (by kernel_rfl) (by kernel_rfl) (fun _ _ _ h => h) (Or.inl ⟨by rfl, ?_⟩) hHeld ?_
  rotate_left
  · (intro w' hSw; obtain ⟨k0, k1, k2, k3, k4, _, _, _, _, _⟩ := hSw; go_simp; try with_reducible rfl)
  try simp only [Act.put, List.setIfInBounds_toArray, List.set_cons_zero, List.set_cons_succ]
  refine wpAnyH_take (i := 22) (v := ?_) opAt_22 (by kernel_rfl) (by kernel_rfl) (by kernel_rfl) (fun _ _ _ h => h) (Or.inl ⟨by rfl, ?_⟩) hHeld ?_
  rotate_left
  · (intro w' hSw; obtain ⟨k0, k1, k2, k3, k4, _, _, _, _, _⟩ := hSw; go_simp; try with_reducible rfl)
  try simp only [Act.put, List.setIfInBounds_toArray, List.set_cons_zero, List.set_cons_succ]
  refine wpAnyH_ready (rs := [4]) (by kernel_rfl) (by simp) ?_
  refine AllReadyH.cons rfl (fun K hK => ?_) AllReadyH.nil
  go_simp
  refine (fclone _ _ _ _ (HBs.out.on HW.out) (Nat.le_refl _) (by have := HB0.out; omega)).mono ?_
  rintro e w1 ⟨r1, rfl, ho1, hb1⟩
  go_wp2_with fail
  have HO1 := Lib.hid ho1
  have HW1 := Lib.hid (HW.out.trans (hb1.mono HW.out.size))
  have hHeld1 := hHeld.on hb1
  clear hHeld
  have hHeld := hHeld1
  refine hK.out _ _ hHeld1 (fun hHeld => ?_)
  clear hK K hHeld1 hb1 ho1
  try simp only [Act.put, List.setIfInBounds_toArray, List.set_cons_zero, List.set_cons_succ]
  refine wpAnyH_ready (rs := [13]) (by kernel_rfl) (by simp) ?_
  refine AllReadyH.cons rfl (fun K hK => ?_) AllReadyH.nil
  go_simp
  refine (fclone _ _ _ _ (HBt.out.on HW1.out) (Nat.le_refl _) (by have := HB0.out; omega)).mono ?_
  rintro e w2 ⟨r2, rfl, ho2, hb2⟩
  go_wp2_with fail
  have HO2 := Lib.hid ho2
  have HO1' := Lib.hid (own_below HO1.out hb2 (Nat.le_refl _))
  have HW2 := Lib.hid (HW1.out.trans (hb2.mono HW1.out.size))
  have hHeld1 := hHeld.on hb2
  clear hHeld
  have hHeld := hHeld1
  refine hK.out _ _ hHeld1 (fun hHeld => ?_)
  clear hK K hHeld1
  try simp only [Act.put, List.setIfInBounds_toArray, List.set_cons_zero, List.set_cons_succ]
  have Hb2 := Lib.hid hb2
  clear hb2 ho2
  refine wpAnyH_ready (rs := [18]) (by kernel_rfl) (by simp) ?_
  refine AllReadyH.cons rfl (fun K hK => ?_) AllReadyH.nil
  go_simp
  refine (fclone_deeds Ad ld cd dvs _ ((HRd.out.below HW2.out (Nat.le_refl _)).mono HW2.out.size) (by rw [Hld.out]; exact HE.out.1) HE.out.one (by have := HB0.out; have := Hld.out; omega)).mono ?_
  rintro e w3 ⟨r3, rfl, ho3, hb3⟩
  go_wp2_with fail
  have HO3 := Lib.hid ho3
  have HO2' := Lib.hid (own_below HO2.out hb3 (Nat.le_refl _))
  have HO1'' := Lib.hid (own_below HO1'.out hb3 (Nat.le_refl _))
  have HW3 := Lib.hid (HW2.out.trans (hb3.mono HW2.out.size))
  have hHeld1 := hHeld.on hb3
  clear hHeld
  have hHeld := hHeld1
  refine hK.out _ _ hHeld1 (fun hHeld => ?_)
  clear hK K hHeld1
  try simp only [Act.put, List.setIfInBounds_toArray, List.set_cons_zero, List.set_cons_succ]
  have Hb3 := Lib.hid hb3
  clear hb3 ho3
  obtain ⟨A1, d1, e1, _, _, _⟩ := own_slice HO1.out
  obtain ⟨A2, d2, e2, _, _, _⟩ := own_slice HO2.out
  obtain ⟨A3, d3, e3, _, _, _⟩ := own_slice HO3.out
  obtain ⟨x1, hx1⟩ : ∃ x, x = s.safe.length := ⟨_, rfl⟩
  obtain ⟨x2, hx2⟩ : ∃ x, x = s.tail.length := ⟨_, rfl⟩
  rw [← hx1] at e1
  rw [← hx2] at e2
  clear hx1 hx2
  subst e1 e2 e3
  refine wpAnyH_take (i := 23) (v := ?_) opAt_23 (by kernel_rfl) (by kernel_rfl) (by kernel_rfl) (fun _ _ _ h => h) (Or.inl ⟨by rfl, ?_⟩) hHeld ?_
  rotate_left
  · (intro w' hSw; obtain ⟨k0, k1, k2, k3, k4, _, _, _, _, _⟩ := hSw; go_simp; try with_reducible rfl)
  try simp only [Act.put, List.setIfInBounds_toArray, List.set_cons_zero, List.set_cons_succ]
  refine wpAnyH_ready (rs := [24]) (by kernel_rfl) (by simp) ?_
  refine AllReadyH.cons rfl (fun K hK => ?_) AllReadyH.nil
  go_simp
  have hnew : Below w3.heap.size w3 (w3.alloc (.cells #[.slice A1 x1 d1, .int .i64 (kp : Int), .slice A2 x2 d2, .slice A3 ld d3, .int .i64 (lo : Int)] 92)) := (Below.refl _ _).alloc (Nat.le_refl _) _
  refine hK.out _ _ (hHeld.on hnew) (fun hHeld => ?_)
  clear hK K
  try simp only [Act.put, List.setIfInBounds_toArray, List.set_cons_zero, List.set_cons_succ]
  refine wpAnyH_ready (rs := [25]) (by kernel_rfl) (by simp) ?_
  refine AllReadyH.cons rfl (fun K hK => ?_) AllReadyH.nil
  go_simp
  refine hK.out _ _ hHeld (fun hHeld => ?_)
  refine wpAnyH_done (by kernel_rfl) ?_ _
  refine NoPanic.normal ?_
  clear hK K hHeld
  have Hnew := Lib.hid hnew
  clear hnew
  go_wp2_with fail
  go_ret
  have s1 := HW.out.size
  have s2 := HW1.out.size
  have s3 := HW2.out.size
  have s4 := HW3.out.size
  have sb2 := Hb2.out.size
  have sb3 := Hb3.out.size
  have l1 := HO1.out.lt
  have l2 := HO2.out.lt
  have l3 := HO3.out.lt
  have hfin : FileAt (w3.alloc (.cells #[.slice A1 x1 d1, .int .i64 (kp : Int), .slice A2 x2 d2, .slice A3 ld d3, .int .i64 (lo : Int)] 92)) w3.heap.size R (.slice A1 x1 d1) (.slice A2 x2 d2) (.slice A3 ld d3) dvs s := by
    refine ⟨?_, own_base (HO1''.out.alloc _) (Nat.zero_le _), own_base (HO2'.out.alloc _) (Nat.zero_le _), ?_, ?_, ⟨?_, ?_, ?_, ?_, ?_, ?_⟩, ?_⟩
    · rw [← Hkp.out, ← Hlo.out]
      exact FCells.new _ _ _ _ _ _ _
    · rw [← Hld.out]
      exact own_base (HO3.out.alloc _) (Nat.zero_le _)
    · exact HE.out.chg (Chg.of_below (M := fun _ => False) (HW3.out.trans (Hnew.out.mono HW3.out.size))) (fun i h => h.elim)
    · intro e; have := l1 _ e; omega
    · intro e; have := l2 _ e; omega
    · intro e; have := l3 _ e; omega
    · intro g e e'; have := l1 _ e; have := l2 _ e'; omega
    · intro g e e'; have := l1 _ e; have := l3 _ e'; omega
    · intro g e e'; have := l2 _ e; have := l3 _ e'; omega
    · rintro i (rfl | hi | hi | hi) hr
      · have := HR.out _ hr; omega
      · have := HR.out _ hr; have := l1 _ hi; omega
      · have := HR.out _ hr; have := l2 _ hi; omega
      · have := HR.out _ hr; have := l3 _ hi; omega
  refine ⟨_, fun i => FOwn w3.heap.size (.slice A1 x1 d1) (.slice A2 x2 d2) (.slice A3 ld d3) i, rfl, ⟨HOk.out, hfin.rows, hfin.lt, fun i hi => Nat.lt_of_lt_of_le (HR.out i hi) (Nat.le_trans s4 Hnew.out.size), _, _, _, _, hfin, fun i h => h⟩, HW3.out.trans (Hnew.out.mono s4), ?_⟩
  rintro i (rfl | hi | hi | hi)
  · exact s4
  · have := l1 _ hi; omega
  · have := l2 _ hi; omega
  · have := l3 _ hi; omega
end Go.Proofs.YtboeiadfmknidaaGreat
