
/-
  The walk of the law EditForm: it returns true, and writes nothing that was there.
-/
import Derived.Test.YthcmjgkdljgcbaaDoorEdWakes
import Derived.Test.YthcmjgkdljgcbaaDoorCutM
import Derived.Test.YthcmjgkdljgcbaaDoorRegion
import Derived.OpenShut
set_option linter.unusedVariables false
set_option linter.unusedSimpArgs false
namespace Go.Proofs.YthcmjgkdljgcbaaDoor.editForm
open Go.RowKit

theorem ints_bytes {w : World} {B : Nat} {v : Value} {zs : List Int} (h : Ints w B .u8 v zs) (g : ∀ n ∈ zs, (Lit.int .u8 n).wf = true) : Bs w B v (zs.map fun z => UInt8.ofNat z.toNat) :=
  bs_of_ints h fun z hz => by
    have := g z hz
    simp only [Lit.wf, Bool.and_eq_true, decide_eq_true_eq] at this
    have h1 : IntKind.u8.min = 0 := rfl
    have h2 : IntKind.u8.max = 255 := rfl
    omega
theorem edit_form {w : World} {B : Nat} {v : Value} {e : Ed.E} (h : EdV w B v e) : ∃ A c, v = .agg #[.int .i64 e.kind, .string e.name, .int .u64 e.seq, .int .u32 e.id, .slice A e.seals.length c] := by
  obtain ⟨sv, rfl, A, c, rfl, _, _⟩ := h
  exact ⟨A, c, rfl⟩

theorem Ed.bytesE_small {e : Ed.E} (h : Ed.mayE e = true) : (Ed.bytesE e).length ≤ 10000 := by
  have hm := Ed.may_iff.1 h
  have h1 := Ed.many_le _ _ hm.many
  have h2 := Ed.sealsL_len e.seals
  have hp := Ed.partL_len
  have h3 : (Ed.namePart e).length ≤ 41 := by
    unfold Ed.namePart
    split
    · rename_i hk
      have hn := hm.name
      unfold Ed.nameOk at hn
      rw [if_pos hk] at hn
      simp only [decide_eq_true_eq] at hn
      have := (Px.sizeN_pos e.name.size).2
      rw [List.length_append, Px.formL_length, Ed.size_nameL]
      omega
    · simp
  have h4 := hp (Ed.seqB e.kind) e.seq
  have h5 := hp (Ed.idB e.kind) e.id
  have h6 := hp (Ed.manyB e.kind) e.seals.length
  unfold Ed.bytesE Ed.bodyL
  simp only [List.length_cons, List.length_append]
  omega
theorem fit_none : Ed.Fit Ed.none := ⟨by decide, by decide, by decide, by decide, by decide, by decide, fun s hs => by cases hs⟩

theorem fit_may {e : Ed.E} (h : Ed.mayE e = true) : Ed.Fit e := by
  have hm := Ed.may_iff.1 h
  have h1 := hm.k1
  have h6 := hm.k6
  have hq := Ed.seqB_le _ _ hm.seq
  have hi := Ed.idB_le _ _ hm.id
  have hn := Ed.many_le _ _ hm.many
  have hnm : e.name.size ≤ 32 := by
    have := hm.name
    unfold Ed.nameOk at this
    split at this <;> simp only [decide_eq_true_eq] at this <;> omega
  refine ⟨by omega, by omega, by omega, by omega, by omega, by omega, fun s hs => ?_⟩
  have := Ed.upS_mem _ _ hm.seals s hs
  simp only [Ed.mayS, decide_eq_true_eq] at this
  constructor <;> omega

set_option maxRecDepth 100000 in
set_option maxHeartbeats 16000000 in
theorem walk (v0 : Value) (x0 : Ed.E) (v1 : Value) (z1 : List Int) (a2 : Int) (w : World) (h0 : EdV w w.heap.size v0 x0) (f0 : Ed.Fit x0) (w1 : Ints w w.heap.size .u8 v1 z1) (g1 : ∀ n ∈ z1, (Lit.int .u8 n).wf = true) (s1 : z1.length * 1 ≤ 140737488351232) (w2 : (Lit.int .u16 a2).wf = true) (ht : ETab w) :
    Calls Tryd.prog 5 #[v0, v1, .int .u16 a2] w fun e w' => e = .returned (.bool true) ∧ Below w.heap.size w w' := by
  obtain ⟨P0, p0, rfl⟩ := edit_form h0
  have hb := ints_bytes w1 g1
  have hz : (z1.map fun z => UInt8.ofNat z.toNat).length = z1.length := by simp
  generalize (z1.map fun z => UInt8.ofNat z.toNat) = l0 at *
  have hl0 : l0.length ≤ 140737488351232 := by omega
  obtain ⟨a, ha⟩ : ∃ a : Nat, a2 = (a : Int) := ⟨a2.toNat, by simp only [Lit.wf, Bool.and_eq_true, decide_eq_true_eq] at w2; have h1 : IntKind.u16.min = 0 := rfl; omega⟩
  have ha16 : a ≤ 65535 := by simp only [Lit.wf, Bool.and_eq_true, decide_eq_true_eq] at w2; have h1 : IntKind.u16.max = 65535 := rfl; omega
  subst ha
  have za : IntKind.i64.wrap (a : Int) = (a : Int) := IntWalk.i64_in _ (by omega)
  obtain ⟨A0, c0, k, A1, c1, rfl, m1, k1, s1', z1'⟩ := cut_min v1 l0 w.heap.size 3000 w hb
  have b1 := bnew w (.cells #[.int .i64 x0.kind, .string x0.name, .int .u64 x0.seq, .int .u32 x0.id, .slice P0 x0.seals.length p0] 26)
  have hx0 := Bx.new w #[.int .i64 x0.kind, .string x0.name, .int .u64 x0.seq, .int .u32 x0.id, .slice P0 x0.seals.length p0] 26 _ rfl
  have Hf0 := Lib.hid (fun w' (hb : Below w.heap.size w w') => few_e _ x0 w.heap.size w' (h0.below hb (Nat.le_refl _)) hb.size f0)
  have FR := Lib.hid (Ed.few_fit f0)
  generalize Ed.few x0 = r at *
  have HT := Lib.hid ht
  have HX0 := Lib.hid hx0
  have B1 := Lib.hid b1
  have HB0 := Lib.hid hb
  have Z1 := Lib.hid z1'
  rw [show ((3000 : Nat) : Int) = 3000 from rfl] at m1
  obtain ⟨ll, hll⟩ : ∃ ll, ll = l0.take 3000 := ⟨_, rfl⟩
  have hlk : ll.length = k := by rw [hll, List.length_take]; omega
  have hk3 : k ≤ 3000 := by omega
  have HLL := Lib.hid hll
  have HLK := Lib.hid hlk
  generalize hn0 : l0.length = n0 at *
  have Hn0 := Lib.hid hn0
  clear h0 f0 ht hx0 b1 hb z1' hll hlk hn0 hz g1 s1 w2 w1
  go_enter Tryd.func5, Tryd.ntmps5
  go_wp2_with fail
  refine wp_region_noPanic ?_
  refine wp_region_held_drew (S := fun _ : World => True) (by kernel_rfl) (trivial) (fun hHeld => ?_)
  have HXW := Lib.hid HX0.out.drew
  have HbW := Lib.hid B1.out.drew
  clear HX0 B1
  generalize hWW : World.drew _ = W at *
  clear hWW
  refine wpAnyH_take (i := 2) (v := ?_) opAt_2 (by kernel_rfl) (by kernel_rfl) (by kernel_rfl) (fun _ _ _ h => h) (Or.inl ⟨by rfl, ?_⟩) trivial ?_
  rotate_left
  · (intro w hSw; (try dsimp only at hSw); go_simp; try with_reducible rfl)
  try simp only [Act.put, List.setIfInBounds_toArray, List.set_cons_zero, List.set_cons_succ]
  refine wpAnyH_take (i := 3) (v := ?_) opAt_3 (by kernel_rfl) (by kernel_rfl) (by kernel_rfl) (fun _ _ _ h => h) (Or.inl ⟨by rfl, ?_⟩) trivial ?_
  rotate_left
  · (intro w hSw; (try dsimp only at hSw); go_simp; try with_reducible rfl)
  try simp only [Act.put, List.setIfInBounds_toArray, List.set_cons_zero, List.set_cons_succ]
  refine wpAnyH_take (i := 4) (v := ?_) opAt_4 (by kernel_rfl) (by kernel_rfl) (by kernel_rfl) (fun _ _ _ h => h) (Or.inl ⟨by rfl, ?_⟩) trivial ?_
  rotate_left
  · (intro w hSw; (try dsimp only at hSw); go_simp; try with_reducible rfl)
  try simp only [Act.put, List.setIfInBounds_toArray, List.set_cons_zero, List.set_cons_succ]
  refine wpAnyH_take (i := 5) (v := ?_) opAt_5 (by kernel_rfl) (by kernel_rfl) (by kernel_rfl) (fun _ _ _ h => h) (Or.inl ⟨by rfl, ?_⟩) trivial ?_
  rotate_left
  · (intro w hSw; (try dsimp only at hSw); go_simp; try with_reducible rfl)
  try simp only [Act.put, List.setIfInBounds_toArray, List.set_cons_zero, List.set_cons_succ]
  refine wpAnyH_take (i := 6) (v := ?_) opAt_6 (by kernel_rfl) (by kernel_rfl) (by kernel_rfl) (fun _ _ _ h => h) (Or.inl ⟨by rfl, ?_⟩) trivial ?_
  rotate_left
  · (intro w hSw; (try dsimp only at hSw); go_simp; try with_reducible rfl)
  try simp only [Act.put, List.setIfInBounds_toArray, List.set_cons_zero, List.set_cons_succ]
  refine wpAnyH_ready (rs := [0]) (by kernel_rfl) (by simp) ?_
  refine AllReadyH.cons rfl (fun K hK => ?_) AllReadyH.nil
  go_simp
  obtain ⟨k0, k1, k2, k3, k4⟩ := HXW.out.at5
  go_simp
  clear k0 k1 k2 k3 k4
  refine hK.out _ _ (trivial) (fun hHeld => ?_)
  clear hK K
  try simp only [Act.put, List.setIfInBounds_toArray, List.set_cons_zero, List.set_cons_succ]
  refine wpAnyH_ready (rs := [1]) (by kernel_rfl) (by simp) ?_
  refine AllReadyH.cons rfl (fun K hK => ?_) AllReadyH.nil
  go_simp
  refine (Hf0.out W HbW.out).mono ?_
  rintro e wa ⟨va, rfl, hra, ba⟩
  obtain ⟨P2, p2, rfl⟩ := edit_form hra
  have HbA := Lib.hid (HbW.out.trans (ba.mono HbW.out.size))
  have HRa := Lib.hid hra
  have HXW := Lib.hid (HXW.out.on ba)
  clear ba hra
  try go_wp2_with fail
  refine hK.out _ _ (trivial) (fun hHeld => ?_)
  clear hK K
  try simp only [Act.put, List.setIfInBounds_toArray, List.set_cons_zero, List.set_cons_succ]
  refine wpAnyH_ready (rs := [7]) (by kernel_rfl) (by simp) ?_
  refine AllReadyH.cons rfl (fun K hK => ?_) AllReadyH.nil
  go_simp
  obtain ⟨k0, k1, k2, k3, k4⟩ := HXW.out.at5
  obtain ⟨z0, z1, z2, z3, z4⟩ := HXW.out.free5
  go_simp
  have n7 := (((((HXW.out.set 0 (.int .i64 r.kind) (by simp)).set 1 (.string r.name) (by simp)).set 2 (.int .u64 r.seq) (by simp)).set 3 (.int .u32 r.id) (by simp)).set 4 (.slice P2 r.seals.length p2) (by simp))
  have q7 := ((((((Below.refl w.heap.size wa).setCell (p := ⟨w.heap.size, 0, none⟩) (by simp) (.int .i64 r.kind)).setCell (p := ⟨w.heap.size, 1, none⟩) (by simp) (.string r.name)).setCell (p := ⟨w.heap.size, 2, none⟩) (by simp) (.int .u64 r.seq)).setCell (p := ⟨w.heap.size, 3, none⟩) (by simp) (.int .u32 r.id)).setCell (p := ⟨w.heap.size, 4, none⟩) (by simp) (.slice P2 r.seals.length p2))
  simp only [List.set_cons_zero, List.set_cons_succ] at n7
  have N7 := Lib.hid n7
  have Q7 := Lib.hid q7
  clear n7 q7 k0 k1 k2 k3 k4 z0 z1 z2 z3 z4
  generalize World.setCell (World.setCell (World.setCell (World.setCell (World.setCell wa _ _) _ _) _ _) _ _) _ _ = wd at *
  refine hK.out _ _ (trivial) (fun hHeld => ?_)
  clear hK K
  try simp only [Act.put, List.setIfInBounds_toArray, List.set_cons_zero, List.set_cons_succ]
  refine wpAnyH_ready (rs := [8]) (by kernel_rfl) (by simp) ?_
  refine AllReadyH.cons rfl (fun K hK => ?_) AllReadyH.nil
  go_simp
  go_simp
  refine hK.out _ _ (trivial) (fun hHeld => ?_)
  clear hK K
  try simp only [Act.put, List.setIfInBounds_toArray, List.set_cons_zero, List.set_cons_succ]
  refine wpAnyH_done (by kernel_rfl) ?_ _
  refine NoPanic.normal ?_
  have XD := Lib.hid N7.out
  have HBD := Lib.hid (HbA.out.trans Q7.out)
  have HT0 := HT
  have RD := Lib.hid (HRa.out.below Q7.out (Nat.le_refl _))
  have HT := Lib.hid (HT.out.on HBD.out)
  have KA : Hid (Bs wd w.heap.size (.slice A1 k c1) ll) := Lib.hid (by rw [HLL.out]; exact Z1.out _ _ (HB0.out.below HBD.out (Nat.le_refl _)))
  clear HbW HbA HXW HRa N7 Q7 HB0 Z1 Hf0
  obtain ⟨k0, k1, k2, k3, k4⟩ := XD.out.at5
  clear m1 s1'
  go_wp2_with fail
  cases hmr : Ed.mayE r
  · refine (eput_no _ r _ (RD.out.mono HBD.out.size) FR.out HT.out hmr).mono ?_
    rintro e w1 ⟨rfl, hb⟩
    have XD := Lib.hid (XD.out.on hb)
    have RD := Lib.hid (RD.out.below hb HBD.out.size)
    have KA := Lib.hid (KA.out.below hb HBD.out.size)
    have HT := Lib.hid (HT.out.on hb)
    have HBD := Lib.hid (bstep HBD.out hb)
    clear hb k0 k1 k2 k3 k4
    obtain ⟨k0, k1, k2, k3, k4⟩ := XD.out.at5
    go_wp2_with fail
    refine (may_edit _ r _ (RD.out.mono HBD.out.size) FR.out HT.out).mono ?_
    rw [hmr]
    rintro e w2 ⟨rfl, hb⟩
    have XD := Lib.hid (XD.out.on hb)
    have RD := Lib.hid (RD.out.below hb HBD.out.size)
    have KA := Lib.hid (KA.out.below hb HBD.out.size)
    have HT := Lib.hid (HT.out.on hb)
    have HBD := Lib.hid (bstep HBD.out hb)
    clear hb k0 k1 k2 k3 k4 hmr
    go_wp2_with fail
    refine (eget_b _ ll _ (KA.out.mono HBD.out.size) (by rw [HLK.out]; omega) HT.out).mono ?_
    rcases hg : Ed.getE ll with ec | x
    · rw [Ed.getR_er hg]
      have hec := Ed.get_err hg
      clear hg
      rintro e wt ⟨⟨ev, rfl, hev⟩, hb⟩
      obtain ⟨A5, c5, rfl⟩ := edit_form hev
      have XD := Lib.hid (XD.out.on hb)
      have RD := Lib.hid (RD.out.below hb HBD.out.size)
      have KA := Lib.hid (KA.out.below hb HBD.out.size)
      have YD := Lib.hid hev
      have HT := Lib.hid (HT.out.on hb)
      have HBD := Lib.hid (bstep HBD.out hb)
      clear hb hev
      have e45 : ((ec : Int) == 0) = false := by simp; omega
      have hb := bnew wt (.cells #[.int .i64 Ed.none.kind, .string Ed.none.name, .int .u64 Ed.none.seq, .int .u32 Ed.none.id, .slice A5 Ed.none.seals.length c5] 26)
      have YD := Lib.hid (YD.out.on hb)
      have XD := Lib.hid (XD.out.on hb)
      have RD := Lib.hid (RD.out.below hb HBD.out.size)
      have KA := Lib.hid (KA.out.below hb HBD.out.size)
      have HT := Lib.hid (HT.out.on hb)
      have HBD := Lib.hid (bstep HBD.out hb)
      clear hb
      rcases hec with rfl | rfl
      · skip
        go_wp2_with fail
        refine (same_any _ _ Ed.none Ed.none _ YD.out EdV.none_ (fit_none) (fit_none)).mono ?_
        rw [decide_eq_true rfl]
        rintro e ws ⟨rfl, hb⟩
        have XD := Lib.hid (XD.out.on hb)
        have RD := Lib.hid (RD.out.below hb HBD.out.size)
        have KA := Lib.hid (KA.out.below hb HBD.out.size)
        have HT := Lib.hid (HT.out.on hb)
        have HBD := Lib.hid (bstep HBD.out hb)
        clear hb
        go_wp2_with fail
        refine (wakes9 _ HT.out).mono ?_
        rintro e wf ⟨rfl, hb⟩
        have HF := Lib.hid (bstep HBD.out hb)
        clear hb
        go_wp2_with fail
        go_ret
        exact ⟨rfl, HF.out⟩
      · skip
        go_wp2_with fail
        refine (same_any _ _ Ed.none Ed.none _ YD.out EdV.none_ (fit_none) (fit_none)).mono ?_
        rw [decide_eq_true rfl]
        rintro e ws ⟨rfl, hb⟩
        have XD := Lib.hid (XD.out.on hb)
        have RD := Lib.hid (RD.out.below hb HBD.out.size)
        have KA := Lib.hid (KA.out.below hb HBD.out.size)
        have HT := Lib.hid (HT.out.on hb)
        have HBD := Lib.hid (bstep HBD.out hb)
        clear hb
        go_wp2_with fail
        refine (wakes9 _ HT.out).mono ?_
        rintro e wf ⟨rfl, hb⟩
        have HF := Lib.hid (bstep HBD.out hb)
        clear hb
        go_wp2_with fail
        go_ret
        exact ⟨rfl, HF.out⟩
    · rw [Ed.getR_ok hg]
      obtain ⟨hmx, hbx⟩ := Ed.get_back hg
      have Hmx := Lib.hid hmx
      have Hbx := Lib.hid hbx
      clear hg hmx hbx
      rintro e wt ⟨⟨ev, rfl, hev⟩, hb⟩
      obtain ⟨A5, c5, rfl⟩ := edit_form hev
      have XD := Lib.hid (XD.out.on hb)
      have RD := Lib.hid (RD.out.below hb HBD.out.size)
      have KA := Lib.hid (KA.out.below hb HBD.out.size)
      have YD := Lib.hid hev
      have HT := Lib.hid (HT.out.on hb)
      have HBD := Lib.hid (bstep HBD.out hb)
      clear hb hev
      have hb := bnew wt (.cells #[.int .i64 x.kind, .string x.name, .int .u64 x.seq, .int .u32 x.id, .slice A5 x.seals.length c5] 26)
      have hyb := Bx.new wt #[.int .i64 x.kind, .string x.name, .int .u64 x.seq, .int .u32 x.id, .slice A5 x.seals.length c5] 26 _ rfl
      have YD := Lib.hid (YD.out.on hb)
      have YX := Lib.hid hyb
      have XD := Lib.hid (XD.out.on hb)
      have RD := Lib.hid (RD.out.below hb HBD.out.size)
      have KA := Lib.hid (KA.out.below hb HBD.out.size)
      have HT := Lib.hid (HT.out.on hb)
      have HBD := Lib.hid (bstep HBD.out hb)
      clear hb hyb
      go_wp2_with fail
      refine (eput_yes _ x _ YD.out (fit_may Hmx.out) HT.out Hmx.out).mono ?_
      rintro e wp ⟨⟨rc, rfl, hrc⟩, hb⟩
      have YD := Lib.hid (YD.out.on hb)
      have YX := Lib.hid (YX.out.on hb)
      have XD := Lib.hid (XD.out.on hb)
      have RD := Lib.hid (RD.out.below hb HBD.out.size)
      have KA := Lib.hid (KA.out.below hb HBD.out.size)
      have KC := Lib.hid hrc
      have HT := Lib.hid (HT.out.on hb)
      have HBD := Lib.hid (bstep HBD.out hb)
      obtain ⟨y0, y1, y2, y3, y4⟩ := YX.out.at5
      clear hb hrc
      go_wp2_with fail
      refine (may_edit _ x _ YD.out (fit_may Hmx.out) HT.out).mono ?_
      rw [Hmx.out]
      rintro e wm ⟨rfl, hb⟩
      have XD := Lib.hid (XD.out.on hb)
      have RD := Lib.hid (RD.out.below hb HBD.out.size)
      have KA := Lib.hid (KA.out.below hb HBD.out.size)
      have KC := Lib.hid (KC.out.on hb)
      have HT := Lib.hid (HT.out.on hb)
      have HBD := Lib.hid (bstep HBD.out hb)
      clear hb
      go_wp2_with fail
      refine (equal_b _ _ (Ed.bytesE x) ll _ _ _ KC.out KA.out).mono ?_
      rw [Hbx.out, show (ll == ll) = true by simp]
      rintro e we ⟨rfl, hw⟩
      subst hw
      go_wp2_with fail
      refine (wakes9 _ HT.out).mono ?_
      rintro e wf ⟨rfl, hb⟩
      have HF := Lib.hid (bstep HBD.out hb)
      clear hb
      go_wp2_with fail
      go_ret
      exact ⟨rfl, HF.out⟩
  · refine (eput_yes _ r _ (RD.out.mono HBD.out.size) FR.out HT.out hmr).mono ?_
    rintro e w1 ⟨⟨rb, rfl, hrb⟩, hb⟩
    obtain ⟨Ab, cb, rfl, hcb, hrd⟩ := id hrb
    have XD := Lib.hid (XD.out.on hb)
    have RD := Lib.hid (RD.out.below hb HBD.out.size)
    have KA := Lib.hid (KA.out.below hb HBD.out.size)
    have KR := Lib.hid hrb
    have HT := Lib.hid (HT.out.on hb)
    have HBD := Lib.hid (bstep HBD.out hb)
    have Hmr := Lib.hid hmr
    clear hb k0 k1 k2 k3 k4 hrb hrd
    obtain ⟨k0, k1, k2, k3, k4⟩ := XD.out.at5
    have hpos : 0 < (Ed.bytesE r).length := by simp [Ed.bytesE]
    have HLb := Lib.hid (show (Ed.bytesE r).length ≤ 9223372036854775807 from Ed.bytesE_len hmr)
    generalize hnb : (Ed.bytesE r).length = nb at *
    have HNB := Lib.hid hnb
    obtain ⟨t, ht⟩ : ∃ t, t = a % nb := ⟨_, rfl⟩
    have htn : t < nb := by rw [ht]; exact Nat.mod_lt _ hpos
    have m3 : max (nb : Int) 1 = (nb : Int) := by omega
    have m4 : (a : Int) % (nb : Int) = (t : Int) := by rw [ht]; simp
    have m5 : (a : Int).tmod (nb : Int) = (t : Int) := by rw [Int.tmod_eq_emod_of_nonneg (by omega)]; exact m4
    have hnz : ¬ (nb : Int) = 0 := by omega
    obtain ⟨A7, c7, hcut7, hc7, hr7⟩ := cut_h Ab nb cb t (by omega) hcb
    have HR7 := Lib.hid hr7
    clear hnb hr7 hmr ht
    go_wp2_with fail
    refine (may_edit _ r _ (RD.out.mono HBD.out.size) FR.out HT.out).mono ?_
    rw [Hmr.out]
    rintro e w2 ⟨rfl, hb⟩
    have XD := Lib.hid (XD.out.on hb)
    have RD := Lib.hid (RD.out.below hb HBD.out.size)
    have KA := Lib.hid (KA.out.below hb HBD.out.size)
    have KR := Lib.hid (KR.out.on hb)
    have HT := Lib.hid (HT.out.on hb)
    have HBD := Lib.hid (bstep HBD.out hb)
    clear hb k0 k1 k2 k3 k4
    go_wp2_with fail
    refine (eget_b _ (Ed.bytesE r) _ KR.out (by rw [HNB.out]; exact HLb.out) HT.out).mono ?_
    rw [Ed.getR_ok (Ed.get_bytes Hmr.out)]
    rintro e w3 ⟨⟨ev, rfl, hev⟩, hb⟩
    obtain ⟨A5, c5, rfl⟩ := edit_form hev
    have XD := Lib.hid (XD.out.on hb)
    have RD := Lib.hid (RD.out.below hb HBD.out.size)
    have KA := Lib.hid (KA.out.below hb HBD.out.size)
    have KR := Lib.hid (KR.out.on hb)
    have YD := Lib.hid hev
    have HT := Lib.hid (HT.out.on hb)
    have HBD := Lib.hid (bstep HBD.out hb)
    clear hb hev
    have hb := bnew w3 (.cells #[.int .i64 r.kind, .string r.name, .int .u64 r.seq, .int .u32 r.id, .slice A5 r.seals.length c5] 26)
    have YX := Lib.hid (Bx.new w3 #[.int .i64 r.kind, .string r.name, .int .u64 r.seq, .int .u32 r.id, .slice A5 r.seals.length c5] 26 _ rfl)
    have XD := Lib.hid (XD.out.on hb)
    have RD := Lib.hid (RD.out.below hb HBD.out.size)
    have KA := Lib.hid (KA.out.below hb HBD.out.size)
    have KR := Lib.hid (KR.out.on hb)
    have YD := Lib.hid (YD.out.on hb)
    have HT := Lib.hid (HT.out.on hb)
    have HBD := Lib.hid (bstep HBD.out hb)
    clear hb
    go_wp2_with fail
    have K7 : Hid (Bs _ _ (.slice A7 t c7) ((Ed.bytesE r).take t)) := Lib.hid (show Bs _ _ _ _ from by
      obtain ⟨A8, c8, e8, _, hr8⟩ := KR.out
      injection e8 with e9 e10 e11
      subst e9
      exact ⟨A7, c7, by rw [List.length_take, HNB.out, Nat.min_eq_left (Nat.le_of_lt htn)], by rw [List.length_take, HNB.out, Nat.min_eq_left (Nat.le_of_lt htn)]; exact hc7, HR7.out _ _ _ HNB.out hr8⟩)
    refine (eget_b _ ((Ed.bytesE r).take t) _ K7.out (by rw [List.length_take]; have := HLb.out; omega) HT.out).mono ?_
    rw [Ed.getR_er (Ed.get_cut Hmr.out (by rw [HNB.out]; exact htn))]
    rintro e w4 ⟨⟨ev, rfl, hev⟩, hb⟩
    obtain ⟨A6, c6, rfl⟩ := edit_form hev
    have XD := Lib.hid (XD.out.on hb)
    have RD := Lib.hid (RD.out.below hb HBD.out.size)
    have KA := Lib.hid (KA.out.below hb HBD.out.size)
    have KR := Lib.hid (KR.out.on hb)
    have YD := Lib.hid (YD.out.on hb)
    have YX := Lib.hid (YX.out.on hb)
    have HT := Lib.hid (HT.out.on hb)
    have HBD := Lib.hid (bstep HBD.out hb)
    clear hb hev K7
    have hb := bnew w4 (.cells #[.int .i64 Ed.none.kind, .string Ed.none.name, .int .u64 Ed.none.seq, .int .u32 Ed.none.id, .slice A6 Ed.none.seals.length c6] 26)
    have XD := Lib.hid (XD.out.on hb)
    have RD := Lib.hid (RD.out.below hb HBD.out.size)
    have KA := Lib.hid (KA.out.below hb HBD.out.size)
    have KR := Lib.hid (KR.out.on hb)
    have YD := Lib.hid (YD.out.on hb)
    have YX := Lib.hid (YX.out.on hb)
    have HT := Lib.hid (HT.out.on hb)
    have HBD := Lib.hid (bstep HBD.out hb)
    clear hb
    obtain ⟨k0, k1, k2, k3, k4⟩ := XD.out.at5
    obtain ⟨y0, y1, y2, y3, y4⟩ := YX.out.at5
    go_wp2_with fail
    refine (same_any _ _ r r _ (RD.out.mono HBD.out.size) YD.out FR.out FR.out).mono ?_
    rw [decide_eq_true rfl]
    rintro e ws ⟨rfl, hb⟩
    have XD := Lib.hid (XD.out.on hb)
    have RD := Lib.hid (RD.out.below hb HBD.out.size)
    have KA := Lib.hid (KA.out.below hb HBD.out.size)
    have KR := Lib.hid (KR.out.on hb)
    have HT := Lib.hid (HT.out.on hb)
    have HBD := Lib.hid (bstep HBD.out hb)
    clear hb k0 k1 k2 k3 k4 y0 y1 y2 y3 y4 m3 m4 m5 hnz hcut7 YD YX HR7
    go_wp2_with fail
    refine (clone_b _ (Ed.bytesE r) _ KR.out (by rw [HNB.out]; have := Ed.bytesE_small Hmr.out; rw [HNB.out] at this; omega)).mono ?_
    rw [HNB.out]
    rintro e w5 ⟨rc, rfl, hown5, hb⟩
    have HBS := Lib.hid (Below.refl ws.heap.size ws)
    have HS5 := Lib.hid hb
    have HO5 := Lib.hid hown5
    have hnb2 : nb ≤ 10000 := by have := Ed.bytesE_small Hmr.out; rw [HNB.out] at this; omega
    have HBD0 := Lib.hid HBD.out.size
    have XD0 := Lib.hid XD.out.lt
    have XD := Lib.hid (XD.out.on hb)
    have RD := Lib.hid (RD.out.below hb HBD.out.size)
    have KA := Lib.hid (KA.out.below hb HBD.out.size)
    have HT := Lib.hid (HT.out.on hb)
    have HBD := Lib.hid (bstep HBD.out hb)
    obtain ⟨Ak, ck, ek, hck, hrk⟩ := KA.out
    have HRK : Hid (Rd w5 w.heap.size A1 (bvs ll)) := Lib.hid (by injection ek with e1 e2 e3; subst e1; exact hrk)
    clear hb hown5 ek hck hrk
    obtain ⟨i0, hi0, hz0, hz1, hz2⟩ := info_parts byte_info
    go_wp2_with (at_builtin; (refine wpList_append_rd _ rfl _ _ 30 rfl ws.heap.size 5 i0 (.int .u8 0) 1 1 Tryd.underlying30 hi0 hz0 hz1 hz2 rfl (by omega) rc nb (bvs (Ed.bytesE r)) rfl HO5.out w.heap.size A1 k c1 (bvs ll) rfl (by rw [bvs_length, HLK.out]; omega) HRK.out (bvs_one _) (by unfold maxLen; omega) (by omega) HS5.out.size ?_); intro v6 w6 hown6 hbw6 hgr6 hblk6; have hb := hbw6; have HO6 := Lib.hid hown6; have XD := Lib.hid (XD.out.below hb (Nat.lt_of_lt_of_le (Nat.lt_of_lt_of_le XD0.out (Nat.le_refl _)) (Nat.le_refl _))); have RD := Lib.hid (RD.out.below hb HBD0.out); have KA := Lib.hid (KA.out.below hb HBD0.out); have HBD := Lib.hid (HBD.out.trans (hb.mono HBD0.out)); clear hown6 hbw6 hgr6 hblk6 hb)
    have HT := Lib.hid (HT0.out.on HBD.out)
    have K6 : Hid (Bs w6 w6.heap.size v6 (Ed.bytesE r ++ ll)) := Lib.hid (by have h9 := HO6.out; rw [← bvs_append] at h9; exact Bs.of_own h9)
    refine (eget_b _ (Ed.bytesE r ++ ll) _ K6.out (by rw [List.length_append, HNB.out, HLK.out]; omega) HT.out).mono ?_
    clear K6 HO6 HO5 HS5 HRK HBS
    by_cases hk0 : k = 0
    · have hln : ll = [] := List.eq_nil_of_length_eq_zero (by rw [HLK.out]; exact hk0)
      rw [hln, List.append_nil, Ed.getR_ok (Ed.get_bytes Hmr.out)]
      have ek0 : ((k : Int) == 0) = true := by simp [hk0]
      have ek1 : ¬ 0 < k := by omega
      clear hk0 hln
      rintro e w7 ⟨⟨ev, rfl, hev⟩, hb⟩
      obtain ⟨A9, c9, rfl⟩ := edit_form hev
      have XD := Lib.hid (XD.out.on hb)
      have RD := Lib.hid (RD.out.below hb HBD.out.size)
      have KA := Lib.hid (KA.out.below hb HBD.out.size)
      have HT := Lib.hid (HT.out.on hb)
      have HBD := Lib.hid (bstep HBD.out hb)
      clear hb hev
      have hb := bnew w7 (.cells #[.int .i64 r.kind, .string r.name, .int .u64 r.seq, .int .u32 r.id, .slice A9 r.seals.length c9] 26)
      have XD := Lib.hid (XD.out.on hb)
      have RD := Lib.hid (RD.out.below hb HBD.out.size)
      have KA := Lib.hid (KA.out.below hb HBD.out.size)
      have HT := Lib.hid (HT.out.on hb)
      have HBD := Lib.hid (bstep HBD.out hb)
      clear hb
      go_wp2_with fail
      clear ek0 ek1
      refine (eget_b _ ll _ (KA.out.mono HBD.out.size) (by rw [HLK.out]; omega) HT.out).mono ?_
      rcases hg : Ed.getE ll with ec | x
      · rw [Ed.getR_er hg]
        have hec := Ed.get_err hg
        clear hg
        rintro e wt ⟨⟨ev, rfl, hev⟩, hb⟩
        obtain ⟨A5, c5, rfl⟩ := edit_form hev
        have XD := Lib.hid (XD.out.on hb)
        have RD := Lib.hid (RD.out.below hb HBD.out.size)
        have KA := Lib.hid (KA.out.below hb HBD.out.size)
        have YD := Lib.hid hev
        have HT := Lib.hid (HT.out.on hb)
        have HBD := Lib.hid (bstep HBD.out hb)
        clear hb hev
        have e45 : ((ec : Int) == 0) = false := by simp; omega
        have hb := bnew wt (.cells #[.int .i64 Ed.none.kind, .string Ed.none.name, .int .u64 Ed.none.seq, .int .u32 Ed.none.id, .slice A5 Ed.none.seals.length c5] 26)
        have YD := Lib.hid (YD.out.on hb)
        have XD := Lib.hid (XD.out.on hb)
        have RD := Lib.hid (RD.out.below hb HBD.out.size)
        have KA := Lib.hid (KA.out.below hb HBD.out.size)
        have HT := Lib.hid (HT.out.on hb)
        have HBD := Lib.hid (bstep HBD.out hb)
        clear hb
        rcases hec with rfl | rfl
        · skip
          go_wp2_with fail
          refine (same_any _ _ Ed.none Ed.none _ YD.out EdV.none_ (fit_none) (fit_none)).mono ?_
          rw [decide_eq_true rfl]
          rintro e ws ⟨rfl, hb⟩
          have XD := Lib.hid (XD.out.on hb)
          have RD := Lib.hid (RD.out.below hb HBD.out.size)
          have KA := Lib.hid (KA.out.below hb HBD.out.size)
          have HT := Lib.hid (HT.out.on hb)
          have HBD := Lib.hid (bstep HBD.out hb)
          clear hb
          go_wp2_with fail
          refine (wakes9 _ HT.out).mono ?_
          rintro e wf ⟨rfl, hb⟩
          have HF := Lib.hid (bstep HBD.out hb)
          clear hb
          go_wp2_with fail
          go_ret
          exact ⟨rfl, HF.out⟩
        · skip
          go_wp2_with fail
          refine (same_any _ _ Ed.none Ed.none _ YD.out EdV.none_ (fit_none) (fit_none)).mono ?_
          rw [decide_eq_true rfl]
          rintro e ws ⟨rfl, hb⟩
          have XD := Lib.hid (XD.out.on hb)
          have RD := Lib.hid (RD.out.below hb HBD.out.size)
          have KA := Lib.hid (KA.out.below hb HBD.out.size)
          have HT := Lib.hid (HT.out.on hb)
          have HBD := Lib.hid (bstep HBD.out hb)
          clear hb
          go_wp2_with fail
          refine (wakes9 _ HT.out).mono ?_
          rintro e wf ⟨rfl, hb⟩
          have HF := Lib.hid (bstep HBD.out hb)
          clear hb
          go_wp2_with fail
          go_ret
          exact ⟨rfl, HF.out⟩
      · rw [Ed.getR_ok hg]
        obtain ⟨hmx, hbx⟩ := Ed.get_back hg
        have Hmx := Lib.hid hmx
        have Hbx := Lib.hid hbx
        clear hg hmx hbx
        rintro e wt ⟨⟨ev, rfl, hev⟩, hb⟩
        obtain ⟨A5, c5, rfl⟩ := edit_form hev
        have XD := Lib.hid (XD.out.on hb)
        have RD := Lib.hid (RD.out.below hb HBD.out.size)
        have KA := Lib.hid (KA.out.below hb HBD.out.size)
        have YD := Lib.hid hev
        have HT := Lib.hid (HT.out.on hb)
        have HBD := Lib.hid (bstep HBD.out hb)
        clear hb hev
        have hb := bnew wt (.cells #[.int .i64 x.kind, .string x.name, .int .u64 x.seq, .int .u32 x.id, .slice A5 x.seals.length c5] 26)
        have hyb := Bx.new wt #[.int .i64 x.kind, .string x.name, .int .u64 x.seq, .int .u32 x.id, .slice A5 x.seals.length c5] 26 _ rfl
        have YD := Lib.hid (YD.out.on hb)
        have YX := Lib.hid hyb
        have XD := Lib.hid (XD.out.on hb)
        have RD := Lib.hid (RD.out.below hb HBD.out.size)
        have KA := Lib.hid (KA.out.below hb HBD.out.size)
        have HT := Lib.hid (HT.out.on hb)
        have HBD := Lib.hid (bstep HBD.out hb)
        clear hb hyb
        go_wp2_with fail
        refine (eput_yes _ x _ YD.out (fit_may Hmx.out) HT.out Hmx.out).mono ?_
        rintro e wp ⟨⟨rc, rfl, hrc⟩, hb⟩
        have YD := Lib.hid (YD.out.on hb)
        have YX := Lib.hid (YX.out.on hb)
        have XD := Lib.hid (XD.out.on hb)
        have RD := Lib.hid (RD.out.below hb HBD.out.size)
        have KA := Lib.hid (KA.out.below hb HBD.out.size)
        have KC := Lib.hid hrc
        have HT := Lib.hid (HT.out.on hb)
        have HBD := Lib.hid (bstep HBD.out hb)
        obtain ⟨y0, y1, y2, y3, y4⟩ := YX.out.at5
        clear hb hrc
        go_wp2_with fail
        refine (may_edit _ x _ YD.out (fit_may Hmx.out) HT.out).mono ?_
        rw [Hmx.out]
        rintro e wm ⟨rfl, hb⟩
        have XD := Lib.hid (XD.out.on hb)
        have RD := Lib.hid (RD.out.below hb HBD.out.size)
        have KA := Lib.hid (KA.out.below hb HBD.out.size)
        have KC := Lib.hid (KC.out.on hb)
        have HT := Lib.hid (HT.out.on hb)
        have HBD := Lib.hid (bstep HBD.out hb)
        clear hb
        go_wp2_with fail
        refine (equal_b _ _ (Ed.bytesE x) ll _ _ _ KC.out KA.out).mono ?_
        rw [Hbx.out, show (ll == ll) = true by simp]
        rintro e we ⟨rfl, hw⟩
        subst hw
        go_wp2_with fail
        refine (wakes9 _ HT.out).mono ?_
        rintro e wf ⟨rfl, hb⟩
        have HF := Lib.hid (bstep HBD.out hb)
        clear hb
        go_wp2_with fail
        go_ret
        exact ⟨rfl, HF.out⟩
    · have hln : ll ≠ [] := fun e => hk0 (by rw [← HLK.out, e]; rfl)
      rw [Ed.getR_er (Ed.get_behind Hmr.out hln)]
      have ek0 : ((k : Int) == 0) = false := by simp; omega
      have ek1 : 0 < k := by omega
      clear hk0 hln
      rintro e w7 ⟨⟨ev, rfl, hev⟩, hb⟩
      obtain ⟨A9, c9, rfl⟩ := edit_form hev
      have XD := Lib.hid (XD.out.on hb)
      have RD := Lib.hid (RD.out.below hb HBD.out.size)
      have KA := Lib.hid (KA.out.below hb HBD.out.size)
      have HT := Lib.hid (HT.out.on hb)
      have HBD := Lib.hid (bstep HBD.out hb)
      clear hb hev
      have hb := bnew w7 (.cells #[.int .i64 Ed.none.kind, .string Ed.none.name, .int .u64 Ed.none.seq, .int .u32 Ed.none.id, .slice A9 Ed.none.seals.length c9] 26)
      have XD := Lib.hid (XD.out.on hb)
      have RD := Lib.hid (RD.out.below hb HBD.out.size)
      have KA := Lib.hid (KA.out.below hb HBD.out.size)
      have HT := Lib.hid (HT.out.on hb)
      have HBD := Lib.hid (bstep HBD.out hb)
      clear hb
      go_wp2_with fail
      clear ek0 ek1
      refine (eget_b _ ll _ (KA.out.mono HBD.out.size) (by rw [HLK.out]; omega) HT.out).mono ?_
      rcases hg : Ed.getE ll with ec | x
      · rw [Ed.getR_er hg]
        have hec := Ed.get_err hg
        clear hg
        rintro e wt ⟨⟨ev, rfl, hev⟩, hb⟩
        obtain ⟨A5, c5, rfl⟩ := edit_form hev
        have XD := Lib.hid (XD.out.on hb)
        have RD := Lib.hid (RD.out.below hb HBD.out.size)
        have KA := Lib.hid (KA.out.below hb HBD.out.size)
        have YD := Lib.hid hev
        have HT := Lib.hid (HT.out.on hb)
        have HBD := Lib.hid (bstep HBD.out hb)
        clear hb hev
        have e45 : ((ec : Int) == 0) = false := by simp; omega
        have hb := bnew wt (.cells #[.int .i64 Ed.none.kind, .string Ed.none.name, .int .u64 Ed.none.seq, .int .u32 Ed.none.id, .slice A5 Ed.none.seals.length c5] 26)
        have YD := Lib.hid (YD.out.on hb)
        have XD := Lib.hid (XD.out.on hb)
        have RD := Lib.hid (RD.out.below hb HBD.out.size)
        have KA := Lib.hid (KA.out.below hb HBD.out.size)
        have HT := Lib.hid (HT.out.on hb)
        have HBD := Lib.hid (bstep HBD.out hb)
        clear hb
        rcases hec with rfl | rfl
        · skip
          go_wp2_with fail
          refine (same_any _ _ Ed.none Ed.none _ YD.out EdV.none_ (fit_none) (fit_none)).mono ?_
          rw [decide_eq_true rfl]
          rintro e ws ⟨rfl, hb⟩
          have XD := Lib.hid (XD.out.on hb)
          have RD := Lib.hid (RD.out.below hb HBD.out.size)
          have KA := Lib.hid (KA.out.below hb HBD.out.size)
          have HT := Lib.hid (HT.out.on hb)
          have HBD := Lib.hid (bstep HBD.out hb)
          clear hb
          go_wp2_with fail
          refine (wakes9 _ HT.out).mono ?_
          rintro e wf ⟨rfl, hb⟩
          have HF := Lib.hid (bstep HBD.out hb)
          clear hb
          go_wp2_with fail
          go_ret
          exact ⟨rfl, HF.out⟩
        · skip
          go_wp2_with fail
          refine (same_any _ _ Ed.none Ed.none _ YD.out EdV.none_ (fit_none) (fit_none)).mono ?_
          rw [decide_eq_true rfl]
          rintro e ws ⟨rfl, hb⟩
          have XD := Lib.hid (XD.out.on hb)
          have RD := Lib.hid (RD.out.below hb HBD.out.size)
          have KA := Lib.hid (KA.out.below hb HBD.out.size)
          have HT := Lib.hid (HT.out.on hb)
          have HBD := Lib.hid (bstep HBD.out hb)
          clear hb
          go_wp2_with fail
          refine (wakes9 _ HT.out).mono ?_
          rintro e wf ⟨rfl, hb⟩
          have HF := Lib.hid (bstep HBD.out hb)
          clear hb
          go_wp2_with fail
          go_ret
          exact ⟨rfl, HF.out⟩
      · rw [Ed.getR_ok hg]
        obtain ⟨hmx, hbx⟩ := Ed.get_back hg
        have Hmx := Lib.hid hmx
        have Hbx := Lib.hid hbx
        clear hg hmx hbx
        rintro e wt ⟨⟨ev, rfl, hev⟩, hb⟩
        obtain ⟨A5, c5, rfl⟩ := edit_form hev
        have XD := Lib.hid (XD.out.on hb)
        have RD := Lib.hid (RD.out.below hb HBD.out.size)
        have KA := Lib.hid (KA.out.below hb HBD.out.size)
        have YD := Lib.hid hev
        have HT := Lib.hid (HT.out.on hb)
        have HBD := Lib.hid (bstep HBD.out hb)
        clear hb hev
        have hb := bnew wt (.cells #[.int .i64 x.kind, .string x.name, .int .u64 x.seq, .int .u32 x.id, .slice A5 x.seals.length c5] 26)
        have hyb := Bx.new wt #[.int .i64 x.kind, .string x.name, .int .u64 x.seq, .int .u32 x.id, .slice A5 x.seals.length c5] 26 _ rfl
        have YD := Lib.hid (YD.out.on hb)
        have YX := Lib.hid hyb
        have XD := Lib.hid (XD.out.on hb)
        have RD := Lib.hid (RD.out.below hb HBD.out.size)
        have KA := Lib.hid (KA.out.below hb HBD.out.size)
        have HT := Lib.hid (HT.out.on hb)
        have HBD := Lib.hid (bstep HBD.out hb)
        clear hb hyb
        go_wp2_with fail
        refine (eput_yes _ x _ YD.out (fit_may Hmx.out) HT.out Hmx.out).mono ?_
        rintro e wp ⟨⟨rc, rfl, hrc⟩, hb⟩
        have YD := Lib.hid (YD.out.on hb)
        have YX := Lib.hid (YX.out.on hb)
        have XD := Lib.hid (XD.out.on hb)
        have RD := Lib.hid (RD.out.below hb HBD.out.size)
        have KA := Lib.hid (KA.out.below hb HBD.out.size)
        have KC := Lib.hid hrc
        have HT := Lib.hid (HT.out.on hb)
        have HBD := Lib.hid (bstep HBD.out hb)
        obtain ⟨y0, y1, y2, y3, y4⟩ := YX.out.at5
        clear hb hrc
        go_wp2_with fail
        refine (may_edit _ x _ YD.out (fit_may Hmx.out) HT.out).mono ?_
        rw [Hmx.out]
        rintro e wm ⟨rfl, hb⟩
        have XD := Lib.hid (XD.out.on hb)
        have RD := Lib.hid (RD.out.below hb HBD.out.size)
        have KA := Lib.hid (KA.out.below hb HBD.out.size)
        have KC := Lib.hid (KC.out.on hb)
        have HT := Lib.hid (HT.out.on hb)
        have HBD := Lib.hid (bstep HBD.out hb)
        clear hb
        go_wp2_with fail
        refine (equal_b _ _ (Ed.bytesE x) ll _ _ _ KC.out KA.out).mono ?_
        rw [Hbx.out, show (ll == ll) = true by simp]
        rintro e we ⟨rfl, hw⟩
        subst hw
        go_wp2_with fail
        refine (wakes9 _ HT.out).mono ?_
        rintro e wf ⟨rfl, hb⟩
        have HF := Lib.hid (bstep HBD.out hb)
        clear hb
        go_wp2_with fail
        go_ret
        exact ⟨rfl, HF.out⟩
end Go.Proofs.YthcmjgkdljgcbaaDoor.editForm
