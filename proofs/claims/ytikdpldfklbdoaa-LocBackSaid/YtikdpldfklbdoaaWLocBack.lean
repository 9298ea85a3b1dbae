
/-
  The walk of the law LocBack: it returns true, and writes nothing that was there.
-/
import Derived.Test.YtikdpldfklbdoaaLxBox
import Derived.Test.YtikdpldfklbdoaaLxWakes
import Derived.Test.YtikdpldfklbdoaaRegion
import Derived.Deep.DeepCutAuto
import Derived.Deep.DrawnRows
import Derived.OpenShut
set_option linter.unusedVariables false
set_option linter.unusedSimpArgs false
namespace Go.Proofs.Ytikdpldfklbdoaa.locBack
open Go.RowKit

/-- what is held of the world w through the law's first half: the loc's box, the argument's, the box of what was unpacked, the bytes put, the bytes handed in -/
structure Held (w W : World) (x y n1 : Int) (b1 r : Value) (l1 pl : List UInt8) (g9 : Nat) : Prop where
  bel : Below w.heap.size w W
  box : LBox W w.heap.size x y
  any : ABox W (w.heap.size + 1) n1 b1
  box9 : LBox W g9 x y
  bs : Bs W W.heap.size r pl
  bs1 : Bs W W.heap.size b1 l1
section
variable {w W W' : World} {x y n1 : Int} {b1 r : Value} {l1 pl : List UInt8} {g9 : Nat}
theorem Held.on (h : Held w W x y n1 b1 r l1 pl g9) (hb : Below W.heap.size W W') : Held w W' x y n1 b1 r l1 pl g9 :=
  ⟨bstep h.bel hb, h.box.on hb, h.any.on hb, h.box9.on hb, h.bs.on hb, h.bs1.on hb⟩
theorem Held.drew (h : Held w W x y n1 b1 r l1 pl g9) : Held w W.drew x y n1 b1 r l1 pl g9 := h.on (Below.refl _ _).drew
theorem Held.any1 (h : Held w W x y n1 b1 r l1 pl g9) : W.cell? ⟨w.heap.size + 1, 1, none⟩ = some b1 := h.any.2.1
end

set_option maxRecDepth 100000 in
set_option maxHeartbeats 8000000 in
theorem walk (s0 o0 : Int) (n1 : Int) (b1 : Value) (l1 : List UInt8) (a2 : Int) (w : World) (ps0 : 0 ≤ s0 ∧ s0 < 4294967296) (po0 : 0 ≤ o0 ∧ o0 < 4294967296) (pn1 : 0 ≤ n1 ∧ n1 < 18446744073709551616) (hl1 : Bs w w.heap.size b1 l1) (sz1 : l1.length ≤ 140737488351232) (w2 : (Lit.int .u8 a2).wf = true) :
    Calls Try.prog 5 #[lv s0 o0, .agg #[.int .u64 n1, b1], .int .u8 a2] w fun e w' => e = .returned (.bool true) ∧ Below w.heap.size w w' := by
  obtain ⟨p1, p1'⟩ := ps0
  obtain ⟨q1, q1'⟩ := po0
  obtain ⟨pn, pn'⟩ := pn1
  obtain ⟨pa, pa'⟩ := bounds_u8 w2
  obtain ⟨i0, hi0, hz0, hz1, hz2⟩ := info_parts byte_info
  have hS := Lx.Std.brought s0 o0 p1 q1
  have Hl1 := Lib.hid hl1
  clear hl1 w2
  have hone : b1.oneCell' = true := by obtain ⟨A, c, rfl, _⟩ := Hl1.out; rfl
  unfold lv
  go_enter Try.func5, Try.ntmps5
  go_wp2_with fail
  have b0 := balloc (bnew w (.cells #[.int .u32 s0, .int .u32 o0] 24)) (.cells #[.int .u64 n1, b1] 28)
  have HB0 : Hid (LBox _ w.heap.size s0 o0) := (LBox.new w s0 o0 24).on (bnew _ (.cells #[.int .u64 n1, b1] 28))
  have HA0 : Hid (ABox _ (w.heap.size + 1) n1 b1) := ABox.new2 w (.cells #[.int .u32 s0, .int .u32 o0] 24) n1 b1 28
  refine (brought_any s0 o0 _ p1 p1' q1 q1').mono ?_
  rintro e w1 ⟨rfl, hb⟩
  have b1' := Lib.hid (bstep b0 hb)
  replace HB0 := Lib.hid (HB0.out.on hb)
  replace HA0 := Lib.hid (HA0.out.on hb)
  clear hb b0
  generalize 1 + s0 % 16777215 = x at *
  generalize 16 + o0 % 16777201 = y at *
  have hd := hS
  unfold Lx.Std at hd
  obtain ⟨m1, m2, m3, m4⟩ := hd
  have HS := Lib.hid hS
  clear hS
  obtain ⟨c0, c1, f0, f1, hz⟩ := HB0.out
  unfold lv
  go_wp2_with fail
  -- the box holds the loc that was brought
  have bb := Lib.hid ((b1'.out.setCell (p := ⟨w.heap.size, 0, none⟩) (Nat.le_refl _) (.int .u32 x)).setCell (p := ⟨w.heap.size, 1, none⟩) (Nat.le_refl _) (.int .u32 y))
  have HB := Lib.hid (HB0.out.set x y)
  have HA : Hid (ABox _ (w.heap.size + 1) n1 b1) := HA0.out.set_other (m := w.heap.size) (by omega) x y
  have Hb := Lib.hid (Hl1.out.on bb.out)
  clear HB0 HA0 b1' c0 c1 f0 f1 hz
  generalize World.setCell (World.setCell _ _ _) _ _ = W1 at *
  refine (pack_any x y _ (by omega) (by omega) (by omega) (by omega)).mono ?_
  rintro e w2 ⟨rfl, hb⟩
  rw [HS.out.pkN, HS.out.pkE]
  replace bb := Lib.hid (bstep bb.out hb)
  replace HB := Lib.hid (HB.out.on hb)
  replace HA := Lib.hid (HA.out.on hb)
  replace Hb := Lib.hid (Hb.out.on hb)
  clear hb
  have HU := Lib.hid HS.out.un
  have nb : 0 ≤ x * 4294967296 + y ∧ x * 4294967296 + y < 18446744073709551616 := by omega
  generalize x * 4294967296 + y = N at *
  go_wp2_with fail
  refine (unpack_any N _ nb.1 nb.2).mono ?_
  rintro e w3 ⟨rfl, hb⟩
  rw [HU.out.1, HU.out.2.1, HU.out.2.2]
  replace bb := Lib.hid (bstep bb.out hb)
  replace HB := Lib.hid (HB.out.on hb)
  replace HA := Lib.hid (HA.out.on hb)
  replace Hb := Lib.hid (Hb.out.on hb)
  clear hb HU
  unfold lv
  have H9 := Lib.hid (LBox.new w3 x y 24)
  replace bb := Lib.hid (balloc bb.out (.cells #[.int .u32 x, .int .u32 y] 24))
  replace HB := Lib.hid (HB.out.on (bnew _ (.cells #[.int .u32 x, .int .u32 y] 24)))
  replace HA := Lib.hid (HA.out.on (bnew _ (.cells #[.int .u32 x, .int .u32 y] 24)))
  replace Hb := Lib.hid (Hb.out.on (bnew _ (.cells #[.int .u32 x, .int .u32 y] 24)))
  have bx := HB.out
  obtain ⟨c0, c1, f0, f1, hz⟩ := bx
  go_wp2_with fail
  refine (lput_any _ [] x y _ Bs.none_ (by omega) (by omega) (by omega) (by omega) (by simp)).mono ?_
  rintro e w4 ⟨r, rfl, hs, hb⟩
  rw [HS.out.pkE]
  rw [HS.out.putR, List.nil_append] at hs
  have HH : Hid (Held w w4 x y n1 b1 r l1 (Lx.putL x y) w3.heap.size) := ⟨bstep bb.out hb, HB.out.on hb, HA.out.on hb, H9.out.on hb, hs, Hb.out.on hb⟩
  clear bb HB HA H9 Hb hb c0 c1 f0 f1 hz
  have HQ : Hid (Lx.getV (Lx.putL x y ++ l1) = Lx.gV x y ((Lx.putL x y).length : Nat) 0) := Lx.getV_eq (HS.out.get l1)
  have HT : Hid (∀ j, j < (Lx.putL x y).length → Lx.getV ((Lx.putL x y).take j) = Lx.gV 0 0 0 4) := fun j hj => Lx.getV_eq (HS.out.short j hj)
  have hpl : 2 ≤ (Lx.putL x y).length ∧ (Lx.putL x y).length ≤ 18 := by
    rw [HS.out.putL, List.length_append, Px.formL_length, Px.formL_length]
    have k1 := Px.sizeN_pos x.toNat
    have k2 := Px.sizeN_pos (y - 16).toNat
    omega
  generalize Lx.putL x y = pl at *
  obtain ⟨Ar, cr, rfl, hcr, hrr⟩ := hs
  clear hrr
  obtain ⟨pl2, pl18⟩ := hpl
  generalize w3.heap.size = g9 at *
  go_upto_region 5 with fail
  go_cut [13, 14, 15] (fun s13 s14 s15 wx => ∃ g : Nat, s13 = .pointer (some ⟨g, 0, none⟩) ∧ s14 = .int .i64 (pl.length : Nat) ∧ s15 = .int .i64 0 ∧ LBox wx g x y ∧ Held w wx x y n1 b1 (.slice Ar pl.length cr) l1 pl g9)
  case first =>
      refine wp_region_noPanic ?_
      refine wp_region_held_drew (S := fun w' => w'.cell? ⟨w.heap.size + 1, 1, none⟩ = some b1) (by kernel_rfl) HH.out.any1 (fun hHeld => ?_)
      replace HH := Lib.hid HH.out.drew
      generalize World.drew _ = W at *
      have bC : Hid (Below W.heap.size W W) := Below.refl _ _
      refine wpAnyH_take (i := 0) (v := ?_) opAt_0 (by kernel_rfl) (by kernel_rfl) (by kernel_rfl) (fun _ _ _ h => h) (Or.inl ⟨by rfl, ?_⟩) hHeld ?_
      rotate_left
      · (intro w' hSw; (try dsimp only at hSw); go_simp; try with_reducible rfl)
      try simp only [Act.put, List.setIfInBounds_toArray, List.set_cons_zero, List.set_cons_succ]
      refine wpAnyH_take (i := 2) (v := ?_) opAt_2 (by kernel_rfl) (by kernel_rfl) (by kernel_rfl) (fun _ _ _ h => h) (Or.inl ⟨by rfl, ?_⟩) hHeld ?_
      rotate_left
      · (intro w' hSw; (try dsimp only at hSw); go_simp; try with_reducible rfl)
      try simp only [Act.put, List.setIfInBounds_toArray, List.set_cons_zero, List.set_cons_succ]
      refine wpAnyH_take (i := 3) (v := ?_) opAt_3 (by kernel_rfl) (by kernel_rfl) (by kernel_rfl) (fun _ _ _ h => h) (Or.inl ⟨by rfl, ?_⟩) hHeld ?_
      rotate_left
      · (intro w' hSw; (try dsimp only at hSw); go_simp; try with_reducible rfl)
      try simp only [Act.put, List.setIfInBounds_toArray, List.set_cons_zero, List.set_cons_succ]
      refine wpAnyH_ready (rs := [1, 10]) (by kernel_rfl) (by simp) ?_
      refine AllReadyH.cons rfl (fun K hK => ?_) (AllReadyH.cons rfl (fun K hK => ?_) AllReadyH.nil)
      · go_simp
        refine (clone_b _ _ _ (HH.out.on bC.out).bs (by omega)).mono ?_
        rintro e X1 ⟨rc, rfl, hown, hb⟩
        have HC := Lib.hid (own_base hown bC.out.size)
        replace bC := Lib.hid (bstep bC.out hb)
        clear hown hb
        go_wp2_with fail
        refine hK.out _ _ (HH.out.on bC.out).any1 (fun hHeld => ?_)
        clear hK K
        try simp only [Act.put, List.setIfInBounds_toArray, List.set_cons_zero, List.set_cons_succ]
        refine wpAnyH_ready (rs := [4, 10]) (by kernel_rfl) (by simp) ?_
        refine AllReadyH.cons rfl (fun K hK => ?_) (AllReadyH.cons rfl (fun K hK => ?_) AllReadyH.nil)
        · obtain ⟨A1, cp1, eb1, hc1, hr1⟩ := (HH.out.on bC.out).bs1
          refine step_append_rd _ rfl (.tmp 47) (.tmp 49) 26 rfl W.heap.size 5 i0 (.int .u8 0) 1 1 Try.underlying26 hi0 hz0 hz1 hz2 rfl (by omega) rc _ _ (by rfl) HC.out X1.heap.size A1 l1.length cp1 (bvs l1) (by rw [eb1]; rfl) (by simp [bvs]) hr1 (bvs_one l1) (by unfold maxLen; omega) (by omega) bC.out.size ?_
          intro rd X2 hown hbw hgr
          have HD := Lib.hid (bs_app hown)
          replace bC := Lib.hid (bC.out.trans hbw)
          clear hown hbw hgr HC hr1 hc1 eb1 A1 cp1
          refine hK.out _ _ (HH.out.on bC.out).any1 (fun hHeld => ?_)
          clear hK K
          try simp only [Act.put, List.setIfInBounds_toArray, List.set_cons_zero, List.set_cons_succ]
          refine wpAnyH_ready (rs := [5, 10]) (by kernel_rfl) (by simp) ?_
          refine AllReadyH.cons rfl (fun K hK => ?_) (AllReadyH.cons rfl (fun K hK => ?_) AllReadyH.nil)
          · go_simp
            refine (lget_any _ _ _ HD.out (by rw [List.length_append]; omega)).mono ?_
            rintro e X3 ⟨rfl, hb⟩
            rw [HQ.out]
            unfold Lx.gV lv
            replace bC := Lib.hid (bstep bC.out hb)
            clear hb HD
            go_wp2_with fail
            refine hK.out _ _ (HH.out.on bC.out).any1 (fun hHeld => ?_)
            clear hK K
            try simp only [Act.put, List.setIfInBounds_toArray, List.set_cons_zero, List.set_cons_succ]
            refine wpAnyH_take (i := 6) (v := ?_) opAt_6 (by kernel_rfl) (by kernel_rfl) (by kernel_rfl) (fun _ _ _ h => h) (Or.inl ⟨by rfl, ?_⟩) hHeld ?_
            rotate_left
            · (intro w' hSw; (try dsimp only at hSw); go_simp; try with_reducible rfl)
            try simp only [Act.put, List.setIfInBounds_toArray, List.set_cons_zero, List.set_cons_succ]
            refine wpAnyH_take (i := 7) (v := ?_) opAt_7 (by kernel_rfl) (by kernel_rfl) (by kernel_rfl) (fun _ _ _ h => h) (Or.inl ⟨by rfl, ?_⟩) hHeld ?_
            rotate_left
            · (intro w' hSw; (try dsimp only at hSw); go_simp; try with_reducible rfl)
            try simp only [Act.put, List.setIfInBounds_toArray, List.set_cons_zero, List.set_cons_succ]
            refine wpAnyH_take (i := 8) (v := ?_) opAt_8 (by kernel_rfl) (by kernel_rfl) (by kernel_rfl) (fun _ _ _ h => h) (Or.inl ⟨by rfl, ?_⟩) hHeld ?_
            rotate_left
            · (intro w' hSw; (try dsimp only at hSw); go_simp; try with_reducible rfl)
            try simp only [Act.put, List.setIfInBounds_toArray, List.set_cons_zero, List.set_cons_succ]
            refine wpAnyH_take (i := 9) (v := ?_) opAt_9 (by kernel_rfl) (by kernel_rfl) (by kernel_rfl) (fun _ _ _ h => h) (Or.inl ⟨by rfl, ?_⟩) hHeld ?_
            rotate_left
            · (intro w' hSw; (try dsimp only at hSw); go_simp; try with_reducible rfl)
            try simp only [Act.put, List.setIfInBounds_toArray, List.set_cons_zero, List.set_cons_succ]
            have bG : Hid (W.heap.size ≤ X3.heap.size) := bC.out.size
            refine wpAnyH_ready (rs := [10]) (by kernel_rfl) (by simp) ?_
            refine AllReadyH.cons rfl (fun K hK => ?_) AllReadyH.nil
            go_simp
            have HG := Lib.hid (LBox.new X3 0 0 24)
            replace bC := Lib.hid (balloc bC.out (.cells #[.int .u32 0, .int .u32 0] 24))
            refine hK.out _ _ (HH.out.on bC.out).any1 (fun hHeld => ?_)
            clear hK K
            generalize X3.alloc (.cells #[.int .u32 0, .int .u32 0] 24) = X4 at *
            try simp only [Act.put, List.setIfInBounds_toArray, List.set_cons_zero, List.set_cons_succ]
            refine wpAnyH_ready (rs := [11]) (by kernel_rfl) (by simp) ?_
            refine AllReadyH.cons rfl (fun K hK => ?_) AllReadyH.nil
            obtain ⟨c0, c1, f0, f1, hz⟩ := HG.out
            go_simp
            have hgW : W.heap.size ≤ X3.heap.size := by first | exact Nat.le_refl _ | exact bG.out
            replace bC := Lib.hid ((bC.out.setCell (p := ⟨X3.heap.size, 0, none⟩) hgW (.int .u32 x)).setCell (p := ⟨X3.heap.size, 1, none⟩) hgW (.int .u32 y))
            replace HG := Lib.hid (HG.out.set x y)
            refine hK.out _ _ (HH.out.on bC.out).any1 (fun hHeld => ?_)
            clear hK K c0 c1 f0 f1 hz
            try simp only [Act.put, List.setIfInBounds_toArray, List.set_cons_zero, List.set_cons_succ]
            refine wpAnyH_ready (rs := [12]) (by kernel_rfl) (by simp) ?_
            refine AllReadyH.cons rfl (fun K hK => ?_) AllReadyH.nil
            go_simp
            refine hK.out _ _ (HH.out.on bC.out).any1 (fun hHeld => ?_)
            clear hK K
            try simp only [Act.put, List.setIfInBounds_toArray, List.set_cons_zero, List.set_cons_succ]
            refine wpAnyH_ready (rs := [13]) (by kernel_rfl) (by simp) ?_
            refine AllReadyH.cons rfl (fun K hK => ?_) AllReadyH.nil
            go_simp
            refine hK.out _ _ (HH.out.on bC.out).any1 (fun hHeld => ?_)
            clear hK K
            try simp only [Act.put, List.setIfInBounds_toArray, List.set_cons_zero, List.set_cons_succ]
            refine wpAnyH_done (by kernel_rfl) ?_ _
            refine NoPanic.normal ?_
            go_wp2_with fail
            go_meet
            exact ⟨_, rfl, rfl, rfl, HG.out, HH.out.on bC.out⟩
          · have bG : Hid (W.heap.size ≤ X2.heap.size) := bC.out.size
            go_simp
            have HG := Lib.hid (LBox.new X2 0 0 24)
            replace HD := Lib.hid (HD.out.on (bnew X2 (.cells #[.int .u32 0, .int .u32 0] 24)))
            replace bC := Lib.hid (balloc bC.out (.cells #[.int .u32 0, .int .u32 0] 24))
            refine hK.out _ _ (HH.out.on bC.out).any1 (fun hHeld => ?_)
            clear hK K
            generalize X2.alloc (.cells #[.int .u32 0, .int .u32 0] 24) = X3 at *
            try simp only [Act.put, List.setIfInBounds_toArray, List.set_cons_zero, List.set_cons_succ]
            refine wpAnyH_ready (rs := [5]) (by kernel_rfl) (by simp) ?_
            refine AllReadyH.cons rfl (fun K hK => ?_) AllReadyH.nil
            go_simp
            refine (lget_any _ _ _ HD.out (by rw [List.length_append]; omega)).mono ?_
            rintro e X4 ⟨rfl, hb⟩
            rw [HQ.out]
            unfold Lx.gV lv
            replace HG := Lib.hid (HG.out.on hb)
            replace bC := Lib.hid (bstep bC.out hb)
            clear hb HD
            go_wp2_with fail
            refine hK.out _ _ (HH.out.on bC.out).any1 (fun hHeld => ?_)
            clear hK K
            try simp only [Act.put, List.setIfInBounds_toArray, List.set_cons_zero, List.set_cons_succ]
            refine wpAnyH_take (i := 6) (v := ?_) opAt_6 (by kernel_rfl) (by kernel_rfl) (by kernel_rfl) (fun _ _ _ h => h) (Or.inl ⟨by rfl, ?_⟩) hHeld ?_
            rotate_left
            · (intro w' hSw; (try dsimp only at hSw); go_simp; try with_reducible rfl)
            try simp only [Act.put, List.setIfInBounds_toArray, List.set_cons_zero, List.set_cons_succ]
            refine wpAnyH_take (i := 7) (v := ?_) opAt_7 (by kernel_rfl) (by kernel_rfl) (by kernel_rfl) (fun _ _ _ h => h) (Or.inl ⟨by rfl, ?_⟩) hHeld ?_
            rotate_left
            · (intro w' hSw; (try dsimp only at hSw); go_simp; try with_reducible rfl)
            try simp only [Act.put, List.setIfInBounds_toArray, List.set_cons_zero, List.set_cons_succ]
            refine wpAnyH_take (i := 8) (v := ?_) opAt_8 (by kernel_rfl) (by kernel_rfl) (by kernel_rfl) (fun _ _ _ h => h) (Or.inl ⟨by rfl, ?_⟩) hHeld ?_
            rotate_left
            · (intro w' hSw; (try dsimp only at hSw); go_simp; try with_reducible rfl)
            try simp only [Act.put, List.setIfInBounds_toArray, List.set_cons_zero, List.set_cons_succ]
            refine wpAnyH_take (i := 9) (v := ?_) opAt_9 (by kernel_rfl) (by kernel_rfl) (by kernel_rfl) (fun _ _ _ h => h) (Or.inl ⟨by rfl, ?_⟩) hHeld ?_
            rotate_left
            · (intro w' hSw; (try dsimp only at hSw); go_simp; try with_reducible rfl)
            try simp only [Act.put, List.setIfInBounds_toArray, List.set_cons_zero, List.set_cons_succ]
            refine wpAnyH_ready (rs := [11]) (by kernel_rfl) (by simp) ?_
            refine AllReadyH.cons rfl (fun K hK => ?_) AllReadyH.nil
            obtain ⟨c0, c1, f0, f1, hz⟩ := HG.out
            go_simp
            have hgW : W.heap.size ≤ X2.heap.size := by first | exact Nat.le_refl _ | exact bG.out
            replace bC := Lib.hid ((bC.out.setCell (p := ⟨X2.heap.size, 0, none⟩) hgW (.int .u32 x)).setCell (p := ⟨X2.heap.size, 1, none⟩) hgW (.int .u32 y))
            replace HG := Lib.hid (HG.out.set x y)
            refine hK.out _ _ (HH.out.on bC.out).any1 (fun hHeld => ?_)
            clear hK K c0 c1 f0 f1 hz
            try simp only [Act.put, List.setIfInBounds_toArray, List.set_cons_zero, List.set_cons_succ]
            refine wpAnyH_ready (rs := [12]) (by kernel_rfl) (by simp) ?_
            refine AllReadyH.cons rfl (fun K hK => ?_) AllReadyH.nil
            go_simp
            refine hK.out _ _ (HH.out.on bC.out).any1 (fun hHeld => ?_)
            clear hK K
            try simp only [Act.put, List.setIfInBounds_toArray, List.set_cons_zero, List.set_cons_succ]
            refine wpAnyH_ready (rs := [13]) (by kernel_rfl) (by simp) ?_
            refine AllReadyH.cons rfl (fun K hK => ?_) AllReadyH.nil
            go_simp
            refine hK.out _ _ (HH.out.on bC.out).any1 (fun hHeld => ?_)
            clear hK K
            try simp only [Act.put, List.setIfInBounds_toArray, List.set_cons_zero, List.set_cons_succ]
            refine wpAnyH_done (by kernel_rfl) ?_ _
            refine NoPanic.normal ?_
            go_wp2_with fail
            go_meet
            exact ⟨_, rfl, rfl, rfl, HG.out, HH.out.on bC.out⟩
        · have bG : Hid (W.heap.size ≤ X1.heap.size) := bC.out.size
          go_simp
          have HG := Lib.hid (LBox.new X1 0 0 24)
          have HF := Lib.hid (own_apart' HC.out)
          replace HC := Lib.hid (HC.out.alloc (.cells #[.int .u32 0, .int .u32 0] 24))
          replace bC := Lib.hid (balloc bC.out (.cells #[.int .u32 0, .int .u32 0] 24))
          refine hK.out _ _ (HH.out.on bC.out).any1 (fun hHeld => ?_)
          clear hK K
          generalize X1.alloc (.cells #[.int .u32 0, .int .u32 0] 24) = X2 at *
          try simp only [Act.put, List.setIfInBounds_toArray, List.set_cons_zero, List.set_cons_succ]
          refine wpAnyH_ready (rs := [4]) (by kernel_rfl) (by simp) ?_
          refine AllReadyH.cons rfl (fun K hK => ?_) AllReadyH.nil
          obtain ⟨A1, cp1, eb1, hc1, hr1⟩ := (HH.out.on bC.out).bs1
          refine step_append_rd _ rfl (.tmp 47) (.tmp 49) 26 rfl W.heap.size 5 i0 (.int .u8 0) 1 1 Try.underlying26 hi0 hz0 hz1 hz2 rfl (by omega) rc _ _ (by rfl) HC.out X2.heap.size A1 l1.length cp1 (bvs l1) (by rw [eb1]; rfl) (by simp [bvs]) hr1 (bvs_one l1) (by unfold maxLen; omega) (by omega) bC.out.size ?_
          intro rd X3 hown hbw hgr
          have HD := Lib.hid (bs_app hown)
          replace HG := Lib.hid (HG.out.grown hgr (fun k hk => HF.out k hk))
          replace bC := Lib.hid (bC.out.trans hbw)
          clear hown hbw hgr HC hr1 hc1 eb1 A1 cp1
          clear HF
          refine hK.out _ _ (HH.out.on bC.out).any1 (fun hHeld => ?_)
          clear hK K
          try simp only [Act.put, List.setIfInBounds_toArray, List.set_cons_zero, List.set_cons_succ]
          refine wpAnyH_ready (rs := [5]) (by kernel_rfl) (by simp) ?_
          refine AllReadyH.cons rfl (fun K hK => ?_) AllReadyH.nil
          go_simp
          refine (lget_any _ _ _ HD.out (by rw [List.length_append]; omega)).mono ?_
          rintro e X4 ⟨rfl, hb⟩
          rw [HQ.out]
          unfold Lx.gV lv
          replace HG := Lib.hid (HG.out.on hb)
          replace bC := Lib.hid (bstep bC.out hb)
          clear hb HD
          go_wp2_with fail
          refine hK.out _ _ (HH.out.on bC.out).any1 (fun hHeld => ?_)
          clear hK K
          try simp only [Act.put, List.setIfInBounds_toArray, List.set_cons_zero, List.set_cons_succ]
          refine wpAnyH_take (i := 6) (v := ?_) opAt_6 (by kernel_rfl) (by kernel_rfl) (by kernel_rfl) (fun _ _ _ h => h) (Or.inl ⟨by rfl, ?_⟩) hHeld ?_
          rotate_left
          · (intro w' hSw; (try dsimp only at hSw); go_simp; try with_reducible rfl)
          try simp only [Act.put, List.setIfInBounds_toArray, List.set_cons_zero, List.set_cons_succ]
          refine wpAnyH_take (i := 7) (v := ?_) opAt_7 (by kernel_rfl) (by kernel_rfl) (by kernel_rfl) (fun _ _ _ h => h) (Or.inl ⟨by rfl, ?_⟩) hHeld ?_
          rotate_left
          · (intro w' hSw; (try dsimp only at hSw); go_simp; try with_reducible rfl)
          try simp only [Act.put, List.setIfInBounds_toArray, List.set_cons_zero, List.set_cons_succ]
          refine wpAnyH_take (i := 8) (v := ?_) opAt_8 (by kernel_rfl) (by kernel_rfl) (by kernel_rfl) (fun _ _ _ h => h) (Or.inl ⟨by rfl, ?_⟩) hHeld ?_
          rotate_left
          · (intro w' hSw; (try dsimp only at hSw); go_simp; try with_reducible rfl)
          try simp only [Act.put, List.setIfInBounds_toArray, List.set_cons_zero, List.set_cons_succ]
          refine wpAnyH_take (i := 9) (v := ?_) opAt_9 (by kernel_rfl) (by kernel_rfl) (by kernel_rfl) (fun _ _ _ h => h) (Or.inl ⟨by rfl, ?_⟩) hHeld ?_
          rotate_left
          · (intro w' hSw; (try dsimp only at hSw); go_simp; try with_reducible rfl)
          try simp only [Act.put, List.setIfInBounds_toArray, List.set_cons_zero, List.set_cons_succ]
          refine wpAnyH_ready (rs := [11]) (by kernel_rfl) (by simp) ?_
          refine AllReadyH.cons rfl (fun K hK => ?_) AllReadyH.nil
          obtain ⟨c0, c1, f0, f1, hz⟩ := HG.out
          go_simp
          have hgW : W.heap.size ≤ X1.heap.size := by first | exact Nat.le_refl _ | exact bG.out
          replace bC := Lib.hid ((bC.out.setCell (p := ⟨X1.heap.size, 0, none⟩) hgW (.int .u32 x)).setCell (p := ⟨X1.heap.size, 1, none⟩) hgW (.int .u32 y))
          replace HG := Lib.hid (HG.out.set x y)
          refine hK.out _ _ (HH.out.on bC.out).any1 (fun hHeld => ?_)
          clear hK K c0 c1 f0 f1 hz
          try simp only [Act.put, List.setIfInBounds_toArray, List.set_cons_zero, List.set_cons_succ]
          refine wpAnyH_ready (rs := [12]) (by kernel_rfl) (by simp) ?_
          refine AllReadyH.cons rfl (fun K hK => ?_) AllReadyH.nil
          go_simp
          refine hK.out _ _ (HH.out.on bC.out).any1 (fun hHeld => ?_)
          clear hK K
          try simp only [Act.put, List.setIfInBounds_toArray, List.set_cons_zero, List.set_cons_succ]
          refine wpAnyH_ready (rs := [13]) (by kernel_rfl) (by simp) ?_
          refine AllReadyH.cons rfl (fun K hK => ?_) AllReadyH.nil
          go_simp
          refine hK.out _ _ (HH.out.on bC.out).any1 (fun hHeld => ?_)
          clear hK K
          try simp only [Act.put, List.setIfInBounds_toArray, List.set_cons_zero, List.set_cons_succ]
          refine wpAnyH_done (by kernel_rfl) ?_ _
          refine NoPanic.normal ?_
          go_wp2_with fail
          go_meet
          exact ⟨_, rfl, rfl, rfl, HG.out, HH.out.on bC.out⟩
      · have bG : Hid (W.heap.size ≤ W.heap.size) := bC.out.size
        go_simp
        have HG := Lib.hid (LBox.new W 0 0 24)
        replace bC := Lib.hid (balloc bC.out (.cells #[.int .u32 0, .int .u32 0] 24))
        refine hK.out _ _ (HH.out.on bC.out).any1 (fun hHeld => ?_)
        clear hK K
        generalize W.alloc (.cells #[.int .u32 0, .int .u32 0] 24) = X1 at *
        try simp only [Act.put, List.setIfInBounds_toArray, List.set_cons_zero, List.set_cons_succ]
        refine wpAnyH_ready (rs := [1]) (by kernel_rfl) (by simp) ?_
        refine AllReadyH.cons rfl (fun K hK => ?_) AllReadyH.nil
        go_simp
        refine (clone_b _ _ _ (HH.out.on bC.out).bs (by omega)).mono ?_
        rintro e X2 ⟨rc, rfl, hown, hb⟩
        have HC := Lib.hid (own_base hown bC.out.size)
        have HF := Lib.hid (own_apart hown HG.out.2.2.2.2)
        replace HG := Lib.hid (HG.out.on hb)
        replace bC := Lib.hid (bstep bC.out hb)
        clear hown hb
        go_wp2_with fail
        refine hK.out _ _ (HH.out.on bC.out).any1 (fun hHeld => ?_)
        clear hK K
        try simp only [Act.put, List.setIfInBounds_toArray, List.set_cons_zero, List.set_cons_succ]
        refine wpAnyH_ready (rs := [4]) (by kernel_rfl) (by simp) ?_
        refine AllReadyH.cons rfl (fun K hK => ?_) AllReadyH.nil
        obtain ⟨A1, cp1, eb1, hc1, hr1⟩ := (HH.out.on bC.out).bs1
        refine step_append_rd _ rfl (.tmp 47) (.tmp 49) 26 rfl W.heap.size 5 i0 (.int .u8 0) 1 1 Try.underlying26 hi0 hz0 hz1 hz2 rfl (by omega) rc _ _ (by rfl) HC.out X2.heap.size A1 l1.length cp1 (bvs l1) (by rw [eb1]; rfl) (by simp [bvs]) hr1 (bvs_one l1) (by unfold maxLen; omega) (by omega) bC.out.size ?_
        intro rd X3 hown hbw hgr
        have HD := Lib.hid (bs_app hown)
        replace HG := Lib.hid (HG.out.grown hgr (fun k hk => HF.out k hk))
        replace bC := Lib.hid (bC.out.trans hbw)
        clear hown hbw hgr HC hr1 hc1 eb1 A1 cp1
        clear HF
        refine hK.out _ _ (HH.out.on bC.out).any1 (fun hHeld => ?_)
        clear hK K
        try simp only [Act.put, List.setIfInBounds_toArray, List.set_cons_zero, List.set_cons_succ]
        refine wpAnyH_ready (rs := [5]) (by kernel_rfl) (by simp) ?_
        refine AllReadyH.cons rfl (fun K hK => ?_) AllReadyH.nil
        go_simp
        refine (lget_any _ _ _ HD.out (by rw [List.length_append]; omega)).mono ?_
        rintro e X4 ⟨rfl, hb⟩
        rw [HQ.out]
        unfold Lx.gV lv
        replace HG := Lib.hid (HG.out.on hb)
        replace bC := Lib.hid (bstep bC.out hb)
        clear hb HD
        go_wp2_with fail
        refine hK.out _ _ (HH.out.on bC.out).any1 (fun hHeld => ?_)
        clear hK K
        try simp only [Act.put, List.setIfInBounds_toArray, List.set_cons_zero, List.set_cons_succ]
        refine wpAnyH_take (i := 6) (v := ?_) opAt_6 (by kernel_rfl) (by kernel_rfl) (by kernel_rfl) (fun _ _ _ h => h) (Or.inl ⟨by rfl, ?_⟩) hHeld ?_
        rotate_left
        · (intro w' hSw; (try dsimp only at hSw); go_simp; try with_reducible rfl)
        try simp only [Act.put, List.setIfInBounds_toArray, List.set_cons_zero, List.set_cons_succ]
        refine wpAnyH_take (i := 7) (v := ?_) opAt_7 (by kernel_rfl) (by kernel_rfl) (by kernel_rfl) (fun _ _ _ h => h) (Or.inl ⟨by rfl, ?_⟩) hHeld ?_
        rotate_left
        · (intro w' hSw; (try dsimp only at hSw); go_simp; try with_reducible rfl)
        try simp only [Act.put, List.setIfInBounds_toArray, List.set_cons_zero, List.set_cons_succ]
        refine wpAnyH_take (i := 8) (v := ?_) opAt_8 (by kernel_rfl) (by kernel_rfl) (by kernel_rfl) (fun _ _ _ h => h) (Or.inl ⟨by rfl, ?_⟩) hHeld ?_
        rotate_left
        · (intro w' hSw; (try dsimp only at hSw); go_simp; try with_reducible rfl)
        try simp only [Act.put, List.setIfInBounds_toArray, List.set_cons_zero, List.set_cons_succ]
        refine wpAnyH_take (i := 9) (v := ?_) opAt_9 (by kernel_rfl) (by kernel_rfl) (by kernel_rfl) (fun _ _ _ h => h) (Or.inl ⟨by rfl, ?_⟩) hHeld ?_
        rotate_left
        · (intro w' hSw; (try dsimp only at hSw); go_simp; try with_reducible rfl)
        try simp only [Act.put, List.setIfInBounds_toArray, List.set_cons_zero, List.set_cons_succ]
        refine wpAnyH_ready (rs := [11]) (by kernel_rfl) (by simp) ?_
        refine AllReadyH.cons rfl (fun K hK => ?_) AllReadyH.nil
        obtain ⟨c0, c1, f0, f1, hz⟩ := HG.out
        go_simp
        have hgW : W.heap.size ≤ W.heap.size := by first | exact Nat.le_refl _ | exact bG.out
        replace bC := Lib.hid ((bC.out.setCell (p := ⟨W.heap.size, 0, none⟩) hgW (.int .u32 x)).setCell (p := ⟨W.heap.size, 1, none⟩) hgW (.int .u32 y))
        replace HG := Lib.hid (HG.out.set x y)
        refine hK.out _ _ (HH.out.on bC.out).any1 (fun hHeld => ?_)
        clear hK K c0 c1 f0 f1 hz
        try simp only [Act.put, List.setIfInBounds_toArray, List.set_cons_zero, List.set_cons_succ]
        refine wpAnyH_ready (rs := [12]) (by kernel_rfl) (by simp) ?_
        refine AllReadyH.cons rfl (fun K hK => ?_) AllReadyH.nil
        go_simp
        refine hK.out _ _ (HH.out.on bC.out).any1 (fun hHeld => ?_)
        clear hK K
        try simp only [Act.put, List.setIfInBounds_toArray, List.set_cons_zero, List.set_cons_succ]
        refine wpAnyH_ready (rs := [13]) (by kernel_rfl) (by simp) ?_
        refine AllReadyH.cons rfl (fun K hK => ?_) AllReadyH.nil
        go_simp
        refine hK.out _ _ (HH.out.on bC.out).any1 (fun hHeld => ?_)
        clear hK K
        try simp only [Act.put, List.setIfInBounds_toArray, List.set_cons_zero, List.set_cons_succ]
        refine wpAnyH_done (by kernel_rfl) ?_ _
        refine NoPanic.normal ?_
        go_wp2_with fail
        go_meet
        exact ⟨_, rfl, rfl, rfl, HG.out, HH.out.on bC.out⟩
  case rest =>
    obtain ⟨g, rfl, rfl, rfl, HG, HH⟩ := hcut
    have HGG := Lib.hid HG
    replace HH := Lib.hid HH
    clear HG
    have hne := run_neq_loc
    have hg := guard_loc
    obtain ⟨c0, c1, f0, f1, hz⟩ := HH.out.box
    obtain ⟨d0, d1, e0, e1, hy⟩ := HH.out.box9
    obtain ⟨k0, k1, l0, l1', hx⟩ := HGG.out
    go_wp2_with fail
    refine (may_b x y _ (by omega) (by omega) (by omega) (by omega) true HS.out.may).mono ?_
    rintro e w5 ⟨rfl, hb⟩
    replace HH := Lib.hid (HH.out.on hb)
    clear hb c0 c1 f0 f1 hz d0 d1 e0 e1 hy k0 k1 l0 l1' hx HGG hne hg
    obtain ⟨c0, c1, f0, f1, hz⟩ := HH.out.box
    go_wp2_with fail
    refine (none_b x y _ false HS.out.none).mono ?_
    rintro e w6 ⟨rfl, hb⟩
    replace HH := Lib.hid (HH.out.on hb)
    clear hb c0 c1 f0 f1 hz
    have hpz : ((pl.length : Int) == 0) = false := by rw [beq_eq_false_iff_ne]; omega
    obtain ⟨j, hj⟩ : ∃ j : Nat, a2 % (pl.length : Int) = j := ⟨(a2 % (pl.length : Int)).toNat, (Int.toNat_of_nonneg (Int.emod_nonneg a2 (by omega))).symm⟩
    have hjl : j < pl.length := by have := Int.emod_lt_of_pos a2 (b := (pl.length : Int)) (by omega); rw [hj] at this; omega
    have hj0 : (0 : Int) < (pl.length : Int) := by omega
    have hjc : (j : Int) ≤ (cr : Int) := by omega
    go_wp2_with fail
    have hbt : Bs w6 w6.heap.size (.slice Ar j cr) (pl.take j) := by
      obtain ⟨A', c', e', hc', hr'⟩ := HH.out.bs
      injection e' with e1 e2 e3
      subst e1 e3
      have hlen : (pl.take j).length = j := by rw [List.length_take]; omega
      refine ⟨_, _, by rw [hlen], by omega, ?_⟩
      rw [bvs_take]
      exact hr'.take j
    refine (lget_any _ _ _ hbt (by rw [List.length_take]; omega)).mono ?_
    rintro e w7 ⟨rfl, hb⟩
    rw [HT.out j hjl]
    unfold Lx.gV lv
    replace HH := Lib.hid (HH.out.on hb)
    clear hb hbt hj hpz hj0 hjc
    obtain ⟨c0, c1, hz⟩ := HH.out.any
    go_wp2_with fail
    refine (unpack_any n1 _ pn pn').mono ?_
    rintro e w8 ⟨rfl, hb⟩
    replace HH := Lib.hid ((HH.out.on (bnew _ (.cells #[.int .u32 0, .int .u32 0] 24))).on hb)
    clear hb c0 c1 hz HQ HT HS
    have hub := Lx.un_back n1 pn pn'
    have hu01 : Lx.unE n1 = 0 ∨ Lx.unE n1 = 1 := by unfold Lx.unE; split <;> simp
    generalize Lx.unE n1 = ue at *
    generalize Lx.unS n1 = us at *
    generalize Lx.unO n1 = uo at *
    unfold lv
    rcases hu01 with rfl | rfl
    · obtain ⟨um, un, ue', u1, u2, u3, u4⟩ := hub rfl
      have Hum := Lib.hid um
      have Hun := Lib.hid un
      have Hue := Lib.hid ue'
      clear um un ue' hub
      obtain ⟨c0, c1, hz⟩ := HH.out.any
      go_wp2_with fail
      refine (pack_any us uo _ u1 u2 u3 u4).mono ?_
      rintro e w9 ⟨rfl, hb⟩
      rw [Hun.out, Hue.out]
      replace HH := Lib.hid ((HH.out.on (bnew _ (.cells #[.int .u32 us, .int .u32 uo] 24))).on hb)
      have HL := Lib.hid ((LBox.new w8 us uo 24).on hb)
      clear hb c0 c1 hz
      obtain ⟨c0, c1, hz⟩ := HH.out.any
      obtain ⟨d0, d1, f0, f1, hy⟩ := HL.out
      go_wp2_with fail
      refine (may_b us uo _ u1 u2 u3 u4 true Hum.out).mono ?_
      rintro e w10 ⟨rfl, hb⟩
      replace HH := Lib.hid (HH.out.on hb)
      clear hb c0 c1 hz d0 d1 f0 f1 hy HL Hum Hun Hue
      obtain ⟨c0, c1, hz⟩ := HH.out.any
      go_wp2_with fail
      refine (lget_any _ _ _ HH.out.bs1 (by omega)).mono ?_
      rintro e w11 ⟨rfl, hb⟩
      replace HH := Lib.hid (HH.out.on hb)
      clear hb c0 c1 hz
      by_cases hq : (Lx.getQ l1).2.2.2 = 0
      · obtain ⟨gs, go, gk, hgq, hgm, hgp, hgl, g1, g2, g3, g4⟩ := Lx.get_back l1 hq
        have Hm := Lib.hid hgm
        have Hp : Hid (Lx.putR [] gs go = l1.take gk) := by unfold Lx.putR; rw [hgm, ← hgp]; rfl
        have He : Hid (Lx.pkE gs go = 0) := by unfold Lx.pkE; rw [hgm]; rfl
        rw [Lx.getV_eq hgq]
        unfold Lx.gV lv
        clear hq hgq hgm hgp
        obtain ⟨c0, c1, hz⟩ := HH.out.any
        go_wp2_with fail
        refine (lput_any _ [] gs go _ Bs.none_ g1 g2 g3 g4 (by simp)).mono ?_
        rintro e w12 ⟨rp, rfl, hsp, hb⟩
        rw [He.out]
        rw [Hp.out] at hsp
        have Hsp := Lib.hid hsp
        replace HH := Lib.hid ((HH.out.on (bnew _ (.cells #[.int .u32 gs, .int .u32 go] 24))).on hb)
        clear hb c0 c1 hz hsp
        obtain ⟨c0, c1, hz⟩ := HH.out.any
        have hb1 := HH.out.bs1
        obtain ⟨A1, cp1, eb1, hc1, hr1⟩ := hb1
        have hbt : Bs w12 w12.heap.size (.slice A1 gk cp1) (l1.take gk) := by
          have hlen : (l1.take gk).length = gk := by rw [List.length_take]; omega
          refine ⟨_, _, by rw [hlen], by omega, ?_⟩
          rw [bvs_take]
          exact hr1.take gk
        have Hbt := Lib.hid hbt
        rw [eb1] at c1
        clear hr1 eb1 hbt
        have hgc : (gk : Int) ≤ (cp1 : Int) := by omega
        go_wp2_with fail
        refine (equal_b _ _ _ _ _ _ _ Hsp.out Hbt.out).mono ?_
        rintro e w13 ⟨rfl, rfl⟩
        rw [show (l1.take gk == l1.take gk) = true by simp]
        go_wp2_with fail
        refine (wakes3_any _).mono ?_
        rintro e w14 ⟨rfl, hb⟩
        replace HH := Lib.hid (HH.out.on hb)
        go_wp2_with fail
        go_ret
        exact ⟨rfl, HH.out.bel⟩
      · have hq' : ((Lx.getQ l1).2.2.2 == 0) = false := by simpa using hq
        unfold Lx.getV lv
        generalize (Lx.getQ l1).2.2.2 = ge at *
        clear hq
        go_wp2_with fail
        refine (wakes3_any _).mono ?_
        rintro e w12 ⟨rfl, hb⟩
        replace HH := Lib.hid ((HH.out.on (bnew _ _)).on hb)
        go_wp2_with fail
        go_ret
        exact ⟨rfl, HH.out.bel⟩
    · obtain ⟨c0, c1, hz⟩ := HH.out.any
      go_wp2_with fail
      replace HH := Lib.hid (HH.out.on (bnew _ (.cells #[.int .u32 us, .int .u32 uo] 24)))
      refine (lget_any _ _ _ HH.out.bs1 (by omega)).mono ?_
      rintro e w11 ⟨rfl, hb⟩
      replace HH := Lib.hid (HH.out.on hb)
      clear hb c0 c1 hz
      by_cases hq : (Lx.getQ l1).2.2.2 = 0
      · obtain ⟨gs, go, gk, hgq, hgm, hgp, hgl, g1, g2, g3, g4⟩ := Lx.get_back l1 hq
        have Hm := Lib.hid hgm
        have Hp : Hid (Lx.putR [] gs go = l1.take gk) := by unfold Lx.putR; rw [hgm, ← hgp]; rfl
        have He : Hid (Lx.pkE gs go = 0) := by unfold Lx.pkE; rw [hgm]; rfl
        rw [Lx.getV_eq hgq]
        unfold Lx.gV lv
        clear hq hgq hgm hgp
        obtain ⟨c0, c1, hz⟩ := HH.out.any
        go_wp2_with fail
        refine (lput_any _ [] gs go _ Bs.none_ g1 g2 g3 g4 (by simp)).mono ?_
        rintro e w12 ⟨rp, rfl, hsp, hb⟩
        rw [He.out]
        rw [Hp.out] at hsp
        have Hsp := Lib.hid hsp
        replace HH := Lib.hid ((HH.out.on (bnew _ (.cells #[.int .u32 gs, .int .u32 go] 24))).on hb)
        clear hb c0 c1 hz hsp
        obtain ⟨c0, c1, hz⟩ := HH.out.any
        have hb1 := HH.out.bs1
        obtain ⟨A1, cp1, eb1, hc1, hr1⟩ := hb1
        have hbt : Bs w12 w12.heap.size (.slice A1 gk cp1) (l1.take gk) := by
          have hlen : (l1.take gk).length = gk := by rw [List.length_take]; omega
          refine ⟨_, _, by rw [hlen], by omega, ?_⟩
          rw [bvs_take]
          exact hr1.take gk
        have Hbt := Lib.hid hbt
        rw [eb1] at c1
        clear hr1 eb1 hbt
        have hgc : (gk : Int) ≤ (cp1 : Int) := by omega
        go_wp2_with fail
        refine (equal_b _ _ _ _ _ _ _ Hsp.out Hbt.out).mono ?_
        rintro e w13 ⟨rfl, rfl⟩
        rw [show (l1.take gk == l1.take gk) = true by simp]
        go_wp2_with fail
        refine (wakes3_any _).mono ?_
        rintro e w14 ⟨rfl, hb⟩
        replace HH := Lib.hid (HH.out.on hb)
        go_wp2_with fail
        go_ret
        exact ⟨rfl, HH.out.bel⟩
      · have hq' : ((Lx.getQ l1).2.2.2 == 0) = false := by simpa using hq
        unfold Lx.getV lv
        generalize (Lx.getQ l1).2.2.2 = ge at *
        clear hq
        go_wp2_with fail
        refine (wakes3_any _).mono ?_
        rintro e w12 ⟨rfl, hb⟩
        replace HH := Lib.hid ((HH.out.on (bnew _ _)).on hb)
        go_wp2_with fail
        go_ret
        exact ⟨rfl, HH.out.bel⟩
end Go.Proofs.Ytikdpldfklbdoaa.locBack
