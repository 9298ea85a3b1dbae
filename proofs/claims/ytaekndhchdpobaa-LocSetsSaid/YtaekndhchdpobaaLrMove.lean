
/-
  Layer 3: the document's set: Move.
-/
import Derived.Test.YtaekndhchdpobaaLrAdd
set_option linter.unusedVariables false
set_option linter.unusedSimpArgs false
namespace Go.Proofs.Ytaekndhchdpobaa
open Go.RowKit Go.Maps Go.Lib

/-- what Move does -/
def RMove (w : World) (br B : Nat) (R : List One3) (s o t p : Int) (e : Ending) (w' : World) : Prop :=
  ((Lx.standsB s o && Lx.standsB t p) = false ∧ e = .returned (.int .i64 1) ∧ Below w.heap.size w w') ∨
  ((Lx.standsB s o && Lx.standsB t p) = true ∧ (s, o) ∉ R.map kOf ∧ e = .returned (.int .i64 6) ∧ Below w.heap.size w w') ∨
  ((Lx.standsB s o && Lx.standsB t p) = true ∧ (s, o) ∈ R.map kOf ∧ (t, p) ≠ (s, o) ∧ (t, p) ∈ R.map kOf ∧ e = .returned (.int .i64 9) ∧ Below w.heap.size w w') ∨
  ((Lx.standsB s o && Lx.standsB t p) = true ∧ ((t, p) = (s, o) ∨ (t, p) ∉ R.map kOf) ∧ e = .returned (.int .i64 0) ∧ ∃ (j : Nat) (n : Int) (v' : Value), R[j]? = some (s, o, n) ∧ RowAt w' br B v' (R.take j ++ R.drop (j + 1) ++ [(t, p, n)]) ∧ Fr w w' br none ∧ ∀ g, v'.ownBlock = some g → w.heap.size ≤ g)

theorem one_at {R : List One3} {s o n n' : Int} {j j' : Nat} (h : (R.map kOf).Nodup) (h1 : R[j]? = some (s, o, n)) (h2 : R[j']? = some (s, o, n')) : j = j' ∧ n = n' := by
  have hj : j < (R.map kOf).length := by rw [List.length_map]; exact (List.getElem?_eq_some_iff.1 h1).1
  have e : (R.map kOf)[j]? = (R.map kOf)[j']? := by rw [List.getElem?_map, List.getElem?_map, h1, h2]; rfl
  obtain rfl := (List.getElem?_inj hj h).1 e
  rw [h1] at h2
  injection h2 with h2
  injection h2 with _ h2
  injection h2 with _ h2
  exact ⟨rfl, h2⟩
theorem LBox.fr {w w' : World} {br X : Nat} {s o : Int} (h : LBox w X s o) (hf : Fr w w' br none) (hne : X ≠ br) : LBox w' X s o := by
  obtain ⟨a, b, c, d, e⟩ := h
  have hb := hf.block X e hne (by simp)
  exact ⟨(World.cell?_of_block (a := ⟨X, 0, none⟩) hb).trans a, (World.cell?_of_block (a := ⟨X, 1, none⟩) hb).trans b, (World.frozen?_of_block (a := ⟨X, 0, none⟩) hb).trans c, (World.frozen?_of_block (a := ⟨X, 1, none⟩) hb).trans d, Nat.lt_of_lt_of_le e hf.size⟩
theorem Fr.after {w w1 w2 : World} {br : Nat} (h : Below w.heap.size w w1) (k : Fr w1 w2 br none) : Fr w w2 br none :=
  ⟨k.os.trans h.os, k.tape.trans h.tape, k.output.trans h.output, Nat.le_trans h.size k.size, fun i hi hne hr => (k.block i (Nat.lt_of_lt_of_le hi h.size) hne hr).trans (h.block i hi)⟩
theorem Fr.drew1 {w w1 : World} {br : Nat} (h : Fr w w1 br none) : Fr w w1.drew br none := ⟨h.os, h.tape, h.output, h.size, h.block⟩

set_option maxRecDepth 100000 in
set_option maxHeartbeats 8000000 in
theorem rmove_any {w : World} {br B : Nat} {v : Value} {R : List One3} (h : RowAt w br B v R) (hBw : B ≤ w.heap.size) (hR : R.length < 999990) {s o t p : Int} (h0 : 0 ≤ s) (h1 : s < 4294967296) (h2 : 0 ≤ o) (h3 : o < 4294967296) (g0 : 0 ≤ t) (g1 : t < 4294967296) (g2 : 0 ≤ p) (g3 : p < 4294967296) (hnd : (R.map kOf).Nodup) (hb64 : ∀ x ∈ R, 0 ≤ x.2.2 ∧ x.2.2 < 18446744073709551616) :
    Calls Try.prog 13 #[.pointer (some ⟨br, 0, none⟩), lv s o, lv t p] w (RMove w br B R s o t p) := by
  have H0 := Lib.hid h
  have hlt := h.lt
  obtain ⟨i0, hi0, hz0, hz1, hz2⟩ := info_parts one_info
  have hbr : br < w.heap.size := block_of_cell h.cell
  have b0 := balloc (bnew w (.cells #[.int .u32 s, .int .u32 o] 31)) (.cells #[.int .u32 t, .int .u32 p] 31)
  have HX0 := Lib.hid ((LBox.new w s o 31).on (bnew (w.alloc (.cells #[.int .u32 s, .int .u32 o] 31)) (.cells #[.int .u32 t, .int .u32 p] 31)))
  have HY0 := Lib.hid (LBox.new2 w (.cells #[.int .u32 s, .int .u32 o] 31) t p 31)
  have H0' := Lib.hid (H0.out.on b0)
  have HB0 := Lib.hid b0
  have HU := Lib.hid hb64
  have HND := Lib.hid hnd
  clear h b0 hb64 hnd
  have hl := may_zero (s := s) (o := o)
  have ht := may_zero (s := t) (o := p)
  rcases hl with ⟨m1, m2⟩ | ⟨m1, m2, m3⟩ | ⟨m1, m2, m3⟩
  · have M1 := Lib.hid m1
    have M2 := Lib.hid m2
    clear m1 m2 ht
    unfold lv
    go_enter Try.func13, Try.ntmps13
    go_wp2_with fail
    refine (r3may_b s o _ h0 h1 h2 h3 false M1.out).mono ?_
    rintro e w1 ⟨rfl, hw⟩
    go_wp2_with fail
    go_ret
    exact .inl ⟨by rw [M2.out]; rfl, rfl, bstep HB0.out hw⟩
  · have hz : (s == 0) = true := by rw [m2]; rfl
    have M1 := Lib.hid m1
    have M3 := Lib.hid m3
    clear m1 m2 m3
    rcases ht with ⟨k1, k2⟩ | ⟨k1, k2, k3⟩ | ⟨k1, k2, k3⟩
    · have K1 := Lib.hid k1
      clear k1 k2
      unfold lv
      go_enter Try.func13, Try.ntmps13
      go_wp2_with fail
      refine (r3may_b s o _ h0 h1 h2 h3 true M1.out).mono ?_
      rintro e w1 ⟨rfl, hw⟩
      obtain ⟨y1, y2, y3, y4, y5⟩ := HY0.out.on hw
      go_wp2_with fail
      refine (r3may_b t p _ g0 g1 g2 g3 false K1.out).mono ?_
      rintro e w2 ⟨rfl, hw2⟩
      go_wp2_with fail
      go_ret
      exact .inl ⟨by rw [M3.out]; rfl, rfl, bstep (bstep HB0.out hw) hw2⟩
    all_goals
      have K1 := Lib.hid k1
      clear k1 k2 k3
      unfold lv
      go_enter Try.func13, Try.ntmps13
      go_wp2_with fail
      refine (r3may_b s o _ h0 h1 h2 h3 true M1.out).mono ?_
      rintro e w1 ⟨rfl, hw⟩
      obtain ⟨y1, y2, y3, y4, y5⟩ := HY0.out.on hw
      have HX1 := Lib.hid (HX0.out.on hw)
      go_wp2_with fail
      refine (r3may_b t p _ g0 g1 g2 g3 true K1.out).mono ?_
      rintro e w2 ⟨rfl, hw2⟩
      obtain ⟨x1, x2, x3, x4, x5⟩ := HX1.out.on hw2
      go_wp2_with fail
      go_ret
      exact .inl ⟨by rw [M3.out]; rfl, rfl, bstep (bstep HB0.out hw) hw2⟩
  · have M1 := Lib.hid m1
    have M3 := Lib.hid m3
    clear m1 m3
    rcases ht with ⟨k1, k2⟩ | ⟨k1, k2, k3⟩ | ⟨k1, k2, k3⟩
    · have K1 := Lib.hid k1
      have K2 := Lib.hid k2
      clear k1 k2
      unfold lv
      go_enter Try.func13, Try.ntmps13
      go_wp2_with fail
      refine (r3may_b s o _ h0 h1 h2 h3 true M1.out).mono ?_
      rintro e w1 ⟨rfl, hw⟩
      obtain ⟨y1, y2, y3, y4, y5⟩ := HY0.out.on hw
      go_wp2_with fail
      refine (r3may_b t p _ g0 g1 g2 g3 false K1.out).mono ?_
      rintro e w2 ⟨rfl, hw2⟩
      go_wp2_with fail
      go_ret
      exact .inl ⟨by rw [K2.out, Bool.and_false], rfl, bstep (bstep HB0.out hw) hw2⟩
    · have hz : (t == 0) = true := by rw [k2]; rfl
      have K1 := Lib.hid k1
      have K3 := Lib.hid k3
      clear k1 k2 k3
      unfold lv
      go_enter Try.func13, Try.ntmps13
      go_wp2_with fail
      refine (r3may_b s o _ h0 h1 h2 h3 true M1.out).mono ?_
      rintro e w1 ⟨rfl, hw⟩
      obtain ⟨y1, y2, y3, y4, y5⟩ := HY0.out.on hw
      have HX1 := Lib.hid (HX0.out.on hw)
      have HY1 := Lib.hid (HY0.out.on hw)
      go_wp2_with fail
      refine (r3may_b t p _ g0 g1 g2 g3 true K1.out).mono ?_
      rintro e w2 ⟨rfl, hw2⟩
      clear y1 y2 y3 y4 y5
      obtain ⟨x1, x2, x3, x4, x5⟩ := HX1.out.on hw2
      obtain ⟨y1, y2, y3, y4, y5⟩ := HY1.out.on hw2
      go_wp2_with fail
      go_ret
      exact .inl ⟨by rw [K3.out, Bool.and_false], rfl, bstep (bstep HB0.out hw) hw2⟩
    · have K1 := Lib.hid k1
      have K3 := Lib.hid k3
      clear k1 k3
      unfold lv
      go_enter Try.func13, Try.ntmps13
      go_wp2_with fail
      refine (r3may_b s o _ h0 h1 h2 h3 true M1.out).mono ?_
      rintro e w1 ⟨rfl, hw⟩
      obtain ⟨y1, y2, y3, y4, y5⟩ := HY0.out.on hw
      have HX1 := Lib.hid (HX0.out.on hw)
      have HY1 := Lib.hid (HY0.out.on hw)
      go_wp2_with fail
      refine (r3may_b t p _ g0 g1 g2 g3 true K1.out).mono ?_
      rintro e w2 ⟨rfl, hw2⟩
      clear y1 y2 y3 y4 y5
      obtain ⟨x1, x2, x3, x4, x5⟩ := HX1.out.on hw2
      obtain ⟨y1, y2, y3, y4, y5⟩ := HY1.out.on hw2
      have HX2 := Lib.hid (HX1.out.on hw2)
      have HY2 := Lib.hid (HY1.out.on hw2)
      have H2 := Lib.hid ((H0'.out.on hw).on hw2)
      have HB2 := Lib.hid (bstep (bstep HB0.out hw) hw2)
      clear hw hw2 HX1 HY1 HX0 HY0 H0' HB0
      go_wp2_with fail
      refine (place_any H2.out).mono ?_
      rintro e w3 ⟨k, rfl, hp, hw3⟩
      clear x1 x2 x3 x4 x5 y1 y2 y3 y4 y5
      have HX3 := Lib.hid (HX2.out.on hw3)
      have HY3 := Lib.hid (HY2.out.on hw3)
      have H3 := Lib.hid (H2.out.on hw3)
      have HB3 := Lib.hid (bstep HB2.out hw3)
      clear hw3 HX2 HY2 H2 HB2
      obtain ⟨x1, x2, x3, x4, x5⟩ := HX3.out
      obtain ⟨y1, y2, y3, y4, y5⟩ := HY3.out
      rcases hp with ⟨rfl, hni⟩ | ⟨j, n, rfl, hj⟩
      · have HN := Lib.hid hni
        clear hni
        go_wp2_with fail
        go_ret
        exact .inr (.inl ⟨by rw [M3.out, K3.out]; rfl, HN.out, rfl, HB3.out⟩)
      · have HJ := Lib.hid hj
        have hn := HU.out _ (List.mem_of_getElem? hj)
        have hjl : j < R.length := (List.getElem?_eq_some_iff.1 hj).1
        clear hj
        have hne := run_neq_loc t p s o
        by_cases heq : t = s ∧ p = o
        · have hd : decide (t = s ∧ p = o) = true := by simpa using heq
          have HE := Lib.hid heq
          clear heq
          have HDis : Hid ((t, p) = (s, o) ∨ (t, p) ∉ R.map kOf) := Lib.hid (.inl (by rw [HE.out.1, HE.out.2]))
          have hc3 := H3.out.cell
          obtain ⟨A, c, rfl, hlc, hcm, hAb⟩ := own_slice H3.out.own
          have hrd := Rd.of_own H3.out.own
          obtain ⟨bb, oo, rfl, hbb, hcc⟩ := hrd (by intro e; have := congrArg List.length e; rw [ovs_length] at this; simp at this; omega)
          have c2 : w3.cell? ⟨bb, oo + j * 3 + 2, none⟩ = some (.int .u64 n) := hcc _ _ (ovs_get R j _ HJ.out).2.2
          clear hrd hcc hAb hlc hcm
          go_wp2_with fail
          clear c2 hc3
          refine (rdrop_any H3.out (Nat.le_trans hBw HB3.out.size)).mono ?_
          rintro e wd hdrop
          clear x1 x2 x3 x4 x5 y1 y2 y3 y4 y5
          rcases hdrop with ⟨rfl, hni, _⟩ | ⟨rfl, j2, n2, vv, hj2, hrow, hfr, hnew⟩
          · exact absurd (List.mem_map.2 ⟨_, List.mem_of_getElem? HJ.out, rfl⟩) hni
          · obtain ⟨rfl, rfl⟩ := one_at HND.out HJ.out hj2
            have HRow0 := Lib.hid hrow
            have HFr := Lib.hid hfr
            have hs3 := HB3.out.size
            have hz3 : w.heap.size + 1 < w3.heap.size := HY3.out.2.2.2.2
            have HY4 := Lib.hid (LBox.fr HY3.out hfr (by omega))
            have hvX : ∀ k, vv.ownBlock = some k → w.heap.size + 1 < k := fun k hk => by have := hnew k hk; omega
            have hvN : ∀ k, vv.ownBlock = some k → w.heap.size ≤ k := fun k hk => by have := hvX k hk; omega
            have hwd := hfr.size
            clear hrow hfr hnew hj2
            have hcd := HRow0.out.cell
            obtain ⟨y1, y2, y3, y4, y5⟩ := HY4.out
            go_wp2_with fail
            clear hcd y1 y2 y3 y4 y5
            obtain ⟨RR, hRR⟩ : ∃ RR, R.take j ++ R.drop (j + 1) = RR := ⟨_, rfl⟩
            have hRl : RR.length < 999990 := by rw [← hRR, List.length_append, List.length_take, List.length_drop]; omega
            rw [hRR] at HRow0
            have HRR := Lib.hid hRR
            clear hRR
            have HSt : Hid (wd.drew.cell? ⟨br, 0, none⟩ = some vv ∧ LBox wd.drew (w.heap.size + 1) t p) := Lib.hid ⟨HRow0.out.cell, HY4.out⟩
            have HRow : Hid (RowAt wd.drew br B vv RR) := Lib.hid ⟨HRow0.out.cell, HRow0.out.own, HRow0.out.free, HRow0.out.lt, HRow0.out.big⟩
            have HFw : Hid (Fr w wd.drew br none) := Lib.hid (Fr.drew1 (Fr.after HB3.out HFr.out))
            refine wp_region_noPanic ?_
            refine OrdL.wpL_region (fun w' => w'.cell? ⟨br, 0, none⟩ = some vv ∧ LBox w' (w.heap.size + 1) t p) 12 (by kernel_rfl) ?_
            clear HRow0 HFr HY4
            have hsWd : w.heap.size ≤ wd.drew.heap.size := HFw.out.size
            have hbrW : br < wd.drew.heap.size := block_of_cell HSt.out.1
            generalize World.drew wd = Wq at *
            have hHeld := HSt.out
            obtain ⟨W2, hW2⟩ : ∃ W2, Wq.alloc (.cells #[.int .u32 t, .int .u32 p, .int .u64 n] 45) = W2 := ⟨_, rfl⟩
            have bW : Below Wq.heap.size Wq W2 := by rw [← hW2]; exact bnew _ _
            have HSt2 : Hid (W2.cell? ⟨br, 0, none⟩ = some vv ∧ LBox W2 (w.heap.size + 1) t p) := Lib.hid ⟨(bW.cell (p := ⟨br, 0, none⟩) hbrW).trans HSt.out.1, HSt.out.2.on bW⟩
            have HF2 : Hid (W2.frozen? ⟨br, 0, none⟩ = false) := Lib.hid ((World.frozen?_of_block (a := ⟨br, 0, none⟩) (bW.block br hbrW)).trans HRow.out.free)
            have HO2 : Hid (W2.ownsRow B 45 3 vv RR.length (ovs RR)) := Lib.hid (own_below HRow.out.own bW (Nat.le_refl _))
            have HR2 : Hid (Rd W2 W2.heap.size (some ⟨Wq.heap.size, 0, none⟩) (encO (t, p, n))) := Lib.hid (fun _ => ⟨Wq.heap.size, 0, rfl, by rw [← hW2]; simp, fun j u hu => by
              rw [← hW2, Nat.zero_add, World.cell?_alloc_new]
              simpa [encO] using hu⟩)
            have hB2 : B ≤ W2.heap.size := by have := bW.size; omega
            have HW2 := Lib.hid hW2
            have HBW := Lib.hid bW
            clear hW2 bW
            refine OrdL.wpL_take (i := 0) (v := ?_) opAt_0 [] (by kernel_rfl) (by kernel_rfl) (by kernel_rfl) (by kernel_rfl) (by kernel_rfl) (by kernel_rfl) (fun _ _ _ h => h) (Or.inl ⟨by rfl, ?_⟩) hHeld ?_
            rotate_left
            · (intro w' hSw; obtain ⟨k0, k1, k2, k3, k4, k5⟩ := hSw; go_simp; try with_reducible rfl)
            try simp only [Act.put, List.setIfInBounds_toArray, List.set_cons_zero, List.set_cons_succ]
            refine OrdL.wpL_take (i := 1) (v := ?_) opAt_1 [] (by kernel_rfl) (by kernel_rfl) (by kernel_rfl) (by kernel_rfl) (by kernel_rfl) (by kernel_rfl) (fun _ _ _ h => h) (Or.inl ⟨by rfl, ?_⟩) hHeld ?_
            rotate_left
            · (intro w' hSw; obtain ⟨k0, k1, k2, k3, k4, k5⟩ := hSw; go_simp; try with_reducible rfl)
            try simp only [Act.put, List.setIfInBounds_toArray, List.set_cons_zero, List.set_cons_succ]
            refine OrdL.wpL_take (i := 2) (v := ?_) opAt_2 [] (by kernel_rfl) (by kernel_rfl) (by kernel_rfl) (by kernel_rfl) (by kernel_rfl) (by kernel_rfl) (fun _ _ _ h => h) (Or.inl ⟨by rfl, ?_⟩) hHeld ?_
            rotate_left
            · (intro w' hSw; obtain ⟨k0, k1, k2, k3, k4, k5⟩ := hSw; go_simp; try with_reducible rfl)
            try simp only [Act.put, List.setIfInBounds_toArray, List.set_cons_zero, List.set_cons_succ]
            refine OrdL.wpL_take (i := 3) (v := ?_) opAt_3 [] (by kernel_rfl) (by kernel_rfl) (by kernel_rfl) (by kernel_rfl) (by kernel_rfl) (by kernel_rfl) (fun _ _ _ h => h) (Or.inl ⟨by rfl, ?_⟩) hHeld ?_
            rotate_left
            · (intro w' hSw; obtain ⟨k0, k1, k2, k3, k4, k5⟩ := hSw; go_simp; try with_reducible rfl)
            try simp only [Act.put, List.setIfInBounds_toArray, List.set_cons_zero, List.set_cons_succ]
            refine OrdL.wpL_take (i := 4) (v := ?_) opAt_4 [] (by kernel_rfl) (by kernel_rfl) (by kernel_rfl) (by kernel_rfl) (by kernel_rfl) (by kernel_rfl) (fun _ _ _ h => h) (Or.inl ⟨by rfl, ?_⟩) hHeld ?_
            rotate_left
            · (intro w' hSw; obtain ⟨k0, k1, k2, k3, k4, k5⟩ := hSw; go_simp; try with_reducible rfl)
            try simp only [Act.put, List.setIfInBounds_toArray, List.set_cons_zero, List.set_cons_succ]
            refine OrdL.wpL_take (i := 5) (v := ?_) opAt_5 [] (by kernel_rfl) (by kernel_rfl) (by kernel_rfl) (by kernel_rfl) (by kernel_rfl) (by kernel_rfl) (fun _ _ _ h => h) (Or.inl ⟨by rfl, ?_⟩) hHeld ?_
            rotate_left
            · (intro w' hSw; obtain ⟨k0, k1, k2, k3, k4, k5⟩ := hSw; go_simp; try with_reducible rfl)
            try simp only [Act.put, List.setIfInBounds_toArray, List.set_cons_zero, List.set_cons_succ]
            refine OrdL.wpL_take (i := 6) (v := ?_) opAt_6 [] (by kernel_rfl) (by kernel_rfl) (by kernel_rfl) (by kernel_rfl) (by kernel_rfl) (by kernel_rfl) (fun _ _ _ h => h) (Or.inl ⟨by rfl, ?_⟩) hHeld ?_
            rotate_left
            · (intro w' hSw; obtain ⟨k0, k1, k2, k3, k4, k5⟩ := hSw; go_simp; try with_reducible rfl)
            try simp only [Act.put, List.setIfInBounds_toArray, List.set_cons_zero, List.set_cons_succ]
            refine OrdL.wpL_take (i := 7) (v := ?_) opAt_7 [] (by kernel_rfl) (by kernel_rfl) (by kernel_rfl) (by kernel_rfl) (by kernel_rfl) (by kernel_rfl) (fun _ _ _ h => h) (Or.inl ⟨by rfl, ?_⟩) hHeld ?_
            rotate_left
            · (intro w' hSw; obtain ⟨k0, k1, k2, k3, k4, k5⟩ := hSw; go_simp; try with_reducible rfl)
            try simp only [Act.put, List.setIfInBounds_toArray, List.set_cons_zero, List.set_cons_succ]
            refine OrdL.wpL_ready (rs := [8]) (by kernel_rfl) (by simp) ?_
            refine OrdL.AllL.cons rfl (fun K hK => ?_) OrdL.AllL.nil
            obtain ⟨k0, k1, k2, k3, k4, k5⟩ := hHeld
            go_simp
            clear k0 k1 k2 k3 k4 k5
            rw [HW2.out]
            refine hK.out _ _ (fun _ => HSt2.out) ?_
            clear hK K
            try simp only [Act.put, List.setIfInBounds_toArray, List.set_cons_zero, List.set_cons_succ]
            have hHeld := HSt2.out
            refine OrdL.wpL_ready (rs := [9]) (by kernel_rfl) (by simp) ?_
            refine OrdL.AllL.cons rfl (fun K hK => ?_) OrdL.AllL.nil
            refine step_append_both (o := (⟨some 61, _, _, _, _, _⟩ : Oper)) W2 rfl (.tmp 56) (.tmp 60) 26 rfl B 45 i0 (.agg #[.int .u32 0, .int .u32 0, .int .u64 0]) 3 16 Try.underlying26 hi0 hz0 hz1 hz2 rfl (by omega) vv RR.length (ovs RR) rfl HO2.out W2.heap.size (some ⟨Wq.heap.size, 0, none⟩) 1 1 (encO (t, p, n)) rfl rfl HR2.out (ovs_one' _) (by unfold maxLen; omega) (by omega) hB2 ?_
            intro v3 w3' hown3 hb3 hgr3 hob3
            obtain ⟨A3, c3, rfl, _, _, _⟩ := own_slice hown3
            dsimp only [Act.put, Array.getElem_toList, List.getElem_toArray, List.getElem_cons_succ, List.getElem_cons_zero]
            have hc3 : w3'.cell? ⟨br, 0, none⟩ = some vv := (hb3.cell (p := ⟨br, 0, none⟩) hlt).trans HSt2.out.1
            have hf3 : w3'.frozen? ⟨br, 0, none⟩ = false := (World.frozen?_of_block (a := ⟨br, 0, none⟩) (hb3.block br hlt)).trans HF2.out
            have hx3 := HSt2.out.2.grown hgr3 (fun k hk e => by have := hvX k hk; omega)
            have HSt3 := Lib.hid (show w3'.cell? ⟨br, 0, none⟩ = some vv ∧ LBox w3' (w.heap.size + 1) t p from ⟨hc3, hx3⟩)
            have HF3 := Lib.hid hf3
            have HO3 := Lib.hid hown3
            have HB3q := Lib.hid hb3
            have HG3 := Lib.hid hgr3
            have HV3 := Lib.hid hob3
            clear hob3 hown3 hb3 hgr3 hc3 hf3 hx3 hHeld
            refine hK.out _ _ (fun _ => HSt3.out) ?_
            clear hK K
            try simp only [Act.put, List.setIfInBounds_toArray, List.set_cons_zero, List.set_cons_succ]
            have hHeld := HSt3.out
            refine OrdL.wpL_take (i := 10) (v := ?_) opAt_10 [11] (by kernel_rfl) (by kernel_rfl) (by kernel_rfl) (by kernel_rfl) (by kernel_rfl) (by kernel_rfl) (fun _ _ _ h => h) (Or.inl ⟨by rfl, ?_⟩) hHeld ?_
            rotate_left
            · (intro w' hSw; obtain ⟨k0, k1, k2, k3, k4, k5⟩ := hSw; go_simp; try with_reducible rfl)
            try simp only [Act.put, List.setIfInBounds_toArray, List.set_cons_zero, List.set_cons_succ]
            refine OrdL.wpL_take (i := 11) (v := ?_) opAt_11 [] (by kernel_rfl) (by kernel_rfl) (by kernel_rfl) (by kernel_rfl) (by kernel_rfl) (by kernel_rfl) (fun _ _ _ h => h) (Or.inl ⟨by rfl, ?_⟩) hHeld ?_
            rotate_left
            · (intro w' hSw; obtain ⟨k0, k1, k2, k3, k4, k5⟩ := hSw; go_simp; try with_reducible rfl)
            try simp only [Act.put, List.setIfInBounds_toArray, List.set_cons_zero, List.set_cons_succ]
            refine OrdL.wpL_ready (rs := [12]) (by kernel_rfl) (by simp) ?_
            refine OrdL.AllL.cons rfl (fun K hK => ?_) OrdL.AllL.nil
            obtain ⟨k0, k1, k2, k3, k4, k5⟩ := hHeld
            have kf := HF3.out
            go_simp
            refine hK.out _ _ (fun h => absurd h (by decide)) ?_
            clear hK K k1 k2 k3 k4 k5
            try simp only [Act.put, List.setIfInBounds_toArray, List.set_cons_zero, List.set_cons_succ]
            refine OrdL.wpL_done (by kernel_rfl) ?_ _
            refine NoPanic.normal ?_
            go_wp2_with fail
            go_ret
            have hlen : (R.take j ++ R.drop (j + 1) ++ [(t, p, n)]).length = RR.length + 1 := by rw [HRR.out]; simp
            have hown4 : w3'.ownsRow B 45 3 (.slice A3 (RR.length + 1) c3) (R.take j ++ R.drop (j + 1) ++ [(t, p, n)]).length (ovs (R.take j ++ R.drop (j + 1) ++ [(t, p, n)])) := by
              rw [hlen, HRR.out, ovs_append]
              have e : ovs [(t, p, n)] = encO (t, p, n) := by simp [ovs]
              rw [e]
              exact HO3.out
            have hg := grownBy_setCell' w3' br (.slice A3 (RR.length + 1) c3)
            have hz5 := HBW.out.size
            have hz6 := HB3q.out.size
            refine .inr (.inr (.inr ⟨by rw [M3.out, K3.out]; rfl, HDis.out, rfl, j, n, .slice A3 (RR.length + 1) c3, HJ.out, ⟨World.cell?_setCell_same _ _ _ HSt3.out.1, ?_, ?_, hlt, by rw [hlen]; omega⟩, ?_, ?_⟩))
            · exact own_grown hown4 hg (fun k hk e => by have := (hown4.lt k hk).1; injection e with e; omega)
            · rw [World.frozen?_setCell]; exact HF3.out
            · refine ⟨hg.os.trans (HB3q.out.os.trans (HBW.out.os.trans HFw.out.os)), hg.tape.trans (HB3q.out.tape.trans (HBW.out.tape.trans HFw.out.tape)), hg.output.trans (HB3q.out.output.trans (HBW.out.output.trans HFw.out.output)), Nat.le_trans (by omega) hg.size, ?_⟩
              intro i hi hne _
              exact (((hg.block i (by omega) (fun e => hne (by injection e))).trans (HG3.out.block i (by omega) (fun e => by have := hvN i e.symm; omega))).trans (HBW.out.block i (by omega))).trans (HFw.out.block i hi hne (by simp))
            · rcases HV3.out with h | h
              · exact fun g hg => hvN g (by rw [← h]; exact hg)
              · exact fun g hg => by rw [h] at hg; injection hg with hg; omega
        · have hd : decide (t = s ∧ p = o) = false := by simpa using heq
          have HE := Lib.hid heq
          clear heq
          go_wp2_with fail
          refine (place_any H3.out).mono ?_
          rintro e w4 ⟨k4, rfl, hp4, hw4⟩
          clear x1 x2 x3 x4 x5 y1 y2 y3 y4 y5
          replace HX3 := Lib.hid (HX3.out.on hw4)
          replace HY3 := Lib.hid (HY3.out.on hw4)
          replace H3 := Lib.hid (H3.out.on hw4)
          replace HB3 := Lib.hid (bstep HB3.out hw4)
          clear hw4
          obtain ⟨x1, x2, x3, x4, x5⟩ := HX3.out
          obtain ⟨y1, y2, y3, y4, y5⟩ := HY3.out
          rcases hp4.mem with ⟨rfl, hni4⟩ | ⟨hk4, hin4⟩
          · have HDis : Hid ((t, p) = (s, o) ∨ (t, p) ∉ R.map kOf) := Lib.hid (.inr hni4)
            clear hp4 hni4
            have hc3 := H3.out.cell
            obtain ⟨A, c, rfl, hlc, hcm, hAb⟩ := own_slice H3.out.own
            have hrd := Rd.of_own H3.out.own
            obtain ⟨bb, oo, rfl, hbb, hcc⟩ := hrd (by intro e; have := congrArg List.length e; rw [ovs_length] at this; simp at this; omega)
            have c2 : w4.cell? ⟨bb, oo + j * 3 + 2, none⟩ = some (.int .u64 n) := hcc _ _ (ovs_get R j _ HJ.out).2.2
            clear hrd hcc hAb hlc hcm
            go_wp2_with fail
            clear c2 hc3
            refine (rdrop_any H3.out (Nat.le_trans hBw HB3.out.size)).mono ?_
            rintro e wd hdrop
            clear x1 x2 x3 x4 x5 y1 y2 y3 y4 y5
            rcases hdrop with ⟨rfl, hni, _⟩ | ⟨rfl, j2, n2, vv, hj2, hrow, hfr, hnew⟩
            · exact absurd (List.mem_map.2 ⟨_, List.mem_of_getElem? HJ.out, rfl⟩) hni
            · obtain ⟨rfl, rfl⟩ := one_at HND.out HJ.out hj2
              have HRow0 := Lib.hid hrow
              have HFr := Lib.hid hfr
              have hs3 := HB3.out.size
              have hz3 : w.heap.size + 1 < w4.heap.size := HY3.out.2.2.2.2
              have HY4 := Lib.hid (LBox.fr HY3.out hfr (by omega))
              have hvX : ∀ k, vv.ownBlock = some k → w.heap.size + 1 < k := fun k hk => by have := hnew k hk; omega
              have hvN : ∀ k, vv.ownBlock = some k → w.heap.size ≤ k := fun k hk => by have := hvX k hk; omega
              have hwd := hfr.size
              clear hrow hfr hnew hj2
              have hcd := HRow0.out.cell
              obtain ⟨y1, y2, y3, y4, y5⟩ := HY4.out
              go_wp2_with fail
              clear hcd y1 y2 y3 y4 y5
              obtain ⟨RR, hRR⟩ : ∃ RR, R.take j ++ R.drop (j + 1) = RR := ⟨_, rfl⟩
              have hRl : RR.length < 999990 := by rw [← hRR, List.length_append, List.length_take, List.length_drop]; omega
              rw [hRR] at HRow0
              have HRR := Lib.hid hRR
              clear hRR
              have HSt : Hid (wd.drew.cell? ⟨br, 0, none⟩ = some vv ∧ LBox wd.drew (w.heap.size + 1) t p) := Lib.hid ⟨HRow0.out.cell, HY4.out⟩
              have HRow : Hid (RowAt wd.drew br B vv RR) := Lib.hid ⟨HRow0.out.cell, HRow0.out.own, HRow0.out.free, HRow0.out.lt, HRow0.out.big⟩
              have HFw : Hid (Fr w wd.drew br none) := Lib.hid (Fr.drew1 (Fr.after HB3.out HFr.out))
              refine wp_region_noPanic ?_
              refine OrdL.wpL_region (fun w' => w'.cell? ⟨br, 0, none⟩ = some vv ∧ LBox w' (w.heap.size + 1) t p) 12 (by kernel_rfl) ?_
              clear HRow0 HFr HY4
              have hsWd : w.heap.size ≤ wd.drew.heap.size := HFw.out.size
              have hbrW : br < wd.drew.heap.size := block_of_cell HSt.out.1
              generalize World.drew wd = Wq at *
              have hHeld := HSt.out
              obtain ⟨W2, hW2⟩ : ∃ W2, Wq.alloc (.cells #[.int .u32 t, .int .u32 p, .int .u64 n] 45) = W2 := ⟨_, rfl⟩
              have bW : Below Wq.heap.size Wq W2 := by rw [← hW2]; exact bnew _ _
              have HSt2 : Hid (W2.cell? ⟨br, 0, none⟩ = some vv ∧ LBox W2 (w.heap.size + 1) t p) := Lib.hid ⟨(bW.cell (p := ⟨br, 0, none⟩) hbrW).trans HSt.out.1, HSt.out.2.on bW⟩
              have HF2 : Hid (W2.frozen? ⟨br, 0, none⟩ = false) := Lib.hid ((World.frozen?_of_block (a := ⟨br, 0, none⟩) (bW.block br hbrW)).trans HRow.out.free)
              have HO2 : Hid (W2.ownsRow B 45 3 vv RR.length (ovs RR)) := Lib.hid (own_below HRow.out.own bW (Nat.le_refl _))
              have HR2 : Hid (Rd W2 W2.heap.size (some ⟨Wq.heap.size, 0, none⟩) (encO (t, p, n))) := Lib.hid (fun _ => ⟨Wq.heap.size, 0, rfl, by rw [← hW2]; simp, fun j u hu => by
                rw [← hW2, Nat.zero_add, World.cell?_alloc_new]
                simpa [encO] using hu⟩)
              have hB2 : B ≤ W2.heap.size := by have := bW.size; omega
              have HW2 := Lib.hid hW2
              have HBW := Lib.hid bW
              clear hW2 bW
              refine OrdL.wpL_take (i := 0) (v := ?_) opAt_0 [] (by kernel_rfl) (by kernel_rfl) (by kernel_rfl) (by kernel_rfl) (by kernel_rfl) (by kernel_rfl) (fun _ _ _ h => h) (Or.inl ⟨by rfl, ?_⟩) hHeld ?_
              rotate_left
              · (intro w' hSw; obtain ⟨k0, k1, k2, k3, k4, k5⟩ := hSw; go_simp; try with_reducible rfl)
              try simp only [Act.put, List.setIfInBounds_toArray, List.set_cons_zero, List.set_cons_succ]
              refine OrdL.wpL_take (i := 1) (v := ?_) opAt_1 [] (by kernel_rfl) (by kernel_rfl) (by kernel_rfl) (by kernel_rfl) (by kernel_rfl) (by kernel_rfl) (fun _ _ _ h => h) (Or.inl ⟨by rfl, ?_⟩) hHeld ?_
              rotate_left
              · (intro w' hSw; obtain ⟨k0, k1, k2, k3, k4, k5⟩ := hSw; go_simp; try with_reducible rfl)
              try simp only [Act.put, List.setIfInBounds_toArray, List.set_cons_zero, List.set_cons_succ]
              refine OrdL.wpL_take (i := 2) (v := ?_) opAt_2 [] (by kernel_rfl) (by kernel_rfl) (by kernel_rfl) (by kernel_rfl) (by kernel_rfl) (by kernel_rfl) (fun _ _ _ h => h) (Or.inl ⟨by rfl, ?_⟩) hHeld ?_
              rotate_left
              · (intro w' hSw; obtain ⟨k0, k1, k2, k3, k4, k5⟩ := hSw; go_simp; try with_reducible rfl)
              try simp only [Act.put, List.setIfInBounds_toArray, List.set_cons_zero, List.set_cons_succ]
              refine OrdL.wpL_take (i := 3) (v := ?_) opAt_3 [] (by kernel_rfl) (by kernel_rfl) (by kernel_rfl) (by kernel_rfl) (by kernel_rfl) (by kernel_rfl) (fun _ _ _ h => h) (Or.inl ⟨by rfl, ?_⟩) hHeld ?_
              rotate_left
              · (intro w' hSw; obtain ⟨k0, k1, k2, k3, k4, k5⟩ := hSw; go_simp; try with_reducible rfl)
              try simp only [Act.put, List.setIfInBounds_toArray, List.set_cons_zero, List.set_cons_succ]
              refine OrdL.wpL_take (i := 4) (v := ?_) opAt_4 [] (by kernel_rfl) (by kernel_rfl) (by kernel_rfl) (by kernel_rfl) (by kernel_rfl) (by kernel_rfl) (fun _ _ _ h => h) (Or.inl ⟨by rfl, ?_⟩) hHeld ?_
              rotate_left
              · (intro w' hSw; obtain ⟨k0, k1, k2, k3, k4, k5⟩ := hSw; go_simp; try with_reducible rfl)
              try simp only [Act.put, List.setIfInBounds_toArray, List.set_cons_zero, List.set_cons_succ]
              refine OrdL.wpL_take (i := 5) (v := ?_) opAt_5 [] (by kernel_rfl) (by kernel_rfl) (by kernel_rfl) (by kernel_rfl) (by kernel_rfl) (by kernel_rfl) (fun _ _ _ h => h) (Or.inl ⟨by rfl, ?_⟩) hHeld ?_
              rotate_left
              · (intro w' hSw; obtain ⟨k0, k1, k2, k3, k4, k5⟩ := hSw; go_simp; try with_reducible rfl)
              try simp only [Act.put, List.setIfInBounds_toArray, List.set_cons_zero, List.set_cons_succ]
              refine OrdL.wpL_take (i := 6) (v := ?_) opAt_6 [] (by kernel_rfl) (by kernel_rfl) (by kernel_rfl) (by kernel_rfl) (by kernel_rfl) (by kernel_rfl) (fun _ _ _ h => h) (Or.inl ⟨by rfl, ?_⟩) hHeld ?_
              rotate_left
              · (intro w' hSw; obtain ⟨k0, k1, k2, k3, k4, k5⟩ := hSw; go_simp; try with_reducible rfl)
              try simp only [Act.put, List.setIfInBounds_toArray, List.set_cons_zero, List.set_cons_succ]
              refine OrdL.wpL_take (i := 7) (v := ?_) opAt_7 [] (by kernel_rfl) (by kernel_rfl) (by kernel_rfl) (by kernel_rfl) (by kernel_rfl) (by kernel_rfl) (fun _ _ _ h => h) (Or.inl ⟨by rfl, ?_⟩) hHeld ?_
              rotate_left
              · (intro w' hSw; obtain ⟨k0, k1, k2, k3, k4, k5⟩ := hSw; go_simp; try with_reducible rfl)
              try simp only [Act.put, List.setIfInBounds_toArray, List.set_cons_zero, List.set_cons_succ]
              refine OrdL.wpL_ready (rs := [8]) (by kernel_rfl) (by simp) ?_
              refine OrdL.AllL.cons rfl (fun K hK => ?_) OrdL.AllL.nil
              obtain ⟨k0, k1, k2, k3, k4, k5⟩ := hHeld
              go_simp
              clear k0 k1 k2 k3 k4 k5
              rw [HW2.out]
              refine hK.out _ _ (fun _ => HSt2.out) ?_
              clear hK K
              try simp only [Act.put, List.setIfInBounds_toArray, List.set_cons_zero, List.set_cons_succ]
              have hHeld := HSt2.out
              refine OrdL.wpL_ready (rs := [9]) (by kernel_rfl) (by simp) ?_
              refine OrdL.AllL.cons rfl (fun K hK => ?_) OrdL.AllL.nil
              refine step_append_both (o := (⟨some 61, _, _, _, _, _⟩ : Oper)) W2 rfl (.tmp 56) (.tmp 60) 26 rfl B 45 i0 (.agg #[.int .u32 0, .int .u32 0, .int .u64 0]) 3 16 Try.underlying26 hi0 hz0 hz1 hz2 rfl (by omega) vv RR.length (ovs RR) rfl HO2.out W2.heap.size (some ⟨Wq.heap.size, 0, none⟩) 1 1 (encO (t, p, n)) rfl rfl HR2.out (ovs_one' _) (by unfold maxLen; omega) (by omega) hB2 ?_
              intro v3 w3' hown3 hb3 hgr3 hob3
              obtain ⟨A3, c3, rfl, _, _, _⟩ := own_slice hown3
              dsimp only [Act.put, Array.getElem_toList, List.getElem_toArray, List.getElem_cons_succ, List.getElem_cons_zero]
              have hc3 : w3'.cell? ⟨br, 0, none⟩ = some vv := (hb3.cell (p := ⟨br, 0, none⟩) hlt).trans HSt2.out.1
              have hf3 : w3'.frozen? ⟨br, 0, none⟩ = false := (World.frozen?_of_block (a := ⟨br, 0, none⟩) (hb3.block br hlt)).trans HF2.out
              have hx3 := HSt2.out.2.grown hgr3 (fun k hk e => by have := hvX k hk; omega)
              have HSt3 := Lib.hid (show w3'.cell? ⟨br, 0, none⟩ = some vv ∧ LBox w3' (w.heap.size + 1) t p from ⟨hc3, hx3⟩)
              have HF3 := Lib.hid hf3
              have HO3 := Lib.hid hown3
              have HB3q := Lib.hid hb3
              have HG3 := Lib.hid hgr3
              have HV3 := Lib.hid hob3
              clear hob3 hown3 hb3 hgr3 hc3 hf3 hx3 hHeld
              refine hK.out _ _ (fun _ => HSt3.out) ?_
              clear hK K
              try simp only [Act.put, List.setIfInBounds_toArray, List.set_cons_zero, List.set_cons_succ]
              have hHeld := HSt3.out
              refine OrdL.wpL_take (i := 10) (v := ?_) opAt_10 [11] (by kernel_rfl) (by kernel_rfl) (by kernel_rfl) (by kernel_rfl) (by kernel_rfl) (by kernel_rfl) (fun _ _ _ h => h) (Or.inl ⟨by rfl, ?_⟩) hHeld ?_
              rotate_left
              · (intro w' hSw; obtain ⟨k0, k1, k2, k3, k4, k5⟩ := hSw; go_simp; try with_reducible rfl)
              try simp only [Act.put, List.setIfInBounds_toArray, List.set_cons_zero, List.set_cons_succ]
              refine OrdL.wpL_take (i := 11) (v := ?_) opAt_11 [] (by kernel_rfl) (by kernel_rfl) (by kernel_rfl) (by kernel_rfl) (by kernel_rfl) (by kernel_rfl) (fun _ _ _ h => h) (Or.inl ⟨by rfl, ?_⟩) hHeld ?_
              rotate_left
              · (intro w' hSw; obtain ⟨k0, k1, k2, k3, k4, k5⟩ := hSw; go_simp; try with_reducible rfl)
              try simp only [Act.put, List.setIfInBounds_toArray, List.set_cons_zero, List.set_cons_succ]
              refine OrdL.wpL_ready (rs := [12]) (by kernel_rfl) (by simp) ?_
              refine OrdL.AllL.cons rfl (fun K hK => ?_) OrdL.AllL.nil
              obtain ⟨k0, k1, k2, k3, k4, k5⟩ := hHeld
              have kf := HF3.out
              go_simp
              refine hK.out _ _ (fun h => absurd h (by decide)) ?_
              clear hK K k1 k2 k3 k4 k5
              try simp only [Act.put, List.setIfInBounds_toArray, List.set_cons_zero, List.set_cons_succ]
              refine OrdL.wpL_done (by kernel_rfl) ?_ _
              refine NoPanic.normal ?_
              go_wp2_with fail
              go_ret
              have hlen : (R.take j ++ R.drop (j + 1) ++ [(t, p, n)]).length = RR.length + 1 := by rw [HRR.out]; simp
              have hown4 : w3'.ownsRow B 45 3 (.slice A3 (RR.length + 1) c3) (R.take j ++ R.drop (j + 1) ++ [(t, p, n)]).length (ovs (R.take j ++ R.drop (j + 1) ++ [(t, p, n)])) := by
                rw [hlen, HRR.out, ovs_append]
                have e : ovs [(t, p, n)] = encO (t, p, n) := by simp [ovs]
                rw [e]
                exact HO3.out
              have hg := grownBy_setCell' w3' br (.slice A3 (RR.length + 1) c3)
              have hz5 := HBW.out.size
              have hz6 := HB3q.out.size
              refine .inr (.inr (.inr ⟨by rw [M3.out, K3.out]; rfl, HDis.out, rfl, j, n, .slice A3 (RR.length + 1) c3, HJ.out, ⟨World.cell?_setCell_same _ _ _ HSt3.out.1, ?_, ?_, hlt, by rw [hlen]; omega⟩, ?_, ?_⟩))
              · exact own_grown hown4 hg (fun k hk e => by have := (hown4.lt k hk).1; injection e with e; omega)
              · rw [World.frozen?_setCell]; exact HF3.out
              · refine ⟨hg.os.trans (HB3q.out.os.trans (HBW.out.os.trans HFw.out.os)), hg.tape.trans (HB3q.out.tape.trans (HBW.out.tape.trans HFw.out.tape)), hg.output.trans (HB3q.out.output.trans (HBW.out.output.trans HFw.out.output)), Nat.le_trans (by omega) hg.size, ?_⟩
                intro i hi hne _
                exact (((hg.block i (by omega) (fun e => hne (by injection e))).trans (HG3.out.block i (by omega) (fun e => by have := hvN i e.symm; omega))).trans (HBW.out.block i (by omega))).trans (HFw.out.block i hi hne (by simp))
              · rcases HV3.out with h | h
                · exact fun g hg => hvN g (by rw [← h]; exact hg)
                · exact fun g hg => by rw [h] at hg; injection hg with hg; omega
          · have HN4 := Lib.hid hin4
            clear hp4 hin4
            go_wp2_with fail
            go_ret
            exact .inr (.inr (.inl ⟨by rw [M3.out, K3.out]; rfl, List.mem_map.2 ⟨_, List.mem_of_getElem? HJ.out, rfl⟩, fun e => HE.out (by injection e with e1 e2; exact ⟨e1, e2⟩), HN4.out, rfl, HB3.out⟩))
end Go.Proofs.Ytaekndhchdpobaa
