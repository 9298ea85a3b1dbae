
/-
  Layer 3: the document's set: Add.
-/
import Derived.Test.YtaekndhchdpobaaLrDrop
import Derived.Test.YtaekndhchdpobaaOrdL
import Derived.Test.YtaekndhchdpobaaRegion
set_option linter.unusedVariables false
set_option linter.unusedSimpArgs false
namespace Go.Proofs.Ytaekndhchdpobaa
open Go.RowKit Go.Maps Go.Lib

theorem step_append_both {P : Program} (w : World) {ops : Array Oper} {o : Oper} {a : Act} {K : Act → World → Prop} {Q : Exit → Act → World → Prop} {E : Prop} (hgd : o.guard = none) (s x : Operand) (t : TypeId)
    (ho : o.op = .call { callee := .builtin .append, args := #[s, x], argTypes := #[t, t] })
    (base : Nat) (e : TypeId) (i : TypeInfo) (z : Value) (size bytes : Nat) (ht : P.underlying t = some (.slice e)) (hi : P.info? e = some i) (hz : i.zero = some z)
    (hsize : i.size = size) (hby : i.bytes = bytes) (hzs : z.cells.size = size) (hsz : 0 < size)
    (v : Value) (n : Nat) (xs : List Value) (hs : a.eval s = v) (hown : w.ownsRow base e size v n xs)
    (B : Nat) (A : Option Addr) (m c : Nat) (news : List Value) (hx : a.eval x = .slice A m c) (hl : news.length = m * size) (hr : Rd w B A news) (h1 : ∀ u ∈ news, u.oneCell' = true)
    (h63 : n + m ≤ maxLen) (hbytes : (n + m) * bytes ≤ 140737488355328) (hbase : base ≤ w.heap.size)
    (h : ∀ v' w', w'.ownsRow base e size v' (n + m) (xs ++ news) → Below base w w' → w.grownBy w' v.ownBlock → (v'.ownBlock = v.ownBlock ∨ v'.ownBlock = some w.heap.size) → K (a.put o.dst v') w') :
    if Region.wanted o (yielded ops a.tmps) = true then Oper.wp P o a w K Q else E := by
  have hw : Region.wanted o (yielded ops a.tmps) = true := by simp [Region.wanted, hgd]
  rw [if_pos hw]
  exact wp_append_rd w s x t ho base e i z size bytes ht hi hz hsize hby hzs hsz v n xs hs hown B A m c news hx hl hr h1 h63 hbytes hbase fun v' w' h2 h3 h4 =>
    h v' w' h2 ((Below.refl _ _).grown h3 hbase fun k hk => (hown.lt k hk).1) h3 h4
/-- what Add does -/
def RAdd (w : World) (br B : Nat) (R : List One3) (s o n : Int) (row : Option Nat) (e : Ending) (w' : World) : Prop :=
  (Lx.standsB s o = false ∧ e = .returned (.int .i64 1) ∧ Below w.heap.size w w') ∨ (Lx.standsB s o = true ∧ (s, o) ∈ R.map kOf ∧ e = .returned (.int .i64 9) ∧ Below w.heap.size w w') ∨
  (Lx.standsB s o = true ∧ (s, o) ∉ R.map kOf ∧ e = .returned (.int .i64 0) ∧ ∃ v', RowAt w' br B v' (R ++ [(s, o, n)]) ∧ Fr w w' br row ∧ (v'.ownBlock = row ∨ ∀ g, v'.ownBlock = some g → w.heap.size ≤ g))
theorem PlcOf.mem {R : List One3} {s o k : Int} (h : PlcOf R s o k) : (k = -1 ∧ (s, o) ∉ R.map kOf) ∨ (0 ≤ k ∧ (s, o) ∈ R.map kOf) := by
  rcases h with h | ⟨j, n, rfl, hj⟩
  · exact .inl h
  · exact .inr ⟨by omega, List.mem_map.2 ⟨_, List.mem_of_getElem? hj, rfl⟩⟩
theorem ovs_one' (x : One3) : ∀ u ∈ encO x, u.oneCell' = true := by
  intro u hu
  simp only [encO, List.mem_cons, List.not_mem_nil, or_false] at hu
  rcases hu with rfl | rfl | rfl <;> rfl
theorem may_zero {s o : Int} : (Lx.mayB s o = false ∧ Lx.standsB s o = false) ∨ (Lx.mayB s o = true ∧ s = 0 ∧ Lx.standsB s o = false) ∨ (Lx.mayB s o = true ∧ (s == 0) = false ∧ Lx.standsB s o = true) := by
  unfold Lx.mayB Lx.noneB Lx.standsB
  by_cases h0 : s = 0 ∧ o = 0
  · refine .inr (.inl ⟨by simp [h0], h0.1, by simp; omega⟩)
  · by_cases h1 : 1 ≤ s ∧ s ≤ 16777215 ∧ 16 ≤ o ∧ o ≤ 16777216
    · exact .inr (.inr ⟨by simp [h1], by simp; omega, by simp [h1]⟩)
    · exact .inl ⟨by simp [h0, h1], by simp only [decide_eq_false_iff_not]; exact h1⟩

set_option maxRecDepth 100000 in
set_option maxHeartbeats 4000000 in
theorem radd_any {w : World} {br B : Nat} {v : Value} {R : List One3} (h : RowAt w br B v R) (hBw : B ≤ w.heap.size) (hR : R.length < 999990) {s o n : Int} (h0 : 0 ≤ s) (h1 : s < 4294967296) (h2 : 0 ≤ o) (h3 : o < 4294967296) (n0 : 0 ≤ n) (n1 : n < 18446744073709551616) :
    Calls Try.prog 11 #[.pointer (some ⟨br, 0, none⟩), lv s o, .int .u64 n] w (RAdd w br B R s o n v.ownBlock) := by
  have H0 := Lib.hid h
  have hlt := h.lt
  obtain ⟨i0, hi0, hz0, hz1, hz2⟩ := info_parts one_info
  have hbr : br < w.heap.size := block_of_cell h.cell
  have b0 := bnew w (.cells #[.int .u32 s, .int .u32 o] 31)
  have HX0 := Lib.hid (LBox.new w s o 31)
  have H0' := Lib.hid (H0.out.on b0)
  have HB0 := Lib.hid b0
  have hX : w.heap.size ≠ br := by omega
  clear h b0
  rcases may_zero (s := s) (o := o) with ⟨m1, m2⟩ | ⟨m1, m2, m3⟩ | ⟨m1, m2, m3⟩
  · have M2 := Lib.hid m2
    have M1 := Lib.hid m1
    clear m1 m2
    unfold lv
    go_enter Try.func11, Try.ntmps11
    go_wp2_with fail
    refine (r3may_b s o _ h0 h1 h2 h3 false M1.out).mono ?_
    rintro e w1 ⟨rfl, hw⟩
    go_wp2_with fail
    go_ret
    exact .inl ⟨M2.out, rfl, HB0.out.trans (hw.mono (Nat.le_of_lt (by simp)))⟩
  · subst m2
    have M1 := Lib.hid m1
    have M3 := Lib.hid m3
    clear m1 m3
    unfold lv
    go_enter Try.func11, Try.ntmps11
    go_wp2_with fail
    refine (r3may_b 0 o _ h0 h1 h2 h3 true M1.out).mono ?_
    rintro e w1 ⟨rfl, hw⟩
    obtain ⟨k1, k2, k3, k4, k5⟩ := HX0.out.on hw
    go_wp2_with fail
    go_ret
    exact .inl ⟨M3.out, rfl, bstep HB0.out hw⟩
  · have M1 := Lib.hid m1
    have M3 := Lib.hid m3
    clear m1 m3
    unfold lv
    go_enter Try.func11, Try.ntmps11
    go_wp2_with fail
    refine (r3may_b s o _ h0 h1 h2 h3 true M1.out).mono ?_
    rintro e w1 ⟨rfl, hw⟩
    have HX1 := Lib.hid (HX0.out.on hw)
    have H1 := Lib.hid (H0'.out.on hw)
    have HB1 := Lib.hid (bstep HB0.out hw)
    clear hw HX0 H0'
    obtain ⟨k1, k2, k3, k4, k5⟩ := HX1.out
    go_wp2_with fail
    refine (place_any H1.out).mono ?_
    rintro e w2 ⟨k, rfl, hp, hw2⟩
    have HX2 := Lib.hid (HX1.out.on hw2)
    have H2 := Lib.hid (H1.out.on hw2)
    have HB2 := Lib.hid (bstep HB1.out hw2)
    clear k1 k2 k3 k4 k5 hw2 HX1 H1 HB1
    rcases hp.mem with ⟨rfl, hni⟩ | ⟨hk, hin⟩
    · have HN := Lib.hid hni
      clear hni hp
      obtain ⟨k1, k2, k3, k4, k5⟩ := HX2.out
      go_wp2_with fail
      clear k1 k2 k3 k4 k5
      have hv1 : ∀ k, v.ownBlock = some k → k < w.heap.size := fun k hk => (H0.out.own.lt k hk).2
      have HSt : Hid (w2.drew.cell? ⟨br, 0, none⟩ = some v ∧ LBox w2.drew w.heap.size s o) := Lib.hid ⟨H2.out.cell, HX2.out⟩
      have HRow : Hid (RowAt w2.drew br B v R) := Lib.hid ⟨H2.out.cell, H2.out.own, H2.out.free, H2.out.lt, H2.out.big⟩
      have HBw : Hid (Below w.heap.size w w2.drew) := Lib.hid (bdrewN HB2.out 1)
      refine wp_region_noPanic ?_
      refine OrdL.wpL_region (fun w' => w'.cell? ⟨br, 0, none⟩ = some v ∧ LBox w' w.heap.size s o) 12 (by kernel_rfl) ?_
      clear H2 HX2 HB2
      generalize World.drew w2 = W at *
      have hHeld := HSt.out
      have hsW := HBw.out.size
      obtain ⟨W2, hW2⟩ : ∃ W2, W.alloc (.cells #[.int .u32 s, .int .u32 o, .int .u64 n] 45) = W2 := ⟨_, rfl⟩
      have bW : Below W.heap.size W W2 := by rw [← hW2]; exact bnew _ _
      have HSt2 : Hid (W2.cell? ⟨br, 0, none⟩ = some v ∧ LBox W2 w.heap.size s o) := Lib.hid ⟨(bW.cell (p := ⟨br, 0, none⟩) (by show br < _; omega)).trans HSt.out.1, HSt.out.2.on bW⟩
      have HF2 : Hid (W2.frozen? ⟨br, 0, none⟩ = false) := Lib.hid ((World.frozen?_of_block (a := ⟨br, 0, none⟩) (bW.block br (by omega))).trans HRow.out.free)
      have HO2 : Hid (W2.ownsRow B 45 3 v R.length (ovs R)) := Lib.hid (own_below HRow.out.own bW (Nat.le_refl _))
      have HR2 : Hid (Rd W2 W2.heap.size (some ⟨W.heap.size, 0, none⟩) (encO (s, o, n))) := Lib.hid (fun _ => ⟨W.heap.size, 0, rfl, by rw [← hW2]; simp, fun j u hu => by
        rw [← hW2, Nat.zero_add, World.cell?_alloc_new]
        simpa [encO] using hu⟩)
      have hB2 : B ≤ W2.heap.size := by have := bW.size; omega
      have hvX : ∀ k, v.ownBlock = some k → k < w.heap.size := hv1
      have HW2 := Lib.hid hW2
      have HBW := Lib.hid (HBw.out.trans (bW.mono hsW))
      clear hW2 bW hv1
      refine OrdL.wpL_take (i := 0) (v := ?_) opAt_0 [] (by kernel_rfl) (by kernel_rfl) (by kernel_rfl) (by kernel_rfl) (by kernel_rfl) (by kernel_rfl) (fun _ _ _ h => h) (Or.inl ⟨by rfl, ?_⟩) hHeld ?_
      rotate_left
      · (intro w' hSw; obtain ⟨k0, k1, k2, k3, k4, k5⟩ := hSw; go_simp; try with_reducible rfl)
      try simp only [Act.put, List.setIfInBounds_toArray, List.set_cons_zero, List.set_cons_succ]
      refine OrdL.wpL_take (i := 1) (v := ?_) opAt_1 [] (by kernel_rfl) (by kernel_rfl) (by kernel_rfl) (by kernel_rfl) (by kernel_rfl) (by kernel_rfl) (fun _ _ _ h => h) (Or.inl ⟨by rfl, ?_⟩) hHeld ?_
      rotate_left
      · (intro w' hSw; obtain ⟨k0, k1, k2, k3, k4, k5⟩ := hSw; go_simp; try with_reducible rfl)
      try simp only [Act.put, List.setIfInBounds_toArray, List.set_cons_zero, List.set_cons_succ]
      refine OrdL.wpL_take (i := 2) (v := ?_) opAt_2 [] (by kernel_rfl) (by kernel_rfl) (by kernel_rfl) (by kernel_rfl) (by kernel_rfl) (by kernel_rfl) (fun _ _ _ h => h) (Or.inl ⟨by rfl, ?_⟩) hHeld ?_
      rotate_left
      · (intro w' hSw; obtain ⟨k0, k1, k2, k3, k4, k5⟩ := hSw; go_simp; try with_reducible rfl)
      try simp only [Act.put, List.setIfInBounds_toArray, List.set_cons_zero, List.set_cons_succ]
      refine OrdL.wpL_take (i := 3) (v := ?_) opAt_3 [] (by kernel_rfl) (by kernel_rfl) (by kernel_rfl) (by kernel_rfl) (by kernel_rfl) (by kernel_rfl) (fun _ _ _ h => h) (Or.inl ⟨by rfl, ?_⟩) hHeld ?_
      rotate_left
      · (intro w' hSw; obtain ⟨k0, k1, k2, k3, k4, k5⟩ := hSw; go_simp; try with_reducible rfl)
      try simp only [Act.put, List.setIfInBounds_toArray, List.set_cons_zero, List.set_cons_succ]
      refine OrdL.wpL_take (i := 4) (v := ?_) opAt_4 [] (by kernel_rfl) (by kernel_rfl) (by kernel_rfl) (by kernel_rfl) (by kernel_rfl) (by kernel_rfl) (fun _ _ _ h => h) (Or.inl ⟨by rfl, ?_⟩) hHeld ?_
      rotate_left
      · (intro w' hSw; obtain ⟨k0, k1, k2, k3, k4, k5⟩ := hSw; go_simp; try with_reducible rfl)
      try simp only [Act.put, List.setIfInBounds_toArray, List.set_cons_zero, List.set_cons_succ]
      refine OrdL.wpL_take (i := 5) (v := ?_) opAt_5 [] (by kernel_rfl) (by kernel_rfl) (by kernel_rfl) (by kernel_rfl) (by kernel_rfl) (by kernel_rfl) (fun _ _ _ h => h) (Or.inl ⟨by rfl, ?_⟩) hHeld ?_
      rotate_left
      · (intro w' hSw; obtain ⟨k0, k1, k2, k3, k4, k5⟩ := hSw; go_simp; try with_reducible rfl)
      try simp only [Act.put, List.setIfInBounds_toArray, List.set_cons_zero, List.set_cons_succ]
      refine OrdL.wpL_take (i := 6) (v := ?_) opAt_6 [] (by kernel_rfl) (by kernel_rfl) (by kernel_rfl) (by kernel_rfl) (by kernel_rfl) (by kernel_rfl) (fun _ _ _ h => h) (Or.inl ⟨by rfl, ?_⟩) hHeld ?_
      rotate_left
      · (intro w' hSw; obtain ⟨k0, k1, k2, k3, k4, k5⟩ := hSw; go_simp; try with_reducible rfl)
      try simp only [Act.put, List.setIfInBounds_toArray, List.set_cons_zero, List.set_cons_succ]
      refine OrdL.wpL_take (i := 7) (v := ?_) opAt_7 [] (by kernel_rfl) (by kernel_rfl) (by kernel_rfl) (by kernel_rfl) (by kernel_rfl) (by kernel_rfl) (fun _ _ _ h => h) (Or.inl ⟨by rfl, ?_⟩) hHeld ?_
      rotate_left
      · (intro w' hSw; obtain ⟨k0, k1, k2, k3, k4, k5⟩ := hSw; go_simp; try with_reducible rfl)
      try simp only [Act.put, List.setIfInBounds_toArray, List.set_cons_zero, List.set_cons_succ]
      refine OrdL.wpL_ready (rs := [8]) (by kernel_rfl) (by simp) ?_
      refine OrdL.AllL.cons rfl (fun K hK => ?_) OrdL.AllL.nil
      obtain ⟨k0, k1, k2, k3, k4, k5⟩ := hHeld
      go_simp
      clear k0 k1 k2 k3 k4 k5
      rw [HW2.out]
      refine hK.out _ _ (fun _ => HSt2.out) ?_
      clear hK K
      try simp only [Act.put, List.setIfInBounds_toArray, List.set_cons_zero, List.set_cons_succ]
      have hHeld := HSt2.out
      refine OrdL.wpL_ready (rs := [9]) (by kernel_rfl) (by simp) ?_
      refine OrdL.AllL.cons rfl (fun K hK => ?_) OrdL.AllL.nil
      refine step_append_both (o := (⟨some 28, _, _, _, _, _⟩ : Oper)) W2 rfl (.tmp 23) (.tmp 27) 26 rfl B 45 i0 (.agg #[.int .u32 0, .int .u32 0, .int .u64 0]) 3 16 Try.underlying26 hi0 hz0 hz1 hz2 rfl (by omega) v R.length (ovs R) rfl HO2.out W2.heap.size (some ⟨W.heap.size, 0, none⟩) 1 1 (encO (s, o, n)) rfl rfl HR2.out (ovs_one' _) (by unfold maxLen; omega) (by omega) hB2 ?_
      intro v3 w3 hown3 hb3 hgr3 hob3
      obtain ⟨A3, c3, rfl, _, _, _⟩ := own_slice hown3
      dsimp only [Act.put, Array.getElem_toList, List.getElem_toArray, List.getElem_cons_succ, List.getElem_cons_zero]
      have hc3 : w3.cell? ⟨br, 0, none⟩ = some v := (hb3.cell (p := ⟨br, 0, none⟩) hlt).trans HSt2.out.1
      have hf3 : w3.frozen? ⟨br, 0, none⟩ = false := (World.frozen?_of_block (a := ⟨br, 0, none⟩) (hb3.block br hlt)).trans HF2.out
      have hx3 := HSt2.out.2.grown hgr3 (fun k hk e => by have := hvX k hk; omega)
      have HSt3 := Lib.hid (show w3.cell? ⟨br, 0, none⟩ = some v ∧ LBox w3 w.heap.size s o from ⟨hc3, hx3⟩)
      have HF3 := Lib.hid hf3
      have HO3 := Lib.hid hown3
      have HB3 := Lib.hid hb3
      have HG3 := Lib.hid hgr3
      have HV3 := Lib.hid hob3
      clear hob3 hown3 hb3 hgr3 hc3 hf3 hx3 hHeld
      refine hK.out _ _ (fun _ => HSt3.out) ?_
      clear hK K
      try simp only [Act.put, List.setIfInBounds_toArray, List.set_cons_zero, List.set_cons_succ]
      have hHeld := HSt3.out
      refine OrdL.wpL_take (i := 10) (v := ?_) opAt_10 [11] (by kernel_rfl) (by kernel_rfl) (by kernel_rfl) (by kernel_rfl) (by kernel_rfl) (by kernel_rfl) (fun _ _ _ h => h) (Or.inl ⟨by rfl, ?_⟩) hHeld ?_
      rotate_left
      · (intro w' hSw; obtain ⟨k0, k1, k2, k3, k4, k5⟩ := hSw; go_simp; try with_reducible rfl)
      try simp only [Act.put, List.setIfInBounds_toArray, List.set_cons_zero, List.set_cons_succ]
      refine OrdL.wpL_take (i := 11) (v := ?_) opAt_11 [] (by kernel_rfl) (by kernel_rfl) (by kernel_rfl) (by kernel_rfl) (by kernel_rfl) (by kernel_rfl) (fun _ _ _ h => h) (Or.inl ⟨by rfl, ?_⟩) hHeld ?_
      rotate_left
      · (intro w' hSw; obtain ⟨k0, k1, k2, k3, k4, k5⟩ := hSw; go_simp; try with_reducible rfl)
      try simp only [Act.put, List.setIfInBounds_toArray, List.set_cons_zero, List.set_cons_succ]
      refine OrdL.wpL_ready (rs := [12]) (by kernel_rfl) (by simp) ?_
      refine OrdL.AllL.cons rfl (fun K hK => ?_) OrdL.AllL.nil
      obtain ⟨k0, k1, k2, k3, k4, k5⟩ := hHeld
      have kf := HF3.out
      go_simp
      refine hK.out _ _ (fun h => absurd h (by decide)) ?_
      clear hK K k1 k2 k3 k4 k5
      try simp only [Act.put, List.setIfInBounds_toArray, List.set_cons_zero, List.set_cons_succ]
      refine OrdL.wpL_done (by kernel_rfl) ?_ _
      refine NoPanic.normal ?_
      go_wp2_with fail
      go_ret
      have hlen : (R ++ [(s, o, n)]).length = R.length + 1 := by simp
      have hlt3 : w.heap.size ≤ w3.heap.size := by have := HB3.out.size; have := HBW.out.size; omega
      have hown4 : w3.ownsRow B 45 3 (.slice A3 (R.length + 1) c3) (R ++ [(s, o, n)]).length (ovs (R ++ [(s, o, n)])) := by
        rw [hlen, ovs_append]
        have e : ovs [(s, o, n)] = encO (s, o, n) := by simp [ovs]
        rw [e]
        exact HO3.out
      have hg := grownBy_setCell' w3 br (.slice A3 (R.length + 1) c3)
      refine .inr (.inr ⟨M3.out, HN.out, rfl, .slice A3 (R.length + 1) c3, ⟨World.cell?_setCell_same _ _ _ HSt3.out.1, ?_, ?_, hlt, by rw [hlen]; omega⟩, ?_, ?_⟩)
      · exact own_grown hown4 hg (fun k hk e => by have := (hown4.lt k hk).1; injection e with e; omega)
      · rw [World.frozen?_setCell]; exact HF3.out
      · refine ⟨hg.os.trans (HB3.out.os.trans HBW.out.os), hg.tape.trans (HB3.out.tape.trans HBW.out.tape), hg.output.trans (HB3.out.output.trans HBW.out.output), Nat.le_trans hlt3 hg.size, ?_⟩
        intro i hi hne hrow
        exact ((hg.block i (by omega) (fun e => hne (by injection e))).trans (HG3.out.block i (by have := HBW.out.size; omega) (fun e => hrow e.symm))).trans (HBW.out.block i hi)
      · rcases HV3.out with h | h
        · exact .inl h
        · exact .inr (fun g hg => by rw [h] at hg; injection hg with hg; have := HBW.out.size; omega)
    · have HN := Lib.hid hin
      clear hin hp m2
      obtain ⟨k1, k2, k3, k4, k5⟩ := HX2.out
      go_wp2_with fail
      go_ret
      exact .inr (.inl ⟨M3.out, HN.out, rfl, HB2.out⟩)
end Go.Proofs.Ytaekndhchdpobaa
