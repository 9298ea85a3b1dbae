
/-
  The walk of the law LocOrder: it returns true, and writes nothing that was there.
-/
import Derived.Test.YtikdpldfklbdoaaLxForm
import Derived.Test.YtikdpldfklbdoaaLxWakes
import Derived.Deep.RegionWith
import Derived.Deep.DeepCutAuto
import Derived.Deep.DrawnRows
set_option linter.unusedVariables false
set_option linter.unusedSimpArgs false
namespace Go.Proofs.Ytikdpldfklbdoaa
open Go.RowKit

/-- block n holds the loc (s, o) -/
def LBox (w : World) (n : Nat) (s o : Int) : Prop := w.cell? ⟨n, 0, none⟩ = some (.int .u32 s) ∧ w.cell? ⟨n, 1, none⟩ = some (.int .u32 o) ∧ w.frozen? ⟨n, 0, none⟩ = false ∧ w.frozen? ⟨n, 1, none⟩ = false ∧ n < w.heap.size
theorem LBox.on {w w' : World} {n : Nat} {s o : Int} (h : LBox w n s o) (hb : Below w.heap.size w w') : LBox w' n s o :=
  ⟨(hb.cell h.2.2.2.2).trans h.1, (hb.cell h.2.2.2.2).trans h.2.1, (hb.frozen h.2.2.2.2).trans h.2.2.1, (hb.frozen h.2.2.2.2).trans h.2.2.2.1, Nat.lt_of_lt_of_le h.2.2.2.2 hb.size⟩
theorem LBox.new (w : World) (s o : Int) (t : TypeId) : LBox (w.alloc (.cells #[.int .u32 s, .int .u32 o] t)) w.heap.size s o := by
  refine ⟨by simp, by simp, by simp, by simp, by simp⟩

theorem LBox.drew {w : World} {n : Nat} {s o : Int} (h : LBox w n s o) : LBox w.drew n s o := h
theorem LBox.new2 (w : World) (b : Obj) (s o : Int) (t : TypeId) : LBox ((w.alloc b).alloc (.cells #[.int .u32 s, .int .u32 o] t)) (w.heap.size + 1) s o := by
  have h := LBox.new (w.alloc b) s o t
  rw [World.size_alloc] at h
  exact h
/-- a loc laid into its box -/
theorem LBox.set {w : World} {n : Nat} {s o : Int} (h : LBox w n s o) (s' o' : Int) : LBox ((w.setCell ⟨n, 0, none⟩ (.int .u32 s')).setCell ⟨n, 1, none⟩ (.int .u32 o')) n s' o' := by
  obtain ⟨c0, c1, f0, f1, hz⟩ := h
  refine ⟨?_, ?_, ?_, ?_, ?_⟩
  · rw [World.cell?_setCell_other _ _ _ _ (by intro e; injection e with e1 e2; omega)]
    exact World.cell?_setCell_same _ _ _ c0
  · exact World.cell?_setCell_same _ _ _ ((World.cell?_setCell_other w ⟨n, 0, none⟩ ⟨n, 1, none⟩ _ (by intro e; injection e with e1 e2; omega)).trans c1)
  · rw [World.frozen?_setCell, World.frozen?_setCell]; exact f0
  · rw [World.frozen?_setCell, World.frozen?_setCell]; exact f1
  · simpa using hz
theorem LBox.set_other {w : World} {n m : Nat} {s o : Int} (h : LBox w n s o) (hn : n ≠ m) (s' o' : Int) : LBox ((w.setCell ⟨m, 0, none⟩ (.int .u32 s')).setCell ⟨m, 1, none⟩ (.int .u32 o')) n s o := by
  obtain ⟨c0, c1, f0, f1, hz⟩ := h
  refine ⟨?_, ?_, ?_, ?_, ?_⟩
  · rw [World.cell?_setCell_other _ _ _ _ (by intro e; injection e with e1 e2; omega), World.cell?_setCell_other _ _ _ _ (by intro e; injection e with e1 e2; omega)]
    exact c0
  · rw [World.cell?_setCell_other _ _ _ _ (by intro e; injection e with e1 e2; omega), World.cell?_setCell_other _ _ _ _ (by intro e; injection e with e1 e2; omega)]
    exact c1
  · rw [World.frozen?_setCell, World.frozen?_setCell]; exact f0
  · rw [World.frozen?_setCell, World.frozen?_setCell]; exact f1
  · simpa using hz

namespace locOrder
attribute [local go_sem ↓] Go.wp_at_zero Go.wp_at_succ

set_option maxRecDepth 100000 in
set_option maxHeartbeats 8000000 in
theorem walk (s1 o1 s2 o2 : Int) (w : World) (p1 : 0 ≤ s1 ∧ s1 < 4294967296) (q1 : 0 ≤ o1 ∧ o1 < 4294967296) (p2 : 0 ≤ s2 ∧ s2 < 4294967296) (q2 : 0 ≤ o2 ∧ o2 < 4294967296) :
    Calls Try.prog 6 #[lv s1 o1, lv s2 o2] w fun e w' => e = .returned (.bool true) ∧ Below w.heap.size w w' := by
  obtain ⟨p1, p1'⟩ := p1
  obtain ⟨q1, q1'⟩ := q1
  obtain ⟨p2, p2'⟩ := p2
  obtain ⟨q2, q2'⟩ := q2
  unfold lv
  go_enter Try.func6, Try.ntmps6
  go_upto_region 1 with fail
  go_cut [17] (fun _ wx => LBox wx w.heap.size (1 + s1 % 16777215) (16 + o1 % 16777201) ∧ LBox wx (w.heap.size + 1) (1 + s2 % 16777215) (16 + o2 % 16777201) ∧ Below w.heap.size w wx)
  case first =>
    refine wp_region_noPanic ?_
    refine wp_region_held_drew (S := fun _ => True) (by kernel_rfl) trivial (fun _ => ?_)
    have bb : Hid (Below w.heap.size w _) := (balloc (bnew w (.cells #[.int .u32 s1, .int .u32 o1] 24)) (.cells #[.int .u32 s2, .int .u32 o2] 24)).drew
    have HA : Hid (LBox _ w.heap.size s1 o1) := ((LBox.new w s1 o1 24).on (bnew _ (.cells #[.int .u32 s2, .int .u32 o2] 24))).drew
    have HB : Hid (LBox _ (w.heap.size + 1) s2 o2) := (LBox.new2 w (.cells #[.int .u32 s1, .int .u32 o1] 24) s2 o2 24).drew
    generalize World.drew _ = W0 at *
    refine wpAnyH_ready (rs := [0, 2]) (by kernel_rfl) (by simp) ?_
    refine AllReadyH.cons rfl (fun K hK => ?_) (AllReadyH.cons rfl (fun K hK => ?_) AllReadyH.nil)
    · obtain ⟨c0, c1, f0, f1, hz⟩ := HA.out
      go_simp
      refine hK.out _ _ trivial (fun _ => ?_)
      clear hK K c0 c1 f0 f1 hz
      try simp only [Act.put, List.setIfInBounds_toArray, List.set_cons_zero, List.set_cons_succ]
      refine wpAnyH_ready (rs := [1, 2]) (by kernel_rfl) (by simp) ?_
      refine AllReadyH.cons rfl (fun K hK => ?_) (AllReadyH.cons rfl (fun K hK => ?_) AllReadyH.nil)
      · go_simp
        refine (brought_any _ _ _ p1 p1' q1 q1').mono ?_
        rintro e wn ⟨rfl, hb⟩
        replace bb := Lib.hid (bstep bb.out hb)
        replace HA := Lib.hid (HA.out.on hb)
        replace HB := Lib.hid (HB.out.on hb)
        clear hb
        unfold lv
        go_wp2_with fail
        refine hK.out _ _ trivial (fun _ => ?_)
        clear hK K
        try simp only [Act.put, List.setIfInBounds_toArray, List.set_cons_zero, List.set_cons_succ]
        refine wpAnyH_ready (rs := [2]) (by kernel_rfl) (by simp) ?_
        refine AllReadyH.cons rfl (fun K hK => ?_) AllReadyH.nil
        obtain ⟨c0, c1, f0, f1, hz⟩ := HB.out
        go_simp
        refine hK.out _ _ trivial (fun _ => ?_)
        clear hK K c0 c1 f0 f1 hz
        try simp only [Act.put, List.setIfInBounds_toArray, List.set_cons_zero, List.set_cons_succ]
        refine wpAnyH_ready (rs := [3]) (by kernel_rfl) (by simp) ?_
        refine AllReadyH.cons rfl (fun K hK => ?_) AllReadyH.nil
        go_simp
        refine (brought_any _ _ _ p2 p2' q2 q2').mono ?_
        rintro e wn ⟨rfl, hb⟩
        replace bb := Lib.hid (bstep bb.out hb)
        replace HA := Lib.hid (HA.out.on hb)
        replace HB := Lib.hid (HB.out.on hb)
        clear hb
        unfold lv
        go_wp2_with fail
        refine hK.out _ _ trivial (fun _ => ?_)
        clear hK K
        try simp only [Act.put, List.setIfInBounds_toArray, List.set_cons_zero, List.set_cons_succ]
        refine wpAnyH_ready (rs := [4]) (by kernel_rfl) (by simp) ?_
        refine AllReadyH.cons rfl (fun K hK => ?_) AllReadyH.nil
        obtain ⟨c0, c1, f0, f1, hz⟩ := HA.out
        go_simp
        refine hK.out _ _ trivial (fun _ => ?_)
        clear hK K c0 c1 f0 f1 hz
        replace bb := Lib.hid ((bb.out.setCell (p := ⟨w.heap.size, 0, none⟩) (Nat.le_refl _) (.int .u32 (1 + s1 % 16777215))).setCell (p := ⟨w.heap.size, 1, none⟩) (Nat.le_refl _) (.int .u32 (16 + o1 % 16777201)))
        replace HB := Lib.hid (HB.out.set_other (m := w.heap.size) (by omega) (1 + s1 % 16777215) (16 + o1 % 16777201))
        replace HA := Lib.hid (HA.out.set (1 + s1 % 16777215) (16 + o1 % 16777201))
        generalize World.setCell (World.setCell _ _ _) _ _ = W4 at *
        refine wpAnyH_ready (rs := [5]) (by kernel_rfl) (by simp) ?_
        refine AllReadyH.cons rfl (fun K hK => ?_) AllReadyH.nil
        obtain ⟨c0, c1, f0, f1, hz⟩ := HB.out
        go_simp
        refine hK.out _ _ trivial (fun _ => ?_)
        clear hK K c0 c1 f0 f1 hz
        refine wpAnyH_done (by kernel_rfl) ?_ _
        refine NoPanic.normal ?_
        replace bb := Lib.hid ((bb.out.setCell (p := ⟨w.heap.size + 1, 0, none⟩) (Nat.le_succ _) (.int .u32 (1 + s2 % 16777215))).setCell (p := ⟨w.heap.size + 1, 1, none⟩) (Nat.le_succ _) (.int .u32 (16 + o2 % 16777201)))
        replace HA := Lib.hid (HA.out.set_other (m := w.heap.size + 1) (by omega) (1 + s2 % 16777215) (16 + o2 % 16777201))
        replace HB := Lib.hid (HB.out.set (1 + s2 % 16777215) (16 + o2 % 16777201))
        generalize World.setCell (World.setCell _ _ _) _ _ = W5 at *
        go_wp2_with fail
        go_meet
        exact ⟨HA.out, HB.out, bb.out⟩
      · obtain ⟨c0, c1, f0, f1, hz⟩ := HB.out
        go_simp
        refine hK.out _ _ trivial (fun _ => ?_)
        clear hK K c0 c1 f0 f1 hz
        try simp only [Act.put, List.setIfInBounds_toArray, List.set_cons_zero, List.set_cons_succ]
        refine wpAnyH_ready (rs := [1]) (by kernel_rfl) (by simp) ?_
        refine AllReadyH.cons rfl (fun K hK => ?_) AllReadyH.nil
        go_simp
        refine (brought_any _ _ _ p1 p1' q1 q1').mono ?_
        rintro e wn ⟨rfl, hb⟩
        replace bb := Lib.hid (bstep bb.out hb)
        replace HA := Lib.hid (HA.out.on hb)
        replace HB := Lib.hid (HB.out.on hb)
        clear hb
        unfold lv
        go_wp2_with fail
        refine hK.out _ _ trivial (fun _ => ?_)
        clear hK K
        try simp only [Act.put, List.setIfInBounds_toArray, List.set_cons_zero, List.set_cons_succ]
        refine wpAnyH_ready (rs := [3]) (by kernel_rfl) (by simp) ?_
        refine AllReadyH.cons rfl (fun K hK => ?_) AllReadyH.nil
        go_simp
        refine (brought_any _ _ _ p2 p2' q2 q2').mono ?_
        rintro e wn ⟨rfl, hb⟩
        replace bb := Lib.hid (bstep bb.out hb)
        replace HA := Lib.hid (HA.out.on hb)
        replace HB := Lib.hid (HB.out.on hb)
        clear hb
        unfold lv
        go_wp2_with fail
        refine hK.out _ _ trivial (fun _ => ?_)
        clear hK K
        try simp only [Act.put, List.setIfInBounds_toArray, List.set_cons_zero, List.set_cons_succ]
        refine wpAnyH_ready (rs := [4]) (by kernel_rfl) (by simp) ?_
        refine AllReadyH.cons rfl (fun K hK => ?_) AllReadyH.nil
        obtain ⟨c0, c1, f0, f1, hz⟩ := HA.out
        go_simp
        refine hK.out _ _ trivial (fun _ => ?_)
        clear hK K c0 c1 f0 f1 hz
        replace bb := Lib.hid ((bb.out.setCell (p := ⟨w.heap.size, 0, none⟩) (Nat.le_refl _) (.int .u32 (1 + s1 % 16777215))).setCell (p := ⟨w.heap.size, 1, none⟩) (Nat.le_refl _) (.int .u32 (16 + o1 % 16777201)))
        replace HB := Lib.hid (HB.out.set_other (m := w.heap.size) (by omega) (1 + s1 % 16777215) (16 + o1 % 16777201))
        replace HA := Lib.hid (HA.out.set (1 + s1 % 16777215) (16 + o1 % 16777201))
        generalize World.setCell (World.setCell _ _ _) _ _ = W4 at *
        refine wpAnyH_ready (rs := [5]) (by kernel_rfl) (by simp) ?_
        refine AllReadyH.cons rfl (fun K hK => ?_) AllReadyH.nil
        obtain ⟨c0, c1, f0, f1, hz⟩ := HB.out
        go_simp
        refine hK.out _ _ trivial (fun _ => ?_)
        clear hK K c0 c1 f0 f1 hz
        refine wpAnyH_done (by kernel_rfl) ?_ _
        refine NoPanic.normal ?_
        replace bb := Lib.hid ((bb.out.setCell (p := ⟨w.heap.size + 1, 0, none⟩) (Nat.le_succ _) (.int .u32 (1 + s2 % 16777215))).setCell (p := ⟨w.heap.size + 1, 1, none⟩) (Nat.le_succ _) (.int .u32 (16 + o2 % 16777201)))
        replace HA := Lib.hid (HA.out.set_other (m := w.heap.size + 1) (by omega) (1 + s2 % 16777215) (16 + o2 % 16777201))
        replace HB := Lib.hid (HB.out.set (1 + s2 % 16777215) (16 + o2 % 16777201))
        generalize World.setCell (World.setCell _ _ _) _ _ = W5 at *
        go_wp2_with fail
        go_meet
        exact ⟨HA.out, HB.out, bb.out⟩
    · obtain ⟨c0, c1, f0, f1, hz⟩ := HB.out
      go_simp
      refine hK.out _ _ trivial (fun _ => ?_)
      clear hK K c0 c1 f0 f1 hz
      try simp only [Act.put, List.setIfInBounds_toArray, List.set_cons_zero, List.set_cons_succ]
      refine wpAnyH_ready (rs := [0]) (by kernel_rfl) (by simp) ?_
      refine AllReadyH.cons rfl (fun K hK => ?_) AllReadyH.nil
      obtain ⟨c0, c1, f0, f1, hz⟩ := HA.out
      go_simp
      refine hK.out _ _ trivial (fun _ => ?_)
      clear hK K c0 c1 f0 f1 hz
      try simp only [Act.put, List.setIfInBounds_toArray, List.set_cons_zero, List.set_cons_succ]
      refine wpAnyH_ready (rs := [1]) (by kernel_rfl) (by simp) ?_
      refine AllReadyH.cons rfl (fun K hK => ?_) AllReadyH.nil
      go_simp
      refine (brought_any _ _ _ p1 p1' q1 q1').mono ?_
      rintro e wn ⟨rfl, hb⟩
      replace bb := Lib.hid (bstep bb.out hb)
      replace HA := Lib.hid (HA.out.on hb)
      replace HB := Lib.hid (HB.out.on hb)
      clear hb
      unfold lv
      go_wp2_with fail
      refine hK.out _ _ trivial (fun _ => ?_)
      clear hK K
      try simp only [Act.put, List.setIfInBounds_toArray, List.set_cons_zero, List.set_cons_succ]
      refine wpAnyH_ready (rs := [3]) (by kernel_rfl) (by simp) ?_
      refine AllReadyH.cons rfl (fun K hK => ?_) AllReadyH.nil
      go_simp
      refine (brought_any _ _ _ p2 p2' q2 q2').mono ?_
      rintro e wn ⟨rfl, hb⟩
      replace bb := Lib.hid (bstep bb.out hb)
      replace HA := Lib.hid (HA.out.on hb)
      replace HB := Lib.hid (HB.out.on hb)
      clear hb
      unfold lv
      go_wp2_with fail
      refine hK.out _ _ trivial (fun _ => ?_)
      clear hK K
      try simp only [Act.put, List.setIfInBounds_toArray, List.set_cons_zero, List.set_cons_succ]
      refine wpAnyH_ready (rs := [4]) (by kernel_rfl) (by simp) ?_
      refine AllReadyH.cons rfl (fun K hK => ?_) AllReadyH.nil
      obtain ⟨c0, c1, f0, f1, hz⟩ := HA.out
      go_simp
      refine hK.out _ _ trivial (fun _ => ?_)
      clear hK K c0 c1 f0 f1 hz
      replace bb := Lib.hid ((bb.out.setCell (p := ⟨w.heap.size, 0, none⟩) (Nat.le_refl _) (.int .u32 (1 + s1 % 16777215))).setCell (p := ⟨w.heap.size, 1, none⟩) (Nat.le_refl _) (.int .u32 (16 + o1 % 16777201)))
      replace HB := Lib.hid (HB.out.set_other (m := w.heap.size) (by omega) (1 + s1 % 16777215) (16 + o1 % 16777201))
      replace HA := Lib.hid (HA.out.set (1 + s1 % 16777215) (16 + o1 % 16777201))
      generalize World.setCell (World.setCell _ _ _) _ _ = W4 at *
      refine wpAnyH_ready (rs := [5]) (by kernel_rfl) (by simp) ?_
      refine AllReadyH.cons rfl (fun K hK => ?_) AllReadyH.nil
      obtain ⟨c0, c1, f0, f1, hz⟩ := HB.out
      go_simp
      refine hK.out _ _ trivial (fun _ => ?_)
      clear hK K c0 c1 f0 f1 hz
      refine wpAnyH_done (by kernel_rfl) ?_ _
      refine NoPanic.normal ?_
      replace bb := Lib.hid ((bb.out.setCell (p := ⟨w.heap.size + 1, 0, none⟩) (Nat.le_succ _) (.int .u32 (1 + s2 % 16777215))).setCell (p := ⟨w.heap.size + 1, 1, none⟩) (Nat.le_succ _) (.int .u32 (16 + o2 % 16777201)))
      replace HA := Lib.hid (HA.out.set_other (m := w.heap.size + 1) (by omega) (1 + s2 % 16777215) (16 + o2 % 16777201))
      replace HB := Lib.hid (HB.out.set (1 + s2 % 16777215) (16 + o2 % 16777201))
      generalize World.setCell (World.setCell _ _ _) _ _ = W5 at *
      go_wp2_with fail
      go_meet
      exact ⟨HA.out, HB.out, bb.out⟩
  case rest =>
    obtain ⟨A1, B1, b1⟩ := hcut
    have hS1 := Lx.Std.brought s1 o1 p1 q1
    have hS2 := Lx.Std.brought s2 o2 p2 q2
    generalize 1 + s1 % 16777215 = x1 at *
    generalize 16 + o1 % 16777201 = y1 at *
    generalize 1 + s2 % 16777215 = x2 at *
    generalize 16 + o2 % 16777201 = y2 at *
    clear p1 p1' q1 q1' p2 p2' q2 q2'
    have HA := Lib.hid A1
    have HB := Lib.hid B1
    have bb := Lib.hid b1
    have hlt := hS1.lt hS2
    have hcl := Lx.cmpL_le x1 y1 x2 y2
    have hcm := Lib.hid (hS1.cmp hS2)
    have hcn := Lib.hid (Lx.cmpL_neg x1 y1 x2 y2)
    have HN1 := Lib.hid hS1.pkN
    have HE1 := Lib.hid hS1.pkE
    have HN2 := Lib.hid hS2.pkN
    have HE2 := Lib.hid hS2.pkE
    have HR1 := Lib.hid (hS1.putR [])
    have HR2 := Lib.hid (hS2.putR [])
    have Hab := Lib.hid hS1.above
    have Hfi := Lib.hid hS1.first
    have hd1 := hS1
    have hd2 := hS2
    unfold Lx.Std at hd1 hd2
    obtain ⟨m1, m2, m3, m4⟩ := hd1
    obtain ⟨k1, k2, k3, k4⟩ := hd2
    clear hS1 hS2 A1 B1 b1
    generalize hc : Lx.cmpL x1 y1 x2 y2 = c at *
    have Hc := Lib.hid hc
    have g1 : decide (c < 0) = decide (x1 * 4294967296 + y1 < x2 * 4294967296 + y2) := by rw [Bool.eq_iff_iff]; simp; exact hlt.1
    have g2 : (c == 0) = (x1 * 4294967296 + y1 == x2 * 4294967296 + y2) := by rw [Bool.eq_iff_iff]; simp; exact hlt.2
    have n1b : 0 ≤ x1 * 4294967296 + y1 ∧ x1 * 4294967296 + y1 < 18446744073709551616 := by omega
    have n2b : 0 ≤ x2 * 4294967296 + y2 ∧ x2 * 4294967296 + y2 < 18446744073709551616 := by omega
    generalize x1 * 4294967296 + y1 = N1 at *
    generalize x2 * 4294967296 + y2 = N2 at *
    have G1 := Lib.hid g1
    have G2 := Lib.hid g2
    clear hc hlt g1 g2
    -- pack a
    obtain ⟨c0, c1, f0, f1, hz⟩ := HA.out
    go_wp2_with fail
    refine (pack_any x1 y1 _ (by omega) (by omega) (by omega) (by omega)).mono ?_
    rintro e w2 ⟨rfl, hb⟩
    rw [HN1.out, HE1.out]
    replace bb := Lib.hid (bstep bb.out hb)
    replace HA := Lib.hid (HA.out.on hb)
    replace HB := Lib.hid (HB.out.on hb)
    clear hb c0 c1 f0 f1 hz
    -- pack b
    obtain ⟨c0, c1, f0, f1, hz⟩ := HB.out
    go_wp2_with fail
    refine (pack_any x2 y2 _ (by omega) (by omega) (by omega) (by omega)).mono ?_
    rintro e w3 ⟨rfl, hb⟩
    rw [HN2.out, HE2.out]
    replace bb := Lib.hid (bstep bb.out hb)
    replace HA := Lib.hid (HA.out.on hb)
    replace HB := Lib.hid (HB.out.on hb)
    clear hb c0 c1 f0 f1 hz
    -- put a
    obtain ⟨c0, c1, f0, f1, hz⟩ := HA.out
    go_wp2_with fail
    refine (lput_any _ [] x1 y1 _ Bs.none_ (by omega) (by omega) (by omega) (by omega) (by simp)).mono ?_
    rintro e w4 ⟨rx, rfl, hsx, hb⟩
    rw [HE1.out]
    rw [HR1.out, List.nil_append] at hsx
    have HX := Lib.hid hsx
    replace bb := Lib.hid (bstep bb.out hb)
    replace HA := Lib.hid (HA.out.on hb)
    replace HB := Lib.hid (HB.out.on hb)
    clear hb c0 c1 f0 f1 hz hsx
    -- put b
    obtain ⟨c0, c1, f0, f1, hz⟩ := HB.out
    go_wp2_with fail
    refine (lput_any _ [] x2 y2 _ Bs.none_ (by omega) (by omega) (by omega) (by omega) (by simp)).mono ?_
    rintro e w5 ⟨ry, rfl, hsy, hb⟩
    rw [HE2.out]
    rw [HR2.out, List.nil_append] at hsy
    have HY := Lib.hid hsy
    replace bb := Lib.hid (bstep bb.out hb)
    replace HA := Lib.hid (HA.out.on hb)
    replace HB := Lib.hid (HB.out.on hb)
    replace HX := Lib.hid (HX.out.on hb)
    clear hb c0 c1 f0 f1 hz hsy
    -- put none
    go_wp2_with fail
    refine (lput_any _ [] 0 0 _ Bs.none_ (by omega) (by omega) (by omega) (by omega) (by simp)).mono ?_
    rintro e w6 ⟨rz, rfl, hsz, hb⟩
    rw [show Lx.pkE 0 0 = 0 by decide]
    rw [show Lx.putR [] 0 0 = [0] by decide] at hsz
    have HZ := Lib.hid hsz
    replace bb := Lib.hid (bstep bb.out hb)
    replace HA := Lib.hid (HA.out.on hb)
    replace HB := Lib.hid (HB.out.on hb)
    replace HX := Lib.hid (HX.out.on hb)
    replace HY := Lib.hid (HY.out.on hb)
    clear hb hsz
    -- compare a, b
    obtain ⟨c0, c1, f0, f1, hz⟩ := HA.out
    obtain ⟨d0, d1, h0, h1, hy⟩ := HB.out
    go_wp2_with fail
    refine (compare_any x1 y1 x2 y2 _).mono ?_
    rintro e w7 ⟨rfl, hb⟩
    rw [Hc.out]
    replace bb := Lib.hid (bstep bb.out hb)
    replace HA := Lib.hid (HA.out.on hb)
    replace HB := Lib.hid (HB.out.on hb)
    replace HX := Lib.hid (HX.out.on hb)
    replace HY := Lib.hid (HY.out.on hb)
    replace HZ := Lib.hid (HZ.out.on hb)
    clear hb c0 c1 f0 f1 hz d0 d1 h0 h1 hy
    have hc3 : ∃ d, Lx.cmpL x2 y2 x1 y1 = d ∧ ((c = -1 ∧ d = 1 ∧ N1 < N2) ∨ (c = 0 ∧ d = 0 ∧ N1 = N2) ∨ (c = 1 ∧ d = -1 ∧ N2 < N1)) := by
      refine ⟨-c, hcn.out, ?_⟩
      have k1 := G1.out
      have k2 := G2.out
      rw [Bool.eq_iff_iff] at k1 k2
      simp only [decide_eq_true_eq, beq_iff_eq] at k1 k2
      omega
    clear hcn G1 G2
    obtain ⟨d, hcn, hc3⟩ := hc3
    have Hcn := Lib.hid hcn
    clear hcn
    rcases hc3 with ⟨rfl, rfl, hN⟩ | ⟨rfl, rfl, rfl⟩ | ⟨rfl, rfl, hN⟩
    all_goals
      first | (have hne : (N1 == N2) = false := by simp; omega) | skip
      first | (have hnl : decide (N1 < N2) = false := by simp; omega) | skip
      go_wp2_with fail
      refine (compare_b _ _ _ _ _ _ _ HX.out HY.out).mono ?_
      rintro e w8 ⟨rfl, rfl⟩
      rw [hcm.out]
      obtain ⟨c0, c1, f0, f1, hz⟩ := HA.out
      obtain ⟨d0, d1, h0, h1, hy⟩ := HB.out
      go_wp2_with fail
      refine (compare_any x2 y2 x1 y1 _).mono ?_
      rintro e w8 ⟨rfl, hb⟩
      rw [Hcn.out]
      replace bb := Lib.hid (bstep bb.out hb)
      replace HA := Lib.hid (HA.out.on hb)
      replace HX := Lib.hid (HX.out.on hb)
      replace HZ := Lib.hid (HZ.out.on hb)
      clear hb c0 c1 f0 f1 hz d0 d1 h0 h1 hy HB HY
      obtain ⟨c0, c1, f0, f1, hz⟩ := HA.out
      go_wp2_with fail
      refine (compare_any 0 0 x1 y1 _).mono ?_
      rintro e w9 ⟨rfl, hb⟩
      rw [Hab.out]
      replace bb := Lib.hid (bstep bb.out hb)
      replace HX := Lib.hid (HX.out.on hb)
      replace HZ := Lib.hid (HZ.out.on hb)
      clear hb c0 c1 f0 f1 hz HA
      go_wp2_with fail
      refine (compare_b _ _ _ _ _ _ _ HZ.out HX.out).mono ?_
      rintro e w10 ⟨rfl, rfl⟩
      rw [Hfi.out]
      go_wp2_with fail
      refine (wakes3_any _).mono ?_
      rintro e w11 ⟨rfl, hb⟩
      replace bb := Lib.hid (bstep bb.out hb)
      go_wp2_with fail
      go_ret
      exact ⟨rfl, bb.out⟩
end locOrder
end Go.Proofs.Ytikdpldfklbdoaa
