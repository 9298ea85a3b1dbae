
/-
  Layer 5: a deed more.
-/
import Derived.Test.YtmlbhconbabdhaaFxLook
import Derived.Test.YtmlbhconbabdhaaOrdL
import Derived.Deep.DeepCutAuto
import Derived.IntWalk
set_option linter.unusedVariables false
set_option linter.unusedSimpArgs false
namespace Go.Proofs.Ytmlbhconbabdhaa
open Go.RowKit

theorem deed_info : (Try.prog.info? 56).map (fun i => (i.zero, i.size, i.bytes)) = some (some .nilIface, 1, 16) := by kernel_rfl
/-- a deed more, as memory has it -/
theorem FileAt.more {w w' : World} {F : Nat} {R : Nat → Prop} {vs vt vd v v1 : Value} {dvs : List Value} {s : FSt} {d : Deed} (h : FileAt w F R vs vt vd dvs s) (hd : DeedAt w R v d) (hR : ∀ i, R i → i < w.heap.size)
    (hc : Chg (fun i => i = F ∨ vd.ownBlock = some i) w w') (hcells : FCells w' F vs vt v1 s.kept (s.loose + d.units)) (hown : w'.ownsRow 0 56 1 v1 (s.deeds.length + 1) (dvs ++ [v])) (hob : v1.ownBlock = vd.ownBlock ∨ ∀ g, v1.ownBlock = some g → w.heap.size ≤ g) :
    FileAt w' F R vs vt v1 (dvs ++ [v]) ⟨s.safe, s.kept, s.tail, s.deeds ++ [d]⟩ := by
  have hno : ∀ i, (i = F ∨ vd.ownBlock = some i) → ¬ R i := by
    rintro i (rfl | hi)
    · exact h.rows _ (.inl rfl)
    · exact h.rows _ (.inr (.inr (.inr hi)))
  have hs := (h.safe.lt)
  have ht := (h.tail.lt)
  have hF := h.cells.lt
  refine ⟨?_, hc.own h.safe ?_, hc.own h.tail ?_, by simpa using hown, (h.each.chg hc hno).add (hd.chg hc hno), ⟨h.apart.s, h.apart.t, ?_, h.apart.st, ?_, ?_⟩, ?_⟩
  · have e : FSt.loose ⟨s.safe, s.kept, s.tail, s.deeds ++ [d]⟩ = s.loose + d.units := by simp [FSt.loose, unitsL_append, unitsL]
    rw [e]
    exact hcells
  · rintro g hg (rfl | e)
    · exact h.apart.s hg
    · exact h.apart.sd g hg e
  · rintro g hg (rfl | e)
    · exact h.apart.t hg
    · exact h.apart.td g hg e
  · intro e
    rcases hob with h1 | h1
    · exact h.apart.d (h1 ▸ e)
    · have := h1 _ e; omega
  · intro g hg e
    rcases hob with h1 | h1
    · exact h.apart.sd g hg (h1 ▸ e)
    · have := h1 _ e; have := (hs g hg).2; omega
  · intro g hg e
    rcases hob with h1 | h1
    · exact h.apart.td g hg (h1 ▸ e)
    · have := h1 _ e; have := (ht g hg).2; omega
  · rintro i (rfl | hi | hi | hi) hr
    · exact h.rows _ (.inl rfl) hr
    · exact h.rows _ (.inr (.inl hi)) hr
    · exact h.rows _ (.inr (.inr (.inl hi))) hr
    · rcases hob with h1 | h1
      · exact h.rows _ (.inr (.inr (.inr (h1 ▸ hi)))) hr
      · have := h1 _ hi; have := hR i hr; omega

set_option maxRecDepth 100000 in
set_option maxHeartbeats 4000000 in
theorem fadd_added {w : World} {F : Nat} {R : Nat → Prop} {vs vt vd : Value} {dvs : List Value} {s : FSt} (h : FileAt w F R vs vt vd dvs s) (hR : ∀ i, R i → i < w.heap.size) {A : Option Addr} {n c : Nat} {d : Deed} (hd : DeedAt w R (addV A n c) d) (hn : d.units = n) (hb : s.loose + n ≤ 10000000) (hl : s.deeds.length ≤ 10000000) :
    Calls Try.prog 26 #[.pointer (some ⟨F, 0, none⟩), addV A n c] w fun e w' => e = .returned (.tuple #[]) ∧ ∃ vd', FileAt w' F R vs vt vd' (dvs ++ [addV A n c]) ⟨s.safe, s.kept, s.tail, s.deeds ++ [d]⟩ ∧ Chg (fun i => i = F ∨ vd.ownBlock = some i) w w' ∧ (vd'.ownBlock = vd.ownBlock ∨ ∀ g, vd'.ownBlock = some g → w.heap.size ≤ g) := by
  obtain ⟨i0, hi0, hz0, hz1, hz2⟩ := info_parts deed_info
  have hm : ∀ w : World, (method 99 61 (.agg #[.slice A n c]) "hourbook/file.units").run Try.prog w = .ok (47, (.agg #[.slice A n c])) w := fun _ => by kernel_rfl
  have H := Lib.hid h
  have HR := Lib.hid hR
  have HD := Lib.hid hd
  have HN := Lib.hid hn
  obtain ⟨Ad, cd, rfl, hlc, hcm, hAb⟩ := own_slice h.deeds
  obtain ⟨c0, c1, c2, c3, c4, f0, f1, f2, f3, f4⟩ := h.cells
  have hF := h.cells.lt
  have hFd := h.apart.d
  have HOwn0 := Lib.hid (h.deeds)
  have HE := Lib.hid (show ∀ R', FileAt w F R vs vt (.slice Ad s.deeds.length cd) dvs s → R' = R → True from fun _ _ _ => trivial)
  clear HE
  obtain ⟨nd, hlen⟩ : ∃ nd, nd = s.deeds.length := ⟨_, rfl⟩
  obtain ⟨vd, hvd⟩ : ∃ vd, vd = Value.slice Ad nd cd := ⟨_, rfl⟩
  rw [← hlen, ← hvd] at H HOwn0 hFd
  rw [← hlen] at c3 hl hlc
  rw [← hlen, ← hvd]
  have Hlen := Lib.hid hlen
  have Hvd := Lib.hid hvd
  clear hlen hvd hd h hn hAb hR
  have HOwn1 := Lib.hid HOwn0.out
  rw [Hvd.out] at HOwn1
  unfold addV
  go_enter Try.func26, Try.ntmps26
  go_wp2_with (at_builtin; (refine wpList_append_1 _ rfl _ _ 49 rfl 0 56 i0 .nilIface 16 Try.underlying49 hi0 hz0 hz1 hz2 rfl _ nd dvs rfl (HOwn1.out.alloc _) ⟨w.heap.size, 0, none⟩ 1 _ rfl (cell_new1 _ _ _) rfl (by unfold maxLen; omega) (by omega) (Nat.zero_le _) ?_); intro v1 w1 hown1 hbw1 hg1 hv1; obtain ⟨A1, n1, rfl, hlc1, hcm1, hAb1⟩ := own_slice hown1; rw [← Hvd.out] at hg1 hv1; have hbF : w1.heap[F]? = w.heap[F]? := (hg1.block F (by simp; omega) (fun e => hFd e.symm)).trans (Below.heap_alloc w _ F hF); have hcl := H.out.cells.of_block hbF; have HC1 := Lib.hid hcl; have HG1 := Lib.hid hg1; have HV1 := Lib.hid hv1; have HOwn2 := Lib.hid hown1; clear hg1 hv1 hown1 hbw1 hAb1 hbF; clear c0 c1 c2 c3 c4 f0 f1 f2 f3 f4; obtain ⟨c0, c1, c2, c3, c4, f0, f1, f2, f3, f4⟩ := hcl)
  clear c0 c1 c2 c3 c4 f0 f1 f2 f3 f4
  have HC2 := Lib.hid (HC1.out.set3 (.slice A1 (nd + 1) n1)).drew
  have HG2 : Hid (Chg (fun i => i = F ∨ vd.ownBlock = some i) w (w1.setCell ⟨F, 3, none⟩ (.slice A1 (nd + 1) n1)).drew) := ((Chg.trans (Chg.refl.alloc _) (Chg.of_grown HG1.out (fun g hg => .inr hg)) (fun i hi => .inl hi)).setCell (.inl rfl) _).drew
  have HF1 : Hid (∀ g, (Value.slice A1 (nd + 1) n1).ownBlock = some g → g ≠ F) := fun g hg e => by
    subst e
    rcases HV1.out with h1 | h1
    · exact hFd (h1 ▸ hg)
    · rw [hg] at h1; injection h1 with h1; simp at h1; omega
  have HOwn3 : Hid ((w1.setCell ⟨F, 3, none⟩ (.slice A1 (nd + 1) n1)).drew.ownsRow 0 56 1 (.slice A1 (nd + 1) n1) (nd + 1) (dvs ++ [addV A n c])) := (((Chg.refl (M := fun i => i = F) (w := w1)).setCell rfl _).drew).own HOwn2.out HF1.out
  have HV2 : Hid ((Value.slice A1 (nd + 1) n1).ownBlock = vd.ownBlock ∨ ∀ g, (Value.slice A1 (nd + 1) n1).ownBlock = some g → w.heap.size ≤ g) := HV1.out.imp id (fun h1 g hg => by rw [h1] at hg; injection hg with hg; simp at hg; omega)
  refine wp_region_noPanic ?_
  refine OrdL.wpL_region (fun w' => w'.cell? ⟨F, 4, none⟩ = some (.int .i64 (s.loose : Int))) 9 (by kernel_rfl) ?_
  clear HC1 HG1 HOwn2 HV1 HOwn1
  generalize World.drew _ = W at *
  have hHeld := HC2.out.c4
  refine OrdL.wpL_take (i := 0) (v := ?_) opAt_0 [] (by kernel_rfl) (by kernel_rfl) (by kernel_rfl) (by kernel_rfl) (by kernel_rfl) (by kernel_rfl) (fun _ _ _ h => h) (Or.inl ⟨by rfl, ?_⟩) hHeld ?_
  rotate_left
  · (intro w' hSw; go_simp; try with_reducible rfl)
  try simp only [Act.put, List.setIfInBounds_toArray, List.set_cons_zero, List.set_cons_succ]
  refine OrdL.wpL_take (i := 1) (v := ?_) opAt_1 [] (by kernel_rfl) (by kernel_rfl) (by kernel_rfl) (by kernel_rfl) (by kernel_rfl) (by kernel_rfl) (fun _ _ _ h => h) (Or.inl ⟨by rfl, ?_⟩) hHeld ?_
  rotate_left
  · (intro w' hSw; go_simp; try with_reducible rfl)
  try simp only [Act.put, List.setIfInBounds_toArray, List.set_cons_zero, List.set_cons_succ]
  refine OrdL.wpL_take (i := 2) (v := ?_) opAt_2 [] (by kernel_rfl) (by kernel_rfl) (by kernel_rfl) (by kernel_rfl) (by kernel_rfl) (by kernel_rfl) (fun _ _ _ h => h) (Or.inl ⟨by rfl, ?_⟩) hHeld ?_
  rotate_left
  · (intro w' hSw; go_simp; try with_reducible rfl)
  try simp only [Act.put, List.setIfInBounds_toArray, List.set_cons_zero, List.set_cons_succ]
  refine OrdL.wpL_take (i := 3) (v := ?_) opAt_3 [] (by kernel_rfl) (by kernel_rfl) (by kernel_rfl) (by kernel_rfl) (by kernel_rfl) (by kernel_rfl) (fun _ _ _ h => h) (Or.inl ⟨by rfl, ?_⟩) hHeld ?_
  rotate_left
  · (intro w' hSw; go_simp; try with_reducible rfl)
  try simp only [Act.put, List.setIfInBounds_toArray, List.set_cons_zero, List.set_cons_succ]
  refine OrdL.wpL_take (i := 4) (v := ?_) opAt_4 [] (by kernel_rfl) (by kernel_rfl) (by kernel_rfl) (by kernel_rfl) (by kernel_rfl) (by kernel_rfl) (fun _ _ _ h => h) (Or.inl ⟨by rfl, ?_⟩) hHeld ?_
  rotate_left
  · (intro w' hSw; go_simp; try with_reducible rfl)
  try simp only [Act.put, List.setIfInBounds_toArray, List.set_cons_zero, List.set_cons_succ]
  refine OrdL.wpL_ready (rs := [5]) (by kernel_rfl) (by simp) ?_
  refine OrdL.AllL.cons rfl (fun K hK => ?_) OrdL.AllL.nil
  go_simp
  refine (added_units A n c _).mono ?_
  rintro e w2 ⟨rfl, hb2⟩
  go_wp2_with fail
  have HC3 := Lib.hid (HC2.out.on hb2)
  have HG3 := Lib.hid (HG2.out.trans (Chg.of_below (M := fun _ => False) hb2) (fun _ h => h.elim))
  have HOwn4 := Lib.hid (own_below HOwn3.out hb2 (Nat.le_refl _))
  clear hHeld
  have hHeld := HC3.out.c4
  refine hK.out _ _ (fun _ => hHeld) ?_
  clear hK K
  try simp only [Act.put, List.setIfInBounds_toArray, List.set_cons_zero, List.set_cons_succ]
  refine OrdL.wpL_take (i := 6) (v := ?_) opAt_6 [] (by kernel_rfl) (by kernel_rfl) (by kernel_rfl) (by kernel_rfl) (by kernel_rfl) (by kernel_rfl) (fun _ _ _ h => h) (Or.inl ⟨by rfl, ?_⟩) hHeld ?_
  rotate_left
  · (intro w' hSw; go_simp; try with_reducible rfl)
  try simp only [Act.put, List.setIfInBounds_toArray, List.set_cons_zero, List.set_cons_succ]
  refine OrdL.wpL_take (i := 7) (v := ?_) opAt_7 [8] (by kernel_rfl) (by kernel_rfl) (by kernel_rfl) (by kernel_rfl) (by kernel_rfl) (by kernel_rfl) (fun _ _ _ h => h) (Or.inl ⟨by rfl, ?_⟩) hHeld ?_
  rotate_left
  · (intro w' hSw; go_simp; try with_reducible rfl)
  try simp only [Act.put, List.setIfInBounds_toArray, List.set_cons_zero, List.set_cons_succ]
  refine OrdL.wpL_take (i := 8) (v := ?_) opAt_8 [] (by kernel_rfl) (by kernel_rfl) (by kernel_rfl) (by kernel_rfl) (by kernel_rfl) (by kernel_rfl) (fun _ _ _ h => h) (Or.inl ⟨by rfl, ?_⟩) hHeld ?_
  rotate_left
  · (intro w' hSw; go_simp; try with_reducible rfl)
  try simp only [Act.put, List.setIfInBounds_toArray, List.set_cons_zero, List.set_cons_succ]
  refine OrdL.wpL_ready (rs := [9]) (by kernel_rfl) (by simp) ?_
  refine OrdL.AllL.cons rfl (fun K hK => ?_) OrdL.AllL.nil
  have f4 := HC3.out.f4
  go_simp
  refine hK.out _ _ (fun h => by simp at h) ?_
  refine OrdL.wpL_done (by kernel_rfl) ?_ _
  refine NoPanic.normal ?_
  go_wp2_with fail
  go_end0
  have e2 : ((s.loose : Int) + (n : Int)) = ((s.loose + d.units : Nat) : Int) := by rw [HN.out]; push_cast; rfl
  rw [e2]
  try rw [IntWalk.i64_in _ (by have := HN.out; omega)]
  have hg5 : Chg (fun i => i = F ∨ vd.ownBlock = some i) w (w2.setCell ⟨F, 4, none⟩ (.int .i64 ((s.loose + d.units : Nat) : Int))) := HG3.out.setCell (.inl rfl) _
  exact ⟨rfl, .slice A1 (nd + 1) n1, H.out.more HD.out HR.out hg5 (HC3.out.set4 _) (by rw [← Hlen.out]; exact ((Chg.refl (M := fun i => i = F) (w := w2)).setCell rfl _).own HOwn4.out HF1.out) HV2.out, hg5, HV2.out⟩
set_option maxRecDepth 100000 in
set_option maxHeartbeats 4000000 in
theorem fadd_cut {w : World} {F : Nat} {R : Nat → Prop} {vs vt vd : Value} {dvs : List Value} {s : FSt} (h : FileAt w F R vs vt vd dvs s) (hR : ∀ i, R i → i < w.heap.size) {n : Nat} {d : Deed} (hd : DeedAt w R (cutV n) d) (hn : d.units = 1) (hb : s.loose + 1 ≤ 10000000) (hl : s.deeds.length ≤ 10000000) :
    Calls Try.prog 26 #[.pointer (some ⟨F, 0, none⟩), cutV n] w fun e w' => e = .returned (.tuple #[]) ∧ ∃ vd', FileAt w' F R vs vt vd' (dvs ++ [cutV n]) ⟨s.safe, s.kept, s.tail, s.deeds ++ [d]⟩ ∧ Chg (fun i => i = F ∨ vd.ownBlock = some i) w w' ∧ (vd'.ownBlock = vd.ownBlock ∨ ∀ g, vd'.ownBlock = some g → w.heap.size ≤ g) := by
  obtain ⟨i0, hi0, hz0, hz1, hz2⟩ := info_parts deed_info
  have hm : ∀ w : World, (method 99 65 (.agg #[.int .i64 (n : Int)]) "hourbook/file.units").run Try.prog w = .ok (49, (.agg #[.int .i64 (n : Int)])) w := fun _ => by kernel_rfl
  have H := Lib.hid h
  have HR := Lib.hid hR
  have HD := Lib.hid hd
  have HN := Lib.hid hn
  obtain ⟨Ad, cd, rfl, hlc, hcm, hAb⟩ := own_slice h.deeds
  obtain ⟨c0, c1, c2, c3, c4, f0, f1, f2, f3, f4⟩ := h.cells
  have hF := h.cells.lt
  have hFd := h.apart.d
  have HOwn0 := Lib.hid (h.deeds)
  have HE := Lib.hid (show ∀ R', FileAt w F R vs vt (.slice Ad s.deeds.length cd) dvs s → R' = R → True from fun _ _ _ => trivial)
  clear HE
  obtain ⟨nd, hlen⟩ : ∃ nd, nd = s.deeds.length := ⟨_, rfl⟩
  obtain ⟨vd, hvd⟩ : ∃ vd, vd = Value.slice Ad nd cd := ⟨_, rfl⟩
  rw [← hlen, ← hvd] at H HOwn0 hFd
  rw [← hlen] at c3 hl hlc
  rw [← hlen, ← hvd]
  have Hlen := Lib.hid hlen
  have Hvd := Lib.hid hvd
  clear hlen hvd hd h hn hAb hR
  have HOwn1 := Lib.hid HOwn0.out
  rw [Hvd.out] at HOwn1
  unfold cutV
  go_enter Try.func26, Try.ntmps26
  go_wp2_with (at_builtin; (refine wpList_append_1 _ rfl _ _ 49 rfl 0 56 i0 .nilIface 16 Try.underlying49 hi0 hz0 hz1 hz2 rfl _ nd dvs rfl (HOwn1.out.alloc _) ⟨w.heap.size, 0, none⟩ 1 _ rfl (cell_new1 _ _ _) rfl (by unfold maxLen; omega) (by omega) (Nat.zero_le _) ?_); intro v1 w1 hown1 hbw1 hg1 hv1; obtain ⟨A1, n1, rfl, hlc1, hcm1, hAb1⟩ := own_slice hown1; rw [← Hvd.out] at hg1 hv1; have hbF : w1.heap[F]? = w.heap[F]? := (hg1.block F (by simp; omega) (fun e => hFd e.symm)).trans (Below.heap_alloc w _ F hF); have hcl := H.out.cells.of_block hbF; have HC1 := Lib.hid hcl; have HG1 := Lib.hid hg1; have HV1 := Lib.hid hv1; have HOwn2 := Lib.hid hown1; clear hg1 hv1 hown1 hbw1 hAb1 hbF; clear c0 c1 c2 c3 c4 f0 f1 f2 f3 f4; obtain ⟨c0, c1, c2, c3, c4, f0, f1, f2, f3, f4⟩ := hcl)
  clear c0 c1 c2 c3 c4 f0 f1 f2 f3 f4
  have HC2 := Lib.hid (HC1.out.set3 (.slice A1 (nd + 1) n1)).drew
  have HG2 : Hid (Chg (fun i => i = F ∨ vd.ownBlock = some i) w (w1.setCell ⟨F, 3, none⟩ (.slice A1 (nd + 1) n1)).drew) := ((Chg.trans (Chg.refl.alloc _) (Chg.of_grown HG1.out (fun g hg => .inr hg)) (fun i hi => .inl hi)).setCell (.inl rfl) _).drew
  have HF1 : Hid (∀ g, (Value.slice A1 (nd + 1) n1).ownBlock = some g → g ≠ F) := fun g hg e => by
    subst e
    rcases HV1.out with h1 | h1
    · exact hFd (h1 ▸ hg)
    · rw [hg] at h1; injection h1 with h1; simp at h1; omega
  have HOwn3 : Hid ((w1.setCell ⟨F, 3, none⟩ (.slice A1 (nd + 1) n1)).drew.ownsRow 0 56 1 (.slice A1 (nd + 1) n1) (nd + 1) (dvs ++ [cutV n])) := (((Chg.refl (M := fun i => i = F) (w := w1)).setCell rfl _).drew).own HOwn2.out HF1.out
  have HV2 : Hid ((Value.slice A1 (nd + 1) n1).ownBlock = vd.ownBlock ∨ ∀ g, (Value.slice A1 (nd + 1) n1).ownBlock = some g → w.heap.size ≤ g) := HV1.out.imp id (fun h1 g hg => by rw [h1] at hg; injection hg with hg; simp at hg; omega)
  refine wp_region_noPanic ?_
  refine OrdL.wpL_region (fun w' => w'.cell? ⟨F, 4, none⟩ = some (.int .i64 (s.loose : Int))) 9 (by kernel_rfl) ?_
  clear HC1 HG1 HOwn2 HV1 HOwn1
  generalize World.drew _ = W at *
  have hHeld := HC2.out.c4
  refine OrdL.wpL_take (i := 0) (v := ?_) opAt_0 [] (by kernel_rfl) (by kernel_rfl) (by kernel_rfl) (by kernel_rfl) (by kernel_rfl) (by kernel_rfl) (fun _ _ _ h => h) (Or.inl ⟨by rfl, ?_⟩) hHeld ?_
  rotate_left
  · (intro w' hSw; go_simp; try with_reducible rfl)
  try simp only [Act.put, List.setIfInBounds_toArray, List.set_cons_zero, List.set_cons_succ]
  refine OrdL.wpL_take (i := 1) (v := ?_) opAt_1 [] (by kernel_rfl) (by kernel_rfl) (by kernel_rfl) (by kernel_rfl) (by kernel_rfl) (by kernel_rfl) (fun _ _ _ h => h) (Or.inl ⟨by rfl, ?_⟩) hHeld ?_
  rotate_left
  · (intro w' hSw; go_simp; try with_reducible rfl)
  try simp only [Act.put, List.setIfInBounds_toArray, List.set_cons_zero, List.set_cons_succ]
  refine OrdL.wpL_take (i := 2) (v := ?_) opAt_2 [] (by kernel_rfl) (by kernel_rfl) (by kernel_rfl) (by kernel_rfl) (by kernel_rfl) (by kernel_rfl) (fun _ _ _ h => h) (Or.inl ⟨by rfl, ?_⟩) hHeld ?_
  rotate_left
  · (intro w' hSw; go_simp; try with_reducible rfl)
  try simp only [Act.put, List.setIfInBounds_toArray, List.set_cons_zero, List.set_cons_succ]
  refine OrdL.wpL_take (i := 3) (v := ?_) opAt_3 [] (by kernel_rfl) (by kernel_rfl) (by kernel_rfl) (by kernel_rfl) (by kernel_rfl) (by kernel_rfl) (fun _ _ _ h => h) (Or.inl ⟨by rfl, ?_⟩) hHeld ?_
  rotate_left
  · (intro w' hSw; go_simp; try with_reducible rfl)
  try simp only [Act.put, List.setIfInBounds_toArray, List.set_cons_zero, List.set_cons_succ]
  refine OrdL.wpL_take (i := 4) (v := ?_) opAt_4 [] (by kernel_rfl) (by kernel_rfl) (by kernel_rfl) (by kernel_rfl) (by kernel_rfl) (by kernel_rfl) (fun _ _ _ h => h) (Or.inl ⟨by rfl, ?_⟩) hHeld ?_
  rotate_left
  · (intro w' hSw; go_simp; try with_reducible rfl)
  try simp only [Act.put, List.setIfInBounds_toArray, List.set_cons_zero, List.set_cons_succ]
  refine OrdL.wpL_ready (rs := [5]) (by kernel_rfl) (by simp) ?_
  refine OrdL.AllL.cons rfl (fun K hK => ?_) OrdL.AllL.nil
  go_simp
  refine (cut_units n _).mono ?_
  rintro e w2 ⟨rfl, hb2⟩
  go_wp2_with fail
  have HC3 := Lib.hid (HC2.out.on hb2)
  have HG3 := Lib.hid (HG2.out.trans (Chg.of_below (M := fun _ => False) hb2) (fun _ h => h.elim))
  have HOwn4 := Lib.hid (own_below HOwn3.out hb2 (Nat.le_refl _))
  clear hHeld
  have hHeld := HC3.out.c4
  refine hK.out _ _ (fun _ => hHeld) ?_
  clear hK K
  try simp only [Act.put, List.setIfInBounds_toArray, List.set_cons_zero, List.set_cons_succ]
  refine OrdL.wpL_take (i := 6) (v := ?_) opAt_6 [] (by kernel_rfl) (by kernel_rfl) (by kernel_rfl) (by kernel_rfl) (by kernel_rfl) (by kernel_rfl) (fun _ _ _ h => h) (Or.inl ⟨by rfl, ?_⟩) hHeld ?_
  rotate_left
  · (intro w' hSw; go_simp; try with_reducible rfl)
  try simp only [Act.put, List.setIfInBounds_toArray, List.set_cons_zero, List.set_cons_succ]
  refine OrdL.wpL_take (i := 7) (v := ?_) opAt_7 [8] (by kernel_rfl) (by kernel_rfl) (by kernel_rfl) (by kernel_rfl) (by kernel_rfl) (by kernel_rfl) (fun _ _ _ h => h) (Or.inl ⟨by rfl, ?_⟩) hHeld ?_
  rotate_left
  · (intro w' hSw; go_simp; try with_reducible rfl)
  try simp only [Act.put, List.setIfInBounds_toArray, List.set_cons_zero, List.set_cons_succ]
  refine OrdL.wpL_take (i := 8) (v := ?_) opAt_8 [] (by kernel_rfl) (by kernel_rfl) (by kernel_rfl) (by kernel_rfl) (by kernel_rfl) (by kernel_rfl) (fun _ _ _ h => h) (Or.inl ⟨by rfl, ?_⟩) hHeld ?_
  rotate_left
  · (intro w' hSw; go_simp; try with_reducible rfl)
  try simp only [Act.put, List.setIfInBounds_toArray, List.set_cons_zero, List.set_cons_succ]
  refine OrdL.wpL_ready (rs := [9]) (by kernel_rfl) (by simp) ?_
  refine OrdL.AllL.cons rfl (fun K hK => ?_) OrdL.AllL.nil
  have f4 := HC3.out.f4
  go_simp
  refine hK.out _ _ (fun h => by simp at h) ?_
  refine OrdL.wpL_done (by kernel_rfl) ?_ _
  refine NoPanic.normal ?_
  go_wp2_with fail
  go_end0
  have e2 : ((s.loose : Int) + 1) = ((s.loose + d.units : Nat) : Int) := by rw [HN.out]; push_cast; rfl
  rw [e2]
  try rw [IntWalk.i64_in _ (by have := HN.out; omega)]
  have hg5 : Chg (fun i => i = F ∨ vd.ownBlock = some i) w (w2.setCell ⟨F, 4, none⟩ (.int .i64 ((s.loose + d.units : Nat) : Int))) := HG3.out.setCell (.inl rfl) _
  exact ⟨rfl, .slice A1 (nd + 1) n1, H.out.more HD.out HR.out hg5 (HC3.out.set4 _) (by rw [← Hlen.out]; exact ((Chg.refl (M := fun i => i = F) (w := w2)).setCell rfl _).own HOwn4.out HF1.out) HV2.out, hg5, HV2.out⟩
end Go.Proofs.Ytmlbhconbabdhaa
