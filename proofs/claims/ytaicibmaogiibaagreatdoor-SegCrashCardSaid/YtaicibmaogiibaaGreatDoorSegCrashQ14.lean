/-
  SegCrash, part 14 of what the law's proof leans on: FxLook, FxSettle.
-/
import Derived.Deep.DeepCutAuto
import Derived.IntWalk
import Derived.Test.YtaicibmaogiibaaGreatDoorSegCrashQ9
import Derived.Test.YtaicibmaogiibaaGreatDoorSegCrashQ1
import Derived.Deep.LoopGhost
/- FxLook -/

/-
  Layer 5: Size, Safe, Loose.
-/
set_option linter.unusedVariables false
set_option linter.unusedSimpArgs false
namespace Go.Proofs.YtaicibmaogiibaaGreatDoor
open Go.RowKit

theorem fbdrewN {n : Nat} {w w' : World} (h : Below n w w') (q : Nat) : Below n w (w'.drewN q) := ⟨h.os, h.tape, h.output, h.size, h.block⟩
theorem fsize_c {w : World} {F kept loose n c : Nat} {A : Option Addr} {vs vd : Value} (h : FCells w F vs (.slice A n c) vd kept loose) (hb : kept + n ≤ 1000000000) :
    Calls Tryz.prog 85 #[.pointer (some ⟨F, 0, none⟩)] w fun e w' => e = .returned (.int .i64 ((kept + n : Nat) : Int)) ∧ Below w.heap.size w w' := by
  obtain ⟨c0, c1, c2, c3, c4, f0, f1, f2, f3, f4⟩ := h
  go_enter Tryz.func85, Tryz.ntmps85
  go_wp2_with fail
  go_quiet (fail)
  go_wp2_with fail
  go_ret
  exact ⟨by push_cast; rfl, fbdrewN (Below.refl _ _) _⟩
theorem floose_c {w : World} {F kept loose : Nat} {vs vt vd : Value} (h : FCells w F vs vt vd kept loose) :
    Calls Tryz.prog 56 #[.pointer (some ⟨F, 0, none⟩)] w fun e w' => e = .returned (.int .i64 (loose : Int)) ∧ Below w.heap.size w w' := by
  obtain ⟨c0, c1, c2, c3, c4, f0, f1, f2, f3, f4⟩ := h
  go_enter Tryz.func56, Tryz.ntmps56
  go_wp2
  go_ret
  exact ⟨rfl, Below.refl _ _⟩
section
variable {w : World} {F : Nat} {M R : Nat → Prop} {s : FSt}
theorem fsize_m (h : FileM w F M R s) (hb : s.big ≤ 10000000) (n : Nat) (hn : s.bytes.length = n) :
    Calls Tryz.prog 85 #[.pointer (some ⟨F, 0, none⟩)] w fun e w' => e = .returned (.int .i64 (n : Int)) ∧ Below w.heap.size w w' := by
  obtain ⟨ho, _, _, _, vs, vt, vd, dvs, h, _⟩ := h
  have h1 := FSt.bytes_length ho
  have h2 := FSt.length_bytes ho
  obtain ⟨A, c, rfl, _⟩ := own_slice h.tail
  subst hn
  rw [h2]
  exact fsize_c h.cells (by omega)
theorem floose_m (h : FileM w F M R s) (n : Nat) (hn : s.loose = n) :
    Calls Tryz.prog 56 #[.pointer (some ⟨F, 0, none⟩)] w fun e w' => e = .returned (.int .i64 (n : Int)) ∧ Below w.heap.size w w' := by
  obtain ⟨ho, _, _, _, vs, vt, vd, dvs, h, _⟩ := h
  subst hn
  exact floose_c h.cells
end
end Go.Proofs.YtaicibmaogiibaaGreatDoor

/-
  Layer 5: a deed more.
-/
set_option linter.unusedVariables false
set_option linter.unusedSimpArgs false
namespace Go.Proofs.YtaicibmaogiibaaGreatDoor
open Go.RowKit

theorem deed_info : (Tryz.prog.info? 189).map (fun i => (i.zero, i.size, i.bytes)) = some (some .nilIface, 1, 16) := by kernel_rfl
/-- a deed more, as memory has it -/
theorem FileAt.more {w w' : World} {F : Nat} {R : Nat → Prop} {vs vt vd v v1 : Value} {dvs : List Value} {s : FSt} {d : Deed} (h : FileAt w F R vs vt vd dvs s) (hd : DeedAt w R v d) (hR : ∀ i, R i → i < w.heap.size)
    (hc : Chg (fun i => i = F ∨ vd.ownBlock = some i) w w') (hcells : FCells w' F vs vt v1 s.kept (s.loose + d.units)) (hown : w'.ownsRow 0 189 1 v1 (s.deeds.length + 1) (dvs ++ [v])) (hob : v1.ownBlock = vd.ownBlock ∨ ∀ g, v1.ownBlock = some g → w.heap.size ≤ g) :
    FileAt w' F R vs vt v1 (dvs ++ [v]) ⟨s.safe, s.kept, s.tail, s.deeds ++ [d]⟩ := by
  have hno : ∀ i, (i = F ∨ vd.ownBlock = some i) → ¬ R i := by
    rintro i (rfl | hi)
    · exact h.rows _ (.inl rfl)
    · exact h.rows _ (.inr (.inr (.inr hi)))
  have hs := (h.safe.lt)
  have ht := (h.tail.lt)
  have hF := h.cells.lt
  refine ⟨?_, hc.own h.safe ?_, hc.own h.tail ?_, by simpa using hown, (h.each.chg hc hno).add (hd.chg hc hno), ⟨h.apart.s, h.apart.t, ?_, h.apart.st, ?_, ?_⟩, ?_⟩
  · have e : FSt.loose ⟨s.safe, s.kept, s.tail, s.deeds ++ [d]⟩ = s.loose + d.units := by simp [FSt.loose, unitsL_append, unitsL]
    rw [e]
    exact hcells
  · rintro g hg (rfl | e)
    · exact h.apart.s hg
    · exact h.apart.sd g hg e
  · rintro g hg (rfl | e)
    · exact h.apart.t hg
    · exact h.apart.td g hg e
  · intro e
    rcases hob with h1 | h1
    · exact h.apart.d (h1 ▸ e)
    · have := h1 _ e; omega
  · intro g hg e
    rcases hob with h1 | h1
    · exact h.apart.sd g hg (h1 ▸ e)
    · have := h1 _ e; have := (hs g hg).2; omega
  · intro g hg e
    rcases hob with h1 | h1
    · exact h.apart.td g hg (h1 ▸ e)
    · have := h1 _ e; have := (ht g hg).2; omega
  · rintro i (rfl | hi | hi | hi) hr
    · exact h.rows _ (.inl rfl) hr
    · exact h.rows _ (.inr (.inl hi)) hr
    · exact h.rows _ (.inr (.inr (.inl hi))) hr
    · rcases hob with h1 | h1
      · exact h.rows _ (.inr (.inr (.inr (h1 ▸ hi)))) hr
      · have := h1 _ hi; have := hR i hr; omega

set_option maxRecDepth 100000 in
set_option maxHeartbeats 4000000 in
theorem fadd_added {w : World} {F : Nat} {R : Nat → Prop} {vs vt vd : Value} {dvs : List Value} {s : FSt} (h : FileAt w F R vs vt vd dvs s) (hR : ∀ i, R i → i < w.heap.size) {A : Option Addr} {n c : Nat} {d : Deed} (hd : DeedAt w R (addV A n c) d) (hn : d.units = n) (hb : s.loose + n ≤ 10000000) (hl : s.deeds.length ≤ 10000000) :
    Calls Tryz.prog 106 #[.pointer (some ⟨F, 0, none⟩), addV A n c] w fun e w' => e = .returned (.tuple #[]) ∧ ∃ vd', FileAt w' F R vs vt vd' (dvs ++ [addV A n c]) ⟨s.safe, s.kept, s.tail, s.deeds ++ [d]⟩ ∧ Chg (fun i => i = F ∨ vd.ownBlock = some i) w w' ∧ (vd'.ownBlock = vd.ownBlock ∨ ∀ g, vd'.ownBlock = some g → w.heap.size ≤ g) := by
  obtain ⟨i0, hi0, hz0, hz1, hz2⟩ := info_parts deed_info
  have hm : ∀ w : World, (method 99 183 (.agg #[.slice A n c]) "hourbook/file.units").run Tryz.prog w = .ok (241, (.agg #[.slice A n c])) w := fun _ => by kernel_rfl
  have H := Lib.hid h
  have HR := Lib.hid hR
  have HD := Lib.hid hd
  have HN := Lib.hid hn
  obtain ⟨Ad, cd, rfl, hlc, hcm, hAb⟩ := own_slice h.deeds
  obtain ⟨c0, c1, c2, c3, c4, f0, f1, f2, f3, f4⟩ := h.cells
  have hF := h.cells.lt
  have hFd := h.apart.d
  have HOwn0 := Lib.hid (h.deeds)
  have HE := Lib.hid (show ∀ R', FileAt w F R vs vt (.slice Ad s.deeds.length cd) dvs s → R' = R → True from fun _ _ _ => trivial)
  clear HE
  obtain ⟨nd, hlen⟩ : ∃ nd, nd = s.deeds.length := ⟨_, rfl⟩
  obtain ⟨vd, hvd⟩ : ∃ vd, vd = Value.slice Ad nd cd := ⟨_, rfl⟩
  rw [← hlen, ← hvd] at H HOwn0 hFd
  rw [← hlen] at c3 hl hlc
  rw [← hlen, ← hvd]
  have Hlen := Lib.hid hlen
  have Hvd := Lib.hid hvd
  clear hlen hvd hd h hn hAb hR
  have HOwn1 := Lib.hid HOwn0.out
  rw [Hvd.out] at HOwn1
  unfold addV
  go_enter Tryz.func106, Tryz.ntmps106
  go_wp2_with (at_builtin; (refine wpList_append_1 _ rfl _ _ 145 rfl 0 189 i0 .nilIface 16 Tryz.underlying145 hi0 hz0 hz1 hz2 rfl _ nd dvs rfl (HOwn1.out.alloc _) ⟨w.heap.size, 0, none⟩ 1 _ rfl (cell_new1 _ _ _) rfl (by unfold maxLen; omega) (by omega) (Nat.zero_le _) ?_); intro v1 w1 hown1 hbw1 hg1 hv1; obtain ⟨A1, n1, rfl, hlc1, hcm1, hAb1⟩ := own_slice hown1; rw [← Hvd.out] at hg1 hv1; have hbF : w1.heap[F]? = w.heap[F]? := (hg1.block F (by simp; omega) (fun e => hFd e.symm)).trans (Below.heap_alloc w _ F hF); have hcl := H.out.cells.of_block hbF; have HC1 := Lib.hid hcl; have HG1 := Lib.hid hg1; have HV1 := Lib.hid hv1; have HOwn2 := Lib.hid hown1; clear hg1 hv1 hown1 hbw1 hAb1 hbF; clear c0 c1 c2 c3 c4 f0 f1 f2 f3 f4; obtain ⟨c0, c1, c2, c3, c4, f0, f1, f2, f3, f4⟩ := hcl)
  clear c0 c1 c2 c3 c4 f0 f1 f2 f3 f4
  have HC2 := Lib.hid (HC1.out.set3 (.slice A1 (nd + 1) n1)).drew
  have HG2 : Hid (Chg (fun i => i = F ∨ vd.ownBlock = some i) w (w1.setCell ⟨F, 3, none⟩ (.slice A1 (nd + 1) n1)).drew) := ((Chg.trans (Chg.refl.alloc _) (Chg.of_grown HG1.out (fun g hg => .inr hg)) (fun i hi => .inl hi)).setCell (.inl rfl) _).drew
  have HF1 : Hid (∀ g, (Value.slice A1 (nd + 1) n1).ownBlock = some g → g ≠ F) := fun g hg e => by
    subst e
    rcases HV1.out with h1 | h1
    · exact hFd (h1 ▸ hg)
    · rw [hg] at h1; injection h1 with h1; simp at h1; omega
  have HOwn3 : Hid ((w1.setCell ⟨F, 3, none⟩ (.slice A1 (nd + 1) n1)).drew.ownsRow 0 189 1 (.slice A1 (nd + 1) n1) (nd + 1) (dvs ++ [addV A n c])) := (((Chg.refl (M := fun i => i = F) (w := w1)).setCell rfl _).drew).own HOwn2.out HF1.out
  have HV2 : Hid ((Value.slice A1 (nd + 1) n1).ownBlock = vd.ownBlock ∨ ∀ g, (Value.slice A1 (nd + 1) n1).ownBlock = some g → w.heap.size ≤ g) := HV1.out.imp id (fun h1 g hg => by rw [h1] at hg; injection hg with hg; simp at hg; omega)
  refine wp_region_noPanic ?_
  refine OrdL.wpL_region (fun w' => w'.cell? ⟨F, 4, none⟩ = some (.int .i64 (s.loose : Int))) 9 (by kernel_rfl) ?_
  clear HC1 HG1 HOwn2 HV1 HOwn1
  generalize World.drew _ = W at *
  have hHeld := HC2.out.c4
  refine OrdL.wpL_take (i := 0) (v := ?_) opAt_0 [] (by kernel_rfl) (by kernel_rfl) (by kernel_rfl) (by kernel_rfl) (by kernel_rfl) (by kernel_rfl) (fun _ _ _ h => h) (Or.inl ⟨by rfl, ?_⟩) hHeld ?_
  rotate_left
  · (intro w' hSw; go_simp; try with_reducible rfl)
  try simp only [Act.put, List.setIfInBounds_toArray, List.set_cons_zero, List.set_cons_succ]
  refine OrdL.wpL_take (i := 1) (v := ?_) opAt_1 [] (by kernel_rfl) (by kernel_rfl) (by kernel_rfl) (by kernel_rfl) (by kernel_rfl) (by kernel_rfl) (fun _ _ _ h => h) (Or.inl ⟨by rfl, ?_⟩) hHeld ?_
  rotate_left
  · (intro w' hSw; go_simp; try with_reducible rfl)
  try simp only [Act.put, List.setIfInBounds_toArray, List.set_cons_zero, List.set_cons_succ]
  refine OrdL.wpL_take (i := 2) (v := ?_) opAt_2 [] (by kernel_rfl) (by kernel_rfl) (by kernel_rfl) (by kernel_rfl) (by kernel_rfl) (by kernel_rfl) (fun _ _ _ h => h) (Or.inl ⟨by rfl, ?_⟩) hHeld ?_
  rotate_left
  · (intro w' hSw; go_simp; try with_reducible rfl)
  try simp only [Act.put, List.setIfInBounds_toArray, List.set_cons_zero, List.set_cons_succ]
  refine OrdL.wpL_take (i := 3) (v := ?_) opAt_3 [] (by kernel_rfl) (by kernel_rfl) (by kernel_rfl) (by kernel_rfl) (by kernel_rfl) (by kernel_rfl) (fun _ _ _ h => h) (Or.inl ⟨by rfl, ?_⟩) hHeld ?_
  rotate_left
  · (intro w' hSw; go_simp; try with_reducible rfl)
  try simp only [Act.put, List.setIfInBounds_toArray, List.set_cons_zero, List.set_cons_succ]
  refine OrdL.wpL_take (i := 4) (v := ?_) opAt_4 [] (by kernel_rfl) (by kernel_rfl) (by kernel_rfl) (by kernel_rfl) (by kernel_rfl) (by kernel_rfl) (fun _ _ _ h => h) (Or.inl ⟨by rfl, ?_⟩) hHeld ?_
  rotate_left
  · (intro w' hSw; go_simp; try with_reducible rfl)
  try simp only [Act.put, List.setIfInBounds_toArray, List.set_cons_zero, List.set_cons_succ]
  refine OrdL.wpL_ready (rs := [5]) (by kernel_rfl) (by simp) ?_
  refine OrdL.AllL.cons rfl (fun K hK => ?_) OrdL.AllL.nil
  go_simp
  refine (added_units A n c _).mono ?_
  rintro e w2 ⟨rfl, hb2⟩
  go_wp2_with fail
  have HC3 := Lib.hid (HC2.out.on hb2)
  have HG3 := Lib.hid (HG2.out.trans (Chg.of_below (M := fun _ => False) hb2) (fun _ h => h.elim))
  have HOwn4 := Lib.hid (own_below HOwn3.out hb2 (Nat.le_refl _))
  clear hHeld
  have hHeld := HC3.out.c4
  refine hK.out _ _ (fun _ => hHeld) ?_
  clear hK K
  try simp only [Act.put, List.setIfInBounds_toArray, List.set_cons_zero, List.set_cons_succ]
  refine OrdL.wpL_take (i := 6) (v := ?_) opAt_6 [] (by kernel_rfl) (by kernel_rfl) (by kernel_rfl) (by kernel_rfl) (by kernel_rfl) (by kernel_rfl) (fun _ _ _ h => h) (Or.inl ⟨by rfl, ?_⟩) hHeld ?_
  rotate_left
  · (intro w' hSw; go_simp; try with_reducible rfl)
  try simp only [Act.put, List.setIfInBounds_toArray, List.set_cons_zero, List.set_cons_succ]
  refine OrdL.wpL_take (i := 7) (v := ?_) opAt_7 [8] (by kernel_rfl) (by kernel_rfl) (by kernel_rfl) (by kernel_rfl) (by kernel_rfl) (by kernel_rfl) (fun _ _ _ h => h) (Or.inl ⟨by rfl, ?_⟩) hHeld ?_
  rotate_left
  · (intro w' hSw; go_simp; try with_reducible rfl)
  try simp only [Act.put, List.setIfInBounds_toArray, List.set_cons_zero, List.set_cons_succ]
  refine OrdL.wpL_take (i := 8) (v := ?_) opAt_8 [] (by kernel_rfl) (by kernel_rfl) (by kernel_rfl) (by kernel_rfl) (by kernel_rfl) (by kernel_rfl) (fun _ _ _ h => h) (Or.inl ⟨by rfl, ?_⟩) hHeld ?_
  rotate_left
  · (intro w' hSw; go_simp; try with_reducible rfl)
  try simp only [Act.put, List.setIfInBounds_toArray, List.set_cons_zero, List.set_cons_succ]
  refine OrdL.wpL_ready (rs := [9]) (by kernel_rfl) (by simp) ?_
  refine OrdL.AllL.cons rfl (fun K hK => ?_) OrdL.AllL.nil
  have f4 := HC3.out.f4
  go_simp
  refine hK.out _ _ (fun h => by simp at h) ?_
  refine OrdL.wpL_done (by kernel_rfl) ?_ _
  refine NoPanic.normal ?_
  go_wp2_with fail
  go_end0
  have e2 : ((s.loose : Int) + (n : Int)) = ((s.loose + d.units : Nat) : Int) := by rw [HN.out]; push_cast; rfl
  rw [e2]
  try rw [IntWalk.i64_in _ (by have := HN.out; omega)]
  have hg5 : Chg (fun i => i = F ∨ vd.ownBlock = some i) w (w2.setCell ⟨F, 4, none⟩ (.int .i64 ((s.loose + d.units : Nat) : Int))) := HG3.out.setCell (.inl rfl) _
  exact ⟨rfl, .slice A1 (nd + 1) n1, H.out.more HD.out HR.out hg5 (HC3.out.set4 _) (by rw [← Hlen.out]; exact ((Chg.refl (M := fun i => i = F) (w := w2)).setCell rfl _).own HOwn4.out HF1.out) HV2.out, hg5, HV2.out⟩
set_option maxRecDepth 100000 in
set_option maxHeartbeats 4000000 in
theorem fadd_cut {w : World} {F : Nat} {R : Nat → Prop} {vs vt vd : Value} {dvs : List Value} {s : FSt} (h : FileAt w F R vs vt vd dvs s) (hR : ∀ i, R i → i < w.heap.size) {n : Nat} {d : Deed} (hd : DeedAt w R (cutV n) d) (hn : d.units = 1) (hb : s.loose + 1 ≤ 10000000) (hl : s.deeds.length ≤ 10000000) :
    Calls Tryz.prog 106 #[.pointer (some ⟨F, 0, none⟩), cutV n] w fun e w' => e = .returned (.tuple #[]) ∧ ∃ vd', FileAt w' F R vs vt vd' (dvs ++ [cutV n]) ⟨s.safe, s.kept, s.tail, s.deeds ++ [d]⟩ ∧ Chg (fun i => i = F ∨ vd.ownBlock = some i) w w' ∧ (vd'.ownBlock = vd.ownBlock ∨ ∀ g, vd'.ownBlock = some g → w.heap.size ≤ g) := by
  obtain ⟨i0, hi0, hz0, hz1, hz2⟩ := info_parts deed_info
  have hm : ∀ w : World, (method 99 157 (.agg #[.int .i64 (n : Int)]) "hourbook/file.units").run Tryz.prog w = .ok (238, (.agg #[.int .i64 (n : Int)])) w := fun _ => by kernel_rfl
  have H := Lib.hid h
  have HR := Lib.hid hR
  have HD := Lib.hid hd
  have HN := Lib.hid hn
  obtain ⟨Ad, cd, rfl, hlc, hcm, hAb⟩ := own_slice h.deeds
  obtain ⟨c0, c1, c2, c3, c4, f0, f1, f2, f3, f4⟩ := h.cells
  have hF := h.cells.lt
  have hFd := h.apart.d
  have HOwn0 := Lib.hid (h.deeds)
  have HE := Lib.hid (show ∀ R', FileAt w F R vs vt (.slice Ad s.deeds.length cd) dvs s → R' = R → True from fun _ _ _ => trivial)
  clear HE
  obtain ⟨nd, hlen⟩ : ∃ nd, nd = s.deeds.length := ⟨_, rfl⟩
  obtain ⟨vd, hvd⟩ : ∃ vd, vd = Value.slice Ad nd cd := ⟨_, rfl⟩
  rw [← hlen, ← hvd] at H HOwn0 hFd
  rw [← hlen] at c3 hl hlc
  rw [← hlen, ← hvd]
  have Hlen := Lib.hid hlen
  have Hvd := Lib.hid hvd
  clear hlen hvd hd h hn hAb hR
  have HOwn1 := Lib.hid HOwn0.out
  rw [Hvd.out] at HOwn1
  unfold cutV
  go_enter Tryz.func106, Tryz.ntmps106
  go_wp2_with (at_builtin; (refine wpList_append_1 _ rfl _ _ 145 rfl 0 189 i0 .nilIface 16 Tryz.underlying145 hi0 hz0 hz1 hz2 rfl _ nd dvs rfl (HOwn1.out.alloc _) ⟨w.heap.size, 0, none⟩ 1 _ rfl (cell_new1 _ _ _) rfl (by unfold maxLen; omega) (by omega) (Nat.zero_le _) ?_); intro v1 w1 hown1 hbw1 hg1 hv1; obtain ⟨A1, n1, rfl, hlc1, hcm1, hAb1⟩ := own_slice hown1; rw [← Hvd.out] at hg1 hv1; have hbF : w1.heap[F]? = w.heap[F]? := (hg1.block F (by simp; omega) (fun e => hFd e.symm)).trans (Below.heap_alloc w _ F hF); have hcl := H.out.cells.of_block hbF; have HC1 := Lib.hid hcl; have HG1 := Lib.hid hg1; have HV1 := Lib.hid hv1; have HOwn2 := Lib.hid hown1; clear hg1 hv1 hown1 hbw1 hAb1 hbF; clear c0 c1 c2 c3 c4 f0 f1 f2 f3 f4; obtain ⟨c0, c1, c2, c3, c4, f0, f1, f2, f3, f4⟩ := hcl)
  clear c0 c1 c2 c3 c4 f0 f1 f2 f3 f4
  have HC2 := Lib.hid (HC1.out.set3 (.slice A1 (nd + 1) n1)).drew
  have HG2 : Hid (Chg (fun i => i = F ∨ vd.ownBlock = some i) w (w1.setCell ⟨F, 3, none⟩ (.slice A1 (nd + 1) n1)).drew) := ((Chg.trans (Chg.refl.alloc _) (Chg.of_grown HG1.out (fun g hg => .inr hg)) (fun i hi => .inl hi)).setCell (.inl rfl) _).drew
  have HF1 : Hid (∀ g, (Value.slice A1 (nd + 1) n1).ownBlock = some g → g ≠ F) := fun g hg e => by
    subst e
    rcases HV1.out with h1 | h1
    · exact hFd (h1 ▸ hg)
    · rw [hg] at h1; injection h1 with h1; simp at h1; omega
  have HOwn3 : Hid ((w1.setCell ⟨F, 3, none⟩ (.slice A1 (nd + 1) n1)).drew.ownsRow 0 189 1 (.slice A1 (nd + 1) n1) (nd + 1) (dvs ++ [cutV n])) := (((Chg.refl (M := fun i => i = F) (w := w1)).setCell rfl _).drew).own HOwn2.out HF1.out
  have HV2 : Hid ((Value.slice A1 (nd + 1) n1).ownBlock = vd.ownBlock ∨ ∀ g, (Value.slice A1 (nd + 1) n1).ownBlock = some g → w.heap.size ≤ g) := HV1.out.imp id (fun h1 g hg => by rw [h1] at hg; injection hg with hg; simp at hg; omega)
  refine wp_region_noPanic ?_
  refine OrdL.wpL_region (fun w' => w'.cell? ⟨F, 4, none⟩ = some (.int .i64 (s.loose : Int))) 9 (by kernel_rfl) ?_
  clear HC1 HG1 HOwn2 HV1 HOwn1
  generalize World.drew _ = W at *
  have hHeld := HC2.out.c4
  refine OrdL.wpL_take (i := 0) (v := ?_) opAt_0 [] (by kernel_rfl) (by kernel_rfl) (by kernel_rfl) (by kernel_rfl) (by kernel_rfl) (by kernel_rfl) (fun _ _ _ h => h) (Or.inl ⟨by rfl, ?_⟩) hHeld ?_
  rotate_left
  · (intro w' hSw; go_simp; try with_reducible rfl)
  try simp only [Act.put, List.setIfInBounds_toArray, List.set_cons_zero, List.set_cons_succ]
  refine OrdL.wpL_take (i := 1) (v := ?_) opAt_1 [] (by kernel_rfl) (by kernel_rfl) (by kernel_rfl) (by kernel_rfl) (by kernel_rfl) (by kernel_rfl) (fun _ _ _ h => h) (Or.inl ⟨by rfl, ?_⟩) hHeld ?_
  rotate_left
  · (intro w' hSw; go_simp; try with_reducible rfl)
  try simp only [Act.put, List.setIfInBounds_toArray, List.set_cons_zero, List.set_cons_succ]
  refine OrdL.wpL_take (i := 2) (v := ?_) opAt_2 [] (by kernel_rfl) (by kernel_rfl) (by kernel_rfl) (by kernel_rfl) (by kernel_rfl) (by kernel_rfl) (fun _ _ _ h => h) (Or.inl ⟨by rfl, ?_⟩) hHeld ?_
  rotate_left
  · (intro w' hSw; go_simp; try with_reducible rfl)
  try simp only [Act.put, List.setIfInBounds_toArray, List.set_cons_zero, List.set_cons_succ]
  refine OrdL.wpL_take (i := 3) (v := ?_) opAt_3 [] (by kernel_rfl) (by kernel_rfl) (by kernel_rfl) (by kernel_rfl) (by kernel_rfl) (by kernel_rfl) (fun _ _ _ h => h) (Or.inl ⟨by rfl, ?_⟩) hHeld ?_
  rotate_left
  · (intro w' hSw; go_simp; try with_reducible rfl)
  try simp only [Act.put, List.setIfInBounds_toArray, List.set_cons_zero, List.set_cons_succ]
  refine OrdL.wpL_take (i := 4) (v := ?_) opAt_4 [] (by kernel_rfl) (by kernel_rfl) (by kernel_rfl) (by kernel_rfl) (by kernel_rfl) (by kernel_rfl) (fun _ _ _ h => h) (Or.inl ⟨by rfl, ?_⟩) hHeld ?_
  rotate_left
  · (intro w' hSw; go_simp; try with_reducible rfl)
  try simp only [Act.put, List.setIfInBounds_toArray, List.set_cons_zero, List.set_cons_succ]
  refine OrdL.wpL_ready (rs := [5]) (by kernel_rfl) (by simp) ?_
  refine OrdL.AllL.cons rfl (fun K hK => ?_) OrdL.AllL.nil
  go_simp
  refine (cut_units n _).mono ?_
  rintro e w2 ⟨rfl, hb2⟩
  go_wp2_with fail
  have HC3 := Lib.hid (HC2.out.on hb2)
  have HG3 := Lib.hid (HG2.out.trans (Chg.of_below (M := fun _ => False) hb2) (fun _ h => h.elim))
  have HOwn4 := Lib.hid (own_below HOwn3.out hb2 (Nat.le_refl _))
  clear hHeld
  have hHeld := HC3.out.c4
  refine hK.out _ _ (fun _ => hHeld) ?_
  clear hK K
  try simp only [Act.put, List.setIfInBounds_toArray, List.set_cons_zero, List.set_cons_succ]
  refine OrdL.wpL_take (i := 6) (v := ?_) opAt_6 [] (by kernel_rfl) (by kernel_rfl) (by kernel_rfl) (by kernel_rfl) (by kernel_rfl) (by kernel_rfl) (fun _ _ _ h => h) (Or.inl ⟨by rfl, ?_⟩) hHeld ?_
  rotate_left
  · (intro w' hSw; go_simp; try with_reducible rfl)
  try simp only [Act.put, List.setIfInBounds_toArray, List.set_cons_zero, List.set_cons_succ]
  refine OrdL.wpL_take (i := 7) (v := ?_) opAt_7 [8] (by kernel_rfl) (by kernel_rfl) (by kernel_rfl) (by kernel_rfl) (by kernel_rfl) (by kernel_rfl) (fun _ _ _ h => h) (Or.inl ⟨by rfl, ?_⟩) hHeld ?_
  rotate_left
  · (intro w' hSw; go_simp; try with_reducible rfl)
  try simp only [Act.put, List.setIfInBounds_toArray, List.set_cons_zero, List.set_cons_succ]
  refine OrdL.wpL_take (i := 8) (v := ?_) opAt_8 [] (by kernel_rfl) (by kernel_rfl) (by kernel_rfl) (by kernel_rfl) (by kernel_rfl) (by kernel_rfl) (fun _ _ _ h => h) (Or.inl ⟨by rfl, ?_⟩) hHeld ?_
  rotate_left
  · (intro w' hSw; go_simp; try with_reducible rfl)
  try simp only [Act.put, List.setIfInBounds_toArray, List.set_cons_zero, List.set_cons_succ]
  refine OrdL.wpL_ready (rs := [9]) (by kernel_rfl) (by simp) ?_
  refine OrdL.AllL.cons rfl (fun K hK => ?_) OrdL.AllL.nil
  have f4 := HC3.out.f4
  go_simp
  refine hK.out _ _ (fun h => by simp at h) ?_
  refine OrdL.wpL_done (by kernel_rfl) ?_ _
  refine NoPanic.normal ?_
  go_wp2_with fail
  go_end0
  have e2 : ((s.loose : Int) + 1) = ((s.loose + d.units : Nat) : Int) := by rw [HN.out]; push_cast; rfl
  rw [e2]
  try rw [IntWalk.i64_in _ (by have := HN.out; omega)]
  have hg5 : Chg (fun i => i = F ∨ vd.ownBlock = some i) w (w2.setCell ⟨F, 4, none⟩ (.int .i64 ((s.loose + d.units : Nat) : Int))) := HG3.out.setCell (.inl rfl) _
  exact ⟨rfl, .slice A1 (nd + 1) n1, H.out.more HD.out HR.out hg5 (HC3.out.set4 _) (by rw [← Hlen.out]; exact ((Chg.refl (M := fun i => i = F) (w := w2)).setCell rfl _).own HOwn4.out HF1.out) HV2.out, hg5, HV2.out⟩
end Go.Proofs.YtaicibmaogiibaaGreatDoor

/-
  Layer 5: Append.
-/
set_option linter.unusedVariables false
set_option linter.unusedSimpArgs false
namespace Go.Proofs.YtaicibmaogiibaaGreatDoor
open Go.RowKit

/-- the value v is a slice that reads as the bytes l, out of a block of N -/
def BsIn (w : World) (N : Nat → Prop) (v : Value) (l : List UInt8) : Prop := ∃ A c, v = .slice A l.length c ∧ l.length ≤ c ∧ RdR w N A (bvs l)
theorem BsIn.bs {w : World} {N : Nat → Prop} {v : Value} {l : List UInt8} (h : BsIn w N v l) : Bs w w.heap.size v l := by
  obtain ⟨A, c, e, hc, hr⟩ := h
  exact ⟨A, c, e, hc, hr.rd⟩
theorem BsIn.chg {w w' : World} {N M : Nat → Prop} {v : Value} {l : List UInt8} (h : BsIn w N v l) (hc : Chg M w w') (hM : ∀ i, M i → ¬ N i) : BsIn w' N v l := by
  obtain ⟨A, c, e, hc', hr⟩ := h
  exact ⟨A, c, e, hc', hr.chg hc hM⟩
theorem BsIn.mono {w : World} {N N' : Nat → Prop} {v : Value} {l : List UInt8} (h : BsIn w N v l) (hN : ∀ i, N i → N' i) : BsIn w N' v l := by
  obtain ⟨A, c, e, hc', hr⟩ := h
  exact ⟨A, c, e, hc', hr.mono hN⟩
theorem BsIn.of_own {w : World} {b n : Nat} {e : TypeId} {v : Value} {l : List UInt8} (h : w.ownsRow b e 1 v n (bvs l)) : BsIn w (fun i => v.ownBlock = some i) v l := by
  have hn : l.length = n := by have := h.1; simpa [bvs] using this
  subst hn
  obtain ⟨A, c, rfl, hc, _⟩ := own_slice h
  refine ⟨A, c, rfl, hc, fun hx => ?_⟩
  obtain ⟨b, o, rfl, hb, hcell⟩ := Rd.of_own h hx
  exact ⟨b, o, rfl, rfl, hcell⟩

theorem FileAt.mono {w : World} {F : Nat} {R R' : Nat → Prop} {vs vt vd : Value} {dvs : List Value} {s : FSt} (h : FileAt w F R vs vt vd dvs s) (hR : ∀ i, R i → R' i) (hn : ∀ i, FOwn F vs vt vd i → ¬ R' i) : FileAt w F R' vs vt vd dvs s :=
  ⟨h.cells, h.safe, h.tail, h.deeds, h.each.mono hR, h.apart, hn⟩
/-- another tail, as memory has it -/
theorem FileAt.tailed {w w' : World} {F k : Nat} {R : Nat → Prop} {vs vt vt' vd : Value} {dvs : List Value} {s : FSt} {t : List UInt8} (h : FileAt w F R vs vt vd dvs s) (hR : ∀ i, R i → i < w.heap.size)
    (hc : Chg (fun i => i = F ∨ vt.ownBlock = some i) w w') (hcells : FCells w' F vs vt' vd k s.loose) (hown : w'.ownsRow 0 5 1 vt' t.length (bvs t)) (hob : vt'.ownBlock = vt.ownBlock ∨ ∀ g, vt'.ownBlock = some g → w.heap.size ≤ g) :
    FileAt w' F R vs vt' vd dvs ⟨s.safe, k, t, s.deeds⟩ := by
  have hno : ∀ i, (i = F ∨ vt.ownBlock = some i) → ¬ R i := by
    rintro i (rfl | hi)
    · exact h.rows _ (.inl rfl)
    · exact h.rows _ (.inr (.inr (.inl hi)))
  have hs := (h.safe.lt)
  have ht := (h.deeds.lt)
  have hF := h.cells.lt
  refine ⟨hcells, hc.own h.safe ?_, hown, hc.own h.deeds ?_, h.each.chg hc hno, ⟨h.apart.s, ?_, h.apart.d, ?_, h.apart.sd, ?_⟩, ?_⟩
  · rintro g hg (rfl | e)
    · exact h.apart.s hg
    · exact h.apart.st g hg e
  · rintro g hg (rfl | e)
    · exact h.apart.d hg
    · exact h.apart.td g e hg
  · intro e
    rcases hob with h1 | h1
    · exact h.apart.t (h1 ▸ e)
    · have := h1 _ e; omega
  · intro g hg e
    rcases hob with h1 | h1
    · exact h.apart.st g hg (h1 ▸ e)
    · have := h1 _ e; have := (hs g hg).2; omega
  · intro g e hg
    rcases hob with h1 | h1
    · exact h.apart.td g (h1 ▸ e) hg
    · have := h1 _ e; have := (ht g hg).2; omega
  · rintro i (rfl | hi | hi | hi) hr
    · exact h.rows _ (.inl rfl) hr
    · exact h.rows _ (.inr (.inl hi)) hr
    · rcases hob with h1 | h1
      · exact h.rows _ (.inr (.inr (.inl (h1 ▸ hi)))) hr
      · have := h1 _ hi; have := hR i hr; omega
    · exact h.rows _ (.inr (.inr (.inr hi))) hr
theorem fappend_none {w : World} (F c : Nat) (A : Option Addr) : Calls Tryz.prog 95 #[.pointer (some ⟨F, 0, none⟩), .slice A 0 c] w fun e w' => e = .returned (.int .i64 0) ∧ Below w.heap.size w w' := by
  go_enter Tryz.func95, Tryz.ntmps95
  go_wp2
  go_ret
  exact ⟨rfl, Below.refl _ _⟩

set_option maxRecDepth 100000 in
set_option maxHeartbeats 4000000 in
theorem fappend_m {w : World} {F : Nat} {M R N : Nat → Prop} {s : FSt} {v : Value} {r : List UInt8} (h : FileM w F M R s) (hv : BsIn w N v r) (hN : ∀ i, M i → ¬ N i) (hr : r ≠ []) (hb : s.big + r.length ≤ 10000000) :
    Calls Tryz.prog 95 #[.pointer (some ⟨F, 0, none⟩), v] w fun e w' => e = .returned (.int .i64 0) ∧ Mut w w' F M R (s.app r) := by
  obtain ⟨i0, hi0, hz0, hz1, hz2⟩ := info_parts fbyte_info
  obtain ⟨ho, hMR, hM, hR, vs, vt, vd, dvs, h, hOM⟩ := h
  have hbl := FSt.bytes_length ho
  have hbt := FSt.length_bytes ho
  have hdl : s.deeds.length ≤ s.loose := length_le_units _ _ ho.valid
  have hbig : s.big = s.safe.length + s.loose := rfl
  have HV := Lib.hid hv
  have HBs := Lib.hid hv.bs
  have HOk := Lib.hid ho
  have HMR := Lib.hid hMR
  have HM := Lib.hid hM
  have HR := Lib.hid hR
  have HOM := Lib.hid hOM
  have HN := Lib.hid hN
  have H := Lib.hid h
  obtain ⟨A, c, rfl, hlc, _⟩ := hv
  have hlen : 0 < r.length := List.length_pos_iff.2 hr
  have hne : ((r.length : Int) == 0) = false := by simp; omega
  obtain ⟨nr, hnr⟩ : ∃ nr, nr = r.length := ⟨_, rfl⟩
  rw [← hnr] at hne hlc hb
  rw [← hnr] at HV HBs
  rw [← hnr]
  have HNr := Lib.hid hnr
  clear ho hMR hM hR hOM hN h hnr
  go_enter Tryz.func95, Tryz.ntmps95
  go_wp2_with fail
  refine (fclone _ r _ _ HBs.out (Nat.le_refl _) (by have := HNr.out; omega)).mono ?_
  rintro e w1 ⟨v1, rfl, hown1, hb1⟩
  obtain ⟨A1, c1, rfl, hlc1, hcm1, hAb1⟩ := own_slice hown1
  have HO1 := Lib.hid hown1
  have HB1 := Lib.hid hb1
  clear hAb1 hown1 hb1
  go_wp2_with fail
  have HR1 : Hid (∀ i, (R i ∨ (w.heap.size ≤ i ∧ i < w1.heap.size)) → i < w1.heap.size) := fun i hi => hi.elim (fun h => Nat.lt_of_lt_of_le (HR.out i h) HB1.out.size) (fun h => h.2)
  have H1 : Hid (FileAt w1 F (fun i => R i ∨ (w.heap.size ≤ i ∧ i < w1.heap.size)) vs vt vd dvs s) :=
    (H.out.chg (Chg.of_below (M := fun _ => False) HB1.out) (fun i e => e.elim)).mono (fun i h => .inl h) (fun i hi hr => hr.elim (H.out.rows i hi) (fun h => by have := H.out.lt i hi; omega))
  have HD1 : Hid (DeedAt w1 (fun i => R i ∨ (w.heap.size ≤ i ∧ i < w1.heap.size)) (addV A1 r.length c1) (.added r)) :=
    ⟨A1, c1, rfl, hlc1, by
      obtain ⟨A2, c2, e, _, hr2⟩ := BsIn.of_own HO1.out
      injection e with e1 e2 e3
      subst e1
      exact hr2.mono (fun i hi => .inr (HO1.out.lt i hi))⟩
  refine (fadd_added H1.out HR1.out HD1.out rfl (by have := HNr.out; omega) (by omega)).mono ?_
  rintro e w2 ⟨rfl, vd2, h2, hc2, hd2⟩
  have H2 := Lib.hid h2
  have HC2 := Lib.hid hc2
  have HD2 := Lib.hid hd2
  have HV2 : Hid (BsIn w2 N (.slice A nr c) r) := (HV.out.chg (Chg.of_below (M := fun _ => False) HB1.out) (fun i e => e.elim)).chg HC2.out (fun i hi => HN.out i (HOM.out i (hi.elim .inl (fun h => .inr (.inr (.inr h))))))
  have HBs2 := Lib.hid HV2.out.bs
  obtain ⟨At, ct, hvt, hlt, hct, _⟩ := own_slice h2.tail
  obtain ⟨nt, hnt⟩ : ∃ nt, nt = s.tail.length := ⟨_, rfl⟩
  have hvt' : vt = .slice At nt ct := by rw [hnt]; exact hvt
  have HOt : Hid (w2.ownsRow 0 5 1 (.slice At nt ct) nt (bvs s.tail)) := by have := h2.tail; rw [hvt'] at this; rw [hnt]; rw [hnt] at this; exact this
  obtain ⟨c0, k1, c2, c3, c4, f0, f1, f2, f3, f4⟩ := h2.cells
  rw [hvt'] at c2
  have Hvt := Lib.hid hvt'
  have Hnt := Lib.hid hnt
  have hnt3 : nt ≤ 10000000 := by have : nt = s.tail.length := hnt; omega
  have hF2 := h2.cells.lt
  have hTF : vt.ownBlock ≠ some F := h2.apart.t
  clear h2 hc2 hd2 hvt hlt hct hvt' hnt
  obtain ⟨Ab, cb, eb, hcb, hrb⟩ := HBs2.out
  injection eb with eb1 eb2 eb3
  subst eb1 eb3
  have Hrb := Lib.hid hrb
  have Hcb := Lib.hid hcb
  clear hcb hrb eb2
  go_wp2_with (at_builtin; (refine wpList_append_rd _ rfl _ _ 47 rfl 0 5 i0 (.int .u8 0) 1 1 Tryz.underlying47 hi0 hz0 hz1 hz2 rfl (by omega) _ nt (bvs s.tail) rfl HOt.out w2.heap.size A nr c (bvs r) rfl (by rw [bvs_length, ← HNr.out]; omega) Hrb.out (bvs_one r) (by unfold maxLen; omega) (by omega) (Nat.zero_le _) ?_); intro v3 w3 hown3 hb3 hg3 hv3; rw [← Hvt.out] at hg3 hv3; have hbF : w3.heap[F]? = w2.heap[F]? := (hg3.block F hF2 (fun e => hTF e.symm)); have hcl := H2.out.cells.of_block hbF; have HC3 := Lib.hid hcl; have HG3 := Lib.hid hg3; have HV3 := Lib.hid hv3; have HO3 := Lib.hid hown3; obtain ⟨A3, n3, rfl, _, _, _⟩ := own_slice hown3; clear hg3 hv3 hown3 hb3 hbF; clear c0 k1 c2 c3 c4 f0 f1 f2 f3 f4; obtain ⟨c0, k1, c2, c3, c4, f0, f1, f2, f3, f4⟩ := hcl)
  go_ret
  have hcc : Chg (fun i => i = F ∨ vt.ownBlock = some i) w2 (w3.setCell ⟨F, 2, none⟩ (.slice A3 (nt + nr) n3)) := (Chg.of_grown HG3.out (fun g hg => .inr hg)).setCell (.inl rfl) _
  have hown4 : (w3.setCell ⟨F, 2, none⟩ (.slice A3 (nt + nr) n3)).ownsRow 0 5 1 (.slice A3 (nt + nr) n3) (s.tail ++ r).length (bvs (s.tail ++ r)) := by
    rw [List.length_append, ← Hnt.out, ← HNr.out, bvs_append]
    refine ((Chg.refl (M := fun i => i = F) (w := w3)).setCell rfl _).own HO3.out (fun g hg e => ?_)
    subst e
    rcases HV3.out with h1 | h1
    · exact hTF (h1 ▸ hg)
    · rw [hg] at h1; injection h1 with h1; omega
  have hfin := H2.out.tailed (fun i hi => Nat.lt_of_lt_of_le (HR1.out i hi) HC2.out.size) hcc (HC3.out.set2 _) hown4 (HV3.out.imp id (fun h1 g hg => by rw [h1] at hg; injection hg with hg; omega))
  have hcw : Chg M w (w3.setCell ⟨F, 2, none⟩ (.slice A3 (nt + nr) n3)) := ((Chg.of_below (M := M) HB1.out).trans HC2.out (fun i hi => .inl (HOM.out i (hi.elim .inl (fun h => .inr (.inr (.inr h))))))).trans hcc (fun i hi => .inl (HOM.out i (hi.elim .inl (fun h => .inr (.inr (.inl h))))))
  refine ⟨rfl, fun i => FOwn F vs (.slice A3 (nt + nr) n3) vd2 i, fun i => R i ∨ (w.heap.size ≤ i ∧ i < w1.heap.size), ⟨FSt.app_ok HOk.out hr, hfin.rows, hfin.lt, fun i hi => Nat.lt_of_lt_of_le (HR1.out i hi) (Nat.le_trans HC2.out.size hcc.size), vs, _, vd2, _, hfin, fun i h => h⟩, hcw, ?_, fun i hi => hi.imp id (fun h => h.1)⟩
  have hs1 := HB1.out.size
  have hs2 := HC2.out.size
  rintro i (rfl | hi | hi | hi)
  · exact .inl (HOM.out _ (.inl rfl))
  · exact .inl (HOM.out _ (.inr (.inl hi)))
  · rcases HV3.out with h1 | h1
    · exact .inl (HOM.out _ (.inr (.inr (.inl (h1 ▸ hi)))))
    · rw [hi] at h1; injection h1 with h1; exact .inr (by omega)
  · rcases HD2.out with h1 | h1
    · exact .inl (HOM.out _ (.inr (.inr (.inr (h1 ▸ hi)))))
    · have := h1 _ hi; exact .inr (by omega)
end Go.Proofs.YtaicibmaogiibaaGreatDoor

/-
  Layer 5: Cut.
-/
set_option linter.unusedVariables false
set_option linter.unusedSimpArgs false
namespace Go.Proofs.YtaicibmaogiibaaGreatDoor
open Go.RowKit

section
variable {w : World} {F : Nat} {M R : Nat → Prop} {s : FSt}
theorem fcut_neg (h : FileM w F M R s) (n : Int) (hn : n < 0) :
    Calls Tryz.prog 61 #[.pointer (some ⟨F, 0, none⟩), .int .i64 n] w fun e w' => e = .returned (.int .i64 1) ∧ Below w.heap.size w w' := by
  go_enter Tryz.func61, Tryz.ntmps61
  go_wp2
  go_ret
  exact ⟨rfl, Below.refl _ _⟩
theorem fcut_long (h : FileM w F M R s) (hb : s.big ≤ 10000000) (n : Int) (hn : (s.bytes.length : Int) < n) :
    Calls Tryz.prog 61 #[.pointer (some ⟨F, 0, none⟩), .int .i64 n] w fun e w' => e = .returned (.int .i64 1) ∧ Below w.heap.size w w' := by
  obtain ⟨l, hl⟩ : ∃ l, s.bytes.length = l := ⟨_, rfl⟩
  have Hl := Lib.hid hl
  rw [hl] at hn
  clear hl
  have hn0 : decide (n < 0) = false := by simp; omega
  go_enter Tryz.func61, Tryz.ntmps61
  go_wp2_with fail
  refine (fsize_m h hb l Hl.out).mono ?_
  rintro e w1 ⟨rfl, hb1⟩
  go_wp2_with fail
  go_ret
  exact ⟨rfl, hb1⟩
theorem fcut_same (h : FileM w F M R s) (hb : s.big ≤ 10000000) (n : Nat) (hn : s.bytes.length = n) :
    Calls Tryz.prog 61 #[.pointer (some ⟨F, 0, none⟩), .int .i64 (n : Int)] w fun e w' => e = .returned (.int .i64 0) ∧ Below w.heap.size w w' := by
  have Hl := Lib.hid hn
  have HM := Lib.hid h
  clear hn h
  go_enter Tryz.func61, Tryz.ntmps61
  go_wp2_with fail
  refine (fsize_m HM.out hb n Hl.out).mono ?_
  rintro e w1 ⟨rfl, hb1⟩
  have HB1 := Lib.hid hb1
  clear hb1
  go_wp2_with fail
  refine (fsize_m (HM.out.on HB1.out) hb n Hl.out).mono ?_
  rintro e w2 ⟨rfl, hb2⟩
  go_wp2_with fail
  go_ret
  exact ⟨rfl, HB1.out.trans (hb2.mono HB1.out.size)⟩

set_option maxRecDepth 100000 in
set_option maxHeartbeats 4000000 in
theorem fcut_m (h : FileM w F M R s) (n : Nat) (hn : n < s.bytes.length) (hb : s.big + 1 ≤ 10000000) :
    Calls Tryz.prog 61 #[.pointer (some ⟨F, 0, none⟩), .int .i64 (n : Int)] w fun e w' => e = .returned (.int .i64 0) ∧ Mut w w' F M R (s.cutd n) := by
  obtain ⟨l, hl⟩ : ∃ l, s.bytes.length = l := ⟨_, rfl⟩
  have hl7 : l ≤ 10000000 := by have := FSt.bytes_length h.ok; omega
  have Hl := Lib.hid hl
  have Hnl : Hid (n < s.bytes.length) := hn
  have HM := Lib.hid h
  have Hb := Lib.hid hb
  rw [hl] at hn
  clear hl h hb
  have hne : ((n : Int) == (l : Int)) = false := by simp; omega
  go_enter Tryz.func61, Tryz.ntmps61
  go_wp2_with fail
  refine (fsize_m HM.out (by have := Hb.out; omega) l Hl.out).mono ?_
  rintro e w1 ⟨rfl, hb1⟩
  have HB1 := Lib.hid hb1
  clear hb1
  go_wp2_with fail
  refine (fsize_m (HM.out.on HB1.out) (by have := Hb.out; omega) l Hl.out).mono ?_
  rintro e w2 ⟨rfl, hb2⟩
  have HB2 := Lib.hid (HB1.out.trans (hb2.mono HB1.out.size))
  clear hb2 HB1
  obtain ⟨ho, hMR, hM, hR, vs, vt, vd, dvs, h0, hOM⟩ := HM.out
  have hbl := FSt.bytes_length ho
  have hbt := FSt.length_bytes ho
  have hdl : s.deeds.length ≤ s.loose := length_le_units _ _ ho.valid
  have hbig : s.big = s.safe.length + s.loose := rfl
  have h2 := h0.chg (Chg.of_below (M := fun _ => False) HB2.out) (fun i e => e.elim)
  have HOk := Lib.hid ho
  have HMR := Lib.hid hMR
  have HR := Lib.hid hR
  have HOM := Lib.hid hOM
  have HR2 : Hid (∀ i, R i → i < w2.heap.size) := fun i hi => Nat.lt_of_lt_of_le (hR i hi) HB2.out.size
  have H2 := Lib.hid h2
  have HA : Hid (s.loose + 1 ≤ 10000000 ∧ s.deeds.length ≤ 10000000 ∧ s.kept + s.tail.length ≤ 10000000) := by have := Hb.out; exact ⟨by omega, by omega, by omega⟩
  have HB' := Lib.hid hbt
  clear ho hMR hM hR hOM h0 h2 hbl hbt hdl hbig
  go_wp2_with fail
  refine (fadd_cut (n := n) H2.out HR2.out (d := .cut n) ⟨rfl, by omega⟩ rfl HA.out.1 HA.out.2.1).mono ?_
  rintro e w3 ⟨rfl, vd2, h3, hc3, hd3⟩
  have H3 := Lib.hid h3
  have HC3 := Lib.hid hc3
  have HD3 := Lib.hid hd3
  obtain ⟨At, ct, hvt, hlt, hct, _⟩ := own_slice h3.tail
  obtain ⟨nt, hnt⟩ : ∃ nt, nt = s.tail.length := ⟨_, rfl⟩
  obtain ⟨kp, hkp⟩ : ∃ kp, kp = s.kept := ⟨_, rfl⟩
  obtain ⟨k', hk'⟩ : ∃ k', k' = min kp n := ⟨_, rfl⟩
  obtain ⟨q, hq⟩ : ∃ q, n = k' + q := ⟨n - k', by omega⟩
  have hvt' : vt = .slice At nt ct := by rw [hnt]; exact hvt
  have hOt : w3.ownsRow 0 5 1 (.slice At nt ct) nt (bvs s.tail) := by have := h3.tail; rw [hvt'] at this; rw [hnt]; rw [hnt] at this; exact this
  have hlt' : nt ≤ ct := by rw [hnt]; exact hlt
  have hHA := HA.out.2.2
  rw [← hnt, ← hkp] at hHA
  have hqt : q ≤ nt := by have h1 := HB'.out; rw [Hl.out, ← hkp, ← hnt] at h1; omega
  have hmin : min (kp : Int) (n : Int) = (k' : Int) := by omega
  have hcut := cut_h At nt ct q (by omega)
  have hsub : (n : Int) - (k' : Int) = (q : Int) := by omega
  have hwr : IntKind.i64.wrap (q : Int) = (q : Int) := IntWalk.i64_in _ (by omega)
  have hcl := h3.cells
  rw [hvt'] at hcl
  have hcl' : FCells w3 F vs (.slice At nt ct) vd2 kp (s.loose + 1) := by rw [hkp]; have := hcl; simpa [FSt.loose, unitsL_append, unitsL, Deed.units] using this
  have HCl := Lib.hid hcl'
  obtain ⟨c0, c1, c2, c3, c4, f0, f1, f2, f3, f4⟩ := hcl'
  have Hvt := Lib.hid hvt'
  have Hnt := Lib.hid hnt
  have Hkp := Lib.hid hkp
  have Hk' := Lib.hid hk'
  have Hq := Lib.hid hq
  have HOt := Lib.hid hOt
  have hTF : vt.ownBlock ≠ some F := h3.apart.t
  clear h3 hc3 hd3 hvt hlt hct hvt' hnt hkp hk' hq hOt hcl
  go_wp2_with fail
  have HC4 := Lib.hid (HCl.out.set1 k').drew
  clear c0 c1 c2 c3 c4 f0 f1 f2 f3 f4
  have HG4 : Hid (Chg (fun i => i = F ∨ vt.ownBlock = some i) w3 (w3.setCell ⟨F, 1, none⟩ (.int .i64 (k' : Int))).drew) := (Chg.refl.setCell (.inl rfl) _).drew
  have HGF : Hid (Chg (fun i => i = F) w3 (w3.setCell ⟨F, 1, none⟩ (.int .i64 (k' : Int))).drew) := ((Chg.refl (M := fun i => i = F) (w := w3)).setCell (p := ⟨F, 1, none⟩) rfl _).drew
  refine wp_region_noPanic ?_
  refine OrdL.wpL_region (fun w' => w'.cell? ⟨F, 1, none⟩ = some (.int .i64 (k' : Int)) ∧ w'.cell? ⟨F, 2, none⟩ = some (.slice At nt ct)) 14 (by kernel_rfl) ?_
  generalize World.drew _ = W at *
  have hHeld : W.cell? ⟨F, 1, none⟩ = some (.int .i64 (k' : Int)) ∧ W.cell? ⟨F, 2, none⟩ = some (.slice At nt ct) := ⟨HC4.out.c1, HC4.out.c2⟩
  refine OrdL.wpL_take (i := 0) (v := ?_) opAt_0 [] (by kernel_rfl) (by kernel_rfl) (by kernel_rfl) (by kernel_rfl) (by kernel_rfl) (by kernel_rfl) (fun _ _ _ h => h) (Or.inl ⟨by rfl, ?_⟩) hHeld ?_
  rotate_left
  · (intro w' hSw; obtain ⟨k1, k2⟩ := hSw; go_simp; try with_reducible rfl)
  try simp only [Act.put, List.setIfInBounds_toArray, List.set_cons_zero, List.set_cons_succ]
  refine OrdL.wpL_take (i := 1) (v := ?_) opAt_1 [] (by kernel_rfl) (by kernel_rfl) (by kernel_rfl) (by kernel_rfl) (by kernel_rfl) (by kernel_rfl) (fun _ _ _ h => h) (Or.inl ⟨by rfl, ?_⟩) hHeld ?_
  rotate_left
  · (intro w' hSw; obtain ⟨k1, k2⟩ := hSw; go_simp; try with_reducible rfl)
  try simp only [Act.put, List.setIfInBounds_toArray, List.set_cons_zero, List.set_cons_succ]
  refine OrdL.wpL_take (i := 2) (v := ?_) opAt_2 [] (by kernel_rfl) (by kernel_rfl) (by kernel_rfl) (by kernel_rfl) (by kernel_rfl) (by kernel_rfl) (fun _ _ _ h => h) (Or.inl ⟨by rfl, ?_⟩) hHeld ?_
  rotate_left
  · (intro w' hSw; obtain ⟨k1, k2⟩ := hSw; go_simp; try with_reducible rfl)
  try simp only [Act.put, List.setIfInBounds_toArray, List.set_cons_zero, List.set_cons_succ]
  refine OrdL.wpL_take (i := 3) (v := ?_) opAt_3 [] (by kernel_rfl) (by kernel_rfl) (by kernel_rfl) (by kernel_rfl) (by kernel_rfl) (by kernel_rfl) (fun _ _ _ h => h) (Or.inl ⟨by rfl, ?_⟩) hHeld ?_
  rotate_left
  · (intro w' hSw; obtain ⟨k1, k2⟩ := hSw; go_simp; try with_reducible rfl)
  try simp only [Act.put, List.setIfInBounds_toArray, List.set_cons_zero, List.set_cons_succ]
  refine OrdL.wpL_take (i := 4) (v := ?_) opAt_4 [] (by kernel_rfl) (by kernel_rfl) (by kernel_rfl) (by kernel_rfl) (by kernel_rfl) (by kernel_rfl) (fun _ _ _ h => h) (Or.inl ⟨by rfl, ?_⟩) hHeld ?_
  rotate_left
  · (intro w' hSw; obtain ⟨k1, k2⟩ := hSw; go_simp; try with_reducible rfl)
  try simp only [Act.put, List.setIfInBounds_toArray, List.set_cons_zero, List.set_cons_succ]
  refine OrdL.wpL_take (i := 5) (v := ?_) opAt_5 [] (by kernel_rfl) (by kernel_rfl) (by kernel_rfl) (by kernel_rfl) (by kernel_rfl) (by kernel_rfl) (fun _ _ _ h => h) (Or.inl ⟨by rfl, ?_⟩) hHeld ?_
  rotate_left
  · (intro w' hSw; obtain ⟨k1, k2⟩ := hSw; go_simp; try with_reducible rfl)
  try simp only [Act.put, List.setIfInBounds_toArray, List.set_cons_zero, List.set_cons_succ]
  refine OrdL.wpL_take (i := 6) (v := ?_) opAt_6 [] (by kernel_rfl) (by kernel_rfl) (by kernel_rfl) (by kernel_rfl) (by kernel_rfl) (by kernel_rfl) (fun _ _ _ h => h) (Or.inl ⟨by rfl, ?_⟩) hHeld ?_
  rotate_left
  · (intro w' hSw; obtain ⟨k1, k2⟩ := hSw; go_simp; try with_reducible rfl)
  try simp only [Act.put, List.setIfInBounds_toArray, List.set_cons_zero, List.set_cons_succ]
  refine OrdL.wpL_take (i := 7) (v := ?_) opAt_7 [] (by kernel_rfl) (by kernel_rfl) (by kernel_rfl) (by kernel_rfl) (by kernel_rfl) (by kernel_rfl) (fun _ _ _ h => h) (Or.inl ⟨by rfl, ?_⟩) hHeld ?_
  rotate_left
  · (intro w' hSw; obtain ⟨k1, k2⟩ := hSw; go_simp; try with_reducible rfl)
  try simp only [Act.put, List.setIfInBounds_toArray, List.set_cons_zero, List.set_cons_succ]
  refine OrdL.wpL_take (i := 8) (v := ?_) opAt_8 [] (by kernel_rfl) (by kernel_rfl) (by kernel_rfl) (by kernel_rfl) (by kernel_rfl) (by kernel_rfl) (fun _ _ _ h => h) (Or.inl ⟨by rfl, ?_⟩) hHeld ?_
  rotate_left
  · (intro w' hSw; obtain ⟨k1, k2⟩ := hSw; go_simp; try with_reducible rfl)
  try simp only [Act.put, List.setIfInBounds_toArray, List.set_cons_zero, List.set_cons_succ]
  refine OrdL.wpL_take (i := 9) (v := ?_) opAt_9 [] (by kernel_rfl) (by kernel_rfl) (by kernel_rfl) (by kernel_rfl) (by kernel_rfl) (by kernel_rfl) (fun _ _ _ h => h) (Or.inl ⟨by rfl, ?_⟩) hHeld ?_
  rotate_left
  · (intro w' hSw; obtain ⟨k1, k2⟩ := hSw; go_simp; try with_reducible rfl)
  try simp only [Act.put, List.setIfInBounds_toArray, List.set_cons_zero, List.set_cons_succ]
  refine OrdL.wpL_take (i := 10) (v := ?_) opAt_10 [] (by kernel_rfl) (by kernel_rfl) (by kernel_rfl) (by kernel_rfl) (by kernel_rfl) (by kernel_rfl) (fun _ _ _ h => h) (Or.inl ⟨by rfl, ?_⟩) hHeld ?_
  rotate_left
  · (intro w' hSw; obtain ⟨k1, k2⟩ := hSw; go_simp; try with_reducible rfl)
  try simp only [Act.put, List.setIfInBounds_toArray, List.set_cons_zero, List.set_cons_succ]
  refine OrdL.wpL_take (i := 11) (v := ?_) opAt_11 [] (by kernel_rfl) (by kernel_rfl) (by kernel_rfl) (by kernel_rfl) (by kernel_rfl) (by kernel_rfl) (fun _ _ _ h => h) (Or.inl ⟨by rfl, ?_⟩) hHeld ?_
  rotate_left
  · (intro w' hSw; obtain ⟨k1, k2⟩ := hSw; go_simp; try with_reducible rfl)
  try simp only [Act.put, List.setIfInBounds_toArray, List.set_cons_zero, List.set_cons_succ]
  refine OrdL.wpL_take (i := 12) (v := ?_) opAt_12 [13] (by kernel_rfl) (by kernel_rfl) (by kernel_rfl) (by kernel_rfl) (by kernel_rfl) (by kernel_rfl) (fun _ _ _ h => h) (Or.inl ⟨by rfl, ?_⟩) hHeld ?_
  rotate_left
  · (intro w' hSw; obtain ⟨k1, k2⟩ := hSw; go_simp; try with_reducible rfl)
  try simp only [Act.put, List.setIfInBounds_toArray, List.set_cons_zero, List.set_cons_succ]
  refine OrdL.wpL_take (i := 13) (v := ?_) opAt_13 [] (by kernel_rfl) (by kernel_rfl) (by kernel_rfl) (by kernel_rfl) (by kernel_rfl) (by kernel_rfl) (fun _ _ _ h => h) (Or.inl ⟨by rfl, ?_⟩) hHeld ?_
  rotate_left
  · (intro w' hSw; obtain ⟨k1, k2⟩ := hSw; go_simp; try with_reducible rfl)
  try simp only [Act.put, List.setIfInBounds_toArray, List.set_cons_zero, List.set_cons_succ]
  refine OrdL.wpL_ready (rs := [14]) (by kernel_rfl) (by simp) ?_
  refine OrdL.AllL.cons rfl (fun K hK => ?_) OrdL.AllL.nil
  have f2 := HC4.out.f2
  have c2 := HC4.out.c2
  go_simp
  refine hK.out _ _ (fun h => by simp at h) ?_
  refine OrdL.wpL_done (by kernel_rfl) ?_ _
  refine NoPanic.normal ?_
  clear f2 c2 hHeld
  go_wp2_with fail
  go_ret
  have hg5 : Chg (fun i => i = F ∨ vt.ownBlock = some i) w3 (W.setCell ⟨F, 2, none⟩ (.slice At q ct)) := HG4.out.setCell (.inl rfl) _
  have hq' : n - min s.kept n = q := by have h1 := Hk'.out; have h2 := Hkp.out; have h3 := Hq.out; omega
  have hk'' : min s.kept n = k' := by have h1 := Hk'.out; have h2 := Hkp.out; omega
  have hown5 : (W.setCell ⟨F, 2, none⟩ (.slice At q ct)).ownsRow 0 5 1 (.slice At q ct) (s.tail.take q).length (bvs (s.tail.take q)) := by
    have h1 := own_take (v := .nilIface) (w := w3) (A := At) (l := s.tail) (c := ct) (s := q) (by have := HOt.out; rw [Hnt.out] at this; exact this) (by have := Hnt.out; omega)
    have h2 := hg5
    have h3 : Chg (fun i => i = F) w3 (W.setCell ⟨F, 2, none⟩ (.slice At q ct)) := HGF.out.setCell rfl _
    refine h3.own h1 (fun g hg e => hTF ?_)
    rw [Hvt.out]
    cases At with
    | none => cases hg
    | some a => rw [← e]; exact hg
  have hob5 : (Value.slice At q ct).ownBlock = vt.ownBlock := by rw [Hvt.out]; cases At <;> rfl
  have hfin := H3.out.tailed (k := k') (fun i hi => Nat.lt_of_lt_of_le (HR2.out i hi) HC3.out.size) hg5 (by
    have := HC4.out.set2 (.slice At q ct)
    have e : FSt.loose ⟨s.safe, s.kept, s.tail, s.deeds ++ [.cut n]⟩ = s.loose + 1 := by simp [FSt.loose, unitsL_append, unitsL, Deed.units]
    rw [e]
    exact this) hown5 (.inl hob5)
  have hst : (⟨s.safe, k', s.tail.take q, s.deeds ++ [.cut n]⟩ : FSt) = s.cutd n := by unfold FSt.cutd; rw [hq', hk'']
  have hfin' : FileAt (W.setCell ⟨F, 2, none⟩ (.slice At q ct)) F R vs (.slice At q ct) vd2 (dvs ++ [cutV n]) (s.cutd n) := by rw [← hst]; exact hfin
  have hcw : Chg M w (W.setCell ⟨F, 2, none⟩ (.slice At q ct)) := ((Chg.of_below (M := M) HB2.out).trans HC3.out (fun i hi => .inl (HOM.out i (hi.elim .inl (fun h => .inr (.inr (.inr h))))))).trans hg5 (fun i hi => .inl (HOM.out i (hi.elim .inl (fun h => .inr (.inr (.inl h))))))
  refine ⟨rfl, fun i => FOwn F vs (.slice At q ct) vd2 i, R, ⟨FSt.cutd_ok HOk.out Hnl.out, hfin'.rows, hfin'.lt, fun i hi => Nat.lt_of_lt_of_le (HR.out i hi) hcw.size, vs, _, vd2, _, hfin', fun i h => h⟩, hcw, ?_, fun i hi => .inl hi⟩
  have hs2 := HB2.out.size
  rintro i (rfl | hi | hi | hi)
  · exact .inl (HOM.out _ (.inl rfl))
  · exact .inl (HOM.out _ (.inr (.inl hi)))
  · exact .inl (HOM.out _ (.inr (.inr (.inl (hob5 ▸ hi)))))
  · rcases HD3.out with h1 | h1
    · exact .inl (HOM.out _ (.inr (.inr (.inr (h1 ▸ hi)))))
    · have := h1 _ hi; exact .inr (by omega)
end
end Go.Proofs.YtaicibmaogiibaaGreatDoor

/- FxSettle -/

/-
  Layer 5: what a crash makes safe (settle).
-/
set_option linter.unusedVariables false
set_option linter.unusedSimpArgs false
namespace Go.Proofs.YtaicibmaogiibaaGreatDoor
open Go.RowKit

/-- what a deed's calls do, whichever kind it is -/
theorem DeedAt.run {w : World} {R : Nat → Prop} {v : Value} {d : Deed} (h : DeedAt w R v d) : ∃ t u fu fd, v = .iface t u ∧
    (∀ (k : Nat) (w : World), (method (k + 1) t u "hourbook/file.units").run Tryz.prog w = .ok (fu, u) w) ∧ (∀ (k : Nat) (w : World), (method (k + 1) t u "hourbook/file.do").run Tryz.prog w = .ok (fd, u) w) ∧
    (∀ (k : Nat) (w : World), (nilAhead (k + 1) t u "hourbook/file.do").run Tryz.prog w = .ok (some false) w) ∧
    (∀ (args : Array Value) (w : World), (callFunc fu args).run Tryz.prog w = .ok (.enter fu args) w) ∧ (∀ (args : Array Value) (w : World), (callFunc fd args).run Tryz.prog w = .ok (.enter fd args) w) ∧
    (∀ w1, Calls Tryz.prog fu #[u] w1 fun e w' => e = .returned (.int .i64 (d.units : Int)) ∧ Below w1.heap.size w1 w') ∧
    (∀ w1, Below w.heap.size w w1 → ∀ (x : Value) (b : List UInt8) (m : Nat), m ≤ d.units → (m = 0 ∨ d.ok b) → w1.ownsRow 0 5 1 x b.length (bvs b) → b.length + d.units ≤ 10000000 →
      Calls Tryz.prog fd #[u, x, .int .i64 (m : Int)] w1 fun e w' => ∃ x', e = .returned x' ∧ w'.ownsRow 0 5 1 x' (d.act b m).length (bvs (d.act b m)) ∧ w1.grownBy w' x.ownBlock ∧ (x'.ownBlock = x.ownBlock ∨ ∀ g, x'.ownBlock = some g → w1.heap.size ≤ g)) := by
  cases d with
  | added r =>
    obtain ⟨A, c, rfl, hc, hr⟩ := h
    refine ⟨183, .agg #[.slice A r.length c], 241, 240, rfl, fun _ _ => by kernel_rfl, fun _ _ => by kernel_rfl, fun _ _ => by kernel_rfl, fun _ _ => by kernel_rfl, fun _ _ => by kernel_rfl, fun w1 => added_units A r.length c w1, ?_⟩
    intro w1 hb x b m hm hok hx hbig
    exact added_do A r c m w.heap.size x b w1 hc hm (hr.rd.below hb (Nat.le_refl _)) hb.size hx hbig
  | cut s =>
    obtain ⟨rfl, hs⟩ := h
    refine ⟨157, .agg #[.int .i64 (s : Int)], 238, 237, rfl, fun _ _ => by kernel_rfl, fun _ _ => by kernel_rfl, fun _ _ => by kernel_rfl, fun _ _ => by kernel_rfl, fun _ _ => by kernel_rfl, fun w1 => cut_units s w1, ?_⟩
    intro w1 hb x b m hm hok hx hbig
    exact cut_do s m x b w1 (hok.imp id (fun h => Nat.le_of_lt h)) (by omega) hx hm

/-- how far settle has come -/
structure SetR (w wr : World) (F : Nat) (vs vt vd : Value) (s : FSt) (k j kj : Nat) (b : List UInt8) (v : Value) : Prop where
  cells : FCells wr F v vt vd s.kept s.loose
  own : wr.ownsRow 0 5 1 v b.length (bvs b)
  chg : Chg (fun i => i = F ∨ vs.ownBlock = some i) w wr
  ob : v.ownBlock = vs.ownBlock ∨ ∀ g, v.ownBlock = some g → w.heap.size ≤ g
  sem : settleL b kj (s.deeds.drop j) = s.behind k
  ok : kj = 0 ∨ Valid b (s.deeds.drop j)
  big : b.length + kj ≤ s.safe.length + k
theorem SetR.ne {w wr : World} {F : Nat} {vs vt vd v : Value} {s : FSt} {k j kj : Nat} {b : List UInt8} (h : SetR w wr F vs vt vd s k j kj b v) (h1 : vs.ownBlock ≠ some F) (hF : F < w.heap.size) : v.ownBlock ≠ some F := fun e => by
  rcases h.ob with h2 | h2
  · exact h1 (h2 ▸ e)
  · have := h2 _ e; omega
theorem SetR.next {w wr wx : World} {F : Nat} {vs vt vd v v' : Value} {s : FSt} {k j kj m : Nat} {b : List UInt8} {d : Deed} (h : SetR w wr F vs vt vd s k j kj b v) (hd : s.deeds[j]? = some d) (hm : m = min kj d.units)
    (hc : FCells wx F v' vt vd s.kept s.loose) (ho : wx.ownsRow 0 5 1 v' (d.act b m).length (bvs (d.act b m))) (hg : Chg (fun i => i = F ∨ v.ownBlock = some i) wr wx) (hob : v'.ownBlock = v.ownBlock ∨ ∀ g, v'.ownBlock = some g → wr.heap.size ≤ g) :
    SetR w wx F vs vt vd s k (j + 1) (kj - m) (d.act b m) v' := by
  have hdr : s.deeds.drop j = d :: s.deeds.drop (j + 1) := by
    obtain ⟨hj, rfl⟩ := List.getElem?_eq_some_iff.1 hd
    exact List.drop_eq_getElem_cons hj
  have hs := h.sem
  have hv := h.ok
  rw [hdr] at hs hv
  refine ⟨hc, ho, h.chg.trans hg ?_, ?_, ?_, ?_, ?_⟩
  · rintro i (rfl | hi)
    · exact .inl (.inl rfl)
    · rcases h.ob with h2 | h2
      · exact .inl (.inr (h2 ▸ hi))
      · exact .inr (h2 _ hi)
  · rcases hob with h2 | h2
    · rw [h2]; exact h.ob
    · exact .inr fun g hg => Nat.le_trans h.chg.size (h2 g hg)
  · rw [hm]; exact hs
  · rcases hv with h0 | hv
    · exact .inl (by omega)
    · by_cases h0 : kj - m = 0
      · exact .inl h0
      · right
        have : m = d.units := by omega
        rw [this]
        exact hv.2
  · have := Deed.act_length b m d
    have := h.big
    omega
theorem SetR.okd {w wr : World} {F : Nat} {vs vt vd v : Value} {s : FSt} {k j kj m : Nat} {b : List UInt8} {d : Deed} (h : SetR w wr F vs vt vd s k j kj b v) (hd : s.deeds[j]? = some d) (hm : m = min kj d.units) : m = 0 ∨ d.ok b := by
  have hdr : s.deeds.drop j = d :: s.deeds.drop (j + 1) := by
    obtain ⟨hj, rfl⟩ := List.getElem?_eq_some_iff.1 hd
    exact List.drop_eq_getElem_cons hj
  have hv := h.ok
  rw [hdr] at hv
  rcases hv with h0 | hv
  · exact .inl (by omega)
  · exact .inr hv.1

theorem unitsL_get : ∀ (ds : List Deed) (j : Nat) (d : Deed), ds[j]? = some d → d.units ≤ unitsL ds
  | [], j, d, h => by simp at h
  | c :: ds, 0, d, h => by simp at h; subst h; simp only [unitsL]; omega
  | c :: ds, j + 1, d, h => by have := unitsL_get ds j d (by simpa using h); simp only [unitsL]; omega
theorem FileAt.row {w : World} {F : Nat} {R : Nat → Prop} {vs vt vd : Value} {dvs : List Value} {s : FSt} (h : FileAt w F R vs vt vd dvs s) {j : Nat} {d : Deed} (hd : s.deeds[j]? = some d) : ∃ dv, dvs[j]? = some dv ∧ DeedAt w R dv d := by
  have hj : j < dvs.length := by rw [h.each.1]; exact (List.getElem?_eq_some_iff.1 hd).1
  exact ⟨dvs[j], List.getElem?_eq_getElem hj, h.each.2 j _ d (List.getElem?_eq_getElem hj) hd⟩

set_option maxRecDepth 100000 in
set_option maxHeartbeats 8000000 in
theorem fsettle_m {w : World} {F : Nat} {M R : Nat → Prop} {s : FSt} (h : FileM w F M R s) (k : Nat) (hk : k ≤ s.loose) (hb : s.big ≤ 1000000) :
    Calls Tryz.prog 101 #[.pointer (some ⟨F, 0, none⟩), .int .i64 (k : Int)] w fun e w' => e = .returned (.tuple #[]) ∧ Mut w w' F M R (s.settled k) := by
  obtain ⟨ho, hMR, hM, hR, vs, vt, vd, dvs, h, hOM⟩ := h
  have hdl : s.deeds.length ≤ s.loose := length_le_units _ _ ho.valid
  have hbig : s.big = s.safe.length + s.loose := rfl
  have HB0 : Hid (s.safe.length + s.loose ≤ 1000000 ∧ k ≤ s.loose ∧ s.deeds.length ≤ s.loose) := ⟨by omega, hk, hdl⟩
  have HOk := Lib.hid ho
  have HMR := Lib.hid hMR
  have HM := Lib.hid hM
  have HR := Lib.hid hR
  have HOM := Lib.hid hOM
  have H := Lib.hid h
  obtain ⟨Ad, cd, hvd, hlc, hcm, _⟩ := own_slice h.deeds
  obtain ⟨nd, hnd⟩ : ∃ nd, nd = s.deeds.length := ⟨_, rfl⟩
  have Hnd := Lib.hid hnd
  have hvd' : vd = .slice Ad nd cd := by rw [hnd]; exact hvd
  have hcm' : nd ≤ 1000000 := by omega
  rw [← hnd] at hlc
  have Hvd := Lib.hid hvd'
  have hcl := h.cells
  rw [hvd'] at hcl
  obtain ⟨c0, c1, c2, c3, c4, f0, f1, f2, f3, f4⟩ := hcl
  have hF := h.cells.lt
  have HAp := Lib.hid h.apart
  have HRd : Hid (Rd w w.heap.size Ad dvs) := by have := h.deeds; rw [hvd] at this; exact Rd.of_own this
  have HS0 : Hid (SetR w w F vs vt vd s k 0 k s.safe vs) := ⟨h.cells, h.safe, Chg.refl, .inl rfl, rfl, .inr ho.valid, Nat.le_refl _⟩
  clear ho hMR hM hR hOM h hdl hbig hb hk hvd hnd hvd'
  go_enter Tryz.func101, Tryz.ntmps101
  go_wp2_with fail
  clear c0 c1 c2 c3 c4 f0 f1 f2 f3 f4
  go_loopw [1, 12] (fun q i wr => ∃ (j kj : Nat) (b : List UInt8) (v : Value), j ≤ nd ∧ kj ≤ 1000000 ∧ q = .int .i64 kj ∧ i = .int .i64 j ∧ SetR w wr F vs vt vd s k j kj b v) (fun q i _ => nd - (intOf i).toNat)
  case atStart => exact ⟨0, k, _, _, by omega, by have := HB0.out; omega, rfl, rfl, HS0.out⟩
  case round =>
    obtain ⟨j, kj, b, v, hj, hkj, rfl, rfl, hS⟩ := hrel
    have HS := Lib.hid hS
    clear hS
    by_cases hjl : j < nd
    · obtain ⟨d, hd⟩ : ∃ d, s.deeds[j]? = some d := ⟨s.deeds[j]'(by have := Hnd.out; omega), List.getElem?_eq_getElem _⟩
      obtain ⟨dv, hdv, hda⟩ := H.out.row hd
      have hno : ∀ i, (i = F ∨ vs.ownBlock = some i) → ¬ R i := by
        rintro i (rfl | hi)
        · exact H.out.rows _ (.inl rfl)
        · exact H.out.rows _ (.inr (.inl hi))
      obtain ⟨t, u, fu, fd, rfl, hmu, hmd, hna, heu, hed, hcu, hcd⟩ := (hda.chg HS.out.chg hno).run
      obtain ⟨bb, oo, rfl, hbb, hcc⟩ := HRd.out (by intro e; rw [e] at hdv; simp at hdv)
      have cj : wr.cell? ⟨bb, oo + j, none⟩ = some (.iface t u) := by
        have hne : ¬ (bb = F ∨ vs.ownBlock = some bb) := by
          have e : vd.ownBlock = some bb := by rw [Hvd.out]; rfl
          rintro (e2 | e2)
          · exact HAp.out.d (e2 ▸ e)
          · exact HAp.out.sd bb e2 e
        exact (HS.out.chg.cell (p := ⟨bb, oo + j, none⟩) hbb hne).trans (hcc j _ hdv)
      have Hd := Lib.hid hd
      have Hcu := Lib.hid hcu
      have Hcd := Lib.hid hcd
      obtain ⟨un, hun⟩ : ∃ un, un = d.units := ⟨_, rfl⟩
      have hul : un ≤ 1000000 := by have h1 := unitsL_get _ _ _ hd; have h2 := HB0.out; have : s.loose = unitsL s.deeds := rfl; omega
      obtain ⟨m, hm⟩ : ∃ m, m = min kj un := ⟨_, rfl⟩
      have hmin : min (kj : Int) (un : Int) = (m : Int) := by omega
      have Hm : Hid (m = min kj d.units) := by rw [hm, hun]; exact rfl
      have Hun := Lib.hid hun
      have hmk : m ≤ kj := by omega
      rw [← hun] at Hcu
      clear hcc hda hdv hcu hcd hno hd hun hm
      go_wp2_with fail
      refine (Hcu.out _).mono ?_
      rintro e w1 ⟨rfl, hb1⟩
      have HB1 := Lib.hid hb1
      clear hb1
      go_wp2_with fail
      have HC1 := Lib.hid (HS.out.cells.on HB1.out).drew
      have HO1 := Lib.hid (own_below HS.out.own HB1.out.drew (Nat.le_refl _))
      have HB1' := Lib.hid HB1.out.drew
      refine wp_region_noPanic ?_
      refine OrdL.wpL_region (fun w' => w'.cell? ⟨F, 0, none⟩ = some v) 13 (by kernel_rfl) ?_
      clear HB1
      generalize World.drew _ = W at *
      have hHeld := HC1.out.c0
      refine OrdL.wpL_take (i := 0) (v := ?_) opAt_0 [] (by kernel_rfl) (by kernel_rfl) (by kernel_rfl) (by kernel_rfl) (by kernel_rfl) (by kernel_rfl) (fun _ _ _ h => h) (Or.inl ⟨by rfl, ?_⟩) hHeld ?_
      rotate_left
      · (intro w' hSw; go_simp; try with_reducible rfl)
      try simp only [Act.put, List.setIfInBounds_toArray, List.set_cons_zero, List.set_cons_succ]
      refine OrdL.wpL_take (i := 1) (v := ?_) opAt_1 [] (by kernel_rfl) (by kernel_rfl) (by kernel_rfl) (by kernel_rfl) (by kernel_rfl) (by kernel_rfl) (fun _ _ _ h => h) (Or.inl ⟨by rfl, ?_⟩) hHeld ?_
      rotate_left
      · (intro w' hSw; go_simp; try with_reducible rfl)
      try simp only [Act.put, List.setIfInBounds_toArray, List.set_cons_zero, List.set_cons_succ]
      refine OrdL.wpL_take (i := 2) (v := ?_) opAt_2 [] (by kernel_rfl) (by kernel_rfl) (by kernel_rfl) (by kernel_rfl) (by kernel_rfl) (by kernel_rfl) (fun _ _ _ h => h) (Or.inl ⟨by rfl, ?_⟩) hHeld ?_
      rotate_left
      · (intro w' hSw; go_simp; try with_reducible rfl)
      try simp only [Act.put, List.setIfInBounds_toArray, List.set_cons_zero, List.set_cons_succ]
      refine OrdL.wpL_take (i := 3) (v := ?_) opAt_3 [] (by kernel_rfl) (by kernel_rfl) (by kernel_rfl) (by kernel_rfl) (by kernel_rfl) (by kernel_rfl) (fun _ _ _ h => h) (Or.inl ⟨by rfl, ?_⟩) hHeld ?_
      rotate_left
      · (intro w' hSw; go_simp; try with_reducible rfl)
      try simp only [Act.put, List.setIfInBounds_toArray, List.set_cons_zero, List.set_cons_succ]
      refine OrdL.wpL_take (i := 4) (v := ?_) opAt_4 [] (by kernel_rfl) (by kernel_rfl) (by kernel_rfl) (by kernel_rfl) (by kernel_rfl) (by kernel_rfl) (fun _ _ _ h => h) (Or.inl ⟨by rfl, ?_⟩) hHeld ?_
      rotate_left
      · (intro w' hSw; go_simp; try with_reducible rfl)
      try simp only [Act.put, List.setIfInBounds_toArray, List.set_cons_zero, List.set_cons_succ]
      refine OrdL.wpL_take (i := 5) (v := ?_) opAt_5 [] (by kernel_rfl) (by kernel_rfl) (by kernel_rfl) (by kernel_rfl) (by kernel_rfl) (by kernel_rfl) (fun _ _ _ h => h) (Or.inl ⟨by rfl, ?_⟩) hHeld ?_
      rotate_left
      · (intro w' hSw; go_simp; try with_reducible rfl)
      try simp only [Act.put, List.setIfInBounds_toArray, List.set_cons_zero, List.set_cons_succ]
      refine OrdL.wpL_take (i := 6) (v := ?_) opAt_6 [] (by kernel_rfl) (by kernel_rfl) (by kernel_rfl) (by kernel_rfl) (by kernel_rfl) (by kernel_rfl) (fun _ _ _ h => h) (Or.inl ⟨by rfl, ?_⟩) hHeld ?_
      rotate_left
      · (intro w' hSw; go_simp; try with_reducible rfl)
      try simp only [Act.put, List.setIfInBounds_toArray, List.set_cons_zero, List.set_cons_succ]
      refine OrdL.wpL_take (i := 7) (v := ?_) opAt_7 [] (by kernel_rfl) (by kernel_rfl) (by kernel_rfl) (by kernel_rfl) (by kernel_rfl) (by kernel_rfl) (fun _ _ _ h => h) (Or.inl ⟨by rfl, ?_⟩) hHeld ?_
      rotate_left
      · (intro w' hSw; go_simp; try with_reducible rfl)
      try simp only [Act.put, List.setIfInBounds_toArray, List.set_cons_zero, List.set_cons_succ]
      refine OrdL.wpL_take (i := 8) (v := ?_) opAt_8 [] (by kernel_rfl) (by kernel_rfl) (by kernel_rfl) (by kernel_rfl) (by kernel_rfl) (by kernel_rfl) (fun _ _ _ h => h) (Or.inl ⟨by rfl, ?_⟩) hHeld ?_
      rotate_left
      · (intro w' hSw; go_simp; try with_reducible rfl)
      try simp only [Act.put, List.setIfInBounds_toArray, List.set_cons_zero, List.set_cons_succ]
      refine OrdL.wpL_take (i := 9) (v := ?_) opAt_9 [] (by kernel_rfl) (by kernel_rfl) (by kernel_rfl) (by kernel_rfl) (by kernel_rfl) (by kernel_rfl) (fun _ _ _ h => h) (Or.inl ⟨by rfl, ?_⟩) hHeld ?_
      rotate_left
      · (intro w' hSw; go_simp; try with_reducible rfl)
      try simp only [Act.put, List.setIfInBounds_toArray, List.set_cons_zero, List.set_cons_succ]
      refine OrdL.wpL_ready (rs := [10]) (by kernel_rfl) (by simp) ?_
      refine OrdL.AllL.cons rfl (fun K hK => ?_) OrdL.AllL.nil
      go_simp
      refine (Hcd.out _ HB1'.out v b m (by have := Hm.out; omega) (HS.out.okd Hd.out Hm.out) HO1.out (by have h1 := HS.out.big; have h2 := HB0.out; have h3 := Hun.out; omega)).mono ?_
      rintro e w2 ⟨x', rfl, hox, hgx, hobx⟩
      go_wp2_with fail
      have hvF : v.ownBlock ≠ some F := HS.out.ne HAp.out.s hF
      have HC2 := Lib.hid (HC1.out.of_block (hgx.block F HC1.out.lt (fun e => hvF e.symm)))
      have HOx := Lib.hid hox
      have HGx := Lib.hid hgx
      have HObx := Lib.hid hobx
      clear hHeld hox hgx hobx
      have hHeld := HC2.out.c0
      refine hK.out _ _ (fun _ => hHeld) ?_
      clear hK K
      try simp only [Act.put, List.setIfInBounds_toArray, List.set_cons_zero, List.set_cons_succ]
      refine OrdL.wpL_take (i := 11) (v := ?_) opAt_11 [12] (by kernel_rfl) (by kernel_rfl) (by kernel_rfl) (by kernel_rfl) (by kernel_rfl) (by kernel_rfl) (fun _ _ _ h => h) (Or.inl ⟨by rfl, ?_⟩) hHeld ?_
      rotate_left
      · (intro w' hSw; go_simp; try with_reducible rfl)
      try simp only [Act.put, List.setIfInBounds_toArray, List.set_cons_zero, List.set_cons_succ]
      refine OrdL.wpL_take (i := 12) (v := ?_) opAt_12 [] (by kernel_rfl) (by kernel_rfl) (by kernel_rfl) (by kernel_rfl) (by kernel_rfl) (by kernel_rfl) (fun _ _ _ h => h) (Or.inl ⟨by rfl, ?_⟩) hHeld ?_
      rotate_left
      · (intro w' hSw; go_simp; try with_reducible rfl)
      try simp only [Act.put, List.setIfInBounds_toArray, List.set_cons_zero, List.set_cons_succ]
      refine OrdL.wpL_ready (rs := [13]) (by kernel_rfl) (by simp) ?_
      refine OrdL.AllL.cons rfl (fun K hK => ?_) OrdL.AllL.nil
      have f0 := HC2.out.f0
      obtain ⟨Ax, cx, hxe, _, _, _⟩ := own_slice HOx.out
      obtain ⟨nx, hnx⟩ : ∃ nx, nx = (d.act b m).length := ⟨_, rfl⟩
      rw [← hnx] at hxe
      have Hnx := Lib.hid hnx
      have Hxe := Lib.hid hxe
      clear hnx
      subst hxe
      go_simp
      refine hK.out _ _ (fun h => by simp at h) ?_
      refine OrdL.wpL_done (by kernel_rfl) ?_ _
      refine NoPanic.normal ?_
      go_wp2_with fail
      go_roundw
      case rel =>
        have hxF : (Value.slice Ax nx cx).ownBlock ≠ some F := fun e => by
          rcases HObx.out with h1 | h1
          · exact hvF (h1 ▸ e)
          · have := h1 _ e; have := HC1.out.lt; omega
        refine ⟨j + 1, kj - m, _, _, by omega, by omega, by go_num, by go_num, HS.out.next Hd.out Hm.out (HC2.out.set0 _) (((Chg.refl (M := fun i => i = F) (w := w2)).setCell (p := ⟨F, 0, none⟩) rfl _).own HOx.out (fun g hg e => hxF (e ▸ hg))) ?_ ?_⟩
        · exact ((Chg.of_below (M := fun i => i = F ∨ v.ownBlock = some i) HB1'.out).trans (Chg.of_grown (M := fun i => v.ownBlock = some i) HGx.out (fun g hg => hg)) (fun i hi => .inl (.inr hi))).setCell (.inl rfl) _
        · exact HObx.out.imp id (fun h1 g hg => Nat.le_trans HB1'.out.size (h1 g hg))
      case measure => simp [intOf]; omega
    · obtain rfl : j = nd := by omega
      have HCl := Lib.hid HS.out.cells
      obtain ⟨Av, cv, hve, _, hcv, _⟩ := own_slice HS.out.own
      obtain ⟨nb, hnb⟩ : ∃ nb, nb = b.length := ⟨_, rfl⟩
      have hve' : v = .slice Av nb cv := by rw [hnb]; exact hve
      have hvF : v.ownBlock ≠ some F := HS.out.ne HAp.out.s hF
      have hcl := HCl.out
      rw [hve'] at hcl
      have HCv := Lib.hid hcl
      obtain ⟨c0, c1, c2, c3, c4, f0, f1, f2, f3, f4⟩ := hcl
      have Hve := Lib.hid hve'
      have Hnb := Lib.hid hnb
      clear hve hve' hnb
      go_wp2_with fail
      go_end0
      have hbe : b = s.behind k := by
        have := HS.out.sem
        rw [Hnd.out, List.drop_length] at this
        exact this
      have hc5 := (((HCv.out.set1 nb).set2 (.slice none 0 0)).set3 (.slice none 0 0)).set4 0
      have hg5 : Chg (fun i => i = F) wr ((((wr.setCell ⟨F, 1, none⟩ (.int .i64 (nb : Int))).setCell ⟨F, 2, none⟩ (.slice none 0 0)).setCell ⟨F, 3, none⟩ (.slice none 0 0)).setCell ⟨F, 4, none⟩ (.int .i64 ((0 : Nat) : Int))) := ((((Chg.refl (M := fun i => i = F) (w := wr)).setCell (p := ⟨F, 1, none⟩) rfl _).setCell (p := ⟨F, 2, none⟩) rfl _).setCell (p := ⟨F, 3, none⟩) rfl _).setCell (p := ⟨F, 4, none⟩) rfl _
      generalize World.setCell _ _ _ = W at *
      have ho5 := hg5.own HS.out.own (fun g hg e => hvF (e ▸ hg))
      have hvlt := fun g hg => (HS.out.own.lt g hg).2
      have hMw : Chg M w W := (HS.out.chg.mono (fun i hi => HOM.out i (hi.elim .inl (fun h => .inr (.inl h))))).trans hg5 (fun i hi => .inl (HOM.out i (.inl hi)))
      have hfin : FileAt W F R (.slice Av nb cv) (.slice none 0 0) (.slice none 0 0) [] (s.settled k) := by
        refine ⟨?_, ?_, World.ownsRow_nil _ _ _ _, World.ownsRow_nil _ _ _ _, DeedsAt.nil_, ⟨?_, by simp [Value.ownBlock], by simp [Value.ownBlock], by simp [Value.ownBlock], by simp [Value.ownBlock], by simp [Value.ownBlock]⟩, ?_⟩
        · have e : (s.settled k).kept = nb := by rw [Hnb.out, hbe]; rfl
          rw [e]
          exact hc5
        · have e : (s.settled k).safe = b := hbe.symm
          rw [e, ← Hve.out]
          exact ho5
        · rw [← Hve.out]; exact hvF
        · rintro i (rfl | hi | hi | hi) hr
          · exact H.out.rows _ (.inl rfl) hr
          · rw [← Hve.out] at hi
            rcases HS.out.ob with h1 | h1
            · exact H.out.rows _ (.inr (.inl (h1 ▸ hi))) hr
            · have := h1 _ hi; have := HR.out i hr; omega
          · simp [Value.ownBlock] at hi
          · simp [Value.ownBlock] at hi
      refine ⟨rfl, fun i => FOwn F (.slice Av nb cv) (.slice none 0 0) (.slice none 0 0) i, R, ⟨FSt.settled_ok _ _, hfin.rows, hfin.lt, fun i hi => Nat.lt_of_lt_of_le (HR.out i hi) hMw.size, _, _, _, _, hfin, fun i h => h⟩, hMw, ?_, fun i hi => .inl hi⟩
      rintro i (rfl | hi | hi | hi)
      · exact .inl (HOM.out _ (.inl rfl))
      · rw [← Hve.out] at hi
        rcases HS.out.ob with h1 | h1
        · exact .inl (HOM.out _ (.inr (.inl (h1 ▸ hi))))
        · exact .inr (h1 _ hi)
      · simp [Value.ownBlock] at hi
      · simp [Value.ownBlock] at hi
end Go.Proofs.YtaicibmaogiibaaGreatDoor

/-
  Layer 5: New, Crash, Sync, Flip.
-/
set_option linter.unusedVariables false
set_option linter.unusedSimpArgs false
namespace Go.Proofs.YtaicibmaogiibaaGreatDoor
open Go.RowKit

section
variable {w : World} {F : Nat} {M R : Nat → Prop} {s : FSt}
theorem fcrash_m (h : FileM w F M R s) (hb : s.big ≤ 1000000) (n m : Nat) (hm : m = min n s.loose) :
    Calls Tryz.prog 55 #[.pointer (some ⟨F, 0, none⟩), .int .i64 (n : Int)] w fun e w' => e = .returned (.tuple #[.int .i64 (m : Int), .int .i64 0]) ∧ Mut w w' F M R (s.settled m) := by
  have HM := Lib.hid h
  have HB := Lib.hid hb
  obtain ⟨ho, _, _, _, vs, vt, vd, dvs, h, _⟩ := h
  obtain ⟨lo, hlo⟩ : ∃ lo, lo = s.loose := ⟨_, rfl⟩
  obtain ⟨c0, c1, c2, c3, c4, f0, f1, f2, f3, f4⟩ := h.cells
  rw [← hlo] at c4 hm
  have hmin : min (n : Int) (lo : Int) = (m : Int) := by omega
  have Hm : Hid (m ≤ s.loose) := by rw [← hlo]; exact (by omega : m ≤ lo)
  clear hlo hm hb ho h
  go_enter Tryz.func55, Tryz.ntmps55
  go_wp2_with fail
  refine (fsettle_m HM.out m Hm.out HB.out).mono ?_
  rintro e w1 ⟨rfl, hmut⟩
  have HX := Lib.hid hmut
  clear hmut
  go_wp2_with fail
  go_ret2
  exact ⟨rfl, HX.out⟩
theorem fsync_m (h : FileM w F M R s) (hb : s.big ≤ 1000000) :
    Calls Tryz.prog 91 #[.pointer (some ⟨F, 0, none⟩)] w fun e w' => e = .returned (.int .i64 0) ∧ Mut w w' F M R (s.settled s.loose) := by
  have HM := Lib.hid h
  have HB := Lib.hid hb
  obtain ⟨ho, _, _, _, vs, vt, vd, dvs, h, _⟩ := h
  obtain ⟨c0, c1, c2, c3, c4, f0, f1, f2, f3, f4⟩ := h.cells
  clear hb ho h
  go_enter Tryz.func91, Tryz.ntmps91
  go_wp2_with fail
  refine (fsettle_m HM.out _ (Nat.le_refl _) HB.out).mono ?_
  rintro e w1 ⟨rfl, hmut⟩
  have HX := Lib.hid hmut
  clear hmut
  go_wp2_with fail
  go_ret
  exact ⟨rfl, HX.out⟩
theorem fnew_b {B : Nat} {v : Value} {b : List UInt8} (hv : Bs w B v b) (hB : B ≤ w.heap.size) (hl : b.length ≤ 1000000) :
    Calls Tryz.prog 118 #[v] w fun e w' => ∃ F M, e = .returned (.pointer (some ⟨F, 0, none⟩)) ∧ FileM w' F M (fun _ => False) (FSt.new b) ∧ Below w.heap.size w w' ∧ ∀ i, M i → w.heap.size ≤ i := by
  have HV := Lib.hid hv
  obtain ⟨A, c, rfl, hc, hr⟩ := hv
  clear hr
  obtain ⟨n, hn⟩ : ∃ n, n = b.length := ⟨_, rfl⟩
  rw [← hn] at HV
  rw [← hn]
  have Hn := Lib.hid hn
  have Hl := Lib.hid hl
  clear hn hl hc
  go_enter Tryz.func118, Tryz.ntmps118
  go_wp2_with fail
  refine (fclone _ b B w HV.out hB (by have := Hl.out; omega)).mono ?_
  rintro e w1 ⟨v1, rfl, hown1, hb1⟩
  obtain ⟨A1, c1, rfl, _, _, _⟩ := own_slice hown1
  have HO := Lib.hid hown1
  have HB1 := Lib.hid hb1
  clear hown1 hb1
  go_wp2_with fail
  go_ret
  have hw2 : Below w1.heap.size w1 (w1.alloc (.cells #[.slice A1 b.length c1, .int .i64 (n : Int), .slice none 0 0, .slice none 0 0, .int .i64 0] 147)) := (Below.refl _ _).alloc (Nat.le_refl _) _
  have hF : FileAt (w1.alloc (.cells #[.slice A1 b.length c1, .int .i64 (n : Int), .slice none 0 0, .slice none 0 0, .int .i64 0] 147)) w1.heap.size (fun _ => False) (.slice A1 b.length c1) (.slice none 0 0) (.slice none 0 0) [] (FSt.new b) := by
    refine ⟨?_, own_base (HO.out.alloc _) (Nat.zero_le _), World.ownsRow_nil _ _ _ _, World.ownsRow_nil _ _ _ _, DeedsAt.nil_, ⟨?_, by simp [Value.ownBlock], by simp [Value.ownBlock], by simp [Value.ownBlock], by simp [Value.ownBlock], by simp [Value.ownBlock]⟩, fun i _ h => h⟩
    · have := FCells.new w1 (.slice A1 b.length c1) (.slice none 0 0) (.slice none 0 0) n 0 147
      rw [Hn.out] at this
      rw [Hn.out]
      exact this
    · intro e
      have := (HO.out.lt _ e).2
      omega
  refine ⟨_, fun i => FOwn w1.heap.size (.slice A1 b.length c1) (.slice none 0 0) (.slice none 0 0) i, rfl, ⟨FSt.new_ok _, hF.rows, hF.lt, fun i h => h.elim, _, _, _, _, hF, fun i h => h⟩, HB1.out.trans (hw2.mono HB1.out.size), ?_⟩
  rintro i (rfl | hi | hi | hi)
  · exact HB1.out.size
  · exact (HO.out.lt _ hi).1
  · simp [Value.ownBlock] at hi
  · simp [Value.ownBlock] at hi
end
section
variable {w : World} {F : Nat} {M R : Nat → Prop} {s : FSt}
end
end Go.Proofs.YtaicibmaogiibaaGreatDoor

/-
  Layer 5: Copy.
-/
set_option linter.unusedVariables false
set_option linter.unusedSimpArgs false
namespace Go.Proofs.YtaicibmaogiibaaGreatDoor
open Go.RowKit

end Go.Proofs.YtaicibmaogiibaaGreatDoor

