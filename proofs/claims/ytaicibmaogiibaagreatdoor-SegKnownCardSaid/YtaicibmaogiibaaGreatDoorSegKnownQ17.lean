/-
  SegKnown, part 17 of what the law's proof leans on: JfDo, JfSee, JxSafe, JfLive.
-/
import Derived.Test.YtaicibmaogiibaaGreatDoorSegKnownQ16
import Derived.Test.YtaicibmaogiibaaGreatDoorSegKnownQ14
import Derived.Laws.EntriesVeiled
import Derived.Test.YtaicibmaogiibaaGreatDoorSegKnownQ15
/- JfDo -/

/-
  Layer 7: the calls of a file system that are steps.
-/

set_option linter.unusedVariables false
set_option linter.unusedSimpArgs false
namespace Go.Proofs.YtaicibmaogiibaaGreatDoor
open Go.RowKit Go.Maps

theorem stepF_congr {s : FsP} {f g : FsP → Nat × FsP} (h : f (beginF s).2 = g (beginF s).2) : stepF s f = stepF s g := by unfold stepF; rw [h]
theorem Mut.then {w w' w'' : World} {F : Nat} {M R : Nat → Prop} {t : FSt} (h : Mut w w' F M R t) (hb : Below w'.heap.size w' w'') : Mut w w'' F M R t := by
  obtain ⟨M', R', h1, h2, h3, h4⟩ := h
  exact ⟨M', R', h1.on hb, h2.trans (Chg.of_below (M := fun _ => False) hb) (fun i e => e.elim), h3, h4⟩
section
variable {w w' : World} {A u q T p c r qu : Nat} {M R N : Nat → Prop} {s : FsP} {nm : ByteArray}
theorem finv_remove (h : FInv s q T) (hq : q ≤ 1000) (n : ByteArray) : FInv (removeK n s).2 (q + 1) T := by
  have h1 := h.dir_ hq ⟨4, n, n, 0⟩ (by simp)
  rw [removeP_do] at h1
  exact h1
theorem finv_syncdir (h : FInv s q T) (hq : q ≤ 1000) : FInv (syncDirK s).2 (q + 1) T := by
  have h1 := h.dir_ hq ⟨5, ByteArray.empty, ByteArray.empty, 0⟩ (by simp)
  have e : (doP s.dir ⟨5, ByteArray.empty, ByteArray.empty, 0⟩).2.2 = s.dir.settle s.dir.deeds.length := by
    unfold doP
    rw [if_neg (by simp), if_neg (by simp), if_neg (by simp), if_pos rfl]
  rw [e] at h1
  exact h1
set_option maxRecDepth 100000 in
set_option maxHeartbeats 4000000 in
theorem kcreate {nm : ByteArray} (hnm : nm.size ≤ maxLen) (h : FsM w A s.used M R s) (hf : FInv s q T) (hq : q ≤ 200) (hT : T ≤ 100000) (hst : s.steps + 1 ≤ 1000000) :
    Calls Tryz.prog 68 #[.pointer (some ⟨A, 0, none⟩), .string nm] w fun e w' => e = .returned (.int .i64 ((stepF s (createK nm)).1 : Int)) ∧ FsMut w w' A (stepF s (createK nm)).2.used M R (stepF s (createK nm)).2 := by
  obtain ⟨W, hW⟩ : ∃ W, W = (((w.alloc (.cells #[.pointer (some ⟨A, 0, none⟩)] 26)).alloc (.cells #[.string nm] 9)).alloc (.cells #[.string nm] 9)) := ⟨_, rfl⟩
  have hb : Below w.heap.size w W := by rw [hW]; exact (((Below.refl _ _).alloc (Nat.le_refl _) _).alloc (by simp) _).alloc (by simp; omega) _
  have c0 : W.cell? ⟨w.heap.size, 0, none⟩ = some (.pointer (some ⟨A, 0, none⟩)) := by rw [hW]; exact cell_al (cell_al (box_new _ _ _ _ rfl) _) _
  have c1 : W.cell? ⟨w.heap.size + 1, 0, none⟩ = some (.string nm) := by rw [hW]; exact cell_al (box_new _ _ _ _ (by simp)) _
  have cN : W.cell? ⟨w.heap.size + 1 + 1, 0, none⟩ = some (.string nm) := by rw [hW]; exact box_new _ _ _ _ (by simp)
  have hlA := h.ltA
  have hbi := beginF_is s
  have hf1 : FInv (beginF s).2 q T := hf.same hbi.1 hbi.2.1
  have hSs := ssR_one cN
  have Hstep := Lib.hid (kstep (k := createK nm) (dcap := #[.pointer (some ⟨w.heap.size, 0, none⟩), .pointer (some ⟨w.heap.size + 1, 0, none⟩)]) (h.on hb) hf hT hst hSs (fun i hi e => by have := h.ml i hi; omega) (fun x hx => by simp at hx; subst hx; exact hnm) (by simp)
    (fun args w' => enters_of Tryz.func116 (by kernel_rfl) rfl args w')
    (fun hb0 w1 hm1 hg1 => by
      have hne : ∀ x, w.heap.size ≤ x → ¬ (x = A) := fun x hx e => by omega
      exact kcreate1 (s := (beginF s).2) hnm hm1 hf1 hq (fun e => by have := h.ml _ e; omega) (cell_keep hg1 (hne _ (by omega)) c0) (fun e => by have := h.ml _ e; omega) (cell_keep hg1 (hne _ (by omega)) c1))
    (fun hb0 => ⟨_, (hf1.createK_ (by omega) nm).mono (Nat.le_refl _) (by omega)⟩)
    (fun hb0 => by have h1 := used_create hf1 nm; rw [beginF_used, hbi.1, hbi.2.1] at h1; exact h1))
  have HB := Lib.hid hb
  clear h hf hb hf1 hbi hSs c0 c1 cN
  go_enter Tryz.func68, Tryz.ntmps68
  go_wp2_with fail
  rw [← hW]
  refine Hstep.out.mono ?_
  rintro e w' ⟨rfl, hm⟩
  have HM := Lib.hid (hm.after (Chg.of_below HB.out) (fun _ => .inl) (fun _ => .inl))
  clear hm
  go_wp2_with fail
  go_ret
  exact ⟨rfl, HM.out⟩
set_option maxRecDepth 100000 in
set_option maxHeartbeats 4000000 in
theorem kremove {nm : ByteArray} (hnm : nm.size ≤ maxLen) (h : FsM w A s.used M R s) (hf : FInv s q T) (hq : q ≤ 200) (hT : T ≤ 100000) (hst : s.steps + 1 ≤ 1000000) :
    Calls Tryz.prog 74 #[.pointer (some ⟨A, 0, none⟩), .string nm] w fun e w' => e = .returned (.int .i64 ((stepF s (removeK nm)).1 : Int)) ∧ FsMut w w' A (stepF s (removeK nm)).2.used M R (stepF s (removeK nm)).2 := by
  obtain ⟨W, hW⟩ : ∃ W, W = (((w.alloc (.cells #[.pointer (some ⟨A, 0, none⟩)] 26)).alloc (.cells #[.string nm] 9)).alloc (.cells #[.string nm] 9)) := ⟨_, rfl⟩
  have hb : Below w.heap.size w W := by rw [hW]; exact (((Below.refl _ _).alloc (Nat.le_refl _) _).alloc (by simp) _).alloc (by simp; omega) _
  have c0 : W.cell? ⟨w.heap.size, 0, none⟩ = some (.pointer (some ⟨A, 0, none⟩)) := by rw [hW]; exact cell_al (cell_al (box_new _ _ _ _ rfl) _) _
  have c1 : W.cell? ⟨w.heap.size + 1, 0, none⟩ = some (.string nm) := by rw [hW]; exact cell_al (box_new _ _ _ _ (by simp)) _
  have cN : W.cell? ⟨w.heap.size + 1 + 1, 0, none⟩ = some (.string nm) := by rw [hW]; exact box_new _ _ _ _ (by simp)
  have hlA := h.ltA
  have hbi := beginF_is s
  have hf1 : FInv (beginF s).2 q T := hf.same hbi.1 hbi.2.1
  have hSs := ssR_one cN
  have Hstep := Lib.hid (kstep (k := removeK nm) (dcap := #[.pointer (some ⟨w.heap.size, 0, none⟩), .pointer (some ⟨w.heap.size + 1, 0, none⟩)]) (h.on hb) hf hT hst hSs (fun i hi e => by have := h.ml i hi; omega) (fun x hx => by simp at hx; subst hx; exact hnm) (by simp)
    (fun args w' => enters_of Tryz.func123 (by kernel_rfl) rfl args w')
    (fun hb0 w1 hm1 hg1 => by
      have hne : ∀ x, w.heap.size ≤ x → ¬ (x = A) := fun x hx e => by omega
      exact kremove1 (s := (beginF s).2) hnm hm1 hf1 hq (fun e => by have := h.ml _ e; omega) (cell_keep hg1 (hne _ (by omega)) c0) (fun e => by have := h.ml _ e; omega) (cell_keep hg1 (hne _ (by omega)) c1))
    (fun hb0 => ⟨_, (finv_remove hf1 (by omega) nm).mono (Nat.le_refl _) (by omega)⟩)
    (fun hb0 => by have h1 := used_remove hf1 nm; rw [beginF_used, hbi.1, hbi.2.1] at h1; exact h1))
  have HB := Lib.hid hb
  clear h hf hb hf1 hbi hSs c0 c1 cN
  go_enter Tryz.func74, Tryz.ntmps74
  go_wp2_with fail
  rw [← hW]
  refine Hstep.out.mono ?_
  rintro e w' ⟨rfl, hm⟩
  have HM := Lib.hid (hm.after (Chg.of_below HB.out) (fun _ => .inl) (fun _ => .inl))
  clear hm
  go_wp2_with fail
  go_ret
  exact ⟨rfl, HM.out⟩
set_option maxRecDepth 100000 in
set_option maxHeartbeats 4000000 in
theorem ksyncdir  (h : FsM w A s.used M R s) (hf : FInv s q T) (hq : q ≤ 200) (hT : T ≤ 100000) (hst : s.steps + 1 ≤ 1000000) :
    Calls Tryz.prog 73 #[.pointer (some ⟨A, 0, none⟩)] w fun e w' => e = .returned (.int .i64 ((stepF s (syncDirK)).1 : Int)) ∧ FsMut w w' A (stepF s (syncDirK)).2.used M R (stepF s (syncDirK)).2 := by
  obtain ⟨W, hW⟩ : ∃ W, W = (w.alloc (.cells #[.pointer (some ⟨A, 0, none⟩)] 26)) := ⟨_, rfl⟩
  have hb : Below w.heap.size w W := by rw [hW]; exact (Below.refl _ _).alloc (Nat.le_refl _) _
  have c0 : W.cell? ⟨w.heap.size, 0, none⟩ = some (.pointer (some ⟨A, 0, none⟩)) := by rw [hW]; exact box_new _ _ _ _ rfl
  have hlA := h.ltA
  have hbi := beginF_is s
  have hf1 : FInv (beginF s).2 q T := hf.same hbi.1 hbi.2.1
  have hSs : SsR W (fun _ => False) (.slice none 0 0) [] := ⟨none, 0, rfl, Nat.le_refl _, by unfold maxLen; omega, fun h => absurd rfl h⟩
  have Hstep := Lib.hid (kstep (k := syncDirK) (dcap := #[.pointer (some ⟨w.heap.size, 0, none⟩)]) (h.on hb) hf hT hst hSs (fun i hi e => e) (fun x hx => by simp at hx) (by simp)
    (fun args w' => enters_of Tryz.func121 (by kernel_rfl) rfl args w')
    (fun hb0 w1 hm1 hg1 => by
      have hne : ∀ x, w.heap.size ≤ x → ¬ (x = A) := fun x hx e => by omega
      exact ksyncdir1 (s := (beginF s).2) hm1 hf1 hq (fun e => by have := h.ml _ e; omega) (cell_keep hg1 (hne _ (by omega)) c0))
    (fun hb0 => ⟨_, (finv_syncdir hf1 (by omega)).mono (Nat.le_refl _) (by omega)⟩)
    (fun hb0 => by have h1 := used_sync hf1; rw [beginF_used, hbi.1, hbi.2.1] at h1; exact h1))
  have HB := Lib.hid hb
  clear h hf hb hf1 hbi hSs c0 
  go_enter Tryz.func73, Tryz.ntmps73
  go_wp2_with fail
  rw [← hW]
  refine Hstep.out.mono ?_
  rintro e w' ⟨rfl, hm⟩
  have HM := Lib.hid (hm.after (Chg.of_below HB.out) (fun _ => .inl) (fun _ => .inl))
  clear hm
  go_wp2_with fail
  go_ret
  exact ⟨rfl, HM.out⟩
set_option maxRecDepth 100000 in
set_option maxHeartbeats 4000000 in
theorem kappend1 {F : Nat} {MF : Nat → Prop} {t : FSt} {v : Value} {b : List UInt8} (hF : FileM w F MF R t) (hbig : t.big ≤ 100000) (cp : w.cell? ⟨p, 0, none⟩ = some (.pointer (some ⟨A, 0, none⟩))) (cr : w.cell? ⟨r, 0, none⟩ = some v) (hv : BsIn w N v b) (hN : ∀ i, MF i → ¬ N i) (hbl : b.length ≤ 1200)
    (hc3 : w.cell? ⟨A, 3, none⟩ = some (.int .i64 (u : Int))) (hc2 : w.cell? ⟨A, 2, none⟩ = some (.int .i64 (qu : Int))) (hu : u ≤ 1000000000) :
    Calls Tryz.prog 94 #[.pointer (some ⟨F, 0, none⟩), .pointer (some ⟨p, 0, none⟩), .pointer (some ⟨r, 0, none⟩)] w fun e w' => e = .returned (.int .i64 ((appT u qu b t).1 : Int)) ∧ Mut w w' F MF R (appT u qu b t).2 := by
  have HF := Lib.hid hF
  have HV := Lib.hid hv
  have HN := Lib.hid hN
  have HBg := Lib.hid hbig
  obtain ⟨Ab, cb, rfl, hcb, _⟩ := hv
  obtain ⟨nb, hnb⟩ : ∃ nb, nb = b.length := ⟨_, rfl⟩
  rw [← hnb] at cr hcb HV hbl
  have Hnb := Lib.hid hnb
  obtain ⟨z, hz⟩ : ∃ z, z = u + nb := ⟨_, rfl⟩
  have hw : IntKind.i64.wrap ((u : Int) + (nb : Int)) = (z : Int) := by rw [IntWalk.i64_in _ (by omega), hz]; push_cast; rfl
  have Hz := Lib.hid hz
  clear hF hN hbig hnb hz
  by_cases hq : qu < z
  · have hr : appT u qu b t = (21, t) := by unfold appT; rw [if_pos (by have := Hz.out; have := Hnb.out; omega)]
    have hd : decide ((z : Int) > (qu : Int)) = true := decide_eq_true (by omega)
    have hd2 : (qu : Int) < (z : Int) := by omega
    rw [hr]
    clear hr hq hu
    go_enter Tryz.func94, Tryz.ntmps94
    go_wp2_with fail
    refine wp_region_noPanic ?_
    refine wp_region_held_drew (S := fun w' => w'.cell? ⟨p, 0, none⟩ = some (.pointer (some ⟨A, 0, none⟩)) ∧ w'.cell? ⟨r, 0, none⟩ = some (.slice Ab nb cb) ∧ w'.cell? ⟨A, 3, none⟩ = some (.int .i64 (u : Int)) ∧ w'.cell? ⟨A, 2, none⟩ = some (.int .i64 (qu : Int))) (by kernel_rfl) ⟨cp, cr, hc3, hc2⟩ (fun hHeld => ?_)
    have cr2 := hHeld.2.1
    clear hc3 hc2 cp cr
    have HB0 : Hid (Below w.heap.size w w.drew) := (Below.refl _ _).drew
    generalize World.drew _ = W at *
    refine wpAnyH_take (i := 0) (v := ?_) opAt_0 (by kernel_rfl) (by kernel_rfl) (by kernel_rfl) (fun _ _ _ h => h) (Or.inl ⟨by rfl, ?_⟩) hHeld ?_
    rotate_left
    · (intro w' hSw; obtain ⟨k0, k1, k2, k3⟩ := hSw; go_simp; try with_reducible rfl)
    try simp only [Act.put, List.setIfInBounds_toArray, List.set_cons_zero, List.set_cons_succ]
    refine wpAnyH_take (i := 1) (v := ?_) opAt_1 (by kernel_rfl) (by kernel_rfl) (by kernel_rfl) (fun _ _ _ h => h) (Or.inl ⟨by rfl, ?_⟩) hHeld ?_
    rotate_left
    · (intro w' hSw; obtain ⟨k0, k1, k2, k3⟩ := hSw; go_simp; try with_reducible rfl)
    try simp only [Act.put, List.setIfInBounds_toArray, List.set_cons_zero, List.set_cons_succ]
    refine wpAnyH_take (i := 2) (v := ?_) opAt_2 (by kernel_rfl) (by kernel_rfl) (by kernel_rfl) (fun _ _ _ h => h) (Or.inl ⟨by rfl, ?_⟩) hHeld ?_
    rotate_left
    · (intro w' hSw; obtain ⟨k0, k1, k2, k3⟩ := hSw; go_simp; try with_reducible rfl)
    try simp only [Act.put, List.setIfInBounds_toArray, List.set_cons_zero, List.set_cons_succ]
    refine wpAnyH_take (i := 3) (v := ?_) opAt_3 (by kernel_rfl) (by kernel_rfl) (by kernel_rfl) (fun _ _ _ h => h) (Or.inl ⟨by rfl, ?_⟩) hHeld ?_
    rotate_left
    · (intro w' hSw; obtain ⟨k0, k1, k2, k3⟩ := hSw; go_simp; try with_reducible rfl)
    try simp only [Act.put, List.setIfInBounds_toArray, List.set_cons_zero, List.set_cons_succ]
    refine wpAnyH_take (i := 4) (v := ?_) opAt_4 (by kernel_rfl) (by kernel_rfl) (by kernel_rfl) (fun _ _ _ h => h) (Or.inl ⟨by rfl, ?_⟩) hHeld ?_
    rotate_left
    · (intro w' hSw; obtain ⟨k0, k1, k2, k3⟩ := hSw; go_simp; try with_reducible rfl)
    try simp only [Act.put, List.setIfInBounds_toArray, List.set_cons_zero, List.set_cons_succ]
    refine wpAnyH_take (i := 5) (v := ?_) opAt_5 (by kernel_rfl) (by kernel_rfl) (by kernel_rfl) (fun _ _ _ h => h) (Or.inl ⟨by rfl, ?_⟩) hHeld ?_
    rotate_left
    · (intro w' hSw; obtain ⟨k0, k1, k2, k3⟩ := hSw; go_simp; try with_reducible rfl)
    try simp only [Act.put, List.setIfInBounds_toArray, List.set_cons_zero, List.set_cons_succ]
    refine wpAnyH_take (i := 6) (v := ?_) opAt_6 (by kernel_rfl) (by kernel_rfl) (by kernel_rfl) (fun _ _ _ h => h) (Or.inl ⟨by rfl, ?_⟩) hHeld ?_
    rotate_left
    · (intro w' hSw; obtain ⟨k0, k1, k2, k3⟩ := hSw; go_simp; try with_reducible rfl)
    try simp only [Act.put, List.setIfInBounds_toArray, List.set_cons_zero, List.set_cons_succ]
    refine wpAnyH_take (i := 7) (v := ?_) opAt_7 (by kernel_rfl) (by kernel_rfl) (by kernel_rfl) (fun _ _ _ h => h) (Or.inl ⟨by rfl, ?_⟩) hHeld ?_
    rotate_left
    · (intro w' hSw; obtain ⟨k0, k1, k2, k3⟩ := hSw; go_simp; try with_reducible rfl)
    try simp only [Act.put, List.setIfInBounds_toArray, List.set_cons_zero, List.set_cons_succ]
    refine wpAnyH_take (i := 8) (v := ?_) opAt_8 (by kernel_rfl) (by kernel_rfl) (by kernel_rfl) (fun _ _ _ h => h) (Or.inl ⟨by rfl, ?_⟩) hHeld ?_
    rotate_left
    · (intro w' hSw; obtain ⟨k0, k1, k2, k3⟩ := hSw; go_simp; try with_reducible rfl)
    try simp only [Act.put, List.setIfInBounds_toArray, List.set_cons_zero, List.set_cons_succ]
    refine wpAnyH_take (i := 9) (v := ?_) opAt_9 (by kernel_rfl) (by kernel_rfl) (by kernel_rfl) (fun _ _ _ h => h) (Or.inl ⟨by rfl, ?_⟩) hHeld ?_
    rotate_left
    · (intro w' hSw; obtain ⟨k0, k1, k2, k3⟩ := hSw; go_simp; try with_reducible rfl)
    try simp only [Act.put, List.setIfInBounds_toArray, List.set_cons_zero, List.set_cons_succ]
    refine wpAnyH_take (i := 10) (v := ?_) opAt_10 (by kernel_rfl) (by kernel_rfl) (by kernel_rfl) (fun _ _ _ h => h) (Or.inl ⟨by rfl, ?_⟩) hHeld ?_
    rotate_left
    · (intro w' hSw; obtain ⟨k0, k1, k2, k3⟩ := hSw; go_simp; try with_reducible rfl)
    try simp only [Act.put, List.setIfInBounds_toArray, List.set_cons_zero, List.set_cons_succ]
    refine wpAnyH_take (i := 11) (v := ?_) opAt_11 (by kernel_rfl) (by kernel_rfl) (by kernel_rfl) (fun _ _ _ h => h) (Or.inl ⟨by rfl, ?_⟩) hHeld ?_
    rotate_left
    · (intro w' hSw; obtain ⟨k0, k1, k2, k3⟩ := hSw; go_simp; try with_reducible rfl)
    try simp only [Act.put, List.setIfInBounds_toArray, List.set_cons_zero, List.set_cons_succ]
    refine wpAnyH_done (by kernel_rfl) ?_ _
    refine NoPanic.normal ?_
    go_wp2_with fail
    go_ret
    exact ⟨rfl, Mut.of_below HF.out HB0.out⟩
  · have hd : decide ((z : Int) > (qu : Int)) = false := decide_eq_false (by omega)
    have hd2 : ¬ (qu : Int) < (z : Int) := by omega
    have HAp : Hid (∀ w1, Below w.heap.size w w1 → Calls Tryz.prog 95 #[.pointer (some ⟨F, 0, none⟩), .slice Ab nb cb] w1 fun e w' => e = .returned (.int .i64 ((appT u qu b t).1 : Int)) ∧ Mut w1 w' F MF R (appT u qu b t).2) := fun w1 hb => by
      by_cases hb0 : b = []
      · have hr : appT u qu b t = (0, t) := by unfold appT; rw [if_neg (by have := Hz.out; have := Hnb.out; omega), if_pos hb0]
        rw [hr]
        have hn0 : nb = 0 := by have := Hnb.out; rw [hb0] at this; simpa using this
        rw [hn0]
        refine (fappend_none F cb Ab).mono ?_
        rintro e w' ⟨rfl, hb'⟩
        exact ⟨rfl, Mut.of_below (HF.out.on hb) hb'⟩
      · have hr : appT u qu b t = (0, t.app b) := by unfold appT; rw [if_neg (by have := Hz.out; have := Hnb.out; omega), if_neg hb0]
        rw [hr]
        exact fappend_m (HF.out.on hb) (HV.out.chg (Chg.of_below (M := fun _ => False) hb) (fun i e => e.elim)) HN.out hb0 (by have := HBg.out; have := Hnb.out; omega)
    generalize appT u qu b t = an at *
    clear hq hu
    go_enter Tryz.func94, Tryz.ntmps94
    go_wp2_with fail
    refine wp_region_noPanic ?_
    refine wp_region_held_drew (S := fun w' => w'.cell? ⟨p, 0, none⟩ = some (.pointer (some ⟨A, 0, none⟩)) ∧ w'.cell? ⟨r, 0, none⟩ = some (.slice Ab nb cb) ∧ w'.cell? ⟨A, 3, none⟩ = some (.int .i64 (u : Int)) ∧ w'.cell? ⟨A, 2, none⟩ = some (.int .i64 (qu : Int))) (by kernel_rfl) ⟨cp, cr, hc3, hc2⟩ (fun hHeld => ?_)
    have cr2 := hHeld.2.1
    clear hc3 hc2 cp cr
    have HB0 : Hid (Below w.heap.size w w.drew) := (Below.refl _ _).drew
    generalize World.drew _ = W at *
    refine wpAnyH_take (i := 0) (v := ?_) opAt_0 (by kernel_rfl) (by kernel_rfl) (by kernel_rfl) (fun _ _ _ h => h) (Or.inl ⟨by rfl, ?_⟩) hHeld ?_
    rotate_left
    · (intro w' hSw; obtain ⟨k0, k1, k2, k3⟩ := hSw; go_simp; try with_reducible rfl)
    try simp only [Act.put, List.setIfInBounds_toArray, List.set_cons_zero, List.set_cons_succ]
    refine wpAnyH_take (i := 1) (v := ?_) opAt_1 (by kernel_rfl) (by kernel_rfl) (by kernel_rfl) (fun _ _ _ h => h) (Or.inl ⟨by rfl, ?_⟩) hHeld ?_
    rotate_left
    · (intro w' hSw; obtain ⟨k0, k1, k2, k3⟩ := hSw; go_simp; try with_reducible rfl)
    try simp only [Act.put, List.setIfInBounds_toArray, List.set_cons_zero, List.set_cons_succ]
    refine wpAnyH_take (i := 2) (v := ?_) opAt_2 (by kernel_rfl) (by kernel_rfl) (by kernel_rfl) (fun _ _ _ h => h) (Or.inl ⟨by rfl, ?_⟩) hHeld ?_
    rotate_left
    · (intro w' hSw; obtain ⟨k0, k1, k2, k3⟩ := hSw; go_simp; try with_reducible rfl)
    try simp only [Act.put, List.setIfInBounds_toArray, List.set_cons_zero, List.set_cons_succ]
    refine wpAnyH_take (i := 3) (v := ?_) opAt_3 (by kernel_rfl) (by kernel_rfl) (by kernel_rfl) (fun _ _ _ h => h) (Or.inl ⟨by rfl, ?_⟩) hHeld ?_
    rotate_left
    · (intro w' hSw; obtain ⟨k0, k1, k2, k3⟩ := hSw; go_simp; try with_reducible rfl)
    try simp only [Act.put, List.setIfInBounds_toArray, List.set_cons_zero, List.set_cons_succ]
    refine wpAnyH_take (i := 4) (v := ?_) opAt_4 (by kernel_rfl) (by kernel_rfl) (by kernel_rfl) (fun _ _ _ h => h) (Or.inl ⟨by rfl, ?_⟩) hHeld ?_
    rotate_left
    · (intro w' hSw; obtain ⟨k0, k1, k2, k3⟩ := hSw; go_simp; try with_reducible rfl)
    try simp only [Act.put, List.setIfInBounds_toArray, List.set_cons_zero, List.set_cons_succ]
    refine wpAnyH_take (i := 5) (v := ?_) opAt_5 (by kernel_rfl) (by kernel_rfl) (by kernel_rfl) (fun _ _ _ h => h) (Or.inl ⟨by rfl, ?_⟩) hHeld ?_
    rotate_left
    · (intro w' hSw; obtain ⟨k0, k1, k2, k3⟩ := hSw; go_simp; try with_reducible rfl)
    try simp only [Act.put, List.setIfInBounds_toArray, List.set_cons_zero, List.set_cons_succ]
    refine wpAnyH_take (i := 6) (v := ?_) opAt_6 (by kernel_rfl) (by kernel_rfl) (by kernel_rfl) (fun _ _ _ h => h) (Or.inl ⟨by rfl, ?_⟩) hHeld ?_
    rotate_left
    · (intro w' hSw; obtain ⟨k0, k1, k2, k3⟩ := hSw; go_simp; try with_reducible rfl)
    try simp only [Act.put, List.setIfInBounds_toArray, List.set_cons_zero, List.set_cons_succ]
    refine wpAnyH_take (i := 7) (v := ?_) opAt_7 (by kernel_rfl) (by kernel_rfl) (by kernel_rfl) (fun _ _ _ h => h) (Or.inl ⟨by rfl, ?_⟩) hHeld ?_
    rotate_left
    · (intro w' hSw; obtain ⟨k0, k1, k2, k3⟩ := hSw; go_simp; try with_reducible rfl)
    try simp only [Act.put, List.setIfInBounds_toArray, List.set_cons_zero, List.set_cons_succ]
    refine wpAnyH_take (i := 8) (v := ?_) opAt_8 (by kernel_rfl) (by kernel_rfl) (by kernel_rfl) (fun _ _ _ h => h) (Or.inl ⟨by rfl, ?_⟩) hHeld ?_
    rotate_left
    · (intro w' hSw; obtain ⟨k0, k1, k2, k3⟩ := hSw; go_simp; try with_reducible rfl)
    try simp only [Act.put, List.setIfInBounds_toArray, List.set_cons_zero, List.set_cons_succ]
    refine wpAnyH_take (i := 9) (v := ?_) opAt_9 (by kernel_rfl) (by kernel_rfl) (by kernel_rfl) (fun _ _ _ h => h) (Or.inl ⟨by rfl, ?_⟩) hHeld ?_
    rotate_left
    · (intro w' hSw; obtain ⟨k0, k1, k2, k3⟩ := hSw; go_simp; try with_reducible rfl)
    try simp only [Act.put, List.setIfInBounds_toArray, List.set_cons_zero, List.set_cons_succ]
    refine wpAnyH_take (i := 10) (v := ?_) opAt_10 (by kernel_rfl) (by kernel_rfl) (by kernel_rfl) (fun _ _ _ h => h) (Or.inl ⟨by rfl, ?_⟩) hHeld ?_
    rotate_left
    · (intro w' hSw; obtain ⟨k0, k1, k2, k3⟩ := hSw; go_simp; try with_reducible rfl)
    try simp only [Act.put, List.setIfInBounds_toArray, List.set_cons_zero, List.set_cons_succ]
    refine wpAnyH_take (i := 11) (v := ?_) opAt_11 (by kernel_rfl) (by kernel_rfl) (by kernel_rfl) (fun _ _ _ h => h) (Or.inl ⟨by rfl, ?_⟩) hHeld ?_
    rotate_left
    · (intro w' hSw; obtain ⟨k0, k1, k2, k3⟩ := hSw; go_simp; try with_reducible rfl)
    try simp only [Act.put, List.setIfInBounds_toArray, List.set_cons_zero, List.set_cons_succ]
    refine wpAnyH_done (by kernel_rfl) ?_ _
    refine NoPanic.normal ?_
    go_wp2_with fail
    refine (HAp.out _ HB0.out).mono ?_
    rintro e w1 ⟨rfl, hm⟩
    have HM := Lib.hid (Mut.after HB0.out hm)
    clear hm
    go_wp2_with fail
    go_ret
    exact ⟨rfl, HM.out⟩
theorem syncT_big (t : FSt) (h : t.Ok) : (syncT t).2.Ok ∧ (syncT t).2.big ≤ t.big + 1200 := ⟨(syncT_ok t h).1, by have := (syncT_ok t h).2; omega⟩
set_option maxRecDepth 100000 in
set_option maxHeartbeats 4000000 in
theorem ksync (hnm : nm.size ≤ maxLen) (h : FsM w A s.used M R s) (hf : FInv s q T) (hT : T ≤ 100000) (hst : s.steps + 1 ≤ 1000000) :
    Calls Tryz.prog 43 #[.pointer (some ⟨A, 0, none⟩), .string nm] w fun e w' => e = .returned (.int .i64 ((stepF s (syncK nm)).1 : Int)) ∧ FsMut w w' A (stepF s (syncK nm)).2.used M R (stepF s (syncK nm)).2 := by
  have HS := Lib.hid (kstepOf (k := syncT) (dcap := #[]) hnm h hf hT hst (fun args w' => enters_of Tryz.func91 (by kernel_rfl) rfl args w') syncT_big
    (fun hb0 w1 hg X B n hv K g MX MF i ha hi hbg => by
      have e1 := (beginF_is s).2.1
      have h1 := ha.files i hi
      rw [e1] at h1
      exact fsync_m h1 (by omega)))
  have e : stepF s (syncK nm) = stepF s (fun s => onF s nm syncT) := rfl
  rw [e]
  clear h hf e
  generalize stepF s (fun s => onF s nm syncT) = an at *
  go_enter Tryz.func43, Tryz.ntmps43
  go_wp2_with fail
  refine HS.out.mono ?_
  rintro e w1 ⟨rfl, hm⟩
  have HM := Lib.hid hm
  clear hm
  go_wp2_with fail
  go_ret
  exact ⟨rfl, HM.out⟩
theorem appT_big (u qu : Nat) {b : List UInt8} (hb : b.length ≤ 1200) (t : FSt) (h : t.Ok) : (appT u qu b t).2.Ok ∧ (appT u qu b t).2.big ≤ t.big + 1200 := ⟨(appT_ok u qu b t h).1, by have := (appT_ok u qu b t h).2; omega⟩
set_option maxRecDepth 100000 in
set_option maxHeartbeats 4000000 in
theorem kappend {v : Value} {b : List UInt8} (hnm : nm.size ≤ maxLen) (h : FsM w A s.used M R s) (hf : FInv s q T) (hT : T ≤ 100000) (hst : s.steps + 1 ≤ 1000000) (hv : BsIn w N v b) (hN : ∀ i, M i → ¬ N i) (hbl : b.length ≤ 1200) :
    Calls Tryz.prog 45 #[.pointer (some ⟨A, 0, none⟩), .string nm, v] w fun e w' => e = .returned (.int .i64 ((stepF s (appendK nm b)).1 : Int)) ∧ FsMut w w' A (stepF s (appendK nm b)).2.used M R (stepF s (appendK nm b)).2 := by
  have hv0 := hv
  obtain ⟨Ab, cb, rfl, _, _⟩ := hv
  obtain ⟨W, hW⟩ : ∃ W, W = (w.alloc (.cells #[.pointer (some ⟨A, 0, none⟩)] 26)).alloc (.cells #[.slice Ab b.length cb] 47) := ⟨_, rfl⟩
  have hb : Below w.heap.size w W := by rw [hW]; exact ((Below.refl _ _).alloc (Nat.le_refl _) _).alloc (by simp) _
  have c0 : W.cell? ⟨w.heap.size, 0, none⟩ = some (.pointer (some ⟨A, 0, none⟩)) := by rw [hW]; exact cell_al (box_new _ _ _ _ rfl) _
  have c1 : W.cell? ⟨w.heap.size + 1, 0, none⟩ = some (.slice Ab b.length cb) := by rw [hW]; exact box_new _ _ _ _ (by simp)
  have hlA := h.ltA
  have hv1 := hv0.chg (Chg.of_below (M := fun _ => False) hb) (fun i e => e.elim)
  have hNA : ∀ i, i = A → ¬ N i := fun i e => by rw [e]; exact hN A h.mA
  have hul := hf.used_le
  have HS := Lib.hid (kstepOf (k := appT s.used s.quota b) (dcap := #[.pointer (some ⟨w.heap.size, 0, none⟩), .pointer (some ⟨w.heap.size + 1, 0, none⟩)]) hnm (h.on hb) hf hT hst (fun args w' => enters_of Tryz.func94 (by kernel_rfl) rfl args w') (fun t ht => appT_big _ _ hbl t ht)
    (fun hb0 w1 hg X B n hv K g MX MF i ha hi hbg => by
      have e1 := beginF_is s
      have h1 := ha.files i hi
      have h2 := ha.cells.c2
      rw [e1.2.1] at h1
      rw [e1.2.2] at h2
      exact kappend1 h1 (by omega) (cell_keep hg (fun e => by omega) c0) (cell_keep hg (fun e => by omega) c1) (hv1.chg hg hNA) (fun j hj => hN j (ha.mF i hi j hj)) hbl ha.cells.c3 h2 (by omega)))
  have HB := Lib.hid hb
  have e : stepF s (appendK nm b) = stepF s (fun s' => onF s' nm (appT s.used s.quota b)) := stepF_congr (by unfold appendK; rw [beginF_used, (beginF_is s).2.2])
  rw [e]
  clear h hf e hb c0 c1 hv0 hv1 hN hNA hul
  generalize stepF s (fun s' => onF s' nm (appT s.used s.quota b)) = an at *
  generalize b.length = nb at *
  go_enter Tryz.func45, Tryz.ntmps45
  go_wp2_with fail
  rw [← hW]
  refine HS.out.mono ?_
  rintro e w1 ⟨rfl, hm⟩
  have HM := Lib.hid (hm.after (Chg.of_below HB.out) (fun _ => .inl) (fun _ => .inl))
  clear hm
  go_wp2_with fail
  go_ret
  exact ⟨rfl, HM.out⟩
end
end Go.Proofs.YtaicibmaogiibaaGreatDoor

/- JfSee -/

/-
  Layer 7: what tells and what is set: New, On, Size, ReadAt, Fuse.
-/
set_option linter.unusedVariables false
set_option linter.unusedSimpArgs false
namespace Go.Proofs.YtaicibmaogiibaaGreatDoor
open Go.RowKit Go.Maps

section
variable {w w' : World} {A X B n u q T : Nat} {hv : Value} {K : List Nat} {g : Nat → Nat} {MX M R R' N : Nat → Prop} {MF : Nat → Nat → Prop} {s : FsP} {nm : ByteArray}
theorem FsAt.rise (h : FsAt w A X B n u hv K g MX MF M R s) (hR : ∀ i, R i → R' i) (hM : ∀ i, M i → ¬ R' i) (hl : ∀ i, R' i → i < w.heap.size) : FsAt w A X B n u hv K g MX MF M R' s :=
  { h with
    mr := hM
    rl := hl
    hold := fun ho => (h.hold ho).mono hR
    dir := h.dir.rise hR (fun i hi => hM i (h.mX i hi)) hl
    files := fun i hi => (h.files i hi).rise hR (fun j hj => hM j (h.mF i hi j hj)) hl }
set_option maxRecDepth 100000 in
theorem kon_same (h : FsM w A u M R s) : Calls Tryz.prog 75 #[.pointer (some ⟨A, 0, none⟩)] w fun e w' => e = .returned (.bool (!s.off)) ∧ w = w' := by
  obtain ⟨X, B, n, hv, K, g, MX, MF, ha, _⟩ := h
  have H := Lib.hid ha.cells
  have hS := ha.cells.c5
  clear ha
  generalize (!s.off) = b at *
  go_enter Tryz.func75, Tryz.ntmps75
  go_wp2_with (go_at_call 47; refine (kmade H.out).mono ?_; rintro e w' ⟨rfl, rfl⟩)
  go_ret
  exact ⟨rfl, rfl⟩
set_option maxRecDepth 100000 in
set_option maxHeartbeats 4000000 in
theorem ksize (h : FsM w A u M R s) (hf : FInv s q T) (hT : T ≤ 1000000) (ho : s.off = false) (hn : nm.size ≤ maxLen) :
    Calls Tryz.prog 38 #[.pointer (some ⟨A, 0, none⟩), .string nm] w fun e w' => e = .returned (.tuple #[.int .i64 ((if (nodeF s nm).1 = 0 then (s.file (nodeF s nm).2).bytes.length else 0 : Nat) : Int), .int .i64 ((nodeF s nm).1 : Int)]) ∧ Below w.heap.size w w' := by
  obtain ⟨X, B, n, hv, K, g, MX, MF, ha, hn1, hn2, hn3, hn4, hn5⟩ := h.kfacts hf
  have HF := Lib.hid (kfind ha hn4 ho hn)
  have Ha := Lib.hid ha
  by_cases h0 : (nodeF s nm).1 = 0
  · have hfin : findL s.dir.now nm = some (nodeF s nm).2 := by
      unfold nodeF at h0 ⊢
      split
      · rename_i h1; rw [if_pos h1] at h0; cases h0
      · rename_i h1
        rw [if_neg h1] at h0
        cases hf2 : findL s.dir.now nm with
        | none => rw [hf2] at h0; cases h0
        | some m => rfl
    rw [h0] at HF ⊢
    simp only [if_true] at HF ⊢
    generalize (nodeF s nm).2 = i at *
    have hiK : i ∈ K := hn4 _ (findL_mem hfin)
    have HZ : Hid (∀ w1, Below w.heap.size w w1 → Calls Tryz.prog 85 #[.pointer (some ⟨g i, 0, none⟩)] w1 fun e w' => e = .returned (.int .i64 ((s.file i).bytes.length : Int)) ∧ Below w1.heap.size w1 w') := fun w1 hb => fsize_m ((Ha.out.on hb).files i hiK) (Nat.le_trans (hn5 i hiK) (by omega)) _ rfl
    generalize (s.file i).bytes.length = L at *
    generalize g i = Fi at *
    clear h hf ha hn1 hn2 hn3 hn4 hn5 h0 hfin
    go_enter Tryz.func38, Tryz.ntmps38
    go_wp2_with (first
      | (go_at_call 65; refine HF.out.mono ?_; rintro e w1 ⟨rfl, hb1⟩; have HB1 := Lib.hid hb1; clear hb1)
      | (go_at_call 85; refine (HZ.out _ HB1.out).mono ?_; rintro e w2 ⟨rfl, hb2⟩; have HB2 := Lib.hid (HB1.out.trans (hb2.mono HB1.out.size)); clear hb2))
    go_ret2
    exact ⟨rfl, HB2.out⟩
  · rw [if_neg h0] at HF
    rw [if_neg h0]
    generalize (nodeF s nm).1 = cd at *
    have hcd2 : decide ((cd : Int) = 0) = false := decide_eq_false (by omega)
    clear h hf ha hn1 hn2 hn3 hn4 hn5
    go_enter Tryz.func38, Tryz.ntmps38
    go_wp2_with (first
      | (go_at_call 65; refine HF.out.mono ?_; rintro e w1 ⟨rfl, hb1⟩; have HB1 := Lib.hid hb1; clear hb1))
    go_ret2
    exact ⟨rfl, HB1.out⟩
set_option maxRecDepth 100000 in
set_option maxHeartbeats 4000000 in
/-- all of a file -/
theorem kread {i L : Nat} (h : FsM w A u M R s) (hf : FInv s q T) (hT : T ≤ 1000000) (ho : s.off = false) (hn : nm.size ≤ maxLen) (h0 : nodeF s nm = (0, i)) (hL : L = (s.file i).bytes.length) :
    Calls Tryz.prog 27 #[.pointer (some ⟨A, 0, none⟩), .string nm, .int .i64 0, .int .i64 (L : Int)] w fun e w' => ∃ r, e = .returned (.tuple #[r, .int .i64 0]) ∧ w'.ownsRow w.heap.size 5 1 r L (bvs (s.file i).bytes) ∧ Below w.heap.size w w' := by
  obtain ⟨X, B, n, hv, K, g, MX, MF, ha, hn1, hn2, hn3, hn4, hn5⟩ := h.kfacts hf
  have HF := Lib.hid (kfind ha hn4 ho hn)
  have Ha := Lib.hid ha
  rw [h0] at HF
  simp only [if_true] at HF
  have hfin : findL s.dir.now nm = some i := by
    unfold nodeF at h0
    split at h0
    · cases h0
    · rename_i h1
      cases hf2 : findL s.dir.now nm with
      | none => rw [hf2] at h0; cases h0
      | some m => rw [hf2] at h0; injection h0 with _ h0; rw [h0]
  have hiK : i ∈ K := hn4 _ (findL_mem hfin)
  have HZ : Hid (∀ w1, Below w.heap.size w w1 → Calls Tryz.prog 76 #[.pointer (some ⟨g i, 0, none⟩), .int .i64 0, .int .i64 (L : Int)] w1 fun e w' => ∃ r, e = .returned (.tuple #[r, .int .i64 0]) ∧ w'.ownsRow w.heap.size 5 1 r L (bvs (s.file i).bytes) ∧ Below w1.heap.size w1 w') := fun w1 hb => by
    have h9 := fread_m ((Ha.out.on hb).files i hiK) (Nat.le_trans (hn5 i hiK) (by omega)) 0 L (by omega)
    refine h9.mono ?_
    rintro e w' ⟨r, rfl, ho, hb'⟩
    rw [List.drop_zero, List.take_of_length_le (by omega)] at ho
    exact ⟨r, rfl, own_base ho hb.size, hb'⟩
  generalize g i = Fi at *
  generalize (s.file i).bytes = by_ at *
  clear h hf ha hn1 hn2 hn3 hn4 hn5 h0 hfin hL
  go_enter Tryz.func27, Tryz.ntmps27
  go_wp2_with (first
    | (go_at_call 65; refine HF.out.mono ?_; rintro e w1 ⟨rfl, hb1⟩; have HB1 := Lib.hid hb1; clear hb1)
    | (go_at_call 76; refine (HZ.out _ HB1.out).mono ?_; rintro e w2 ⟨r, rfl, ho2, hb2⟩; have HO2 := Lib.hid ho2; have HB2 := Lib.hid (HB1.out.trans (hb2.mono HB1.out.size)); clear hb2 ho2))
  go_ret2
  exact ⟨_, rfl, HO2.out, HB2.out⟩
end
end Go.Proofs.YtaicibmaogiibaaGreatDoor

/-
  Layer 7: New, List.
-/
set_option linter.unusedVariables false
set_option linter.unusedSimpArgs false
namespace Go.Proofs.YtaicibmaogiibaaGreatDoor
open Go.RowKit Go.Maps

theorem string_info7 : (Tryz.prog.info? 9).map (fun i => (i.zero, i.size, i.bytes)) = some (some (.string .empty), 1, 16) := by kernel_rfl
/-- the names of a folder -/
def namesL (l : List Ent) : List ByteArray := l.map (·.1)
theorem namesL_take {l : List Ent} {j : Nat} {x : Ent} (hx : l[j]? = some x) : namesL (l.take (j + 1)) = namesL (l.take j) ++ [x.1] := by
  unfold namesL
  rw [take_next6 hx, List.map_append]
  rfl
section
variable {w w' : World} {A X B n u q T : Nat} {hv : Value} {K : List Nat} {g : Nat → Nat} {MX M R R' N : Nat → Prop} {MF : Nat → Nat → Prop} {s : FsP} {nm : ByteArray}
set_option maxRecDepth 100000 in
set_option maxHeartbeats 4000000 in
theorem kall (h : FsM w A u M R s) :
    Calls Tryz.prog 58 #[.pointer (some ⟨A, 0, none⟩)] w fun e w' => ∃ v, e = .returned v ∧ w'.ownsRow w.heap.size 9 1 v (namesL s.dir.now).length (svs (namesL s.dir.now)) ∧ Below w.heap.size w w' := by
  obtain ⟨i0, hi0, hz0, hz1, hz2⟩ := info_parts string_info7
  obtain ⟨X, B, n, hv, K, g, MX, MF, ha, hn⟩ := h
  have H := Lib.hid ha
  have HL := Lib.hid (hlist_m ha.dir)
  have hc0 := ha.cells.c0
  have hlen0 : s.dir.now.length ≤ 100000 := ha.dir.ok.now_length
  obtain ⟨es, hes⟩ : ∃ es, es = s.dir.now := ⟨_, rfl⟩
  rw [← hes] at HL hlen0 ⊢
  clear ha hn hes
  go_enter Tryz.func58, Tryz.ntmps58
  go_wp2_with fail
  refine HL.out.mono ?_
  rintro e w1 ⟨v, rfl, hev, hb1⟩
  have HB1 := Lib.hid hb1
  have HE := Lib.hid hev
  obtain ⟨Av, cv, rfl, hcv, hcm, _⟩ := hev
  obtain ⟨m, hm⟩ : ∃ m, m = es.length := ⟨_, rfl⟩
  rw [← hm] at hcv hlen0 ⊢
  have Hm := Lib.hid hm
  clear hb1 hm hc0
  go_wp2_with fail
  go_loopw [3, 12] (fun o i wr => ∃ j : Nat, j ≤ m ∧ i = .int .i64 j ∧ wr.ownsRow w1.heap.size 9 1 o j (svs (namesL (es.take j))) ∧ Below w1.heap.size w1 wr) (fun _ i _ => m - (intOf i).toNat)
  case atStart => exact ⟨0, by omega, rfl, by simpa [namesL, svs] using World.ownsRow_nil _ _ _ _, Below.refl _ _⟩
  case round =>
    obtain ⟨j, hj, rfl, hown, hb⟩ := hrel
    have HB := Lib.hid hb
    by_cases hjl : j < m
    · obtain ⟨x, hx⟩ : ∃ x, es[j]? = some x := ⟨es[j]'(by have := Hm.out; omega), List.getElem?_eq_getElem _⟩
      obtain ⟨b1, o1, rfl, hb1, e0, e1⟩ := (HE.out.on HB.out).at_ rfl hx
      have HX := Lib.hid hx
      obtain ⟨Ao, co, rfl, _, _, _⟩ := own_slice hown
      have HO := Lib.hid hown
      obtain ⟨xn, xi⟩ := x
      simp only at e0 e1
      have HJ := Lib.hid (namesL_take HX.out)
      have hwb : w1.heap.size ≤ wr.heap.size := HB.out.size
      clear hx hown hb
      go_wp2_with (at_builtin; (refine wpList_append_1 _ rfl _ _ 69 rfl w1.heap.size 9 i0 (.string .empty) 16 Tryz.underlying69 hi0 hz0 hz1 hz2 rfl (.slice Ao j co) j (svs (namesL (es.take j))) rfl ((HO.out.alloc _).alloc _) ⟨wr.heap.size + 1, 0, none⟩ 1 (.string xn) rfl (box_new _ _ _ _ (by simp)) rfl (by unfold maxLen; omega) (by omega) (by simp; omega) ?_); intro v3 w3 hown3 hb3 _ _; (have HO3 := Lib.hid hown3); (have HB3 := Lib.hid hb3); clear hown3 hb3)
      have hfin : w3.ownsRow w1.heap.size 9 1 v3 (j + 1) (svs (namesL (es.take (j + 1)))) := by
        rw [HJ.out, svs_append]
        exact HO3.out
      have hbf : Below w1.heap.size w1 w3 := ((HB.out.alloc HB.out.size _).alloc (by simp; omega) _).trans HB3.out
      have HF := Lib.hid hfin
      have HBF := Lib.hid hbf
      clear hfin hbf
      go_roundw
      case rel => exact ⟨j + 1, by omega, by go_num, HF.out, HBF.out⟩
      case measure => simp [intOf]; omega
    · obtain rfl : j = m := by omega
      have HO := Lib.hid hown
      clear hown hb
      go_wp2_with fail
      go_ret
      have he : es.take j = es := List.take_of_length_le (by have := Hm.out; omega)
      have h1 := HO.out
      rw [he] at h1
      have hl9 : (namesL es).length = j := by rw [Hm.out]; simp [namesL]
      rw [hl9]
      exact ⟨_, rfl, own_base h1 HB1.out.size, HB1.out.trans (HB.out.mono HB1.out.size)⟩
set_option maxRecDepth 100000 in
set_option maxHeartbeats 4000000 in
theorem klist (h : FsM w A u M R s) (ho : s.off = false) :
    Calls Tryz.prog 25 #[.pointer (some ⟨A, 0, none⟩)] w fun e w' => ∃ v, e = .returned v ∧ w'.ownsRow w.heap.size 9 1 v (namesL s.dir.now).length (svs (namesL s.dir.now)) ∧ Below w.heap.size w w' := by
  have hon := kon_same h
  rw [ho] at hon
  simp only [Bool.not_false] at hon
  have HON := Lib.hid hon
  have HA := Lib.hid (kall h)
  clear hon ho h
  generalize (namesL s.dir.now) = ns at *
  go_enter Tryz.func25, Tryz.ntmps25
  go_wp2_with (first
    | (go_at_call 75; refine HON.out.mono ?_; rintro e w' ⟨rfl, rfl⟩)
    | (go_at_call 58; refine HA.out.mono ?_; rintro e w' ⟨v, rfl, ho9, hb9⟩; have HO9 := Lib.hid ho9; have HB9 := Lib.hid hb9; clear ho9 hb9))
  go_ret
  exact ⟨_, rfl, HO9.out, HB9.out⟩
set_option maxRecDepth 100000 in
theorem kmayq (w : World) (z : Int) : Calls Tryz.prog 32 #[.int .i64 z] w fun e w' => e = .returned (.bool (decide (0 ≤ z ∧ z ≤ 1073741824))) ∧ w = w' := by
  by_cases h1 : 0 ≤ z
  · by_cases h2 : z ≤ 1073741824
    · have d1 : decide (z ≥ 0) = true := decide_eq_true h1
      have d2 : decide (z ≤ 1073741824) = true := decide_eq_true h2
      go_enter Tryz.func32, Tryz.ntmps32
      go_wp2
      go_ret
      exact ⟨by simp [h1, h2], rfl⟩
    · have d1 : decide (z ≥ 0) = true := decide_eq_true h1
      have d2 : decide (z ≤ 1073741824) = false := decide_eq_false h2
      go_enter Tryz.func32, Tryz.ntmps32
      go_wp2
      go_ret
      exact ⟨by simp [h1, h2], rfl⟩
  · have d1 : decide (z ≥ 0) = false := decide_eq_false (by omega)
    go_enter Tryz.func32, Tryz.ntmps32
    go_wp2
    go_ret
    exact ⟨by simp [h1], rfl⟩
set_option maxRecDepth 100000 in
set_option maxHeartbeats 4000000 in
theorem knew (w : World) (qt : Nat) (hq : qt ≤ 1073741824) :
    Calls Tryz.prog 8 #[.int .i64 (qt : Int)] w fun e w' => ∃ A M, e = .returned (.tuple #[.pointer (some ⟨A, 0, none⟩), .int .i64 0]) ∧ FsM w' A 0 M (fun _ => False) (FsP.new qt) ∧ Below w.heap.size w w' ∧ ∀ i, M i → w.heap.size ≤ i := by
  have HQ := Lib.hid (kmayq w (qt : Int))
  have hd : decide (0 ≤ (qt : Int) ∧ (qt : Int) ≤ 1073741824) = true := decide_eq_true (by omega)
  rw [hd] at HQ
  clear hd
  go_enter Tryz.func8, Tryz.ntmps8
  go_wp2_with (go_at_call 32; refine HQ.out.mono ?_; rintro e w' ⟨rfl, rfl⟩)
  refine (hnew w).mono ?_
  rintro e w1 ⟨X, MX, rfl, hx, hb1, hMX⟩
  have HX := Lib.hid hx
  have HB1 := Lib.hid hb1
  have HMX := Lib.hid hMX
  have hmk := hmkF w1
  clear hx hb1 hMX
  go_wp2_with fail
  go_ret2
  have hb2 : Below w1.heap.size w1 (w1.alloc (.map #[] 0)) := (Below.refl _ _).alloc (Nat.le_refl _) _
  have hsz2 : (w1.alloc (.map #[] 0)).heap.size = w1.heap.size + 1 := by simp
  have hm0 := MapF.new w1 (fun _ => 0)
  have hx2 := HX.out.on hb2
  have hxl := HX.out.2.2.1
  generalize w1.alloc (.map #[] 0) = w2 at *
  have hb3 : Below w2.heap.size w2 (w2.alloc (.cells #[.pointer (some ⟨X, 0, none⟩), .map (some w1.heap.size), .int .i64 (qt : Int), .int .i64 0, .int .i64 0, .bool true, .func (.func 34) #[] #[]] 83)) := (Below.refl _ _).alloc (Nat.le_refl _) _
  have hsz3 : (w2.alloc (.cells #[.pointer (some ⟨X, 0, none⟩), .map (some w1.heap.size), .int .i64 (qt : Int), .int .i64 0, .int .i64 0, .bool true, .func (.func 34) #[] #[]] 83)).heap.size = w2.heap.size + 1 := by simp
  have hc := FsC.new w2 X w1.heap.size qt 0 0 true (.func (.func 34) #[] #[]) 83
  have hs1 := HB1.out.size
  rw [← hsz2]
  refine ⟨w2.heap.size, fun i => MX i ∨ i = w1.heap.size ∨ i = w2.heap.size, rfl, ⟨X, w1.heap.size, 0, .func (.func 34) #[] #[], [], fun _ => 0, MX, fun _ _ => False, ?_, Nat.zero_le _, (fun i hi => absurd hi (by simp)), fun i hi => ?_⟩, (HB1.out.trans (hb2.mono hs1)).trans (hb3.mono (by omega)), ?_⟩
  · refine ⟨fun i _ e => e, ?_, fun i e => e.elim, hc, fun _ => rfl, ⟨_, _, rfl⟩, hm0.on hb3, (fun i hi => absurd hi (by simp)), hx2.on hb3, (fun i hi => absurd hi (by simp)), .inr (.inr rfl), .inr (.inl rfl), fun i => .inl, (fun i hi => absurd hi (by simp)), fun e => ?_, fun e => ?_, (fun i hi => absurd hi (by simp)), (fun i hi => absurd hi (by simp)), (fun i hi => absurd hi (by simp)), (fun i hi => absurd hi (by simp))⟩
    · rintro i (e | e | e)
      · have := hxl i e; omega
      · omega
      · omega
    · have := hxl _ e; omega
    · have := hxl _ e; omega
  · exfalso
    have h1 := (mem_live (s := PSt.new) (Nat.le_refl _)).1 hi
    rcases h1 with ⟨y, hy, _⟩ | h1
    · simp [PSt.new] at hy
    · simp [PSt.new] at h1; omega
  · rintro i (e | e | e)
    · exact HMX.out i e
    · omega
    · omega
end
end Go.Proofs.YtaicibmaogiibaaGreatDoor

/-
  Layer 7: picks: whether one is below 0, and the next one.
-/
set_option linter.unusedVariables false
set_option linter.unusedSimpArgs false
namespace Go.Proofs.YtaicibmaogiibaaGreatDoor
open Go.RowKit Go.Maps

/-- The value v is a slice that reads as the numbers l, out of a block of N. -/
def IsR (w : World) (N : Nat → Prop) (v : Value) (l : List Int) : Prop := ∃ A c, v = .slice A l.length c ∧ l.length ≤ c ∧ l.length ≤ 9223372036854775807 ∧ RdR w N A (ivs l)
section
variable {w w' : World} {N N' M : Nat → Prop} {v : Value} {l : List Int}
theorem IsR.chg (h : IsR w N v l) (hc : Chg M w w') (hM : ∀ i, M i → ¬ N i) : IsR w' N v l := by
  obtain ⟨A, c, h1, h2, h3, h4⟩ := h
  exact ⟨A, c, h1, h2, h3, h4.chg hc hM⟩
theorem IsR.on (h : IsR w N v l) (hb : Below w.heap.size w w') : IsR w' N v l := h.chg (Chg.of_below (M := fun _ => False) hb) (fun _ e => e.elim)
theorem IsR.mono (h : IsR w N v l) (hN : ∀ i, N i → N' i) : IsR w N' v l := by
  obtain ⟨A, c, h1, h2, h3, h4⟩ := h
  exact ⟨A, c, h1, h2, h3, h4.mono hN⟩
theorem IsR.at_ (h : IsR w N v l) {A : Option Addr} {n c : Nat} (hv : v = .slice A n c) {j : Nat} {x : Int} (hx : l[j]? = some x) :
    ∃ b o, A = some ⟨b, o, none⟩ ∧ N b ∧ w.cell? ⟨b, o + j, none⟩ = some (.int .i64 x) := by
  obtain ⟨A', c', e, _, _, h2⟩ := h
  rw [hv] at e
  injection e with e _ _
  subst e
  have g1 : (ivs l)[j]? = some (.int .i64 x) := by unfold ivs; rw [List.getElem?_map, hx]; rfl
  obtain ⟨b, o, e2, hb, hc⟩ := h2 (by intro e; rw [e] at g1; simp at g1)
  exact ⟨b, o, e2, hb, hc _ _ g1⟩
end
end Go.Proofs.YtaicibmaogiibaaGreatDoor

/-
  Layer 7: Crash.
-/
set_option linter.unusedVariables false
set_option linter.unusedSimpArgs false
namespace Go.Proofs.YtaicibmaogiibaaGreatDoor
open Go.RowKit Go.Maps

end Go.Proofs.YtaicibmaogiibaaGreatDoor

/- JxSafe -/

/-
  Layer 7: what is safe (plain mathematics): a file that was synced, whose name the folder's Sync saw.
-/
set_option linter.unusedVariables false
set_option linter.unusedSimpArgs false
namespace Go.Proofs.YtaicibmaogiibaaGreatDoor
open Go.RowKit

theorem KInv.same {k : ByteArray} {r : Option Nat} {s s' : PSt} (h : KInv k r s) (e : s' = s) : KInv k r s' := e ▸ h
section
variable {s : FsP} {k : ByteArray} {r : Option Nat}
theorem stepF_cases (s : FsP) (f : FsP → Nat × FsP) : ((stepF s f) = f (beginF s).2 ∧ (beginF s).1 = 0) ∨ ((stepF s f).1 ≠ 0 ∧ (stepF s f).2 = (beginF s).2) := by
  unfold stepF
  split
  · rename_i h; exact .inl ⟨rfl, h⟩
  · rename_i h; exact .inr ⟨h, rfl⟩
end
/-- a file whose deeds only append: behind k units its safe bytes and a beginning of what was appended -/
theorem adds_behind : ∀ (ds : List Deed) (b : List UInt8), (∀ d ∈ ds, ∃ r, d = Deed.added r) → ∃ t : List UInt8, settleL b (unitsL ds) ds = b ++ t ∧ ∀ k, settleL b k ds = b ++ t.take k
  | [], b, _ => ⟨[], by simp [settleL], fun k => by simp [settleL]⟩
  | d :: ds, b, h => by
    obtain ⟨r, rfl⟩ := h d (by simp)
    obtain ⟨t, h1, h2⟩ := adds_behind ds (b ++ r) (fun x hx => h x (by simp [hx]))
    have key : ∀ k, settleL b k (Deed.added r :: ds) = b ++ (r ++ t).take k := fun k => by
      unfold settleL
      by_cases hk : k ≤ r.length
      · have e1 : min k (Deed.added r).units = k := by simp only [Deed.units]; omega
        rw [e1, Nat.sub_self, settleL_zero, List.take_append_of_le_length hk]
        rfl
      · have e1 : min k (Deed.added r).units = r.length := by simp only [Deed.units]; omega
        rw [e1]
        have e2 : (Deed.added r).act b r.length = b ++ r := by simp [Deed.act]
        rw [e2, h2, List.append_assoc, List.take_append, List.take_of_length_le (l := r) (by omega)]
    refine ⟨r ++ t, ?_, key⟩
    rw [key]
    congr 1
    refine List.take_of_length_le ?_
    have h3 := settleL_length ds (b ++ r) (unitsL ds)
    rw [h1] at h3
    simp only [List.length_append, unitsL, Deed.units] at h3 ⊢
    omega
def nS : ByteArray := { data := #[115, 97, 102, 101] }
/-- the file 'safe' at inode i: b is safe, whole is there -/
structure SafeI (s : FsP) (i : Nat) (b whole : List UInt8) : Prop where
  key : KInv nS (some i) s.dir
  safe : (s.file i).safe = b
  adds : ∀ d ∈ (s.file i).deeds, ∃ r, d = Deed.added r
  bytes : (s.file i).bytes = whole
section
variable {s : FsP} {i q T : Nat} {b whole : List UInt8}
theorem SafeI.now (h : SafeI s i b whole) (hf : FInv s q T) : findL s.dir.now nS = some i := h.key.now hf.dir
theorem mayS : mayN nS = true := by decide
theorem nodeF_safe {s : FsP} (h : findL s.dir.now nS = some i) : nodeF s nS = (0, i) := by
  unfold nodeF
  rw [if_neg (by simp [mayS]), h]
/-- an append to it -/
theorem SafeI.append (h : SafeI s i b whole) (hf : FInv s q T) (r : List UInt8) : SafeI (stepF s (appendK nS r)).2 i b (if (stepF s (appendK nS r)).1 = 0 then whole ++ r else whole) := by
  have hb := beginF_is s
  have h0 : SafeI (beginF s).2 i b whole := ⟨hb.1 ▸ h.key, by rw [hb.2.1]; exact h.safe, by rw [hb.2.1]; exact h.adds, by rw [hb.2.1]; exact h.bytes⟩
  rcases stepF_cases s (appendK nS r) with ⟨e, _⟩ | ⟨e1, e2⟩
  · rw [e]
    have hn := nodeF_safe (s := (beginF s).2) (i := i) (by rw [hb.1]; exact h.now hf)
    unfold appendK onF
    rw [hn]
    simp only [if_true]
    unfold appT
    split
    · rw [if_neg (by simp)]
      exact ⟨h0.key, by simp only [upd_same]; exact h0.safe, by simp only [upd_same]; exact h0.adds, by simp only [upd_same]; exact h0.bytes⟩
    · split
      · rename_i hr
        subst hr
        rw [if_pos rfl, List.append_nil]
        exact ⟨h0.key, by simp only [upd_same]; exact h0.safe, by simp only [upd_same]; exact h0.adds, by simp only [upd_same]; exact h0.bytes⟩
      · rw [if_pos rfl]
        refine ⟨h0.key, by simp only [upd_same]; exact h0.safe, ?_, ?_⟩
        · simp only [upd_same]
          intro d hd
          rcases List.mem_append.1 hd with h1 | h1
          · exact h0.adds d h1
          · simp at h1; exact ⟨r, h1⟩
        · simp only [upd_same]
          rw [FSt.app_bytes, h0.bytes]
  · rw [if_neg e1, e2]
    exact h0
/-- behind a crash: its safe bytes, and a beginning of what was appended -/
theorem SafeI.crash (h : SafeI s i b whole) (hf : FInv s q T) (picks : List Int) (hp : picks.any (· < 0) = false) :
    (crashK s picks).1 = 0 ∧ (crashK s picks).2.off = false ∧ findL (crashK s picks).2.dir.now nS = some i ∧ ∃ t, whole = b ++ t ∧ ∃ k, ((crashK s picks).2.file i).bytes = b ++ t.take k := by
  unfold crashK
  rw [if_neg (by simp [hp])]
  have hk := h.key.settle hf.dir (pickAt picks 0 % (s.dir.deeds.length + 1))
  have hnow : findL (crashD s picks).now nS = some i := hk.now (PSt.settle_ok hf.dir _)
  refine ⟨rfl, rfl, hnow, ?_⟩
  obtain ⟨t, h1, h2⟩ := adds_behind (s.file i).deeds (s.file i).safe h.adds
  have hw : whole = b ++ t := by
    rw [← h.bytes, ← (hf.files i).whole, ← h.safe]
    exact h1
  refine ⟨t, hw, ?_⟩
  show ∃ k, (crashT picks (inosL (crashD s picks).safe) s.file i).bytes = b ++ t.take k
  unfold crashT
  split
  · refine ⟨pickAt picks ((inosL (crashD s picks).safe).idxOf i + 1) % ((s.file i).loose + 1), ?_⟩
    rw [FSt.settled_bytes, ← h.safe]
    exact h2 _
  · refine ⟨t.length, ?_⟩
    rw [List.take_length, ← hw]
    exact h.bytes
end
end Go.Proofs.YtaicibmaogiibaaGreatDoor

/- JfLive -/

/-
  Layer 7: a file system in new memory; what the document's examples make (plain mathematics).
-/
set_option linter.unusedVariables false
set_option linter.unusedSimpArgs false
namespace Go.Proofs.YtaicibmaogiibaaGreatDoor
open Go.RowKit Go.Maps

/-- a file system in memory that is new since w -/
structure FLive (w wk : World) (A : Nat) (M R : Nat → Prop) (s : FsP) : Prop where
  fs : FsM wk A s.used M R s
  below : Below w.heap.size w wk
  newM : ∀ i, M i → w.heap.size ≤ i
  newR : ∀ i, R i → w.heap.size ≤ i
section
variable {w wk w' : World} {A : Nat} {M R N : Nat → Prop} {s s' : FsP}
theorem FLive.on (h : FLive w wk A M R s) (hb : Below wk.heap.size wk w') : FLive w w' A M R s := ⟨h.fs.on hb, h.below.trans (hb.mono h.below.size), h.newM, h.newR⟩
theorem FLive.step (h : FLive w wk A M R s) (hm : FsMut wk w' A s'.used M R s') : ∃ M' R', FLive w w' A M' R' s' ∧ Chg M wk w' ∧ (∀ i, M' i → M i ∨ wk.heap.size ≤ i) ∧ (∀ i, R' i → R i ∨ wk.heap.size ≤ i) := by
  obtain ⟨M', R', h1, h2, h3, h4⟩ := hm
  have hs := h.below.size
  exact ⟨M', R', ⟨h1, h.below.trans (h2.below hs h.newM), fun i hi => (h3 i hi).elim (h.newM i) (fun e => by omega), fun i hi => (h4 i hi).elim (h.newR i) (fun e => by omega)⟩, h2, h3, h4⟩
theorem FLive.chg (h : FLive w wk A M R s) (hc : Chg N wk w') (hN : ∀ i, N i → ¬ M i ∧ ¬ R i ∧ w.heap.size ≤ i) : FLive w w' A M R s :=
  ⟨h.fs.chg hc (fun i hi => ⟨(hN i hi).1, (hN i hi).2.1⟩), h.below.trans (hc.below h.below.size (fun i hi => (hN i hi).2.2)), h.newM, h.newR⟩
end
def nA7 : ByteArray := { data := #[97] }
def wk0 : FsP := FsP.new 10
def wk1 : FsP := (stepF wk0 (createK nA7)).2
theorem wc1 : (stepF wk0 (createK nA7)).1 = 0 := by kernel_rfl
theorem finv_step {s : FsP} {q T : Nat} (h : FInv s q T) (hq : q ≤ 1000) {k : FsP → Nat × FsP} (hk : ∀ t, FInv t q T → FInv (k t).2 (q + 1) (T + 60)) : FInv (stepF s k).2 (q + 1) (T + 60) := h.step (Nat.le_succ _) (Nat.le_add_right _ _) (fun h0 => hk _ h0)
section
variable {s : FsP} {q T : Nat}
theorem FInv.c_create (h : FInv s q T) (hq : q ≤ 1000) (n : ByteArray) : FInv (stepF s (createK n)).2 (q + 1) (T + 60) := finv_step h hq (fun t ht => (ht.createK_ hq n).mono (Nat.le_refl _) (Nat.le_add_right _ _))
theorem FInv.c_append (h : FInv s q T) (hq : q ≤ 1000) (n : ByteArray) {b : List UInt8} (hb : b.length ≤ 60) : FInv (stepF s (appendK n b)).2 (q + 1) (T + 60) := finv_step h hq (fun t ht => (ht.onF_ n b.length (fun t ht => appT_ok _ _ _ t ht)).mono (Nat.le_succ _) (by omega))
theorem FInv.c_sync (h : FInv s q T) (hq : q ≤ 1000) (n : ByteArray) : FInv (stepF s (syncK n)).2 (q + 1) (T + 60) := finv_step h hq (fun t ht => (ht.onF_ n 0 (fun t ht => syncT_ok t ht)).mono (Nat.le_succ _) (by omega))
theorem FInv.c_syncdir (h : FInv s q T) (hq : q ≤ 1000) : FInv (stepF s syncDirK).2 (q + 1) (T + 60) := finv_step h hq (fun t ht => (finv_syncdir ht hq).mono (Nat.le_refl _) (by omega))
end
end Go.Proofs.YtaicibmaogiibaaGreatDoor

