/-
  SegCrash, part 18 of what the law's proof leans on: JfDo, JfSee, JxSafe.
-/
import Derived.Test.YtaicibmaogiibaaGreatDoorSegCrashQ17
import Derived.Test.YtaicibmaogiibaaGreatDoorSegCrashQ15
import Derived.Laws.EntriesVeiled
import Derived.Test.YtaicibmaogiibaaGreatDoorSegCrashQ16
/- JfDo -/

/-
  Layer 7: the calls of a file system that are steps.
-/

set_option linter.unusedVariables false
set_option linter.unusedSimpArgs false
namespace Go.Proofs.YtaicibmaogiibaaGreatDoor
open Go.RowKit Go.Maps

theorem stepF_congr {s : FsP} {f g : FsP → Nat × FsP} (h : f (beginF s).2 = g (beginF s).2) : stepF s f = stepF s g := by unfold stepF; rw [h]
theorem Mut.then {w w' w'' : World} {F : Nat} {M R : Nat → Prop} {t : FSt} (h : Mut w w' F M R t) (hb : Below w'.heap.size w' w'') : Mut w w'' F M R t := by
  obtain ⟨M', R', h1, h2, h3, h4⟩ := h
  exact ⟨M', R', h1.on hb, h2.trans (Chg.of_below (M := fun _ => False) hb) (fun i e => e.elim), h3, h4⟩
section
variable {w w' : World} {A u q T p c r qu : Nat} {M R N : Nat → Prop} {s : FsP} {nm : ByteArray}
theorem finv_remove (h : FInv s q T) (hq : q ≤ 1000) (n : ByteArray) : FInv (removeK n s).2 (q + 1) T := by
  have h1 := h.dir_ hq ⟨4, n, n, 0⟩ (by simp)
  rw [removeP_do] at h1
  exact h1
theorem finv_syncdir (h : FInv s q T) (hq : q ≤ 1000) : FInv (syncDirK s).2 (q + 1) T := by
  have h1 := h.dir_ hq ⟨5, ByteArray.empty, ByteArray.empty, 0⟩ (by simp)
  have e : (doP s.dir ⟨5, ByteArray.empty, ByteArray.empty, 0⟩).2.2 = s.dir.settle s.dir.deeds.length := by
    unfold doP
    rw [if_neg (by simp), if_neg (by simp), if_neg (by simp), if_pos rfl]
  rw [e] at h1
  exact h1
set_option maxRecDepth 100000 in
set_option maxHeartbeats 4000000 in
theorem kcreate {nm : ByteArray} (hnm : nm.size ≤ maxLen) (h : FsM w A s.used M R s) (hf : FInv s q T) (hq : q ≤ 200) (hT : T ≤ 100000) (hst : s.steps + 1 ≤ 1000000) :
    Calls Tryz.prog 68 #[.pointer (some ⟨A, 0, none⟩), .string nm] w fun e w' => e = .returned (.int .i64 ((stepF s (createK nm)).1 : Int)) ∧ FsMut w w' A (stepF s (createK nm)).2.used M R (stepF s (createK nm)).2 := by
  obtain ⟨W, hW⟩ : ∃ W, W = (((w.alloc (.cells #[.pointer (some ⟨A, 0, none⟩)] 26)).alloc (.cells #[.string nm] 9)).alloc (.cells #[.string nm] 9)) := ⟨_, rfl⟩
  have hb : Below w.heap.size w W := by rw [hW]; exact (((Below.refl _ _).alloc (Nat.le_refl _) _).alloc (by simp) _).alloc (by simp; omega) _
  have c0 : W.cell? ⟨w.heap.size, 0, none⟩ = some (.pointer (some ⟨A, 0, none⟩)) := by rw [hW]; exact cell_al (cell_al (box_new _ _ _ _ rfl) _) _
  have c1 : W.cell? ⟨w.heap.size + 1, 0, none⟩ = some (.string nm) := by rw [hW]; exact cell_al (box_new _ _ _ _ (by simp)) _
  have cN : W.cell? ⟨w.heap.size + 1 + 1, 0, none⟩ = some (.string nm) := by rw [hW]; exact box_new _ _ _ _ (by simp)
  have hlA := h.ltA
  have hbi := beginF_is s
  have hf1 : FInv (beginF s).2 q T := hf.same hbi.1 hbi.2.1
  have hSs := ssR_one cN
  have Hstep := Lib.hid (kstep (k := createK nm) (dcap := #[.pointer (some ⟨w.heap.size, 0, none⟩), .pointer (some ⟨w.heap.size + 1, 0, none⟩)]) (h.on hb) hf hT hst hSs (fun i hi e => by have := h.ml i hi; omega) (fun x hx => by simp at hx; subst hx; exact hnm) (by simp)
    (fun args w' => enters_of Tryz.func116 (by kernel_rfl) rfl args w')
    (fun hb0 w1 hm1 hg1 => by
      have hne : ∀ x, w.heap.size ≤ x → ¬ (x = A) := fun x hx e => by omega
      exact kcreate1 (s := (beginF s).2) hnm hm1 hf1 hq (fun e => by have := h.ml _ e; omega) (cell_keep hg1 (hne _ (by omega)) c0) (fun e => by have := h.ml _ e; omega) (cell_keep hg1 (hne _ (by omega)) c1))
    (fun hb0 => ⟨_, (hf1.createK_ (by omega) nm).mono (Nat.le_refl _) (by omega)⟩)
    (fun hb0 => by have h1 := used_create hf1 nm; rw [beginF_used, hbi.1, hbi.2.1] at h1; exact h1))
  have HB := Lib.hid hb
  clear h hf hb hf1 hbi hSs c0 c1 cN
  go_enter Tryz.func68, Tryz.ntmps68
  go_wp2_with fail
  rw [← hW]
  refine Hstep.out.mono ?_
  rintro e w' ⟨rfl, hm⟩
  have HM := Lib.hid (hm.after (Chg.of_below HB.out) (fun _ => .inl) (fun _ => .inl))
  clear hm
  go_wp2_with fail
  go_ret
  exact ⟨rfl, HM.out⟩
set_option maxRecDepth 100000 in
set_option maxHeartbeats 4000000 in
theorem kremove {nm : ByteArray} (hnm : nm.size ≤ maxLen) (h : FsM w A s.used M R s) (hf : FInv s q T) (hq : q ≤ 200) (hT : T ≤ 100000) (hst : s.steps + 1 ≤ 1000000) :
    Calls Tryz.prog 74 #[.pointer (some ⟨A, 0, none⟩), .string nm] w fun e w' => e = .returned (.int .i64 ((stepF s (removeK nm)).1 : Int)) ∧ FsMut w w' A (stepF s (removeK nm)).2.used M R (stepF s (removeK nm)).2 := by
  obtain ⟨W, hW⟩ : ∃ W, W = (((w.alloc (.cells #[.pointer (some ⟨A, 0, none⟩)] 26)).alloc (.cells #[.string nm] 9)).alloc (.cells #[.string nm] 9)) := ⟨_, rfl⟩
  have hb : Below w.heap.size w W := by rw [hW]; exact (((Below.refl _ _).alloc (Nat.le_refl _) _).alloc (by simp) _).alloc (by simp; omega) _
  have c0 : W.cell? ⟨w.heap.size, 0, none⟩ = some (.pointer (some ⟨A, 0, none⟩)) := by rw [hW]; exact cell_al (cell_al (box_new _ _ _ _ rfl) _) _
  have c1 : W.cell? ⟨w.heap.size + 1, 0, none⟩ = some (.string nm) := by rw [hW]; exact cell_al (box_new _ _ _ _ (by simp)) _
  have cN : W.cell? ⟨w.heap.size + 1 + 1, 0, none⟩ = some (.string nm) := by rw [hW]; exact box_new _ _ _ _ (by simp)
  have hlA := h.ltA
  have hbi := beginF_is s
  have hf1 : FInv (beginF s).2 q T := hf.same hbi.1 hbi.2.1
  have hSs := ssR_one cN
  have Hstep := Lib.hid (kstep (k := removeK nm) (dcap := #[.pointer (some ⟨w.heap.size, 0, none⟩), .pointer (some ⟨w.heap.size + 1, 0, none⟩)]) (h.on hb) hf hT hst hSs (fun i hi e => by have := h.ml i hi; omega) (fun x hx => by simp at hx; subst hx; exact hnm) (by simp)
    (fun args w' => enters_of Tryz.func123 (by kernel_rfl) rfl args w')
    (fun hb0 w1 hm1 hg1 => by
      have hne : ∀ x, w.heap.size ≤ x → ¬ (x = A) := fun x hx e => by omega
      exact kremove1 (s := (beginF s).2) hnm hm1 hf1 hq (fun e => by have := h.ml _ e; omega) (cell_keep hg1 (hne _ (by omega)) c0) (fun e => by have := h.ml _ e; omega) (cell_keep hg1 (hne _ (by omega)) c1))
    (fun hb0 => ⟨_, (finv_remove hf1 (by omega) nm).mono (Nat.le_refl _) (by omega)⟩)
    (fun hb0 => by have h1 := used_remove hf1 nm; rw [beginF_used, hbi.1, hbi.2.1] at h1; exact h1))
  have HB := Lib.hid hb
  clear h hf hb hf1 hbi hSs c0 c1 cN
  go_enter Tryz.func74, Tryz.ntmps74
  go_wp2_with fail
  rw [← hW]
  refine Hstep.out.mono ?_
  rintro e w' ⟨rfl, hm⟩
  have HM := Lib.hid (hm.after (Chg.of_below HB.out) (fun _ => .inl) (fun _ => .inl))
  clear hm
  go_wp2_with fail
  go_ret
  exact ⟨rfl, HM.out⟩
set_option maxRecDepth 100000 in
set_option maxHeartbeats 4000000 in
theorem ksyncdir  (h : FsM w A s.used M R s) (hf : FInv s q T) (hq : q ≤ 200) (hT : T ≤ 100000) (hst : s.steps + 1 ≤ 1000000) :
    Calls Tryz.prog 73 #[.pointer (some ⟨A, 0, none⟩)] w fun e w' => e = .returned (.int .i64 ((stepF s (syncDirK)).1 : Int)) ∧ FsMut w w' A (stepF s (syncDirK)).2.used M R (stepF s (syncDirK)).2 := by
  obtain ⟨W, hW⟩ : ∃ W, W = (w.alloc (.cells #[.pointer (some ⟨A, 0, none⟩)] 26)) := ⟨_, rfl⟩
  have hb : Below w.heap.size w W := by rw [hW]; exact (Below.refl _ _).alloc (Nat.le_refl _) _
  have c0 : W.cell? ⟨w.heap.size, 0, none⟩ = some (.pointer (some ⟨A, 0, none⟩)) := by rw [hW]; exact box_new _ _ _ _ rfl
  have hlA := h.ltA
  have hbi := beginF_is s
  have hf1 : FInv (beginF s).2 q T := hf.same hbi.1 hbi.2.1
  have hSs : SsR W (fun _ => False) (.slice none 0 0) [] := ⟨none, 0, rfl, Nat.le_refl _, by unfold maxLen; omega, fun h => absurd rfl h⟩
  have Hstep := Lib.hid (kstep (k := syncDirK) (dcap := #[.pointer (some ⟨w.heap.size, 0, none⟩)]) (h.on hb) hf hT hst hSs (fun i hi e => e) (fun x hx => by simp at hx) (by simp)
    (fun args w' => enters_of Tryz.func121 (by kernel_rfl) rfl args w')
    (fun hb0 w1 hm1 hg1 => by
      have hne : ∀ x, w.heap.size ≤ x → ¬ (x = A) := fun x hx e => by omega
      exact ksyncdir1 (s := (beginF s).2) hm1 hf1 hq (fun e => by have := h.ml _ e; omega) (cell_keep hg1 (hne _ (by omega)) c0))
    (fun hb0 => ⟨_, (finv_syncdir hf1 (by omega)).mono (Nat.le_refl _) (by omega)⟩)
    (fun hb0 => by have h1 := used_sync hf1; rw [beginF_used, hbi.1, hbi.2.1] at h1; exact h1))
  have HB := Lib.hid hb
  clear h hf hb hf1 hbi hSs c0 
  go_enter Tryz.func73, Tryz.ntmps73
  go_wp2_with fail
  rw [← hW]
  refine Hstep.out.mono ?_
  rintro e w' ⟨rfl, hm⟩
  have HM := Lib.hid (hm.after (Chg.of_below HB.out) (fun _ => .inl) (fun _ => .inl))
  clear hm
  go_wp2_with fail
  go_ret
  exact ⟨rfl, HM.out⟩
set_option maxRecDepth 100000 in
set_option maxHeartbeats 4000000 in
theorem kappend1 {F : Nat} {MF : Nat → Prop} {t : FSt} {v : Value} {b : List UInt8} (hF : FileM w F MF R t) (hbig : t.big ≤ 100000) (cp : w.cell? ⟨p, 0, none⟩ = some (.pointer (some ⟨A, 0, none⟩))) (cr : w.cell? ⟨r, 0, none⟩ = some v) (hv : BsIn w N v b) (hN : ∀ i, MF i → ¬ N i) (hbl : b.length ≤ 1200)
    (hc3 : w.cell? ⟨A, 3, none⟩ = some (.int .i64 (u : Int))) (hc2 : w.cell? ⟨A, 2, none⟩ = some (.int .i64 (qu : Int))) (hu : u ≤ 1000000000) :
    Calls Tryz.prog 94 #[.pointer (some ⟨F, 0, none⟩), .pointer (some ⟨p, 0, none⟩), .pointer (some ⟨r, 0, none⟩)] w fun e w' => e = .returned (.int .i64 ((appT u qu b t).1 : Int)) ∧ Mut w w' F MF R (appT u qu b t).2 := by
  have HF := Lib.hid hF
  have HV := Lib.hid hv
  have HN := Lib.hid hN
  have HBg := Lib.hid hbig
  obtain ⟨Ab, cb, rfl, hcb, _⟩ := hv
  obtain ⟨nb, hnb⟩ : ∃ nb, nb = b.length := ⟨_, rfl⟩
  rw [← hnb] at cr hcb HV hbl
  have Hnb := Lib.hid hnb
  obtain ⟨z, hz⟩ : ∃ z, z = u + nb := ⟨_, rfl⟩
  have hw : IntKind.i64.wrap ((u : Int) + (nb : Int)) = (z : Int) := by rw [IntWalk.i64_in _ (by omega), hz]; push_cast; rfl
  have Hz := Lib.hid hz
  clear hF hN hbig hnb hz
  by_cases hq : qu < z
  · have hr : appT u qu b t = (21, t) := by unfold appT; rw [if_pos (by have := Hz.out; have := Hnb.out; omega)]
    have hd : decide ((z : Int) > (qu : Int)) = true := decide_eq_true (by omega)
    have hd2 : (qu : Int) < (z : Int) := by omega
    rw [hr]
    clear hr hq hu
    go_enter Tryz.func94, Tryz.ntmps94
    go_wp2_with fail
    refine wp_region_noPanic ?_
    refine wp_region_held_drew (S := fun w' => w'.cell? ⟨p, 0, none⟩ = some (.pointer (some ⟨A, 0, none⟩)) ∧ w'.cell? ⟨r, 0, none⟩ = some (.slice Ab nb cb) ∧ w'.cell? ⟨A, 3, none⟩ = some (.int .i64 (u : Int)) ∧ w'.cell? ⟨A, 2, none⟩ = some (.int .i64 (qu : Int))) (by kernel_rfl) ⟨cp, cr, hc3, hc2⟩ (fun hHeld => ?_)
    have cr2 := hHeld.2.1
    clear hc3 hc2 cp cr
    have HB0 : Hid (Below w.heap.size w w.drew) := (Below.refl _ _).drew
    generalize World.drew _ = W at *
    refine wpAnyH_take (i := 0) (v := ?_) opAt_0 (by kernel_rfl) (by kernel_rfl) (by kernel_rfl) (fun _ _ _ h => h) (Or.inl ⟨by rfl, ?_⟩) hHeld ?_
    rotate_left
    · (intro w' hSw; obtain ⟨k0, k1, k2, k3⟩ := hSw; go_simp; try with_reducible rfl)
    try simp only [Act.put, List.setIfInBounds_toArray, List.set_cons_zero, List.set_cons_succ]
    refine wpAnyH_take (i := 1) (v := ?_) opAt_1 (by kernel_rfl) (by kernel_rfl) (by kernel_rfl) (fun _ _ _ h => h) (Or.inl ⟨by rfl, ?_⟩) hHeld ?_
    rotate_left
    · (intro w' hSw; obtain ⟨k0, k1, k2, k3⟩ := hSw; go_simp; try with_reducible rfl)
    try simp only [Act.put, List.setIfInBounds_toArray, List.set_cons_zero, List.set_cons_succ]
    refine wpAnyH_take (i := 2) (v := ?_) opAt_2 (by kernel_rfl) (by kernel_rfl) (by kernel_rfl) (fun _ _ _ h => h) (Or.inl ⟨by rfl, ?_⟩) hHeld ?_
    rotate_left
    · (intro w' hSw; obtain ⟨k0, k1, k2, k3⟩ := hSw; go_simp; try with_reducible rfl)
    try simp only [Act.put, List.setIfInBounds_toArray, List.set_cons_zero, List.set_cons_succ]
    refine wpAnyH_take (i := 3) (v := ?_) opAt_3 (by kernel_rfl) (by kernel_rfl) (by kernel_rfl) (fun _ _ _ h => h) (Or.inl ⟨by rfl, ?_⟩) hHeld ?_
    rotate_left
    · (intro w' hSw; obtain ⟨k0, k1, k2, k3⟩ := hSw; go_simp; try with_reducible rfl)
    try simp only [Act.put, List.setIfInBounds_toArray, List.set_cons_zero, List.set_cons_succ]
    refine wpAnyH_take (i := 4) (v := ?_) opAt_4 (by kernel_rfl) (by kernel_rfl) (by kernel_rfl) (fun _ _ _ h => h) (Or.inl ⟨by rfl, ?_⟩) hHeld ?_
    rotate_left
    · (intro w' hSw; obtain ⟨k0, k1, k2, k3⟩ := hSw; go_simp; try with_reducible rfl)
    try simp only [Act.put, List.setIfInBounds_toArray, List.set_cons_zero, List.set_cons_succ]
    refine wpAnyH_take (i := 5) (v := ?_) opAt_5 (by kernel_rfl) (by kernel_rfl) (by kernel_rfl) (fun _ _ _ h => h) (Or.inl ⟨by rfl, ?_⟩) hHeld ?_
    rotate_left
    · (intro w' hSw; obtain ⟨k0, k1, k2, k3⟩ := hSw; go_simp; try with_reducible rfl)
    try simp only [Act.put, List.setIfInBounds_toArray, List.set_cons_zero, List.set_cons_succ]
    refine wpAnyH_take (i := 6) (v := ?_) opAt_6 (by kernel_rfl) (by kernel_rfl) (by kernel_rfl) (fun _ _ _ h => h) (Or.inl ⟨by rfl, ?_⟩) hHeld ?_
    rotate_left
    · (intro w' hSw; obtain ⟨k0, k1, k2, k3⟩ := hSw; go_simp; try with_reducible rfl)
    try simp only [Act.put, List.setIfInBounds_toArray, List.set_cons_zero, List.set_cons_succ]
    refine wpAnyH_take (i := 7) (v := ?_) opAt_7 (by kernel_rfl) (by kernel_rfl) (by kernel_rfl) (fun _ _ _ h => h) (Or.inl ⟨by rfl, ?_⟩) hHeld ?_
    rotate_left
    · (intro w' hSw; obtain ⟨k0, k1, k2, k3⟩ := hSw; go_simp; try with_reducible rfl)
    try simp only [Act.put, List.setIfInBounds_toArray, List.set_cons_zero, List.set_cons_succ]
    refine wpAnyH_take (i := 8) (v := ?_) opAt_8 (by kernel_rfl) (by kernel_rfl) (by kernel_rfl) (fun _ _ _ h => h) (Or.inl ⟨by rfl, ?_⟩) hHeld ?_
    rotate_left
    · (intro w' hSw; obtain ⟨k0, k1, k2, k3⟩ := hSw; go_simp; try with_reducible rfl)
    try simp only [Act.put, List.setIfInBounds_toArray, List.set_cons_zero, List.set_cons_succ]
    refine wpAnyH_take (i := 9) (v := ?_) opAt_9 (by kernel_rfl) (by kernel_rfl) (by kernel_rfl) (fun _ _ _ h => h) (Or.inl ⟨by rfl, ?_⟩) hHeld ?_
    rotate_left
    · (intro w' hSw; obtain ⟨k0, k1, k2, k3⟩ := hSw; go_simp; try with_reducible rfl)
    try simp only [Act.put, List.setIfInBounds_toArray, List.set_cons_zero, List.set_cons_succ]
    refine wpAnyH_take (i := 10) (v := ?_) opAt_10 (by kernel_rfl) (by kernel_rfl) (by kernel_rfl) (fun _ _ _ h => h) (Or.inl ⟨by rfl, ?_⟩) hHeld ?_
    rotate_left
    · (intro w' hSw; obtain ⟨k0, k1, k2, k3⟩ := hSw; go_simp; try with_reducible rfl)
    try simp only [Act.put, List.setIfInBounds_toArray, List.set_cons_zero, List.set_cons_succ]
    refine wpAnyH_take (i := 11) (v := ?_) opAt_11 (by kernel_rfl) (by kernel_rfl) (by kernel_rfl) (fun _ _ _ h => h) (Or.inl ⟨by rfl, ?_⟩) hHeld ?_
    rotate_left
    · (intro w' hSw; obtain ⟨k0, k1, k2, k3⟩ := hSw; go_simp; try with_reducible rfl)
    try simp only [Act.put, List.setIfInBounds_toArray, List.set_cons_zero, List.set_cons_succ]
    refine wpAnyH_done (by kernel_rfl) ?_ _
    refine NoPanic.normal ?_
    go_wp2_with fail
    go_ret
    exact ⟨rfl, Mut.of_below HF.out HB0.out⟩
  · have hd : decide ((z : Int) > (qu : Int)) = false := decide_eq_false (by omega)
    have hd2 : ¬ (qu : Int) < (z : Int) := by omega
    have HAp : Hid (∀ w1, Below w.heap.size w w1 → Calls Tryz.prog 95 #[.pointer (some ⟨F, 0, none⟩), .slice Ab nb cb] w1 fun e w' => e = .returned (.int .i64 ((appT u qu b t).1 : Int)) ∧ Mut w1 w' F MF R (appT u qu b t).2) := fun w1 hb => by
      by_cases hb0 : b = []
      · have hr : appT u qu b t = (0, t) := by unfold appT; rw [if_neg (by have := Hz.out; have := Hnb.out; omega), if_pos hb0]
        rw [hr]
        have hn0 : nb = 0 := by have := Hnb.out; rw [hb0] at this; simpa using this
        rw [hn0]
        refine (fappend_none F cb Ab).mono ?_
        rintro e w' ⟨rfl, hb'⟩
        exact ⟨rfl, Mut.of_below (HF.out.on hb) hb'⟩
      · have hr : appT u qu b t = (0, t.app b) := by unfold appT; rw [if_neg (by have := Hz.out; have := Hnb.out; omega), if_neg hb0]
        rw [hr]
        exact fappend_m (HF.out.on hb) (HV.out.chg (Chg.of_below (M := fun _ => False) hb) (fun i e => e.elim)) HN.out hb0 (by have := HBg.out; have := Hnb.out; omega)
    generalize appT u qu b t = an at *
    clear hq hu
    go_enter Tryz.func94, Tryz.ntmps94
    go_wp2_with fail
    refine wp_region_noPanic ?_
    refine wp_region_held_drew (S := fun w' => w'.cell? ⟨p, 0, none⟩ = some (.pointer (some ⟨A, 0, none⟩)) ∧ w'.cell? ⟨r, 0, none⟩ = some (.slice Ab nb cb) ∧ w'.cell? ⟨A, 3, none⟩ = some (.int .i64 (u : Int)) ∧ w'.cell? ⟨A, 2, none⟩ = some (.int .i64 (qu : Int))) (by kernel_rfl) ⟨cp, cr, hc3, hc2⟩ (fun hHeld => ?_)
    have cr2 := hHeld.2.1
    clear hc3 hc2 cp cr
    have HB0 : Hid (Below w.heap.size w w.drew) := (Below.refl _ _).drew
    generalize World.drew _ = W at *
    refine wpAnyH_take (i := 0) (v := ?_) opAt_0 (by kernel_rfl) (by kernel_rfl) (by kernel_rfl) (fun _ _ _ h => h) (Or.inl ⟨by rfl, ?_⟩) hHeld ?_
    rotate_left
    · (intro w' hSw; obtain ⟨k0, k1, k2, k3⟩ := hSw; go_simp; try with_reducible rfl)
    try simp only [Act.put, List.setIfInBounds_toArray, List.set_cons_zero, List.set_cons_succ]
    refine wpAnyH_take (i := 1) (v := ?_) opAt_1 (by kernel_rfl) (by kernel_rfl) (by kernel_rfl) (fun _ _ _ h => h) (Or.inl ⟨by rfl, ?_⟩) hHeld ?_
    rotate_left
    · (intro w' hSw; obtain ⟨k0, k1, k2, k3⟩ := hSw; go_simp; try with_reducible rfl)
    try simp only [Act.put, List.setIfInBounds_toArray, List.set_cons_zero, List.set_cons_succ]
    refine wpAnyH_take (i := 2) (v := ?_) opAt_2 (by kernel_rfl) (by kernel_rfl) (by kernel_rfl) (fun _ _ _ h => h) (Or.inl ⟨by rfl, ?_⟩) hHeld ?_
    rotate_left
    · (intro w' hSw; obtain ⟨k0, k1, k2, k3⟩ := hSw; go_simp; try with_reducible rfl)
    try simp only [Act.put, List.setIfInBounds_toArray, List.set_cons_zero, List.set_cons_succ]
    refine wpAnyH_take (i := 3) (v := ?_) opAt_3 (by kernel_rfl) (by kernel_rfl) (by kernel_rfl) (fun _ _ _ h => h) (Or.inl ⟨by rfl, ?_⟩) hHeld ?_
    rotate_left
    · (intro w' hSw; obtain ⟨k0, k1, k2, k3⟩ := hSw; go_simp; try with_reducible rfl)
    try simp only [Act.put, List.setIfInBounds_toArray, List.set_cons_zero, List.set_cons_succ]
    refine wpAnyH_take (i := 4) (v := ?_) opAt_4 (by kernel_rfl) (by kernel_rfl) (by kernel_rfl) (fun _ _ _ h => h) (Or.inl ⟨by rfl, ?_⟩) hHeld ?_
    rotate_left
    · (intro w' hSw; obtain ⟨k0, k1, k2, k3⟩ := hSw; go_simp; try with_reducible rfl)
    try simp only [Act.put, List.setIfInBounds_toArray, List.set_cons_zero, List.set_cons_succ]
    refine wpAnyH_take (i := 5) (v := ?_) opAt_5 (by kernel_rfl) (by kernel_rfl) (by kernel_rfl) (fun _ _ _ h => h) (Or.inl ⟨by rfl, ?_⟩) hHeld ?_
    rotate_left
    · (intro w' hSw; obtain ⟨k0, k1, k2, k3⟩ := hSw; go_simp; try with_reducible rfl)
    try simp only [Act.put, List.setIfInBounds_toArray, List.set_cons_zero, List.set_cons_succ]
    refine wpAnyH_take (i := 6) (v := ?_) opAt_6 (by kernel_rfl) (by kernel_rfl) (by kernel_rfl) (fun _ _ _ h => h) (Or.inl ⟨by rfl, ?_⟩) hHeld ?_
    rotate_left
    · (intro w' hSw; obtain ⟨k0, k1, k2, k3⟩ := hSw; go_simp; try with_reducible rfl)
    try simp only [Act.put, List.setIfInBounds_toArray, List.set_cons_zero, List.set_cons_succ]
    refine wpAnyH_take (i := 7) (v := ?_) opAt_7 (by kernel_rfl) (by kernel_rfl) (by kernel_rfl) (fun _ _ _ h => h) (Or.inl ⟨by rfl, ?_⟩) hHeld ?_
    rotate_left
    · (intro w' hSw; obtain ⟨k0, k1, k2, k3⟩ := hSw; go_simp; try with_reducible rfl)
    try simp only [Act.put, List.setIfInBounds_toArray, List.set_cons_zero, List.set_cons_succ]
    refine wpAnyH_take (i := 8) (v := ?_) opAt_8 (by kernel_rfl) (by kernel_rfl) (by kernel_rfl) (fun _ _ _ h => h) (Or.inl ⟨by rfl, ?_⟩) hHeld ?_
    rotate_left
    · (intro w' hSw; obtain ⟨k0, k1, k2, k3⟩ := hSw; go_simp; try with_reducible rfl)
    try simp only [Act.put, List.setIfInBounds_toArray, List.set_cons_zero, List.set_cons_succ]
    refine wpAnyH_take (i := 9) (v := ?_) opAt_9 (by kernel_rfl) (by kernel_rfl) (by kernel_rfl) (fun _ _ _ h => h) (Or.inl ⟨by rfl, ?_⟩) hHeld ?_
    rotate_left
    · (intro w' hSw; obtain ⟨k0, k1, k2, k3⟩ := hSw; go_simp; try with_reducible rfl)
    try simp only [Act.put, List.setIfInBounds_toArray, List.set_cons_zero, List.set_cons_succ]
    refine wpAnyH_take (i := 10) (v := ?_) opAt_10 (by kernel_rfl) (by kernel_rfl) (by kernel_rfl) (fun _ _ _ h => h) (Or.inl ⟨by rfl, ?_⟩) hHeld ?_
    rotate_left
    · (intro w' hSw; obtain ⟨k0, k1, k2, k3⟩ := hSw; go_simp; try with_reducible rfl)
    try simp only [Act.put, List.setIfInBounds_toArray, List.set_cons_zero, List.set_cons_succ]
    refine wpAnyH_take (i := 11) (v := ?_) opAt_11 (by kernel_rfl) (by kernel_rfl) (by kernel_rfl) (fun _ _ _ h => h) (Or.inl ⟨by rfl, ?_⟩) hHeld ?_
    rotate_left
    · (intro w' hSw; obtain ⟨k0, k1, k2, k3⟩ := hSw; go_simp; try with_reducible rfl)
    try simp only [Act.put, List.setIfInBounds_toArray, List.set_cons_zero, List.set_cons_succ]
    refine wpAnyH_done (by kernel_rfl) ?_ _
    refine NoPanic.normal ?_
    go_wp2_with fail
    refine (HAp.out _ HB0.out).mono ?_
    rintro e w1 ⟨rfl, hm⟩
    have HM := Lib.hid (Mut.after HB0.out hm)
    clear hm
    go_wp2_with fail
    go_ret
    exact ⟨rfl, HM.out⟩
set_option maxRecDepth 100000 in
theorem kcut {F : Nat} {MF : Nat → Prop} {t : FSt} (hF : FileM w F MF R t) (hbig : t.big ≤ 100000) (z : Int) : Calls Tryz.prog 61 #[.pointer (some ⟨F, 0, none⟩), .int .i64 z] w fun e w' => e = .returned (.int .i64 ((cutT z t).1 : Int)) ∧ Mut w w' F MF R (cutT z t).2 := by
  unfold cutT
  by_cases h1 : z < 0
  · rw [if_pos (.inl h1)]
    refine (fcut_neg hF z h1).mono ?_
    rintro e w' ⟨rfl, hb⟩
    exact ⟨rfl, Mut.of_below hF hb⟩
  · by_cases h2 : (t.bytes.length : Int) < z
    · rw [if_pos (.inr h2)]
      refine (fcut_long hF (by omega) z h2).mono ?_
      rintro e w' ⟨rfl, hb⟩
      exact ⟨rfl, Mut.of_below hF hb⟩
    · rw [if_neg (by omega)]
      obtain ⟨n, rfl⟩ : ∃ n : Nat, z = n := ⟨z.toNat, by omega⟩
      by_cases h3 : (n : Int) = t.bytes.length
      · rw [if_pos h3]
        refine (fcut_same hF (by omega) n (by omega)).mono ?_
        rintro e w' ⟨rfl, hb⟩
        exact ⟨rfl, Mut.of_below hF hb⟩
      · rw [if_neg h3]
        exact fcut_m hF n (by omega) (by omega)
set_option maxRecDepth 100000 in
set_option maxHeartbeats 4000000 in
theorem ktrunc1 {F : Nat} {MF : Nat → Prop} {t : FSt} {z : Int} (hF : FileM w F MF R t) (hbig : t.big ≤ 100000) (cr : w.cell? ⟨r, 0, none⟩ = some (.int .i64 z)) :
    Calls Tryz.prog 60 #[.pointer (some ⟨F, 0, none⟩), .pointer (some ⟨r, 0, none⟩)] w fun e w' => e = .returned (.int .i64 ((cutT z t).1 : Int)) ∧ Mut w w' F MF R (cutT z t).2 := by
  have HC := Lib.hid (kcut hF hbig z)
  clear hF hbig
  generalize cutT z t = an at *
  go_enter Tryz.func60, Tryz.ntmps60
  go_wp2_with fail
  refine HC.out.mono ?_
  rintro e w1 ⟨rfl, hm⟩
  have HM := Lib.hid hm
  clear hm
  go_wp2_with fail
  go_ret
  exact ⟨rfl, HM.out⟩
theorem syncT_big (t : FSt) (h : t.Ok) : (syncT t).2.Ok ∧ (syncT t).2.big ≤ t.big + 1200 := ⟨(syncT_ok t h).1, by have := (syncT_ok t h).2; omega⟩
set_option maxRecDepth 100000 in
set_option maxHeartbeats 4000000 in
theorem ksync (hnm : nm.size ≤ maxLen) (h : FsM w A s.used M R s) (hf : FInv s q T) (hT : T ≤ 100000) (hst : s.steps + 1 ≤ 1000000) :
    Calls Tryz.prog 43 #[.pointer (some ⟨A, 0, none⟩), .string nm] w fun e w' => e = .returned (.int .i64 ((stepF s (syncK nm)).1 : Int)) ∧ FsMut w w' A (stepF s (syncK nm)).2.used M R (stepF s (syncK nm)).2 := by
  have HS := Lib.hid (kstepOf (k := syncT) (dcap := #[]) hnm h hf hT hst (fun args w' => enters_of Tryz.func91 (by kernel_rfl) rfl args w') syncT_big
    (fun hb0 w1 hg X B n hv K g MX MF i ha hi hbg => by
      have e1 := (beginF_is s).2.1
      have h1 := ha.files i hi
      rw [e1] at h1
      exact fsync_m h1 (by omega)))
  have e : stepF s (syncK nm) = stepF s (fun s => onF s nm syncT) := rfl
  rw [e]
  clear h hf e
  generalize stepF s (fun s => onF s nm syncT) = an at *
  go_enter Tryz.func43, Tryz.ntmps43
  go_wp2_with fail
  refine HS.out.mono ?_
  rintro e w1 ⟨rfl, hm⟩
  have HM := Lib.hid hm
  clear hm
  go_wp2_with fail
  go_ret
  exact ⟨rfl, HM.out⟩
theorem cutT_big (z : Int) (t : FSt) (h : t.Ok) : (cutT z t).2.Ok ∧ (cutT z t).2.big ≤ t.big + 1200 := ⟨(cutT_ok z t h).1, by have := (cutT_ok z t h).2; omega⟩
set_option maxRecDepth 100000 in
set_option maxHeartbeats 4000000 in
theorem ktrunc {z : Int} (hnm : nm.size ≤ maxLen) (h : FsM w A s.used M R s) (hf : FInv s q T) (hT : T ≤ 100000) (hst : s.steps + 1 ≤ 1000000) :
    Calls Tryz.prog 21 #[.pointer (some ⟨A, 0, none⟩), .string nm, .int .i64 z] w fun e w' => e = .returned (.int .i64 ((stepF s (truncK nm z)).1 : Int)) ∧ FsMut w w' A (stepF s (truncK nm z)).2.used M R (stepF s (truncK nm z)).2 := by
  obtain ⟨W, hW⟩ : ∃ W, W = w.alloc (.cells #[.int .i64 z] 3) := ⟨_, rfl⟩
  have hb : Below w.heap.size w W := by rw [hW]; exact (Below.refl _ _).alloc (Nat.le_refl _) _
  have c0 : W.cell? ⟨w.heap.size, 0, none⟩ = some (.int .i64 z) := by rw [hW]; exact box_new _ _ _ _ rfl
  have hlA := h.ltA
  have HS := Lib.hid (kstepOf (k := cutT z) (dcap := #[.pointer (some ⟨w.heap.size, 0, none⟩)]) hnm (h.on hb) hf hT hst (fun args w' => enters_of Tryz.func60 (by kernel_rfl) rfl args w') (cutT_big z)
    (fun hb0 w1 hg X B n hv K g MX MF i ha hi hbg => by
      have e1 := (beginF_is s).2.1
      have h1 := ha.files i hi
      rw [e1] at h1
      exact ktrunc1 h1 (by omega) (cell_keep hg (fun e => by omega) c0)))
  have HB := Lib.hid hb
  have e : stepF s (truncK nm z) = stepF s (fun s => onF s nm (cutT z)) := rfl
  rw [e]
  clear h hf e hb c0
  generalize stepF s (fun s => onF s nm (cutT z)) = an at *
  go_enter Tryz.func21, Tryz.ntmps21
  go_wp2_with fail
  rw [← hW]
  refine HS.out.mono ?_
  rintro e w1 ⟨rfl, hm⟩
  have HM := Lib.hid (hm.after (Chg.of_below HB.out) (fun _ => .inl) (fun _ => .inl))
  clear hm
  go_wp2_with fail
  go_ret
  exact ⟨rfl, HM.out⟩
theorem appT_big (u qu : Nat) {b : List UInt8} (hb : b.length ≤ 1200) (t : FSt) (h : t.Ok) : (appT u qu b t).2.Ok ∧ (appT u qu b t).2.big ≤ t.big + 1200 := ⟨(appT_ok u qu b t h).1, by have := (appT_ok u qu b t h).2; omega⟩
set_option maxRecDepth 100000 in
set_option maxHeartbeats 4000000 in
theorem kappend {v : Value} {b : List UInt8} (hnm : nm.size ≤ maxLen) (h : FsM w A s.used M R s) (hf : FInv s q T) (hT : T ≤ 100000) (hst : s.steps + 1 ≤ 1000000) (hv : BsIn w N v b) (hN : ∀ i, M i → ¬ N i) (hbl : b.length ≤ 1200) :
    Calls Tryz.prog 45 #[.pointer (some ⟨A, 0, none⟩), .string nm, v] w fun e w' => e = .returned (.int .i64 ((stepF s (appendK nm b)).1 : Int)) ∧ FsMut w w' A (stepF s (appendK nm b)).2.used M R (stepF s (appendK nm b)).2 := by
  have hv0 := hv
  obtain ⟨Ab, cb, rfl, _, _⟩ := hv
  obtain ⟨W, hW⟩ : ∃ W, W = (w.alloc (.cells #[.pointer (some ⟨A, 0, none⟩)] 26)).alloc (.cells #[.slice Ab b.length cb] 47) := ⟨_, rfl⟩
  have hb : Below w.heap.size w W := by rw [hW]; exact ((Below.refl _ _).alloc (Nat.le_refl _) _).alloc (by simp) _
  have c0 : W.cell? ⟨w.heap.size, 0, none⟩ = some (.pointer (some ⟨A, 0, none⟩)) := by rw [hW]; exact cell_al (box_new _ _ _ _ rfl) _
  have c1 : W.cell? ⟨w.heap.size + 1, 0, none⟩ = some (.slice Ab b.length cb) := by rw [hW]; exact box_new _ _ _ _ (by simp)
  have hlA := h.ltA
  have hv1 := hv0.chg (Chg.of_below (M := fun _ => False) hb) (fun i e => e.elim)
  have hNA : ∀ i, i = A → ¬ N i := fun i e => by rw [e]; exact hN A h.mA
  have hul := hf.used_le
  have HS := Lib.hid (kstepOf (k := appT s.used s.quota b) (dcap := #[.pointer (some ⟨w.heap.size, 0, none⟩), .pointer (some ⟨w.heap.size + 1, 0, none⟩)]) hnm (h.on hb) hf hT hst (fun args w' => enters_of Tryz.func94 (by kernel_rfl) rfl args w') (fun t ht => appT_big _ _ hbl t ht)
    (fun hb0 w1 hg X B n hv K g MX MF i ha hi hbg => by
      have e1 := beginF_is s
      have h1 := ha.files i hi
      have h2 := ha.cells.c2
      rw [e1.2.1] at h1
      rw [e1.2.2] at h2
      exact kappend1 h1 (by omega) (cell_keep hg (fun e => by omega) c0) (cell_keep hg (fun e => by omega) c1) (hv1.chg hg hNA) (fun j hj => hN j (ha.mF i hi j hj)) hbl ha.cells.c3 h2 (by omega)))
  have HB := Lib.hid hb
  have e : stepF s (appendK nm b) = stepF s (fun s' => onF s' nm (appT s.used s.quota b)) := stepF_congr (by unfold appendK; rw [beginF_used, (beginF_is s).2.2])
  rw [e]
  clear h hf e hb c0 c1 hv0 hv1 hN hNA hul
  generalize stepF s (fun s' => onF s' nm (appT s.used s.quota b)) = an at *
  generalize b.length = nb at *
  go_enter Tryz.func45, Tryz.ntmps45
  go_wp2_with fail
  rw [← hW]
  refine HS.out.mono ?_
  rintro e w1 ⟨rfl, hm⟩
  have HM := Lib.hid (hm.after (Chg.of_below HB.out) (fun _ => .inl) (fun _ => .inl))
  clear hm
  go_wp2_with fail
  go_ret
  exact ⟨rfl, HM.out⟩
end
end Go.Proofs.YtaicibmaogiibaaGreatDoor

/- JfSee -/

/-
  Layer 7: what tells and what is set: New, On, Size, ReadAt, Fuse.
-/
set_option linter.unusedVariables false
set_option linter.unusedSimpArgs false
namespace Go.Proofs.YtaicibmaogiibaaGreatDoor
open Go.RowKit Go.Maps

section
variable {w w' : World} {A X B n u q T : Nat} {hv : Value} {K : List Nat} {g : Nat → Nat} {MX M R R' N : Nat → Prop} {MF : Nat → Nat → Prop} {s : FsP} {nm : ByteArray}
theorem FsAt.rise (h : FsAt w A X B n u hv K g MX MF M R s) (hR : ∀ i, R i → R' i) (hM : ∀ i, M i → ¬ R' i) (hl : ∀ i, R' i → i < w.heap.size) : FsAt w A X B n u hv K g MX MF M R' s :=
  { h with
    mr := hM
    rl := hl
    hold := fun ho => (h.hold ho).mono hR
    dir := h.dir.rise hR (fun i hi => hM i (h.mX i hi)) hl
    files := fun i hi => (h.files i hi).rise hR (fun j hj => hM j (h.mF i hi j hj)) hl }
set_option maxRecDepth 100000 in
set_option maxHeartbeats 4000000 in
theorem ksize (h : FsM w A u M R s) (hf : FInv s q T) (hT : T ≤ 1000000) (ho : s.off = false) (hn : nm.size ≤ maxLen) :
    Calls Tryz.prog 38 #[.pointer (some ⟨A, 0, none⟩), .string nm] w fun e w' => e = .returned (.tuple #[.int .i64 ((if (nodeF s nm).1 = 0 then (s.file (nodeF s nm).2).bytes.length else 0 : Nat) : Int), .int .i64 ((nodeF s nm).1 : Int)]) ∧ Below w.heap.size w w' := by
  obtain ⟨X, B, n, hv, K, g, MX, MF, ha, hn1, hn2, hn3, hn4, hn5⟩ := h.kfacts hf
  have HF := Lib.hid (kfind ha hn4 ho hn)
  have Ha := Lib.hid ha
  by_cases h0 : (nodeF s nm).1 = 0
  · have hfin : findL s.dir.now nm = some (nodeF s nm).2 := by
      unfold nodeF at h0 ⊢
      split
      · rename_i h1; rw [if_pos h1] at h0; cases h0
      · rename_i h1
        rw [if_neg h1] at h0
        cases hf2 : findL s.dir.now nm with
        | none => rw [hf2] at h0; cases h0
        | some m => rfl
    rw [h0] at HF ⊢
    simp only [if_true] at HF ⊢
    generalize (nodeF s nm).2 = i at *
    have hiK : i ∈ K := hn4 _ (findL_mem hfin)
    have HZ : Hid (∀ w1, Below w.heap.size w w1 → Calls Tryz.prog 85 #[.pointer (some ⟨g i, 0, none⟩)] w1 fun e w' => e = .returned (.int .i64 ((s.file i).bytes.length : Int)) ∧ Below w1.heap.size w1 w') := fun w1 hb => fsize_m ((Ha.out.on hb).files i hiK) (Nat.le_trans (hn5 i hiK) (by omega)) _ rfl
    generalize (s.file i).bytes.length = L at *
    generalize g i = Fi at *
    clear h hf ha hn1 hn2 hn3 hn4 hn5 h0 hfin
    go_enter Tryz.func38, Tryz.ntmps38
    go_wp2_with (first
      | (go_at_call 65; refine HF.out.mono ?_; rintro e w1 ⟨rfl, hb1⟩; have HB1 := Lib.hid hb1; clear hb1)
      | (go_at_call 85; refine (HZ.out _ HB1.out).mono ?_; rintro e w2 ⟨rfl, hb2⟩; have HB2 := Lib.hid (HB1.out.trans (hb2.mono HB1.out.size)); clear hb2))
    go_ret2
    exact ⟨rfl, HB2.out⟩
  · rw [if_neg h0] at HF
    rw [if_neg h0]
    generalize (nodeF s nm).1 = cd at *
    have hcd2 : decide ((cd : Int) = 0) = false := decide_eq_false (by omega)
    clear h hf ha hn1 hn2 hn3 hn4 hn5
    go_enter Tryz.func38, Tryz.ntmps38
    go_wp2_with (first
      | (go_at_call 65; refine HF.out.mono ?_; rintro e w1 ⟨rfl, hb1⟩; have HB1 := Lib.hid hb1; clear hb1))
    go_ret2
    exact ⟨rfl, HB1.out⟩
set_option maxRecDepth 100000 in
set_option maxHeartbeats 4000000 in
/-- all of a file -/
theorem kread {i L : Nat} (h : FsM w A u M R s) (hf : FInv s q T) (hT : T ≤ 1000000) (ho : s.off = false) (hn : nm.size ≤ maxLen) (h0 : nodeF s nm = (0, i)) (hL : L = (s.file i).bytes.length) :
    Calls Tryz.prog 27 #[.pointer (some ⟨A, 0, none⟩), .string nm, .int .i64 0, .int .i64 (L : Int)] w fun e w' => ∃ r, e = .returned (.tuple #[r, .int .i64 0]) ∧ w'.ownsRow w.heap.size 5 1 r L (bvs (s.file i).bytes) ∧ Below w.heap.size w w' := by
  obtain ⟨X, B, n, hv, K, g, MX, MF, ha, hn1, hn2, hn3, hn4, hn5⟩ := h.kfacts hf
  have HF := Lib.hid (kfind ha hn4 ho hn)
  have Ha := Lib.hid ha
  rw [h0] at HF
  simp only [if_true] at HF
  have hfin : findL s.dir.now nm = some i := by
    unfold nodeF at h0
    split at h0
    · cases h0
    · rename_i h1
      cases hf2 : findL s.dir.now nm with
      | none => rw [hf2] at h0; cases h0
      | some m => rw [hf2] at h0; injection h0 with _ h0; rw [h0]
  have hiK : i ∈ K := hn4 _ (findL_mem hfin)
  have HZ : Hid (∀ w1, Below w.heap.size w w1 → Calls Tryz.prog 76 #[.pointer (some ⟨g i, 0, none⟩), .int .i64 0, .int .i64 (L : Int)] w1 fun e w' => ∃ r, e = .returned (.tuple #[r, .int .i64 0]) ∧ w'.ownsRow w.heap.size 5 1 r L (bvs (s.file i).bytes) ∧ Below w1.heap.size w1 w') := fun w1 hb => by
    have h9 := fread_m ((Ha.out.on hb).files i hiK) (Nat.le_trans (hn5 i hiK) (by omega)) 0 L (by omega)
    refine h9.mono ?_
    rintro e w' ⟨r, rfl, ho, hb'⟩
    rw [List.drop_zero, List.take_of_length_le (by omega)] at ho
    exact ⟨r, rfl, own_base ho hb.size, hb'⟩
  generalize g i = Fi at *
  generalize (s.file i).bytes = by_ at *
  clear h hf ha hn1 hn2 hn3 hn4 hn5 h0 hfin hL
  go_enter Tryz.func27, Tryz.ntmps27
  go_wp2_with (first
    | (go_at_call 65; refine HF.out.mono ?_; rintro e w1 ⟨rfl, hb1⟩; have HB1 := Lib.hid hb1; clear hb1)
    | (go_at_call 76; refine (HZ.out _ HB1.out).mono ?_; rintro e w2 ⟨r, rfl, ho2, hb2⟩; have HO2 := Lib.hid ho2; have HB2 := Lib.hid (HB1.out.trans (hb2.mono HB1.out.size)); clear hb2 ho2))
  go_ret2
  exact ⟨_, rfl, HO2.out, HB2.out⟩
end
end Go.Proofs.YtaicibmaogiibaaGreatDoor

/-
  Layer 7: New, List.
-/
set_option linter.unusedVariables false
set_option linter.unusedSimpArgs false
namespace Go.Proofs.YtaicibmaogiibaaGreatDoor
open Go.RowKit Go.Maps

theorem string_info7 : (Tryz.prog.info? 9).map (fun i => (i.zero, i.size, i.bytes)) = some (some (.string .empty), 1, 16) := by kernel_rfl
/-- the names of a folder -/
def namesL (l : List Ent) : List ByteArray := l.map (·.1)
theorem namesL_take {l : List Ent} {j : Nat} {x : Ent} (hx : l[j]? = some x) : namesL (l.take (j + 1)) = namesL (l.take j) ++ [x.1] := by
  unfold namesL
  rw [take_next6 hx, List.map_append]
  rfl
theorem sos_of_own {w : World} {base n : Nat} {v : Value} {l : List ByteArray} (h : w.ownsRow base 9 1 v n (svs l)) (hn : n = l.length) : SsR w (fun i => base ≤ i ∧ i < w.heap.size) v l := by
  obtain ⟨A, c, rfl, h1, h2, _⟩ := own_slice h
  subst hn
  exact ⟨A, c, rfl, h1, h2, rdR_of_own h⟩
section
variable {w w' : World} {A X B n u q T : Nat} {hv : Value} {K : List Nat} {g : Nat → Nat} {MX M R R' N : Nat → Prop} {MF : Nat → Nat → Prop} {s : FsP} {nm : ByteArray}
set_option maxRecDepth 100000 in
set_option maxHeartbeats 4000000 in
theorem kall (h : FsM w A u M R s) :
    Calls Tryz.prog 58 #[.pointer (some ⟨A, 0, none⟩)] w fun e w' => ∃ v, e = .returned v ∧ w'.ownsRow w.heap.size 9 1 v (namesL s.dir.now).length (svs (namesL s.dir.now)) ∧ Below w.heap.size w w' := by
  obtain ⟨i0, hi0, hz0, hz1, hz2⟩ := info_parts string_info7
  obtain ⟨X, B, n, hv, K, g, MX, MF, ha, hn⟩ := h
  have H := Lib.hid ha
  have HL := Lib.hid (hlist_m ha.dir)
  have hc0 := ha.cells.c0
  have hlen0 : s.dir.now.length ≤ 100000 := ha.dir.ok.now_length
  obtain ⟨es, hes⟩ : ∃ es, es = s.dir.now := ⟨_, rfl⟩
  rw [← hes] at HL hlen0 ⊢
  clear ha hn hes
  go_enter Tryz.func58, Tryz.ntmps58
  go_wp2_with fail
  refine HL.out.mono ?_
  rintro e w1 ⟨v, rfl, hev, hb1⟩
  have HB1 := Lib.hid hb1
  have HE := Lib.hid hev
  obtain ⟨Av, cv, rfl, hcv, hcm, _⟩ := hev
  obtain ⟨m, hm⟩ : ∃ m, m = es.length := ⟨_, rfl⟩
  rw [← hm] at hcv hlen0 ⊢
  have Hm := Lib.hid hm
  clear hb1 hm hc0
  go_wp2_with fail
  go_loopw [3, 12] (fun o i wr => ∃ j : Nat, j ≤ m ∧ i = .int .i64 j ∧ wr.ownsRow w1.heap.size 9 1 o j (svs (namesL (es.take j))) ∧ Below w1.heap.size w1 wr) (fun _ i _ => m - (intOf i).toNat)
  case atStart => exact ⟨0, by omega, rfl, by simpa [namesL, svs] using World.ownsRow_nil _ _ _ _, Below.refl _ _⟩
  case round =>
    obtain ⟨j, hj, rfl, hown, hb⟩ := hrel
    have HB := Lib.hid hb
    by_cases hjl : j < m
    · obtain ⟨x, hx⟩ : ∃ x, es[j]? = some x := ⟨es[j]'(by have := Hm.out; omega), List.getElem?_eq_getElem _⟩
      obtain ⟨b1, o1, rfl, hb1, e0, e1⟩ := (HE.out.on HB.out).at_ rfl hx
      have HX := Lib.hid hx
      obtain ⟨Ao, co, rfl, _, _, _⟩ := own_slice hown
      have HO := Lib.hid hown
      obtain ⟨xn, xi⟩ := x
      simp only at e0 e1
      have HJ := Lib.hid (namesL_take HX.out)
      have hwb : w1.heap.size ≤ wr.heap.size := HB.out.size
      clear hx hown hb
      go_wp2_with (at_builtin; (refine wpList_append_1 _ rfl _ _ 69 rfl w1.heap.size 9 i0 (.string .empty) 16 Tryz.underlying69 hi0 hz0 hz1 hz2 rfl (.slice Ao j co) j (svs (namesL (es.take j))) rfl ((HO.out.alloc _).alloc _) ⟨wr.heap.size + 1, 0, none⟩ 1 (.string xn) rfl (box_new _ _ _ _ (by simp)) rfl (by unfold maxLen; omega) (by omega) (by simp; omega) ?_); intro v3 w3 hown3 hb3 _ _; (have HO3 := Lib.hid hown3); (have HB3 := Lib.hid hb3); clear hown3 hb3)
      have hfin : w3.ownsRow w1.heap.size 9 1 v3 (j + 1) (svs (namesL (es.take (j + 1)))) := by
        rw [HJ.out, svs_append]
        exact HO3.out
      have hbf : Below w1.heap.size w1 w3 := ((HB.out.alloc HB.out.size _).alloc (by simp; omega) _).trans HB3.out
      have HF := Lib.hid hfin
      have HBF := Lib.hid hbf
      clear hfin hbf
      go_roundw
      case rel => exact ⟨j + 1, by omega, by go_num, HF.out, HBF.out⟩
      case measure => simp [intOf]; omega
    · obtain rfl : j = m := by omega
      have HO := Lib.hid hown
      clear hown hb
      go_wp2_with fail
      go_ret
      have he : es.take j = es := List.take_of_length_le (by have := Hm.out; omega)
      have h1 := HO.out
      rw [he] at h1
      have hl9 : (namesL es).length = j := by rw [Hm.out]; simp [namesL]
      rw [hl9]
      exact ⟨_, rfl, own_base h1 HB1.out.size, HB1.out.trans (HB.out.mono HB1.out.size)⟩
set_option maxRecDepth 100000 in
theorem kmayq (w : World) (z : Int) : Calls Tryz.prog 32 #[.int .i64 z] w fun e w' => e = .returned (.bool (decide (0 ≤ z ∧ z ≤ 1073741824))) ∧ w = w' := by
  by_cases h1 : 0 ≤ z
  · by_cases h2 : z ≤ 1073741824
    · have d1 : decide (z ≥ 0) = true := decide_eq_true h1
      have d2 : decide (z ≤ 1073741824) = true := decide_eq_true h2
      go_enter Tryz.func32, Tryz.ntmps32
      go_wp2
      go_ret
      exact ⟨by simp [h1, h2], rfl⟩
    · have d1 : decide (z ≥ 0) = true := decide_eq_true h1
      have d2 : decide (z ≤ 1073741824) = false := decide_eq_false h2
      go_enter Tryz.func32, Tryz.ntmps32
      go_wp2
      go_ret
      exact ⟨by simp [h1, h2], rfl⟩
  · have d1 : decide (z ≥ 0) = false := decide_eq_false (by omega)
    go_enter Tryz.func32, Tryz.ntmps32
    go_wp2
    go_ret
    exact ⟨by simp [h1], rfl⟩
set_option maxRecDepth 100000 in
set_option maxHeartbeats 4000000 in
theorem knew (w : World) (qt : Nat) (hq : qt ≤ 1073741824) :
    Calls Tryz.prog 8 #[.int .i64 (qt : Int)] w fun e w' => ∃ A M, e = .returned (.tuple #[.pointer (some ⟨A, 0, none⟩), .int .i64 0]) ∧ FsM w' A 0 M (fun _ => False) (FsP.new qt) ∧ Below w.heap.size w w' ∧ ∀ i, M i → w.heap.size ≤ i := by
  have HQ := Lib.hid (kmayq w (qt : Int))
  have hd : decide (0 ≤ (qt : Int) ∧ (qt : Int) ≤ 1073741824) = true := decide_eq_true (by omega)
  rw [hd] at HQ
  clear hd
  go_enter Tryz.func8, Tryz.ntmps8
  go_wp2_with (go_at_call 32; refine HQ.out.mono ?_; rintro e w' ⟨rfl, rfl⟩)
  refine (hnew w).mono ?_
  rintro e w1 ⟨X, MX, rfl, hx, hb1, hMX⟩
  have HX := Lib.hid hx
  have HB1 := Lib.hid hb1
  have HMX := Lib.hid hMX
  have hmk := hmkF w1
  clear hx hb1 hMX
  go_wp2_with fail
  go_ret2
  have hb2 : Below w1.heap.size w1 (w1.alloc (.map #[] 0)) := (Below.refl _ _).alloc (Nat.le_refl _) _
  have hsz2 : (w1.alloc (.map #[] 0)).heap.size = w1.heap.size + 1 := by simp
  have hm0 := MapF.new w1 (fun _ => 0)
  have hx2 := HX.out.on hb2
  have hxl := HX.out.2.2.1
  generalize w1.alloc (.map #[] 0) = w2 at *
  have hb3 : Below w2.heap.size w2 (w2.alloc (.cells #[.pointer (some ⟨X, 0, none⟩), .map (some w1.heap.size), .int .i64 (qt : Int), .int .i64 0, .int .i64 0, .bool true, .func (.func 34) #[] #[]] 83)) := (Below.refl _ _).alloc (Nat.le_refl _) _
  have hsz3 : (w2.alloc (.cells #[.pointer (some ⟨X, 0, none⟩), .map (some w1.heap.size), .int .i64 (qt : Int), .int .i64 0, .int .i64 0, .bool true, .func (.func 34) #[] #[]] 83)).heap.size = w2.heap.size + 1 := by simp
  have hc := FsC.new w2 X w1.heap.size qt 0 0 true (.func (.func 34) #[] #[]) 83
  have hs1 := HB1.out.size
  rw [← hsz2]
  refine ⟨w2.heap.size, fun i => MX i ∨ i = w1.heap.size ∨ i = w2.heap.size, rfl, ⟨X, w1.heap.size, 0, .func (.func 34) #[] #[], [], fun _ => 0, MX, fun _ _ => False, ?_, Nat.zero_le _, (fun i hi => absurd hi (by simp)), fun i hi => ?_⟩, (HB1.out.trans (hb2.mono hs1)).trans (hb3.mono (by omega)), ?_⟩
  · refine ⟨fun i _ e => e, ?_, fun i e => e.elim, hc, fun _ => rfl, ⟨_, _, rfl⟩, hm0.on hb3, (fun i hi => absurd hi (by simp)), hx2.on hb3, (fun i hi => absurd hi (by simp)), .inr (.inr rfl), .inr (.inl rfl), fun i => .inl, (fun i hi => absurd hi (by simp)), fun e => ?_, fun e => ?_, (fun i hi => absurd hi (by simp)), (fun i hi => absurd hi (by simp)), (fun i hi => absurd hi (by simp)), (fun i hi => absurd hi (by simp))⟩
    · rintro i (e | e | e)
      · have := hxl i e; omega
      · omega
      · omega
    · have := hxl _ e; omega
    · have := hxl _ e; omega
  · exfalso
    have h1 := (mem_live (s := PSt.new) (Nat.le_refl _)).1 hi
    rcases h1 with ⟨y, hy, _⟩ | h1
    · simp [PSt.new] at hy
    · simp [PSt.new] at h1; omega
  · rintro i (e | e | e)
    · exact HMX.out i e
    · omega
    · omega
end
end Go.Proofs.YtaicibmaogiibaaGreatDoor

/-
  Layer 7: picks: whether one is below 0, and the next one.
-/
set_option linter.unusedVariables false
set_option linter.unusedSimpArgs false
namespace Go.Proofs.YtaicibmaogiibaaGreatDoor
open Go.RowKit Go.Maps

theorem elInts : Tryz.prog.underlying 42 = some (.slice (Tryz.prog.elem 42)) := by kernel_rfl
theorem run_cut_1i (A : Option Addr) (n c k : Nat) (hkn : k ≤ n) (w : World) :
    (Instr.sliceAt 42 (.slice A n c) (some (.int .i64 (k : Int))) none none).run Tryz.prog w = .ok (.slice (if c = k then A else A.map (·.add k)) (n - k) (c - k)) w := by
  rw [run_sliceAt_slice _ 42 _ _ _ _ elInts, run_slice_l _ 42 A n c elInts .i64 k (by omega) (by omega)]
  have : (sizeOf (Tryz.prog.elem 42)).run Tryz.prog w = .ok 1 w := by kernel_rfl
  rw [this]
  simp [Result.andThen, sliced]
/-- The value v is a slice that reads as the numbers l, out of a block of N. -/
def IsR (w : World) (N : Nat → Prop) (v : Value) (l : List Int) : Prop := ∃ A c, v = .slice A l.length c ∧ l.length ≤ c ∧ l.length ≤ 9223372036854775807 ∧ RdR w N A (ivs l)
section
variable {w w' : World} {N N' M : Nat → Prop} {v : Value} {l : List Int}
theorem IsR.chg (h : IsR w N v l) (hc : Chg M w w') (hM : ∀ i, M i → ¬ N i) : IsR w' N v l := by
  obtain ⟨A, c, h1, h2, h3, h4⟩ := h
  exact ⟨A, c, h1, h2, h3, h4.chg hc hM⟩
theorem IsR.on (h : IsR w N v l) (hb : Below w.heap.size w w') : IsR w' N v l := h.chg (Chg.of_below (M := fun _ => False) hb) (fun _ e => e.elim)
theorem IsR.mono (h : IsR w N v l) (hN : ∀ i, N i → N' i) : IsR w N' v l := by
  obtain ⟨A, c, h1, h2, h3, h4⟩ := h
  exact ⟨A, c, h1, h2, h3, h4.mono hN⟩
theorem IsR.at_ (h : IsR w N v l) {A : Option Addr} {n c : Nat} (hv : v = .slice A n c) {j : Nat} {x : Int} (hx : l[j]? = some x) :
    ∃ b o, A = some ⟨b, o, none⟩ ∧ N b ∧ w.cell? ⟨b, o + j, none⟩ = some (.int .i64 x) := by
  obtain ⟨A', c', e, _, _, h2⟩ := h
  rw [hv] at e
  injection e with e _ _
  subst e
  have g1 : (ivs l)[j]? = some (.int .i64 x) := by unfold ivs; rw [List.getElem?_map, hx]; rfl
  obtain ⟨b, o, e2, hb, hc⟩ := h2 (by intro e; rw [e] at g1; simp at g1)
  exact ⟨b, o, e2, hb, hc _ _ g1⟩
set_option maxRecDepth 100000 in
theorem kneg (w : World) (z : Int) : Calls Tryz.prog 49 #[.int .i64 z] w fun e w' => e = .returned (.bool (decide (z < 0))) ∧ w = w' := by
  go_enter Tryz.func49, Tryz.ntmps49
  go_wp2
  go_ret
  exact ⟨by simp, rfl⟩
theorem any_take_next {l : List Int} {j : Nat} {x : Int} (hx : l[j]? = some x) : (l.take (j + 1)).any (· < 0) = ((l.take j).any (· < 0) || decide (x < 0)) := by
  rw [take_next6 hx, List.any_append]
  simp
theorem any_of_mem {l : List Int} {x : Int} (hx : x ∈ l) (h : x < 0) : l.any (· < 0) = true := List.any_eq_true.2 ⟨x, hx, by simpa using h⟩
set_option maxRecDepth 100000 in
set_option maxHeartbeats 4000000 in
theorem kindexf (h : IsR w N v l) : Calls Tryz.prog 96 #[v, .func (.func 49) #[] #[]] w fun e w' => ∃ r : Int, e = .returned (.int .i64 r) ∧ decide (r ≥ 0) = l.any (· < 0) ∧ w = w' := by
  have HV := Lib.hid h
  obtain ⟨Ab, c, rfl, hc, hm, _⟩ := h
  obtain ⟨n, hn⟩ : ∃ n, n = l.length := ⟨_, rfl⟩
  rw [← hn] at hc HV hm ⊢
  have Hn := Lib.hid hn
  have eg : ∀ args w', (callFunc 49 args).run Tryz.prog w' = .ok (.enter 49 args) w' := fun args w' => enters_of Tryz.func49 (by kernel_rfl) rfl args w'
  clear hn
  go_enter Tryz.func96, Tryz.ntmps96
  go_wp2_with fail
  go_loopw [5, 8] (fun _ i wr => ∃ k : Nat, k ≤ n ∧ i = .int .i64 k ∧ (l.take k).any (· < 0) = false ∧ w = wr) (fun _ i _ => n - (intOf i).toNat)
  case atStart => exact ⟨0, by omega, rfl, by simp, rfl⟩
  case round =>
    obtain ⟨k, hk, rfl, hany, rfl⟩ := hrel
    have HA := Lib.hid hany
    clear hany
    by_cases hkn : k < n
    · have hdk : decide ((k : Int) < (n : Int)) = true := decide_eq_true (by omega)
      obtain ⟨x, hx⟩ : ∃ x, l[k]? = some x := ⟨l[k]'(by have := Hn.out; omega), List.getElem?_eq_getElem _⟩
      obtain ⟨b1, o1, rfl, _, e0⟩ := HV.out.at_ rfl hx
      have hdk3 : (k : Int) < (n : Int) := by omega
      have HX := Lib.hid hx
      have HN := Lib.hid (kneg w x)
      clear hx
      cases hd : decide (x < 0)
      · rw [hd] at HN
        have HD := Lib.hid hd
        clear hd
        go_wp2_with fail
        refine HN.out.mono ?_
        rintro e w' ⟨rfl, rfl⟩
        go_wp2_with fail
        go_roundw
        case rel => exact ⟨k + 1, by omega, by go_num, by rw [any_take_next HX.out, HA.out, HD.out]; rfl, by first | trivial | rfl⟩
        case measure => simp [intOf]; omega
      · rw [hd] at HN
        have HD := Lib.hid hd
        clear hd
        go_wp2_with fail
        refine HN.out.mono ?_
        rintro e w' ⟨rfl, rfl⟩
        go_wp2_with fail
        go_ret
        exact ⟨_, rfl, by rw [any_of_mem (List.mem_of_getElem? HX.out) (by simpa using HD.out)]; simp, rfl⟩
    · have hdk : decide ((k : Int) < (n : Int)) = false := decide_eq_false (by omega)
      have Hf : Hid (l.any (· < 0) = false) := by
        have h1 := HA.out
        rw [List.take_of_length_le (by have := Hn.out; omega)] at h1
        exact h1
      go_wp2_with fail
      go_ret
      exact ⟨_, rfl, by rw [Hf.out]; rfl, rfl⟩
set_option maxRecDepth 100000 in
theorem kcontains (h : IsR w N v l) : Calls Tryz.prog 48 #[v, .func (.func 49) #[] #[]] w fun e w' => e = .returned (.bool (l.any (· < 0))) ∧ w = w' := by
  have H := Lib.hid (kindexf h)
  clear h
  generalize l.any (· < 0) = b at *
  go_enter Tryz.func48, Tryz.ntmps48
  go_wp2_with fail
  refine H.out.mono ?_
  rintro e w' ⟨r, rfl, hr, rfl⟩
  go_wp2_with fail
  go_ret
  exact ⟨by simp, rfl⟩
set_option maxRecDepth 100000 in
set_option maxHeartbeats 4000000 in
/-- the next pick -/
theorem kpick {p lo : Nat} (h : IsR w N v l) (cp : w.cell? ⟨p, 0, none⟩ = some v) (fp : w.frozen? ⟨p, 0, none⟩ = false) (hN : ¬ N p) (hlo : lo ≤ 1000000000) (hpos : l.any (· < 0) = false) :
    Calls Tryz.prog 50 #[.int .i64 (lo : Int), .pointer (some ⟨p, 0, none⟩)] w fun e w' => ∃ v', e = .returned (.int .i64 (((l.head?.getD 0).toNat % (lo + 1) : Nat) : Int)) ∧ IsR w' N v' (l.drop 1) ∧ w'.cell? ⟨p, 0, none⟩ = some v' ∧ w'.frozen? ⟨p, 0, none⟩ = false ∧ Chg (fun i => i = p) w w' := by
  rcases l with _ | ⟨x, r⟩
  · obtain ⟨Ab, c, rfl, hc, hm, hr⟩ := h
    have H := Lib.hid (show IsR w N (.slice Ab 0 c) [] from ⟨Ab, c, rfl, hc, hm, hr⟩)
    have HC := Lib.hid cp
    have HF := Lib.hid fp
    clear hr
    go_enter Tryz.func50, Tryz.ntmps50
    go_wp2
    go_ret
    exact ⟨.slice Ab 0 c, by simp, H.out, HC.out, HF.out, Chg.refl⟩
  · have hx0 : 0 ≤ x := by
      simp only [List.any_cons, Bool.or_eq_false_iff, decide_eq_false_iff_not] at hpos
      omega
    obtain ⟨Ab, c, rfl, hc, hm, hr⟩ := h
    have H : IsR w N (.slice Ab (x :: r).length c) (x :: r) := ⟨Ab, c, rfl, hc, hm, hr⟩
    obtain ⟨b1, o1, rfl, hb1, e0⟩ := H.at_ rfl (j := 0) (x := x) rfl
    obtain ⟨n, hn⟩ : ∃ n, n = r.length := ⟨_, rfl⟩
    have hn1 : (x :: r).length = n + 1 := by simp [hn]
    rw [hn1] at cp H hc
    obtain ⟨A', hA'⟩ : ∃ A', A' = (if c = 1 then some ⟨b1, o1, none⟩ else (some ⟨b1, o1, none⟩ : Option Addr).map (·.add 1)) := ⟨_, rfl⟩
    obtain ⟨c', hc'⟩ : ∃ c', c' = c - 1 := ⟨_, rfl⟩
    have hcut : ∀ w, (Instr.sliceAt 42 (.slice (some ⟨b1, o1, none⟩) (n + 1) c) (some (.int .i64 1)) none none).run Tryz.prog w = .ok (.slice A' n c') w := fun w => by
      have h9 := run_cut_1i (some ⟨b1, o1, none⟩) (n + 1) c 1 (by omega) w
      rw [hA', hc']
      simpa using h9
    have hR : RdR w N A' (ivs r) := fun hx => by
      have hc2 : ¬ c = 1 := fun e => by
        have : r = [] := by have := hc; rw [e] at this; exact List.eq_nil_of_length_eq_zero (by omega)
        rw [this] at hx
        simp [ivs] at hx
      obtain ⟨b2, o2, e2, hb2, hc3⟩ := hr (by simp [ivs])
      injection e2 with e2
      injection e2 with e3 e4
      subst e3 e4
      refine ⟨b1, o1 + 1, by rw [hA', if_neg hc2]; rfl, hb1, fun j u hu => ?_⟩
      rw [show o1 + 1 + j = o1 + (j + 1) by omega]
      exact hc3 (j + 1) u (by unfold ivs at hu ⊢; simpa using hu)
    have HR : Hid (IsR w N (.slice A' n c') r) := ⟨A', c', by rw [hn], by omega, by rw [hn1] at hm; omega, hR⟩
    obtain ⟨lo1, hlo1⟩ : ∃ lo1, lo1 = lo + 1 := ⟨_, rfl⟩
    have hw1 : IntKind.i64.wrap ((lo : Int) + 1) = (lo1 : Int) := by rw [IntWalk.i64_in _ (by omega), hlo1]; push_cast; rfl
    obtain ⟨y, hy⟩ : ∃ y : Nat, x = y := ⟨x.toNat, by omega⟩
    subst hy
    obtain ⟨r0, hr0⟩ : ∃ r0, r0 = y % lo1 := ⟨_, rfl⟩
    have hm1 : (y : Int).tmod (lo1 : Int) = (r0 : Int) := by rw [Int.tmod_eq_emod_of_nonneg (by omega), hr0]; push_cast; rfl
    have hm2 : (y : Int) % (lo1 : Int) = (r0 : Int) := by rw [hr0]; push_cast; rfl
    have hans : ((((y : Int) :: r).head?.getD 0).toNat % (lo + 1) : Nat) = r0 := by rw [hr0, hlo1]; simp
    have hne : decide ((lo1 : Int) = 0) = false := decide_eq_false (by omega)
    have hne2 : ¬ (lo1 : Int) = 0 := by omega
    have hlen : decide (((n + 1 : Nat) : Int) = 0) = false := decide_eq_false (by omega)
    have e0' : w.cell? ⟨b1, o1, none⟩ = some (.int .i64 (y : Int)) := by simpa using e0
    rw [hans]
    have HN : Hid (¬ N p) := hN
    clear hr H hA' hc' hR hr0 hlo1 hans e0 hn1 hn hx0
    go_enter Tryz.func50, Tryz.ntmps50
    go_wp2_with fail
    go_ret
    exact ⟨.slice A' n c', rfl, HR.out.chg (chg_set w p 0 _) (fun i e => by rw [e]; exact HN.out), World.cell?_setCell_same _ _ _ cp, by rw [World.frozen?_setCell]; exact fp, chg_set w p 0 _⟩
end
end Go.Proofs.YtaicibmaogiibaaGreatDoor

/-
  Layer 7: Crash.
-/
set_option linter.unusedVariables false
set_option linter.unusedSimpArgs false
namespace Go.Proofs.YtaicibmaogiibaaGreatDoor
open Go.RowKit Go.Maps

theorem live_crashD (s : FsP) (picks : List Int) : (crashD s picks).live = inosL (crashD s picks).safe := by
  unfold PSt.live liveP crashD PSt.settle
  simp
theorem bytesN_names {g : Nat → FSt} : ∀ {l : List Ent}, SortE l → bytesN g l (namesL l) = usedL g l := fun {l} hs => by
  unfold bytesN usedL namesL
  rw [List.map_map]
  congr 1
  refine List.map_congr_left (fun x hx => ?_)
  have : findL l x.1 = some x.2 := (findL_iff hs).2 hx
  simp [lenAt, this]
/-- the files behind k of a crash's files -/
def crashG (picks : List Int) (l : List Nat) (g : Nat → FSt) (k : Nat) (i : Nat) : FSt := if i ∈ l.take k then (g i).settled (pickAt picks (l.idxOf i + 1) % ((g i).loose + 1)) else g i
theorem crashG_zero (picks : List Int) (l : List Nat) (g : Nat → FSt) : crashG picks l g 0 = g := by funext i; simp [crashG]
theorem crashG_all (picks : List Int) (l : List Nat) (g : Nat → FSt) : crashG picks l g l.length = crashT picks l g := by funext i; simp [crashG, crashT]
theorem crashG_next {picks : List Int} {l : List Nat} {g : Nat → FSt} (hd : l.Nodup) {k x : Nat} (hx : l[k]? = some x) : upd (crashG picks l g k) x ((g x).settled (pickAt picks (k + 1) % ((g x).loose + 1))) = crashG picks l g (k + 1) := by
  have hk : k < l.length := (List.getElem?_eq_some_iff.1 hx).1
  have hxe : l[k] = x := (List.getElem?_eq_some_iff.1 hx).2
  have hidx : l.idxOf x = k := by rw [← hxe]; exact hd.idxOf_getElem k hk
  funext i
  by_cases e : i = x
  · subst e
    rw [upd_same]
    have hm : i ∈ l.take (k + 1) := by rw [take_next6 hx]; simp
    unfold crashG
    rw [if_pos hm, hidx]
  · rw [upd_other _ _ e]
    unfold crashG
    have : i ∈ l.take (k + 1) ↔ i ∈ l.take k := by rw [take_next6 hx, List.mem_append, List.mem_singleton]; exact ⟨fun h => h.resolve_right e, .inl⟩
    by_cases hm : i ∈ l.take k
    · rw [if_pos hm, if_pos (this.2 hm)]
    · rw [if_neg hm, if_neg (fun h => hm (this.1 h))]
theorem crashG_at {picks : List Int} {l : List Nat} {g : Nat → FSt} (hd : l.Nodup) {k x : Nat} (hx : l[k]? = some x) : crashG picks l g k x = g x := by
  have hk : k < l.length := (List.getElem?_eq_some_iff.1 hx).1
  have hxe : l[k] = x := (List.getElem?_eq_some_iff.1 hx).2
  unfold crashG
  rw [if_neg]
  intro hm
  obtain ⟨j, hj, e⟩ := List.mem_take_iff_getElem.1 hm
  have h1 : l.idxOf x = k := by rw [← hxe]; exact hd.idxOf_getElem k hk
  have h2 : l.idxOf x = j := by rw [← e]; exact hd.idxOf_getElem j (by omega)
  omega
theorem head_drop (picks : List Int) (k : Nat) : (((picks.drop k).head?).getD 0).toNat = pickAt picks k := by
  unfold pickAt
  rw [List.head?_drop]
theorem any_drop {l : List Int} (h : l.any (· < 0) = false) (k : Nat) : (l.drop k).any (· < 0) = false := by
  rw [← Bool.not_eq_true, List.any_eq_true] at h ⊢
  rintro ⟨x, hx, hx2⟩
  exact h ⟨x, List.mem_of_mem_drop hx, hx2⟩
/-- a crash, file by file: what the loop keeps -/
def CrR (w5 wr : World) (A X u p : Nat) (M R N : Nat → Prop) (st : FsP) (pk : List Int) : Prop :=
  ∃ B n hv g MX MF M' R' v', FsAt wr A X B n u hv st.dir.live g MX MF M' R' st ∧ n ≤ st.dir.last + 1 ∧ Chg (fun i => M i ∨ i = p) w5 wr ∧ (∀ i, M' i → M i ∨ w5.heap.size ≤ i) ∧ (∀ i, R' i → R i ∨ w5.heap.size ≤ i) ∧
    IsR wr N v' pk ∧ wr.cell? ⟨p, 0, none⟩ = some v' ∧ wr.frozen? ⟨p, 0, none⟩ = false
set_option maxRecDepth 100000 in
set_option maxHeartbeats 8000000 in
theorem kcrash {w : World} {A q T : Nat} {M R N : Nat → Prop} {s : FsP} {v : Value} {picks : List Int} (h : FsM w A s.used M R s) (hf : FInv s q T) (hq : q ≤ 200) (hT : T ≤ 100000) (hv : IsR w N v picks) (hN : ∀ i, M i → ¬ N i) (hNl : ∀ i, N i → i < w.heap.size) (hp : picks.any (· < 0) = false) :
    Calls Tryz.prog 20 #[.pointer (some ⟨A, 0, none⟩), v] w fun e w' => e = .returned (.int .i64 0) ∧ FsMut w w' A (crashK s picks).2.used M R (crashK s picks).2 := by
  obtain ⟨s9, hs9⟩ : ∃ s9, s9 = (crashK s picks).2 := ⟨_, rfl⟩
  rw [← hs9]
  have hs9' : s9 = { s with dir := crashD s picks, file := crashT picks (inosL (crashD s picks).safe) s.file, off := false, fuse := none } := by rw [hs9]; unfold crashK; rw [if_neg (by simp [hp])]
  have hF9 := hf.crashK_ picks
  rw [← hs9] at hF9
  have HF9 := Lib.hid hF9
  have Hs9 := Lib.hid hs9'
  obtain ⟨X, B, n, hv0, K, g, MX, MF, ha0, hn1, hn2, hn3, hn4, hn5⟩ := h.kfacts hf
  obtain ⟨p, hpe⟩ : ∃ p, p = w.heap.size := ⟨_, rfl⟩
  obtain ⟨Av, cv, rfl, hcv, hcm, hrd⟩ := hv
  obtain ⟨W, hW⟩ : ∃ W, W = w.alloc (.cells #[.slice Av picks.length cv] 42) := ⟨_, rfl⟩
  have hb : Below w.heap.size w W := by rw [hW]; exact (Below.refl _ _).alloc (Nat.le_refl _) _
  have hsW : W.heap.size = p + 1 := by rw [hW, hpe]; simp
  have cp : W.cell? ⟨p, 0, none⟩ = some (.slice Av picks.length cv) := by rw [hW]; exact box_new _ _ _ _ hpe
  have fp : W.frozen? ⟨p, 0, none⟩ = false := by rw [hW, hpe]; simp
  have ha := ha0.on hb
  have hIs : IsR W N (.slice Av picks.length cv) picks := ⟨Av, cv, rfl, hcv, hcm, hrd.chg (Chg.of_below (M := fun _ => False) hb) (fun i e => e.elim)⟩
  have hpM : ¬ M p := fun e => by have := h.ml p e; omega
  have hpR : ¬ R p := fun e => by have := h.rl p e; omega
  have hpN : ¬ N p := fun e => by have := hNl p e; omega
  have HpM := Lib.hid hpM
  have HpR := Lib.hid hpR
  have HpN := Lib.hid hpN
  have HNM := Lib.hid hN
  have HNl : Hid (∀ i, N i → i < p) := fun i e => by have := hNl i e; omega
  have Hpx : Hid (∀ i, i = p → ¬ M i ∧ ¬ R i) := fun i e => by rw [e]; exact ⟨hpM, hpR⟩
  have Ha := Lib.hid ha
  have HsW := Lib.hid hsW
  have hk := kcontains hIs
  rw [hp] at hk
  have HK := Lib.hid hk
  have hdl : s.dir.deeds.length ≤ 200 := by have := hf.few; unfold PSt.big at this; omega
  obtain ⟨dl, hdl1⟩ : ∃ dl, dl = s.dir.deeds.length := ⟨_, rfl⟩
  have HL0 := Lib.hid (hloose_m ha.drew.dir)
  have HP0 := Lib.hid (kpick (lo := dl) (hIs.on ((Below.refl W.heap.size W).drew)) (show W.drew.cell? ⟨p, 0, none⟩ = _ from cp) fp hpN (by omega) hp)
  rw [← hdl1] at HL0
  have hr0 : (picks.head?.getD 0).toNat = pickAt picks 0 := by have := head_drop picks 0; simpa using this
  rw [hr0] at HP0
  have hke : s.dir.settle (keepN ((pickAt picks 0 % (dl + 1) : Nat) : Int) s.dir.deeds.length) = crashD s picks := by
    unfold crashD
    rw [← hdl1]
    congr 1
    have := Nat.mod_lt (pickAt picks 0) (show 0 < dl + 1 by omega)
    unfold keepN
    omega
  have HKe := Lib.hid hke
  have Hn := Lib.hid (show n ≤ s.dir.last + 1 ∧ (∀ i, i ∈ K → i ≤ s.dir.last) ∧ (∀ i, i ∈ s.dir.live → i ∈ K) from ⟨hn1, hn2, hn3⟩)
  have HF := Lib.hid hf
  have HB := Lib.hid hb
  have Hpe := Lib.hid hpe
  have HP := Lib.hid hp
  have hc0 := ha.cells.c0
  generalize (pickAt picks 0 % (dl + 1) : Nat) = pk0 at *
  clear ha0 ha hn1 hn2 hn3 hn4 hn5 h hk hIs hpM hpR hpN hke hs9 hs9' hF9 hrd hr0 hdl hf hN hNl hdl1 hp fp hb
  go_enter Tryz.func20, Tryz.ntmps20
  go_wp2_with fail
  rw [← hW, ← hpe]
  clear hW hpe
  refine (kmade Ha.out.cells).mono ?_
  rintro e w' ⟨rfl, rfl⟩
  clear hsW
  go_wp2_with fail
  refine HK.out.mono ?_
  rintro e w' ⟨rfl, rfl⟩
  go_wp2_with fail
  refine wp_region_noPanic ?_
  refine wp_region_held_drew (S := fun w' => w'.cell? ⟨A, 0, none⟩ = some (.pointer (some ⟨X, 0, none⟩))) (by kernel_rfl) hc0 (fun hHeld => ?_)
  clear hc0 HK cp
  have HaW := Lib.hid Ha.out
  replace Ha := Lib.hid Ha.out.drew
  have HWd : Hid (Below w.heap.size w W.drew ∧ W.drew.heap.size = p + 1) := ⟨HB.out.drew, HsW.out⟩
  replace HsW : Hid (W.drew.heap.size = p + 1) := HsW.out
  generalize World.drew _ = W at *
  refine wpAnyH_take (i := 0) (v := ?_) opAt_0 (by kernel_rfl) (by kernel_rfl) (by kernel_rfl) (fun _ _ _ h => h) (Or.inl ⟨by rfl, ?_⟩) hHeld ?_
  rotate_left
  · (intro w' hSw; have k0 := hSw; go_simp; try with_reducible rfl)
  try simp only [Act.put, List.setIfInBounds_toArray, List.set_cons_zero, List.set_cons_succ]
  refine wpAnyH_take (i := 1) (v := ?_) opAt_1 (by kernel_rfl) (by kernel_rfl) (by kernel_rfl) (fun _ _ _ h => h) (Or.inl ⟨by rfl, ?_⟩) hHeld ?_
  rotate_left
  · (intro w' hSw; have k0 := hSw; go_simp; try with_reducible rfl)
  try simp only [Act.put, List.setIfInBounds_toArray, List.set_cons_zero, List.set_cons_succ]
  refine wpAnyH_take (i := 2) (v := ?_) opAt_2 (by kernel_rfl) (by kernel_rfl) (by kernel_rfl) (fun _ _ _ h => h) (Or.inl ⟨by rfl, ?_⟩) hHeld ?_
  rotate_left
  · (intro w' hSw; have k0 := hSw; go_simp; try with_reducible rfl)
  try simp only [Act.put, List.setIfInBounds_toArray, List.set_cons_zero, List.set_cons_succ]
  refine wpAnyH_take (i := 3) (v := ?_) opAt_3 (by kernel_rfl) (by kernel_rfl) (by kernel_rfl) (fun _ _ _ h => h) (Or.inl ⟨by rfl, ?_⟩) hHeld ?_
  rotate_left
  · (intro w' hSw; have k0 := hSw; go_simp; try with_reducible rfl)
  try simp only [Act.put, List.setIfInBounds_toArray, List.set_cons_zero, List.set_cons_succ]
  refine wpAnyH_take (i := 4) (v := ?_) opAt_4 (by kernel_rfl) (by kernel_rfl) (by kernel_rfl) (fun _ _ _ h => h) (Or.inl ⟨by rfl, ?_⟩) hHeld ?_
  rotate_left
  · (intro w' hSw; have k0 := hSw; go_simp; try with_reducible rfl)
  try simp only [Act.put, List.setIfInBounds_toArray, List.set_cons_zero, List.set_cons_succ]
  refine wpAnyH_take (i := 5) (v := ?_) opAt_5 (by kernel_rfl) (by kernel_rfl) (by kernel_rfl) (fun _ _ _ h => h) (Or.inl ⟨by rfl, ?_⟩) hHeld ?_
  rotate_left
  · (intro w' hSw; have k0 := hSw; go_simp; try with_reducible rfl)
  try simp only [Act.put, List.setIfInBounds_toArray, List.set_cons_zero, List.set_cons_succ]
  refine wpAnyH_take (i := 6) (v := ?_) opAt_6 (by kernel_rfl) (by kernel_rfl) (by kernel_rfl) (fun _ _ _ h => h) (Or.inl ⟨by rfl, ?_⟩) hHeld ?_
  rotate_left
  · (intro w' hSw; have k0 := hSw; go_simp; try with_reducible rfl)
  try simp only [Act.put, List.setIfInBounds_toArray, List.set_cons_zero, List.set_cons_succ]
  refine wpAnyH_take (i := 7) (v := ?_) opAt_7 (by kernel_rfl) (by kernel_rfl) (by kernel_rfl) (fun _ _ _ h => h) (Or.inl ⟨by rfl, ?_⟩) hHeld ?_
  rotate_left
  · (intro w' hSw; have k0 := hSw; go_simp; try with_reducible rfl)
  try simp only [Act.put, List.setIfInBounds_toArray, List.set_cons_zero, List.set_cons_succ]
  refine wpAnyH_take (i := 8) (v := ?_) opAt_8 (by kernel_rfl) (by kernel_rfl) (by kernel_rfl) (fun _ _ _ h => h) (Or.inl ⟨by rfl, ?_⟩) hHeld ?_
  rotate_left
  · (intro w' hSw; have k0 := hSw; go_simp; try with_reducible rfl)
  try simp only [Act.put, List.setIfInBounds_toArray, List.set_cons_zero, List.set_cons_succ]
  refine wpAnyH_ready (rs := [9]) (by kernel_rfl) (by simp) ?_
  refine AllReadyH.cons rfl (fun K hK => ?_) AllReadyH.nil
  go_simp
  refine HL0.out.mono ?_
  rintro e w1 ⟨rfl, rfl⟩
  try go_wp2_with fail
  refine hK.out _ _ hHeld (fun hHeld => ?_)
  clear hK K
  try simp only [Act.put, List.setIfInBounds_toArray, List.set_cons_zero, List.set_cons_succ]
  refine wpAnyH_ready (rs := [10]) (by kernel_rfl) (by simp) ?_
  refine AllReadyH.cons rfl (fun K hK => ?_) AllReadyH.nil
  go_simp
  refine HP0.out.mono ?_
  rintro e w1 ⟨v1, rfl, hv1, cp1, fp1, hg1⟩
  have hh1 := Ha.out.chg hg1 Hpx.out
  have hg1M : Chg (fun i => M i ∨ i = p) W w1 := hg1.mono (fun i e => .inr e)
  have Hv1 := Lib.hid hv1
  have Hcp1 := Lib.hid (show w1.cell? ⟨p, 0, none⟩ = some v1 ∧ w1.frozen? ⟨p, 0, none⟩ = false from ⟨cp1, fp1⟩)
  have H1 := Lib.hid hh1
  have HG1 := Lib.hid hg1M
  have hk1 : w1.cell? ⟨A, 0, none⟩ = some (.pointer (some ⟨X, 0, none⟩)) := hh1.cells.c0
  clear hv1 cp1 fp1 hg1 hh1 hg1M
  try go_wp2_with fail
  refine hK.out _ _ hk1 (fun hHeld => ?_)
  clear hK K
  try simp only [Act.put, List.setIfInBounds_toArray, List.set_cons_zero, List.set_cons_succ]
  refine wpAnyH_ready (rs := [11]) (by kernel_rfl) (by simp) ?_
  refine AllReadyH.cons rfl (fun K hK => ?_) AllReadyH.nil
  go_simp
  refine (hcrash H1.out.dir _).mono ?_
  rintro e w2 ⟨rfl, hm⟩
  rw [HKe.out] at hm
  obtain ⟨MX2, M2, R2, h3, h4, h5, h6⟩ := H1.out.dir_mut hm
  have hk2 : w2.cell? ⟨A, 0, none⟩ = some (.pointer (some ⟨X, 0, none⟩)) := h3.cells.c0
  have H2 := Lib.hid h3
  have HG2 := Lib.hid (HG1.out.trans h4 (fun i e => .inl (.inl e)))
  have hcp2 := Hcp1.out
  have Hcp2 := Lib.hid (show w2.cell? ⟨p, 0, none⟩ = some v1 ∧ w2.frozen? ⟨p, 0, none⟩ = false from ⟨cell_keep h4 HpM.out hcp2.1, (h4.frozen (p := ⟨p, 0, none⟩) (fblock_of_cell hcp2.1) HpM.out).trans hcp2.2⟩)
  have HV2 := Lib.hid (Hv1.out.chg h4 HNM.out)
  have hs1 := HG1.out.size
  have HM2 : Hid (∀ i, M2 i → M i ∨ W.heap.size ≤ i) := fun i e => (h5 i e).imp id (fun e => Nat.le_trans hs1 e)
  have HR2 : Hid (∀ i, R2 i → R i ∨ W.heap.size ≤ i) := fun i e => (h6 i e).imp id (fun e => Nat.le_trans hs1 e)
  clear hm h3 h4 h5 h6 hcp2 hs1
  try go_wp2_with fail
  refine hK.out _ _ hk2 (fun hHeld => ?_)
  clear hK K
  try simp only [Act.put, List.setIfInBounds_toArray, List.set_cons_zero, List.set_cons_succ]
  refine wpAnyH_done (by kernel_rfl) ?_ _
  refine NoPanic.normal ?_
  have hf1 : GInv (crashD s picks) := HF.out.ino.settle (by have := Nat.mod_lt (pickAt picks 0) (show 0 < s.dir.deeds.length + 1 by omega); omega)
  have hlast : s.dir.last ≤ 200 := Nat.le_trans HF.out.last hq
  have hfew9 := Nat.le_trans (settle_big s.dir (pickAt picks 0 % (s.dir.deeds.length + 1))) HF.out.few
  have hfew : (crashD s picks).safe.length ≤ 200 := by unfold PSt.big at hfew9; show (s.dir.settle _).safe.length ≤ 200; omega
  have hlv : ∀ i, i ∈ (crashD s picks).live → i ∈ K := fun i hi => Hn.out.2.2 i (live_settle HF.out.ino HF.out.dir.settled (by have := Nat.mod_lt (pickAt picks 0) (show 0 < s.dir.deeds.length + 1 by omega); omega) i hi)
  have HBu := Lib.hid (kbury H2.out hlv hf1 hfew (by show s.dir.last ≤ 10000; omega))
  have HG := Lib.hid hf1
  have HFew := Lib.hid (show (crashD s picks).safe.length ≤ 200 ∧ (crashD s picks).last ≤ 200 from ⟨hfew, hlast⟩)
  have hlf := hf1.live_few H2.out.dir.ok
  have Hlf := Lib.hid hlf
  have Hok := Lib.hid H2.out.dir.ok
  clear hf1 hfew9 hfew hlv hlf hHeld hlast
  go_wp2_with fail
  refine HBu.out.mono ?_
  rintro e w3 ⟨rfl, B3, n3, h31, h32, h33, h34⟩
  have H3 := Lib.hid h31
  have HAM2 := Lib.hid H2.out.mA
  have hG3 := HG2.out.trans (h32.mono (fun i e => by rw [e]; exact HAM2.out)) (fun i e => (HM2.out i e).imp (fun e => .inl e) id)
  have HG3 := Lib.hid hG3
  have hs2 := HG2.out.size
  have HM3 : Hid (∀ i, (M2 i ∨ i = B3) → M i ∨ W.heap.size ≤ i) := fun i e => e.elim (HM2.out i) (fun e => .inr (by omega))
  have hA2 : ∀ i, i = A → ¬ (i = p) := fun i e e' => HpM.out (by
    have h9 := HM2.out A HAM2.out
    rcases h9 with h9 | h9
    · rw [← e', e]; exact h9
    · have := HsW.out; omega)
  have hcp2 := Hcp2.out
  have Hcp3 := Lib.hid (show w3.cell? ⟨p, 0, none⟩ = some v1 ∧ w3.frozen? ⟨p, 0, none⟩ = false from ⟨cell_keep h32 (fun e => hA2 p e rfl) hcp2.1, (h32.frozen (p := ⟨p, 0, none⟩) (fblock_of_cell hcp2.1) (fun e => hA2 p e rfl)).trans hcp2.2⟩)
  have HMA := Lib.hid HaW.out.mA
  have HV3 := Lib.hid (HV2.out.chg h32 (fun i e => by rw [e]; exact HNM.out A HMA.out))
  have hc0 := H3.out.cells.c0
  have HLi := Lib.hid (hlive_m H3.out.dir HFew.out.1 (Nat.le_trans HFew.out.2 (by omega)))
  have H34 := Lib.hid h34
  clear h31 h32 h33 h34 hcp2 hA2 hs2 hG3
  go_wp2_with fail
  refine HLi.out.mono ?_
  rintro e w5 ⟨v5, rfl, hus, hb5⟩
  have H5 := Lib.hid (H3.out.on hb5)
  have HG5 := Lib.hid (HG3.out.trans (Chg.of_below (M := fun _ => False) hb5) (fun i e => e.elim))
  have HV5 := Lib.hid (HV3.out.on hb5)
  have hcp3 := Hcp3.out
  have Hcp5 := Lib.hid (show w5.cell? ⟨p, 0, none⟩ = some v1 ∧ w5.frozen? ⟨p, 0, none⟩ = false from ⟨(hb5.cell (p := ⟨p, 0, none⟩) (fblock_of_cell hcp3.1)).trans hcp3.1, (hb5.frozen (p := ⟨p, 0, none⟩) (fblock_of_cell hcp3.1)).trans hcp3.2⟩)
  have HUs := Lib.hid hus
  have Hml : Hid (∀ i, (M2 i ∨ i = B3) → i < w3.heap.size) := H3.out.ml
  have Hs35 := Lib.hid hb5.size
  obtain ⟨A5, c5, rfl, h51, h52, _⟩ := hus
  obtain ⟨lv, hlv⟩ : ∃ lv, lv = (crashD s picks).live := ⟨_, rfl⟩
  obtain ⟨qn, hqn⟩ : ∃ qn, qn = lv.length := ⟨_, rfl⟩
  rw [← hlv] at h51 HUs Hlf H34 ⊢
  rw [← hqn] at h51 HUs ⊢
  have hq2 : qn ≤ 201 := by rw [hqn]; exact Nat.le_trans Hlf.out (by have := HFew.out.2; omega)
  have Hlv := Lib.hid hlv
  have Hqn := Lib.hid hqn
  clear hb5 hcp3 hlv hqn hc0
  obtain ⟨lv9, hlv9⟩ : ∃ lv9, lv9 = inosL (crashD s picks).safe := ⟨_, rfl⟩
  have HlvI : Hid (lv = inosL (crashD s picks).safe) := Hlv.out.trans (live_crashD s picks)
  clear hlv9
  have Hnd : Hid (lv.Nodup) := by have := HG.out.live_lt Hok.out; rw [← Hlv.out] at this; exact this.imp (fun hlt e => by omega)
  have Hlle : Hid (∀ i, i ∈ lv → i ≤ s.dir.last) := fun i hi => by rw [Hlv.out] at hi; exact (HG.out.live_le Hok.out.settled i hi).2
  have HpM5 : Hid (¬ (M2 p ∨ p = B3)) := fun e => (HM3.out p e).elim HpM.out (fun e => by have := HsW.out; omega)
  have HpR2 : Hid (¬ R2 p) := fun e => (HR2.out p e).elim HpR.out (fun e => by have := HsW.out; omega)
  have HN5 : Hid (∀ i, (M2 i ∨ i = B3) → ¬ N i) := fun i e e' => (HM3.out i e).elim (fun e => HNM.out i e e') (fun e => by have := HsW.out; have := HNl.out i e'; omega)
  have Hp3 : Hid (p < w3.heap.size) := fblock_of_cell Hcp3.out.1
  have H50 : Hid (CrR w5 w5 A X s.used p (fun i => M2 i ∨ i = B3) R2 N { s with dir := crashD s picks, file := crashG picks lv s.file 0 } (picks.drop 1)) := by
    rw [crashG_zero]
    have h9 := HV5.out
    exact ⟨B3, n3, hv0, g, MX2, MF, _, R2, v1, H5.out, by have := Hlf.out; have := H34.out; have h8 := HG.out.live_few Hok.out; rw [← Hlv.out] at h8; show n3 ≤ (crashD s picks).last + 1; omega, Chg.refl, fun i => .inl, fun i => .inl, h9, Hcp5.out.1, Hcp5.out.2⟩
  go_wp2_with fail
  go_loopw [35] (fun i wr => ∃ k : Nat, k ≤ qn ∧ i = .int .i64 k ∧ CrR w5 wr A X s.used p (fun i => M2 i ∨ i = B3) R2 N { s with dir := crashD s picks, file := crashG picks lv s.file k } (picks.drop (k + 1))) (fun i _ => qn - (intOf i).toNat)
  case atStart => exact ⟨0, by omega, rfl, H50.out⟩
  case round =>
    obtain ⟨k, hk, rfl, hcr⟩ := hrel
    obtain ⟨Bk, nk, hvk, gk, MXk, MFk, Mk, Rk, vk, hak, hnk, hck, hMk, hRk, hik, hpk, hfk⟩ := hcr
    have Hk := Lib.hid hak
    have HCk := Lib.hid hck
    have HMk := Lib.hid hMk
    have HRk := Lib.hid hRk
    have HIk := Lib.hid hik
    have Hpk := Lib.hid (show wr.cell? ⟨p, 0, none⟩ = some vk ∧ wr.frozen? ⟨p, 0, none⟩ = false from ⟨hpk, hfk⟩)
    have Hnk := Lib.hid hnk
    have Hs5r := Lib.hid hck.size
    have HpMk : Hid (¬ Mk p) := fun e => (HMk.out p e).elim HpM5.out (fun e => by have := Hp3.out; have := Hs35.out; omega)
    have HpRk : Hid (¬ Rk p) := fun e => (HRk.out p e).elim HpR2.out (fun e => by have := Hp3.out; have := Hs35.out; omega)
    clear hak hnk hck hMk hRk hik hpk hfk
    by_cases hkq : k < qn
    · have hdq : decide ((k : Int) < (qn : Int)) = true := decide_eq_true (by omega)
      obtain ⟨x, hx⟩ : ∃ x, lv[k]? = some x := ⟨lv[k]'(by have := Hqn.out; omega), List.getElem?_eq_getElem _⟩
      have HX := Lib.hid hx
      have hUk := HUs.out.chg HCk.out (fun i hi e => by
        rcases e with e | e
        · have := Hml.out i e; omega
        · have := Hp3.out; omega)
      obtain ⟨b5, o5, rfl, hb5, e0⟩ := hUk.at_ rfl hx
      have hxm : x ∈ (crashD s picks).live := by rw [← Hlv.out]; exact List.mem_of_getElem? hx
      have hgx : crashG picks lv s.file k x = s.file x := crashG_at Hnd.out hx
      have hbx : (s.file x).big ≤ T := HF.out.big_le (Hlle.out x (List.mem_of_getElem? hx))
      have hfx := Hk.out.files x hxm
      rw [show FsP.file { s with dir := crashD s picks, file := crashG picks lv s.file k } x = s.file x from hgx] at hfx
      have HFx := Lib.hid hfx
      have hlook := Hk.out.map.look (Hk.out.ks x hxm) hxm
      have hc1 := Hk.out.cells.c1
      have Hxm := Lib.hid hxm
      obtain ⟨lo, hlo⟩ : ∃ lo, lo = (s.file x).loose := ⟨_, rfl⟩
      have hlo2 : lo ≤ 100000 := by rw [hlo]; unfold FSt.big at hbx; omega
      have HLo := Lib.hid (floose_m hfx lo hlo.symm)
      have Hlo := Lib.hid hlo
      obtain ⟨pkk, hpkk⟩ : ∃ pkk, pkk = pickAt picks (k + 1) % (lo + 1) := ⟨_, rfl⟩
      have hpkl : pkk ≤ lo := by rw [hpkk]; have := Nat.mod_lt (pickAt picks (k + 1)) (show 0 < lo + 1 by omega); omega
      have Hpkk := Lib.hid hpkk
      have HPk : Hid (∀ w6, Below wr.heap.size wr w6 → Calls Tryz.prog 50 #[.int .i64 (lo : Int), .pointer (some ⟨p, 0, none⟩)] w6 fun e w' => ∃ v', e = .returned (.int .i64 (pkk : Int)) ∧ IsR w' N v' (picks.drop (k + 1 + 1)) ∧ w'.cell? ⟨p, 0, none⟩ = some v' ∧ w'.frozen? ⟨p, 0, none⟩ = false ∧ Chg (fun i => i = p) w6 w') := fun w6 hb6 => by
        have h9 := kpick (lo := lo) (HIk.out.on hb6) ((hb6.cell (p := ⟨p, 0, none⟩) (fblock_of_cell Hpk.out.1)).trans Hpk.out.1) ((hb6.frozen (p := ⟨p, 0, none⟩) (fblock_of_cell Hpk.out.1)).trans Hpk.out.2) HpN.out (by omega) (any_drop HP.out (k + 1))
        rw [head_drop, List.drop_drop, ← Hpkk.out] at h9
        exact h9
      have Hbx := Lib.hid hbx
      obtain ⟨Fx, hFx⟩ : ∃ Fx, Fx = gk x := ⟨_, rfl⟩
      rw [← hFx] at hlook HLo
      have HFe := Lib.hid hFx
      have hlk2 := hpkl
      clear hx hUk hb5 hxm hgx hbx hfx hlo hpkk hFx
      go_wp2_with fail
      refine HLo.out.mono ?_
      rintro e w6 ⟨rfl, hb6⟩
      have HB6 := Lib.hid hb6
      have HPk6 := Lib.hid (HPk.out w6 hb6)
      clear hb6 hc1 hlook e0
      go_wp2_with fail
      refine HPk6.out.mono ?_
      rintro e w7 ⟨v7, rfl, hi7, hp7, hf7, hg7⟩
      have h7 := (Hk.out.on HB6.out).chg hg7 (fun i e => by rw [e]; exact ⟨HpMk.out, HpRk.out⟩)
      have hfx7 := h7.files x Hxm.out
      rw [show FsP.file { s with dir := crashD s picks, file := crashG picks lv s.file k } x = s.file x from crashG_at Hnd.out HX.out] at hfx7
      have hcr7 := fcrash_m hfx7 (Nat.le_trans Hbx.out (by omega)) pkk pkk (by rw [← Hlo.out]; omega)
      rw [← HFe.out] at hcr7
      have HC7 := Lib.hid hcr7
      have H7 := Lib.hid h7
      have HI7 := Lib.hid hi7
      have Hp7 := Lib.hid (show w7.cell? ⟨p, 0, none⟩ = some v7 ∧ w7.frozen? ⟨p, 0, none⟩ = false from ⟨hp7, hf7⟩)
      have HG7 := Lib.hid ((HCk.out.trans (Chg.of_below (M := fun _ => False) HB6.out) (fun i e => e.elim)).trans hg7 (fun i e => .inl (.inr e)))
      clear h7 hfx7 hcr7 hi7 hp7 hf7 hg7
      go_wp2_with fail
      refine HC7.out.mono ?_
      rintro e w8 ⟨rfl, hm8⟩
      rw [HFe.out] at hm8
      obtain ⟨MF8, M8, R8, h81, h82, h83, h84⟩ := H7.out.file_mut Hxm.out hm8
      have hs57 := HG7.out.size
      have HFin : Hid (CrR w5 w8 A X s.used p (fun i => M2 i ∨ i = B3) R2 N { s with dir := crashD s picks, file := crashG picks lv s.file (k + 1) } (picks.drop (k + 1 + 1))) := by
        have e9 := crashG_next (picks := picks) (g := s.file) Hnd.out HX.out
        rw [← Hlo.out, ← Hpkk.out] at e9
        have h81' : FsAt w8 A X Bk nk s.used hvk (crashD s picks).live gk MXk MF8 M8 R8 { s with dir := crashD s picks, file := crashG picks lv s.file (k + 1) } := by rw [← e9]; exact h81
        refine ⟨Bk, nk, hvk, gk, MXk, MF8, M8, R8, v7, h81', Hnk.out, HG7.out.trans h82 (fun i e => (HMk.out i e).imp .inl id), fun i e => (h83 i e).elim (HMk.out i) (fun e => .inr (by omega)), fun i e => (h84 i e).elim (HRk.out i) (fun e => .inr (by omega)), HI7.out.chg h82 (fun i e e' => ?_), cell_keep h82 HpMk.out Hp7.out.1, (h82.frozen (p := ⟨p, 0, none⟩) (fblock_of_cell Hp7.out.1) HpMk.out).trans Hp7.out.2⟩
        rcases HMk.out i e with e | e
        · exact HN5.out i e e'
        · have := HNl.out i e'; have := Hp3.out; have := Hs35.out; omega
      clear hm8 h81 h82 h83 h84 hs57
      go_wp2_with fail
      go_roundw
      case rel => exact ⟨k + 1, by omega, by go_num, HFin.out⟩
      case measure => simp [intOf]; omega
    · have hdq : decide ((k : Int) < (qn : Int)) = false := decide_eq_false (by omega)
      have hkk : k = qn := by omega
      have hfile : crashG picks lv s.file k = crashT picks (inosL (crashD s picks).safe) s.file := by rw [hkk, Hqn.out, crashG_all, HlvI.out]
      rw [hfile] at Hk
      have hdone : s9 = { (({ s with dir := crashD s picks, file := crashT picks (inosL (crashD s picks).safe) s.file } : FsP)) with off := false, fuse := none } := Hs9.out
      obtain ⟨st, hst⟩ : ∃ st : FsP, st = { s with dir := crashD s picks, file := crashT picks (inosL (crashD s picks).safe) s.file } := ⟨_, rfl⟩
      have hdir : st.dir = crashD s picks := by rw [hst]
      have hset : st.quota = s.quota ∧ st.steps = s.steps ∧ st.off = s.off := by rw [hst]; exact ⟨rfl, rfl, rfl⟩
      rw [← hst] at Hk hdone
      rw [← hdir] at HG Hok HFew Hlf
      have Hdone := Lib.hid hdone
      have hus9 : s9.used = usedL st.file st.dir.now := by rw [hdone]; rfl
      have hF9 := HF9.out
      have hbg : ∀ i, i ∈ st.dir.live → (st.file i).big ≤ T := fun i hi => by
        have h1 := hF9.big_le (i := i) (by rw [hdone]; exact (HG.out.live_le Hok.out.settled i hi).2)
        rw [hdone] at h1
        exact h1
      have HFM : Hid (FsM wr A s.used Mk Rk st) := ⟨X, Bk, nk, hvk, st.dir.live, gk, MXk, MFk, Hk.out, by have := Hnk.out; rw [hdir]; exact this, fun i hi => (HG.out.live_le Hok.out.settled i hi).2, fun i hi => hi⟩
      have hbN := bytesN_names (g := st.file) Hok.out.now.1
      have HLs := Lib.hid (kall HFM.out)
      have HBy : Hid (∀ w9 v9, w9.ownsRow wr.heap.size 9 1 v9 (namesL st.dir.now).length (svs (namesL st.dir.now)) → Below wr.heap.size wr w9 → Calls Tryz.prog 57 #[.pointer (some ⟨A, 0, none⟩), v9] w9 fun e w' => e = .returned (.int .i64 ((s9.used : Nat) : Int)) ∧ Below w9.heap.size w9 w') := fun w9 v9 ho hb => by
        have h9 := kbytesOf (Hk.out.on hb) (fun x hx => HG.out.live_now Hok.out.settled x hx) (fun i hi => Nat.le_trans (hbg i hi) (by omega)) (by rw [hbN, ← hus9]; exact Nat.le_trans hF9.used_le (by omega)) (sos_of_own ho rfl) (fun x hx => by
          unfold namesL at hx
          obtain ⟨y, hy, rfl⟩ := List.mem_map.1 hx
          have := (Hok.out.now.2 y hy).1
          unfold maxLen
          omega) (by unfold namesL; rw [List.length_map]; exact Nat.le_trans Hok.out.now_length (by omega))
        rw [hbN, ← hus9] at h9
        exact h9
      have Hset := Lib.hid hset
      obtain ⟨u9, hu9⟩ : ∃ u9, u9 = s9.used := ⟨_, rfl⟩
      rw [← hu9] at HBy
      have Hu9 := Lib.hid hu9
      have Hdir := Lib.hid hdir
      clear hdone hst hus9 hF9 hbg hbN hset hfile hu9 hdir
      go_wp2_with fail
      refine HLs.out.mono ?_
      rintro e w9 ⟨v9, rfl, ho9, hb9⟩
      have HB9 := Lib.hid hb9
      have HBy9 := Lib.hid (HBy.out w9 v9 ho9 hb9)
      clear ho9 hb9 HBy HLs
      go_wp2_with fail
      refine HBy9.out.mono ?_
      rintro e w10 ⟨rfl, hb10⟩
      have H10 := Lib.hid ((Hk.out.on HB9.out).on hb10)
      have HB10 : Hid (Below wr.heap.size wr w10) := HB9.out.trans (hb10.mono HB9.out.size)
      have c3 := H10.out.cells.c3
      have f3 := H10.out.cells.f3
      have c5 := H10.out.cells.c5
      have f5 := H10.out.cells.f5
      have c6 := H10.out.cells.c6
      have f6 := H10.out.cells.f6
      have HFin : Hid (FsM (((w10.setCell ⟨A, 3, none⟩ (.int .i64 (u9 : Int))).setCell ⟨A, 5, none⟩ (.bool true)).setCell ⟨A, 6, none⟩ (.func (.func 34) #[] #[])) A u9 Mk Rk s9) := by
        rw [Hdone.out]
        exact ⟨X, Bk, nk, _, st.dir.live, gk, MXk, MFk, H10.out.own_set (((chg_set w10 A 3 _).trans (chg_set _ A 5 _) (fun i e => .inl e)).trans (chg_set _ A 6 _) (fun i e => .inl e)) (((H10.out.cells.set3 u9).set5 true).set6 _) rfl rfl (fun _ => rfl) ⟨_, _, rfl⟩, by show nk ≤ st.dir.last + 1; rw [Hdir.out]; exact Hnk.out, fun i hi => (HG.out.live_le Hok.out.settled i hi).2, fun i hi => hi⟩
      have hWp := HWd.out.1.size
      have HCf : Hid (Chg M w (((w10.setCell ⟨A, 3, none⟩ (.int .i64 (u9 : Int))).setCell ⟨A, 5, none⟩ (.bool true)).setCell ⟨A, 6, none⟩ (.func (.func 34) #[] #[]))) := by
        have g1 : Chg M w W := Chg.of_below HWd.out.1
        have hpw := Hpe.out
        have g2 := g1.trans HG5.out (fun i e => e.elim .inl (fun e => .inr (by omega)))
        have g3 := g2.trans HCk.out (fun i e => e.elim (fun e => (HM3.out i e).imp id (fun e => by omega)) (fun e => .inr (by omega)))
        have g4 := g3.trans (Chg.of_below (M := fun _ => False) HB10.out) (fun i e => e.elim)
        exact ((g4.setCell (p := ⟨A, 3, none⟩) HMA.out _).setCell (p := ⟨A, 5, none⟩) HMA.out _).setCell (p := ⟨A, 6, none⟩) HMA.out _
      have hG5s := HG5.out.size
      have HMf : Hid (∀ i, Mk i → M i ∨ w.heap.size ≤ i) := fun i e => (HMk.out i e).elim (fun e => (HM3.out i e).imp id (fun e => by omega)) (fun e => .inr (by omega))
      have HRf : Hid (∀ i, Rk i → R i ∨ w.heap.size ≤ i) := fun i e => (HRk.out i e).elim (fun e => (HR2.out i e).imp id (fun e => by omega)) (fun e => .inr (by omega))
      clear hb10 hWp hG5s
      go_wp2_with fail
      go_ret
      rw [← Hu9.out]
      exact ⟨rfl, Mk, Rk, HFin.out, HCf.out, HMf.out, HRf.out⟩
end Go.Proofs.YtaicibmaogiibaaGreatDoor

/- JxSafe -/

/-
  Layer 7: what is safe (plain mathematics): a file that was synced, whose name the folder's Sync saw.
-/
set_option linter.unusedVariables false
set_option linter.unusedSimpArgs false
namespace Go.Proofs.YtaicibmaogiibaaGreatDoor
open Go.RowKit

theorem KInv.same {k : ByteArray} {r : Option Nat} {s s' : PSt} (h : KInv k r s) (e : s' = s) : KInv k r s' := e ▸ h
section
variable {s : FsP} {k : ByteArray} {r : Option Nat}
theorem stepF_cases (s : FsP) (f : FsP → Nat × FsP) : ((stepF s f) = f (beginF s).2 ∧ (beginF s).1 = 0) ∨ ((stepF s f).1 ≠ 0 ∧ (stepF s f).2 = (beginF s).2) := by
  unfold stepF
  split
  · rename_i h; exact .inl ⟨rfl, h⟩
  · rename_i h; exact .inr ⟨h, rfl⟩
end
/-- a file whose deeds only append: behind k units its safe bytes and a beginning of what was appended -/
theorem adds_behind : ∀ (ds : List Deed) (b : List UInt8), (∀ d ∈ ds, ∃ r, d = Deed.added r) → ∃ t : List UInt8, settleL b (unitsL ds) ds = b ++ t ∧ ∀ k, settleL b k ds = b ++ t.take k
  | [], b, _ => ⟨[], by simp [settleL], fun k => by simp [settleL]⟩
  | d :: ds, b, h => by
    obtain ⟨r, rfl⟩ := h d (by simp)
    obtain ⟨t, h1, h2⟩ := adds_behind ds (b ++ r) (fun x hx => h x (by simp [hx]))
    have key : ∀ k, settleL b k (Deed.added r :: ds) = b ++ (r ++ t).take k := fun k => by
      unfold settleL
      by_cases hk : k ≤ r.length
      · have e1 : min k (Deed.added r).units = k := by simp only [Deed.units]; omega
        rw [e1, Nat.sub_self, settleL_zero, List.take_append_of_le_length hk]
        rfl
      · have e1 : min k (Deed.added r).units = r.length := by simp only [Deed.units]; omega
        rw [e1]
        have e2 : (Deed.added r).act b r.length = b ++ r := by simp [Deed.act]
        rw [e2, h2, List.append_assoc, List.take_append, List.take_of_length_le (l := r) (by omega)]
    refine ⟨r ++ t, ?_, key⟩
    rw [key]
    congr 1
    refine List.take_of_length_le ?_
    have h3 := settleL_length ds (b ++ r) (unitsL ds)
    rw [h1] at h3
    simp only [List.length_append, unitsL, Deed.units] at h3 ⊢
    omega
def nS : ByteArray := { data := #[115, 97, 102, 101] }
/-- the file 'safe' at inode i: b is safe, whole is there -/
structure SafeI (s : FsP) (i : Nat) (b whole : List UInt8) : Prop where
  key : KInv nS (some i) s.dir
  safe : (s.file i).safe = b
  adds : ∀ d ∈ (s.file i).deeds, ∃ r, d = Deed.added r
  bytes : (s.file i).bytes = whole
section
variable {s : FsP} {i q T : Nat} {b whole : List UInt8}
theorem SafeI.now (h : SafeI s i b whole) (hf : FInv s q T) : findL s.dir.now nS = some i := h.key.now hf.dir
theorem mayS : mayN nS = true := by decide
theorem nodeF_safe {s : FsP} (h : findL s.dir.now nS = some i) : nodeF s nS = (0, i) := by
  unfold nodeF
  rw [if_neg (by simp [mayS]), h]
/-- an append to it -/
theorem SafeI.append (h : SafeI s i b whole) (hf : FInv s q T) (r : List UInt8) : SafeI (stepF s (appendK nS r)).2 i b (if (stepF s (appendK nS r)).1 = 0 then whole ++ r else whole) := by
  have hb := beginF_is s
  have h0 : SafeI (beginF s).2 i b whole := ⟨hb.1 ▸ h.key, by rw [hb.2.1]; exact h.safe, by rw [hb.2.1]; exact h.adds, by rw [hb.2.1]; exact h.bytes⟩
  rcases stepF_cases s (appendK nS r) with ⟨e, _⟩ | ⟨e1, e2⟩
  · rw [e]
    have hn := nodeF_safe (s := (beginF s).2) (i := i) (by rw [hb.1]; exact h.now hf)
    unfold appendK onF
    rw [hn]
    simp only [if_true]
    unfold appT
    split
    · rw [if_neg (by simp)]
      exact ⟨h0.key, by simp only [upd_same]; exact h0.safe, by simp only [upd_same]; exact h0.adds, by simp only [upd_same]; exact h0.bytes⟩
    · split
      · rename_i hr
        subst hr
        rw [if_pos rfl, List.append_nil]
        exact ⟨h0.key, by simp only [upd_same]; exact h0.safe, by simp only [upd_same]; exact h0.adds, by simp only [upd_same]; exact h0.bytes⟩
      · rw [if_pos rfl]
        refine ⟨h0.key, by simp only [upd_same]; exact h0.safe, ?_, ?_⟩
        · simp only [upd_same]
          intro d hd
          rcases List.mem_append.1 hd with h1 | h1
          · exact h0.adds d h1
          · simp at h1; exact ⟨r, h1⟩
        · simp only [upd_same]
          rw [FSt.app_bytes, h0.bytes]
  · rw [if_neg e1, e2]
    exact h0
/-- behind a crash: its safe bytes, and a beginning of what was appended -/
theorem SafeI.crash (h : SafeI s i b whole) (hf : FInv s q T) (picks : List Int) (hp : picks.any (· < 0) = false) :
    (crashK s picks).1 = 0 ∧ (crashK s picks).2.off = false ∧ findL (crashK s picks).2.dir.now nS = some i ∧ ∃ t, whole = b ++ t ∧ ∃ k, ((crashK s picks).2.file i).bytes = b ++ t.take k := by
  unfold crashK
  rw [if_neg (by simp [hp])]
  have hk := h.key.settle hf.dir (pickAt picks 0 % (s.dir.deeds.length + 1))
  have hnow : findL (crashD s picks).now nS = some i := hk.now (PSt.settle_ok hf.dir _)
  refine ⟨rfl, rfl, hnow, ?_⟩
  obtain ⟨t, h1, h2⟩ := adds_behind (s.file i).deeds (s.file i).safe h.adds
  have hw : whole = b ++ t := by
    rw [← h.bytes, ← (hf.files i).whole, ← h.safe]
    exact h1
  refine ⟨t, hw, ?_⟩
  show ∃ k, (crashT picks (inosL (crashD s picks).safe) s.file i).bytes = b ++ t.take k
  unfold crashT
  split
  · refine ⟨pickAt picks ((inosL (crashD s picks).safe).idxOf i + 1) % ((s.file i).loose + 1), ?_⟩
    rw [FSt.settled_bytes, ← h.safe]
    exact h2 _
  · refine ⟨t.length, ?_⟩
    rw [List.take_length, ← hw]
    exact h.bytes
end
end Go.Proofs.YtaicibmaogiibaaGreatDoor

