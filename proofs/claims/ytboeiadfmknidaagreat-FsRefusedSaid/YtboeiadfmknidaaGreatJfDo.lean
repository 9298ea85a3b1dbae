
/-
  Layer 7: the calls of a file system that are steps.
-/
import Derived.Test.YtboeiadfmknidaaGreatJfShut
import Derived.Test.YtboeiadfmknidaaGreatFxDoes

set_option linter.unusedVariables false
set_option linter.unusedSimpArgs false
namespace Go.Proofs.YtboeiadfmknidaaGreat
open Go.RowKit Go.Maps

theorem stepF_congr {s : FsP} {f g : FsP → Nat × FsP} (h : f (beginF s).2 = g (beginF s).2) : stepF s f = stepF s g := by unfold stepF; rw [h]
theorem ssR_two (w : World) (a b : ByteArray) (n : Nat) (hn : n = w.heap.size) : SsR (w.alloc (.cells #[.string a, .string b] 9)) (fun i => i = n) (.slice (some ⟨n, 0, none⟩) 2 2) [a, b] := by
  subst hn
  refine ⟨_, 2, rfl, Nat.le_refl _, by unfold maxLen; omega, fun _ => ⟨_, 0, rfl, rfl, fun j u hu => ?_⟩⟩
  rcases j with _ | _ | j
  · simp [svs] at hu; subst hu; simp
  · simp [svs] at hu; subst hu; simp
  · simp [svs] at hu
theorem Mut.then {w w' w'' : World} {F : Nat} {M R : Nat → Prop} {t : FSt} (h : Mut w w' F M R t) (hb : Below w'.heap.size w' w'') : Mut w w'' F M R t := by
  obtain ⟨M', R', h1, h2, h3, h4⟩ := h
  exact ⟨M', R', h1.on hb, h2.trans (Chg.of_below (M := fun _ => False) hb) (fun i e => e.elim), h3, h4⟩
section
variable {w w' : World} {A u q T p c r qu : Nat} {M R N : Nat → Prop} {s : FsP} {nm : ByteArray}
theorem finv_remove (h : FInv s q T) (hq : q ≤ 1000) (n : ByteArray) : FInv (removeK n s).2 (q + 1) T := by
  have h1 := h.dir_ hq ⟨4, n, n, 0⟩ (by simp)
  rw [removeP_do] at h1
  exact h1
theorem finv_rename (h : FInv s q T) (hq : q ≤ 1000) (n d : ByteArray) : FInv (renameK n d s).2 (q + 1) T := by
  have h1 := h.dir_ hq ⟨3, n, d, 0⟩ (by simp)
  rw [renameP_do] at h1
  exact h1
theorem finv_syncdir (h : FInv s q T) (hq : q ≤ 1000) : FInv (syncDirK s).2 (q + 1) T := by
  have h1 := h.dir_ hq ⟨5, ByteArray.empty, ByteArray.empty, 0⟩ (by simp)
  have e : (doP s.dir ⟨5, ByteArray.empty, ByteArray.empty, 0⟩).2.2 = s.dir.settle s.dir.deeds.length := by
    unfold doP
    rw [if_neg (by simp), if_neg (by simp), if_neg (by simp), if_pos rfl]
  rw [e] at h1
  exact h1
set_option maxRecDepth 100000 in
set_option maxHeartbeats 4000000 in
theorem kcreate {nm : ByteArray} (hnm : nm.size ≤ maxLen) (h : FsM w A s.used M R s) (hf : FInv s q T) (hq : q ≤ 200) (hT : T ≤ 100000) (hst : s.steps + 1 ≤ 1000000) :
    Calls Tryz.prog 9 #[.pointer (some ⟨A, 0, none⟩), .string nm] w fun e w' => e = .returned (.int .i64 ((stepF s (createK nm)).1 : Int)) ∧ FsMut w w' A (stepF s (createK nm)).2.used M R (stepF s (createK nm)).2 := by
  obtain ⟨W, hW⟩ : ∃ W, W = (((w.alloc (.cells #[.pointer (some ⟨A, 0, none⟩)] 25)).alloc (.cells #[.string nm] 9)).alloc (.cells #[.string nm] 9)) := ⟨_, rfl⟩
  have hb : Below w.heap.size w W := by rw [hW]; exact (((Below.refl _ _).alloc (Nat.le_refl _) _).alloc (by simp) _).alloc (by simp; omega) _
  have c0 : W.cell? ⟨w.heap.size, 0, none⟩ = some (.pointer (some ⟨A, 0, none⟩)) := by rw [hW]; exact cell_al (cell_al (box_new _ _ _ _ rfl) _) _
  have c1 : W.cell? ⟨w.heap.size + 1, 0, none⟩ = some (.string nm) := by rw [hW]; exact cell_al (box_new _ _ _ _ (by simp)) _
  have cN : W.cell? ⟨w.heap.size + 1 + 1, 0, none⟩ = some (.string nm) := by rw [hW]; exact box_new _ _ _ _ (by simp)
  have hlA := h.ltA
  have hbi := beginF_is s
  have hf1 : FInv (beginF s).2 q T := hf.same hbi.1 hbi.2.1
  have hSs := ssR_one cN
  have Hstep := Lib.hid (kstep (k := createK nm) (dcap := #[.pointer (some ⟨w.heap.size, 0, none⟩), .pointer (some ⟨w.heap.size + 1, 0, none⟩)]) (h.on hb) hf hT hst hSs (fun i hi e => by have := h.ml i hi; omega) (fun x hx => by simp at hx; subst hx; exact hnm) (by simp)
    (fun args w' => enters_of Tryz.func33 (by kernel_rfl) rfl args w')
    (fun hb0 w1 hm1 hg1 => by
      have hne : ∀ x, w.heap.size ≤ x → ¬ (x = A) := fun x hx e => by omega
      exact kcreate1 (s := (beginF s).2) hnm hm1 hf1 hq (fun e => by have := h.ml _ e; omega) (cell_keep hg1 (hne _ (by omega)) c0) (fun e => by have := h.ml _ e; omega) (cell_keep hg1 (hne _ (by omega)) c1))
    (fun hb0 => ⟨_, (hf1.createK_ (by omega) nm).mono (Nat.le_refl _) (by omega)⟩)
    (fun hb0 => by have h1 := used_create hf1 nm; rw [beginF_used, hbi.1, hbi.2.1] at h1; exact h1))
  have HB := Lib.hid hb
  clear h hf hb hf1 hbi hSs c0 c1 cN
  go_enter Tryz.func9, Tryz.ntmps9
  go_wp2_with fail
  rw [← hW]
  refine Hstep.out.mono ?_
  rintro e w' ⟨rfl, hm⟩
  have HM := Lib.hid (hm.after (Chg.of_below HB.out) (fun _ => .inl) (fun _ => .inl))
  clear hm
  go_wp2_with fail
  go_ret
  exact ⟨rfl, HM.out⟩
set_option maxRecDepth 100000 in
set_option maxHeartbeats 4000000 in
theorem kremove {nm : ByteArray} (hnm : nm.size ≤ maxLen) (h : FsM w A s.used M R s) (hf : FInv s q T) (hq : q ≤ 200) (hT : T ≤ 100000) (hst : s.steps + 1 ≤ 1000000) :
    Calls Tryz.prog 31 #[.pointer (some ⟨A, 0, none⟩), .string nm] w fun e w' => e = .returned (.int .i64 ((stepF s (removeK nm)).1 : Int)) ∧ FsMut w w' A (stepF s (removeK nm)).2.used M R (stepF s (removeK nm)).2 := by
  obtain ⟨W, hW⟩ : ∃ W, W = (((w.alloc (.cells #[.pointer (some ⟨A, 0, none⟩)] 25)).alloc (.cells #[.string nm] 9)).alloc (.cells #[.string nm] 9)) := ⟨_, rfl⟩
  have hb : Below w.heap.size w W := by rw [hW]; exact (((Below.refl _ _).alloc (Nat.le_refl _) _).alloc (by simp) _).alloc (by simp; omega) _
  have c0 : W.cell? ⟨w.heap.size, 0, none⟩ = some (.pointer (some ⟨A, 0, none⟩)) := by rw [hW]; exact cell_al (cell_al (box_new _ _ _ _ rfl) _) _
  have c1 : W.cell? ⟨w.heap.size + 1, 0, none⟩ = some (.string nm) := by rw [hW]; exact cell_al (box_new _ _ _ _ (by simp)) _
  have cN : W.cell? ⟨w.heap.size + 1 + 1, 0, none⟩ = some (.string nm) := by rw [hW]; exact box_new _ _ _ _ (by simp)
  have hlA := h.ltA
  have hbi := beginF_is s
  have hf1 : FInv (beginF s).2 q T := hf.same hbi.1 hbi.2.1
  have hSs := ssR_one cN
  have Hstep := Lib.hid (kstep (k := removeK nm) (dcap := #[.pointer (some ⟨w.heap.size, 0, none⟩), .pointer (some ⟨w.heap.size + 1, 0, none⟩)]) (h.on hb) hf hT hst hSs (fun i hi e => by have := h.ml i hi; omega) (fun x hx => by simp at hx; subst hx; exact hnm) (by simp)
    (fun args w' => enters_of Tryz.func66 (by kernel_rfl) rfl args w')
    (fun hb0 w1 hm1 hg1 => by
      have hne : ∀ x, w.heap.size ≤ x → ¬ (x = A) := fun x hx e => by omega
      exact kremove1 (s := (beginF s).2) hnm hm1 hf1 hq (fun e => by have := h.ml _ e; omega) (cell_keep hg1 (hne _ (by omega)) c0) (fun e => by have := h.ml _ e; omega) (cell_keep hg1 (hne _ (by omega)) c1))
    (fun hb0 => ⟨_, (finv_remove hf1 (by omega) nm).mono (Nat.le_refl _) (by omega)⟩)
    (fun hb0 => by have h1 := used_remove hf1 nm; rw [beginF_used, hbi.1, hbi.2.1] at h1; exact h1))
  have HB := Lib.hid hb
  clear h hf hb hf1 hbi hSs c0 c1 cN
  go_enter Tryz.func31, Tryz.ntmps31
  go_wp2_with fail
  rw [← hW]
  refine Hstep.out.mono ?_
  rintro e w' ⟨rfl, hm⟩
  have HM := Lib.hid (hm.after (Chg.of_below HB.out) (fun _ => .inl) (fun _ => .inl))
  clear hm
  go_wp2_with fail
  go_ret
  exact ⟨rfl, HM.out⟩
set_option maxRecDepth 100000 in
set_option maxHeartbeats 4000000 in
theorem ksyncdir  (h : FsM w A s.used M R s) (hf : FInv s q T) (hq : q ≤ 200) (hT : T ≤ 100000) (hst : s.steps + 1 ≤ 1000000) :
    Calls Tryz.prog 12 #[.pointer (some ⟨A, 0, none⟩)] w fun e w' => e = .returned (.int .i64 ((stepF s (syncDirK)).1 : Int)) ∧ FsMut w w' A (stepF s (syncDirK)).2.used M R (stepF s (syncDirK)).2 := by
  obtain ⟨W, hW⟩ : ∃ W, W = (w.alloc (.cells #[.pointer (some ⟨A, 0, none⟩)] 25)) := ⟨_, rfl⟩
  have hb : Below w.heap.size w W := by rw [hW]; exact (Below.refl _ _).alloc (Nat.le_refl _) _
  have c0 : W.cell? ⟨w.heap.size, 0, none⟩ = some (.pointer (some ⟨A, 0, none⟩)) := by rw [hW]; exact box_new _ _ _ _ rfl
  have hlA := h.ltA
  have hbi := beginF_is s
  have hf1 : FInv (beginF s).2 q T := hf.same hbi.1 hbi.2.1
  have hSs : SsR W (fun _ => False) (.slice none 0 0) [] := ⟨none, 0, rfl, Nat.le_refl _, by unfold maxLen; omega, fun h => absurd rfl h⟩
  have Hstep := Lib.hid (kstep (k := syncDirK) (dcap := #[.pointer (some ⟨w.heap.size, 0, none⟩)]) (h.on hb) hf hT hst hSs (fun i hi e => e) (fun x hx => by simp at hx) (by simp)
    (fun args w' => enters_of Tryz.func40 (by kernel_rfl) rfl args w')
    (fun hb0 w1 hm1 hg1 => by
      have hne : ∀ x, w.heap.size ≤ x → ¬ (x = A) := fun x hx e => by omega
      exact ksyncdir1 (s := (beginF s).2) hm1 hf1 hq (fun e => by have := h.ml _ e; omega) (cell_keep hg1 (hne _ (by omega)) c0))
    (fun hb0 => ⟨_, (finv_syncdir hf1 (by omega)).mono (Nat.le_refl _) (by omega)⟩)
    (fun hb0 => by have h1 := used_sync hf1; rw [beginF_used, hbi.1, hbi.2.1] at h1; exact h1))
  have HB := Lib.hid hb
  clear h hf hb hf1 hbi hSs c0 
  go_enter Tryz.func12, Tryz.ntmps12
  go_wp2_with fail
  rw [← hW]
  refine Hstep.out.mono ?_
  rintro e w' ⟨rfl, hm⟩
  have HM := Lib.hid (hm.after (Chg.of_below HB.out) (fun _ => .inl) (fun _ => .inl))
  clear hm
  go_wp2_with fail
  go_ret
  exact ⟨rfl, HM.out⟩
set_option maxRecDepth 100000 in
set_option maxHeartbeats 4000000 in
theorem krename {nm to_ : ByteArray} (hnm : nm.size ≤ maxLen) (hto : to_.size ≤ maxLen) (h : FsM w A s.used M R s) (hf : FInv s q T) (hq : q ≤ 200) (hT : T ≤ 100000) (hst : s.steps + 1 ≤ 1000000) :
    Calls Tryz.prog 30 #[.pointer (some ⟨A, 0, none⟩), .string nm, .string to_] w fun e w' => e = .returned (.int .i64 ((stepF s (renameK nm to_)).1 : Int)) ∧ FsMut w w' A (stepF s (renameK nm to_)).2.used M R (stepF s (renameK nm to_)).2 := by
  obtain ⟨W, hW⟩ : ∃ W, W = ((((w.alloc (.cells #[.pointer (some ⟨A, 0, none⟩)] 25)).alloc (.cells #[.string nm] 9)).alloc (.cells #[.string to_] 9)).alloc (.cells #[.string nm, .string to_] 9)) := ⟨_, rfl⟩
  have hb : Below w.heap.size w W := by rw [hW]; exact ((((Below.refl _ _).alloc (Nat.le_refl _) _).alloc (by simp) _).alloc (by simp; omega) _).alloc (by simp; omega) _
  have c0 : W.cell? ⟨w.heap.size, 0, none⟩ = some (.pointer (some ⟨A, 0, none⟩)) := by rw [hW]; exact cell_al (cell_al (cell_al (box_new _ _ _ _ rfl) _) _) _
  have c1 : W.cell? ⟨w.heap.size + 1, 0, none⟩ = some (.string nm) := by rw [hW]; exact cell_al (cell_al (box_new _ _ _ _ (by simp)) _) _
  have c2 : W.cell? ⟨w.heap.size + 1 + 1, 0, none⟩ = some (.string to_) := by rw [hW]; exact cell_al (box_new _ _ _ _ (by simp)) _
  have hlA := h.ltA
  have hbi := beginF_is s
  have hf1 : FInv (beginF s).2 q T := hf.same hbi.1 hbi.2.1
  have hSs : SsR W (fun i => i = w.heap.size + 1 + 1 + 1) (.slice (some ⟨w.heap.size + 1 + 1 + 1, 0, none⟩) 2 2) [nm, to_] := by
    rw [hW]
    exact ssR_two _ _ _ _ (by simp)
  have Hstep := Lib.hid (kstep (k := renameK nm to_) (dcap := #[.pointer (some ⟨w.heap.size, 0, none⟩), .pointer (some ⟨w.heap.size + 1, 0, none⟩), .pointer (some ⟨w.heap.size + 1 + 1, 0, none⟩)]) (h.on hb) hf hT hst hSs (fun i hi e => by have := h.ml i hi; omega) (fun x hx => by simp at hx; rcases hx with rfl | rfl <;> assumption) (by simp)
    (fun args w' => enters_of Tryz.func64 (by kernel_rfl) rfl args w')
    (fun hb0 w1 hm1 hg1 => by
      have hne : ∀ x, w.heap.size ≤ x → ¬ (x = A) := fun x hx e => by omega
      exact krename1 (s := (beginF s).2) hnm hto hm1 hf1 hq (fun e => by have := h.ml _ e; omega) (cell_keep hg1 (hne _ (by omega)) c0) (fun e => by have := h.ml _ e; omega) (cell_keep hg1 (hne _ (by omega)) c1) (fun e => by have := h.ml _ e; omega) (cell_keep hg1 (hne _ (by omega)) c2))
    (fun hb0 => ⟨_, (finv_rename hf1 (by omega) nm to_).mono (Nat.le_refl _) (by omega)⟩)
    (fun hb0 => by have h1 := used_rename hf1 nm to_; rw [beginF_used, hbi.1, hbi.2.1] at h1; exact h1))
  have HB := Lib.hid hb
  clear h hf hb hf1 hbi hSs c0 c1 c2 
  go_enter Tryz.func30, Tryz.ntmps30
  go_wp2_with fail
  rw [← hW]
  refine Hstep.out.mono ?_
  rintro e w' ⟨rfl, hm⟩
  have HM := Lib.hid (hm.after (Chg.of_below HB.out) (fun _ => .inl) (fun _ => .inl))
  clear hm
  go_wp2_with fail
  go_ret
  exact ⟨rfl, HM.out⟩
set_option maxRecDepth 100000 in
set_option maxHeartbeats 4000000 in
theorem kappend1 {F : Nat} {MF : Nat → Prop} {t : FSt} {v : Value} {b : List UInt8} (hF : FileM w F MF R t) (hbig : t.big ≤ 100000) (cp : w.cell? ⟨p, 0, none⟩ = some (.pointer (some ⟨A, 0, none⟩))) (cr : w.cell? ⟨r, 0, none⟩ = some v) (hv : BsIn w N v b) (hN : ∀ i, MF i → ¬ N i) (hbl : b.length ≤ 100)
    (hc3 : w.cell? ⟨A, 3, none⟩ = some (.int .i64 (u : Int))) (hc2 : w.cell? ⟨A, 2, none⟩ = some (.int .i64 (qu : Int))) (hu : u ≤ 1000000000) :
    Calls Tryz.prog 37 #[.pointer (some ⟨F, 0, none⟩), .pointer (some ⟨p, 0, none⟩), .pointer (some ⟨r, 0, none⟩)] w fun e w' => e = .returned (.int .i64 ((appT u qu b t).1 : Int)) ∧ Mut w w' F MF R (appT u qu b t).2 := by
  have HF := Lib.hid hF
  have HV := Lib.hid hv
  have HN := Lib.hid hN
  have HBg := Lib.hid hbig
  obtain ⟨Ab, cb, rfl, hcb, _⟩ := hv
  obtain ⟨nb, hnb⟩ : ∃ nb, nb = b.length := ⟨_, rfl⟩
  rw [← hnb] at cr hcb HV hbl
  have Hnb := Lib.hid hnb
  obtain ⟨z, hz⟩ : ∃ z, z = u + nb := ⟨_, rfl⟩
  have hw : IntKind.i64.wrap ((u : Int) + (nb : Int)) = (z : Int) := by rw [IntWalk.i64_in _ (by omega), hz]; push_cast; rfl
  have Hz := Lib.hid hz
  clear hF hN hbig hnb hz
  by_cases hq : qu < z
  · have hr : appT u qu b t = (21, t) := by unfold appT; rw [if_pos (by have := Hz.out; have := Hnb.out; omega)]
    have hd : decide ((z : Int) > (qu : Int)) = true := decide_eq_true (by omega)
    have hd2 : (qu : Int) < (z : Int) := by omega
    rw [hr]
    clear hr hq hu
    go_enter Tryz.func37, Tryz.ntmps37
    go_wp2_with fail
    refine wp_region_noPanic ?_
    refine wp_region_held_drew (S := fun w' => w'.cell? ⟨p, 0, none⟩ = some (.pointer (some ⟨A, 0, none⟩)) ∧ w'.cell? ⟨r, 0, none⟩ = some (.slice Ab nb cb) ∧ w'.cell? ⟨A, 3, none⟩ = some (.int .i64 (u : Int)) ∧ w'.cell? ⟨A, 2, none⟩ = some (.int .i64 (qu : Int))) (by kernel_rfl) ⟨cp, cr, hc3, hc2⟩ (fun hHeld => ?_)
    have cr2 := hHeld.2.1
    clear hc3 hc2 cp cr
    have HB0 : Hid (Below w.heap.size w w.drew) := (Below.refl _ _).drew
    generalize World.drew _ = W at *
    refine wpAnyH_take (i := 0) (v := ?_) opAt_0 (by kernel_rfl) (by kernel_rfl) (by kernel_rfl) (fun _ _ _ h => h) (Or.inl ⟨by rfl, ?_⟩) hHeld ?_
    rotate_left
    · (intro w' hSw; obtain ⟨k0, k1, k2, k3⟩ := hSw; go_simp; try with_reducible rfl)
    try simp only [Act.put, List.setIfInBounds_toArray, List.set_cons_zero, List.set_cons_succ]
    refine wpAnyH_take (i := 1) (v := ?_) opAt_1 (by kernel_rfl) (by kernel_rfl) (by kernel_rfl) (fun _ _ _ h => h) (Or.inl ⟨by rfl, ?_⟩) hHeld ?_
    rotate_left
    · (intro w' hSw; obtain ⟨k0, k1, k2, k3⟩ := hSw; go_simp; try with_reducible rfl)
    try simp only [Act.put, List.setIfInBounds_toArray, List.set_cons_zero, List.set_cons_succ]
    refine wpAnyH_take (i := 2) (v := ?_) opAt_2 (by kernel_rfl) (by kernel_rfl) (by kernel_rfl) (fun _ _ _ h => h) (Or.inl ⟨by rfl, ?_⟩) hHeld ?_
    rotate_left
    · (intro w' hSw; obtain ⟨k0, k1, k2, k3⟩ := hSw; go_simp; try with_reducible rfl)
    try simp only [Act.put, List.setIfInBounds_toArray, List.set_cons_zero, List.set_cons_succ]
    refine wpAnyH_take (i := 3) (v := ?_) opAt_3 (by kernel_rfl) (by kernel_rfl) (by kernel_rfl) (fun _ _ _ h => h) (Or.inl ⟨by rfl, ?_⟩) hHeld ?_
    rotate_left
    · (intro w' hSw; obtain ⟨k0, k1, k2, k3⟩ := hSw; go_simp; try with_reducible rfl)
    try simp only [Act.put, List.setIfInBounds_toArray, List.set_cons_zero, List.set_cons_succ]
    refine wpAnyH_take (i := 4) (v := ?_) opAt_4 (by kernel_rfl) (by kernel_rfl) (by kernel_rfl) (fun _ _ _ h => h) (Or.inl ⟨by rfl, ?_⟩) hHeld ?_
    rotate_left
    · (intro w' hSw; obtain ⟨k0, k1, k2, k3⟩ := hSw; go_simp; try with_reducible rfl)
    try simp only [Act.put, List.setIfInBounds_toArray, List.set_cons_zero, List.set_cons_succ]
    refine wpAnyH_take (i := 5) (v := ?_) opAt_5 (by kernel_rfl) (by kernel_rfl) (by kernel_rfl) (fun _ _ _ h => h) (Or.inl ⟨by rfl, ?_⟩) hHeld ?_
    rotate_left
    · (intro w' hSw; obtain ⟨k0, k1, k2, k3⟩ := hSw; go_simp; try with_reducible rfl)
    try simp only [Act.put, List.setIfInBounds_toArray, List.set_cons_zero, List.set_cons_succ]
    refine wpAnyH_take (i := 6) (v := ?_) opAt_6 (by kernel_rfl) (by kernel_rfl) (by kernel_rfl) (fun _ _ _ h => h) (Or.inl ⟨by rfl, ?_⟩) hHeld ?_
    rotate_left
    · (intro w' hSw; obtain ⟨k0, k1, k2, k3⟩ := hSw; go_simp; try with_reducible rfl)
    try simp only [Act.put, List.setIfInBounds_toArray, List.set_cons_zero, List.set_cons_succ]
    refine wpAnyH_take (i := 7) (v := ?_) opAt_7 (by kernel_rfl) (by kernel_rfl) (by kernel_rfl) (fun _ _ _ h => h) (Or.inl ⟨by rfl, ?_⟩) hHeld ?_
    rotate_left
    · (intro w' hSw; obtain ⟨k0, k1, k2, k3⟩ := hSw; go_simp; try with_reducible rfl)
    try simp only [Act.put, List.setIfInBounds_toArray, List.set_cons_zero, List.set_cons_succ]
    refine wpAnyH_take (i := 8) (v := ?_) opAt_8 (by kernel_rfl) (by kernel_rfl) (by kernel_rfl) (fun _ _ _ h => h) (Or.inl ⟨by rfl, ?_⟩) hHeld ?_
    rotate_left
    · (intro w' hSw; obtain ⟨k0, k1, k2, k3⟩ := hSw; go_simp; try with_reducible rfl)
    try simp only [Act.put, List.setIfInBounds_toArray, List.set_cons_zero, List.set_cons_succ]
    refine wpAnyH_take (i := 9) (v := ?_) opAt_9 (by kernel_rfl) (by kernel_rfl) (by kernel_rfl) (fun _ _ _ h => h) (Or.inl ⟨by rfl, ?_⟩) hHeld ?_
    rotate_left
    · (intro w' hSw; obtain ⟨k0, k1, k2, k3⟩ := hSw; go_simp; try with_reducible rfl)
    try simp only [Act.put, List.setIfInBounds_toArray, List.set_cons_zero, List.set_cons_succ]
    refine wpAnyH_take (i := 10) (v := ?_) opAt_10 (by kernel_rfl) (by kernel_rfl) (by kernel_rfl) (fun _ _ _ h => h) (Or.inl ⟨by rfl, ?_⟩) hHeld ?_
    rotate_left
    · (intro w' hSw; obtain ⟨k0, k1, k2, k3⟩ := hSw; go_simp; try with_reducible rfl)
    try simp only [Act.put, List.setIfInBounds_toArray, List.set_cons_zero, List.set_cons_succ]
    refine wpAnyH_take (i := 11) (v := ?_) opAt_11 (by kernel_rfl) (by kernel_rfl) (by kernel_rfl) (fun _ _ _ h => h) (Or.inl ⟨by rfl, ?_⟩) hHeld ?_
    rotate_left
    · (intro w' hSw; obtain ⟨k0, k1, k2, k3⟩ := hSw; go_simp; try with_reducible rfl)
    try simp only [Act.put, List.setIfInBounds_toArray, List.set_cons_zero, List.set_cons_succ]
    refine wpAnyH_done (by kernel_rfl) ?_ _
    refine NoPanic.normal ?_
    go_wp2_with fail
    go_ret
    exact ⟨rfl, Mut.of_below HF.out HB0.out⟩
  · have hd : decide ((z : Int) > (qu : Int)) = false := decide_eq_false (by omega)
    have hd2 : ¬ (qu : Int) < (z : Int) := by omega
    have HAp : Hid (∀ w1, Below w.heap.size w w1 → Calls Tryz.prog 38 #[.pointer (some ⟨F, 0, none⟩), .slice Ab nb cb] w1 fun e w' => e = .returned (.int .i64 ((appT u qu b t).1 : Int)) ∧ Mut w1 w' F MF R (appT u qu b t).2) := fun w1 hb => by
      by_cases hb0 : b = []
      · have hr : appT u qu b t = (0, t) := by unfold appT; rw [if_neg (by have := Hz.out; have := Hnb.out; omega), if_pos hb0]
        rw [hr]
        have hn0 : nb = 0 := by have := Hnb.out; rw [hb0] at this; simpa using this
        rw [hn0]
        refine (fappend_none F cb Ab).mono ?_
        rintro e w' ⟨rfl, hb'⟩
        exact ⟨rfl, Mut.of_below (HF.out.on hb) hb'⟩
      · have hr : appT u qu b t = (0, t.app b) := by unfold appT; rw [if_neg (by have := Hz.out; have := Hnb.out; omega), if_neg hb0]
        rw [hr]
        exact fappend_m (HF.out.on hb) (HV.out.chg (Chg.of_below (M := fun _ => False) hb) (fun i e => e.elim)) HN.out hb0 (by have := HBg.out; have := Hnb.out; omega)
    generalize appT u qu b t = an at *
    clear hq hu
    go_enter Tryz.func37, Tryz.ntmps37
    go_wp2_with fail
    refine wp_region_noPanic ?_
    refine wp_region_held_drew (S := fun w' => w'.cell? ⟨p, 0, none⟩ = some (.pointer (some ⟨A, 0, none⟩)) ∧ w'.cell? ⟨r, 0, none⟩ = some (.slice Ab nb cb) ∧ w'.cell? ⟨A, 3, none⟩ = some (.int .i64 (u : Int)) ∧ w'.cell? ⟨A, 2, none⟩ = some (.int .i64 (qu : Int))) (by kernel_rfl) ⟨cp, cr, hc3, hc2⟩ (fun hHeld => ?_)
    have cr2 := hHeld.2.1
    clear hc3 hc2 cp cr
    have HB0 : Hid (Below w.heap.size w w.drew) := (Below.refl _ _).drew
    generalize World.drew _ = W at *
    refine wpAnyH_take (i := 0) (v := ?_) opAt_0 (by kernel_rfl) (by kernel_rfl) (by kernel_rfl) (fun _ _ _ h => h) (Or.inl ⟨by rfl, ?_⟩) hHeld ?_
    rotate_left
    · (intro w' hSw; obtain ⟨k0, k1, k2, k3⟩ := hSw; go_simp; try with_reducible rfl)
    try simp only [Act.put, List.setIfInBounds_toArray, List.set_cons_zero, List.set_cons_succ]
    refine wpAnyH_take (i := 1) (v := ?_) opAt_1 (by kernel_rfl) (by kernel_rfl) (by kernel_rfl) (fun _ _ _ h => h) (Or.inl ⟨by rfl, ?_⟩) hHeld ?_
    rotate_left
    · (intro w' hSw; obtain ⟨k0, k1, k2, k3⟩ := hSw; go_simp; try with_reducible rfl)
    try simp only [Act.put, List.setIfInBounds_toArray, List.set_cons_zero, List.set_cons_succ]
    refine wpAnyH_take (i := 2) (v := ?_) opAt_2 (by kernel_rfl) (by kernel_rfl) (by kernel_rfl) (fun _ _ _ h => h) (Or.inl ⟨by rfl, ?_⟩) hHeld ?_
    rotate_left
    · (intro w' hSw; obtain ⟨k0, k1, k2, k3⟩ := hSw; go_simp; try with_reducible rfl)
    try simp only [Act.put, List.setIfInBounds_toArray, List.set_cons_zero, List.set_cons_succ]
    refine wpAnyH_take (i := 3) (v := ?_) opAt_3 (by kernel_rfl) (by kernel_rfl) (by kernel_rfl) (fun _ _ _ h => h) (Or.inl ⟨by rfl, ?_⟩) hHeld ?_
    rotate_left
    · (intro w' hSw; obtain ⟨k0, k1, k2, k3⟩ := hSw; go_simp; try with_reducible rfl)
    try simp only [Act.put, List.setIfInBounds_toArray, List.set_cons_zero, List.set_cons_succ]
    refine wpAnyH_take (i := 4) (v := ?_) opAt_4 (by kernel_rfl) (by kernel_rfl) (by kernel_rfl) (fun _ _ _ h => h) (Or.inl ⟨by rfl, ?_⟩) hHeld ?_
    rotate_left
    · (intro w' hSw; obtain ⟨k0, k1, k2, k3⟩ := hSw; go_simp; try with_reducible rfl)
    try simp only [Act.put, List.setIfInBounds_toArray, List.set_cons_zero, List.set_cons_succ]
    refine wpAnyH_take (i := 5) (v := ?_) opAt_5 (by kernel_rfl) (by kernel_rfl) (by kernel_rfl) (fun _ _ _ h => h) (Or.inl ⟨by rfl, ?_⟩) hHeld ?_
    rotate_left
    · (intro w' hSw; obtain ⟨k0, k1, k2, k3⟩ := hSw; go_simp; try with_reducible rfl)
    try simp only [Act.put, List.setIfInBounds_toArray, List.set_cons_zero, List.set_cons_succ]
    refine wpAnyH_take (i := 6) (v := ?_) opAt_6 (by kernel_rfl) (by kernel_rfl) (by kernel_rfl) (fun _ _ _ h => h) (Or.inl ⟨by rfl, ?_⟩) hHeld ?_
    rotate_left
    · (intro w' hSw; obtain ⟨k0, k1, k2, k3⟩ := hSw; go_simp; try with_reducible rfl)
    try simp only [Act.put, List.setIfInBounds_toArray, List.set_cons_zero, List.set_cons_succ]
    refine wpAnyH_take (i := 7) (v := ?_) opAt_7 (by kernel_rfl) (by kernel_rfl) (by kernel_rfl) (fun _ _ _ h => h) (Or.inl ⟨by rfl, ?_⟩) hHeld ?_
    rotate_left
    · (intro w' hSw; obtain ⟨k0, k1, k2, k3⟩ := hSw; go_simp; try with_reducible rfl)
    try simp only [Act.put, List.setIfInBounds_toArray, List.set_cons_zero, List.set_cons_succ]
    refine wpAnyH_take (i := 8) (v := ?_) opAt_8 (by kernel_rfl) (by kernel_rfl) (by kernel_rfl) (fun _ _ _ h => h) (Or.inl ⟨by rfl, ?_⟩) hHeld ?_
    rotate_left
    · (intro w' hSw; obtain ⟨k0, k1, k2, k3⟩ := hSw; go_simp; try with_reducible rfl)
    try simp only [Act.put, List.setIfInBounds_toArray, List.set_cons_zero, List.set_cons_succ]
    refine wpAnyH_take (i := 9) (v := ?_) opAt_9 (by kernel_rfl) (by kernel_rfl) (by kernel_rfl) (fun _ _ _ h => h) (Or.inl ⟨by rfl, ?_⟩) hHeld ?_
    rotate_left
    · (intro w' hSw; obtain ⟨k0, k1, k2, k3⟩ := hSw; go_simp; try with_reducible rfl)
    try simp only [Act.put, List.setIfInBounds_toArray, List.set_cons_zero, List.set_cons_succ]
    refine wpAnyH_take (i := 10) (v := ?_) opAt_10 (by kernel_rfl) (by kernel_rfl) (by kernel_rfl) (fun _ _ _ h => h) (Or.inl ⟨by rfl, ?_⟩) hHeld ?_
    rotate_left
    · (intro w' hSw; obtain ⟨k0, k1, k2, k3⟩ := hSw; go_simp; try with_reducible rfl)
    try simp only [Act.put, List.setIfInBounds_toArray, List.set_cons_zero, List.set_cons_succ]
    refine wpAnyH_take (i := 11) (v := ?_) opAt_11 (by kernel_rfl) (by kernel_rfl) (by kernel_rfl) (fun _ _ _ h => h) (Or.inl ⟨by rfl, ?_⟩) hHeld ?_
    rotate_left
    · (intro w' hSw; obtain ⟨k0, k1, k2, k3⟩ := hSw; go_simp; try with_reducible rfl)
    try simp only [Act.put, List.setIfInBounds_toArray, List.set_cons_zero, List.set_cons_succ]
    refine wpAnyH_done (by kernel_rfl) ?_ _
    refine NoPanic.normal ?_
    go_wp2_with fail
    refine (HAp.out _ HB0.out).mono ?_
    rintro e w1 ⟨rfl, hm⟩
    have HM := Lib.hid (Mut.after HB0.out hm)
    clear hm
    go_wp2_with fail
    go_ret
    exact ⟨rfl, HM.out⟩
set_option maxRecDepth 100000 in
theorem kcut {F : Nat} {MF : Nat → Prop} {t : FSt} (hF : FileM w F MF R t) (hbig : t.big ≤ 100000) (z : Int) : Calls Tryz.prog 63 #[.pointer (some ⟨F, 0, none⟩), .int .i64 z] w fun e w' => e = .returned (.int .i64 ((cutT z t).1 : Int)) ∧ Mut w w' F MF R (cutT z t).2 := by
  unfold cutT
  by_cases h1 : z < 0
  · rw [if_pos (.inl h1)]
    refine (fcut_neg hF z h1).mono ?_
    rintro e w' ⟨rfl, hb⟩
    exact ⟨rfl, Mut.of_below hF hb⟩
  · by_cases h2 : (t.bytes.length : Int) < z
    · rw [if_pos (.inr h2)]
      refine (fcut_long hF (by omega) z h2).mono ?_
      rintro e w' ⟨rfl, hb⟩
      exact ⟨rfl, Mut.of_below hF hb⟩
    · rw [if_neg (by omega)]
      obtain ⟨n, rfl⟩ : ∃ n : Nat, z = n := ⟨z.toNat, by omega⟩
      by_cases h3 : (n : Int) = t.bytes.length
      · rw [if_pos h3]
        refine (fcut_same hF (by omega) n (by omega)).mono ?_
        rintro e w' ⟨rfl, hb⟩
        exact ⟨rfl, Mut.of_below hF hb⟩
      · rw [if_neg h3]
        exact fcut_m hF n (by omega) (by omega)
set_option maxRecDepth 100000 in
set_option maxHeartbeats 4000000 in
theorem ktrunc1 {F : Nat} {MF : Nat → Prop} {t : FSt} {z : Int} (hF : FileM w F MF R t) (hbig : t.big ≤ 100000) (cr : w.cell? ⟨r, 0, none⟩ = some (.int .i64 z)) :
    Calls Tryz.prog 62 #[.pointer (some ⟨F, 0, none⟩), .pointer (some ⟨r, 0, none⟩)] w fun e w' => e = .returned (.int .i64 ((cutT z t).1 : Int)) ∧ Mut w w' F MF R (cutT z t).2 := by
  have HC := Lib.hid (kcut hF hbig z)
  clear hF hbig
  generalize cutT z t = an at *
  go_enter Tryz.func62, Tryz.ntmps62
  go_wp2_with fail
  refine HC.out.mono ?_
  rintro e w1 ⟨rfl, hm⟩
  have HM := Lib.hid hm
  clear hm
  go_wp2_with fail
  go_ret
  exact ⟨rfl, HM.out⟩
theorem syncT_big (t : FSt) (h : t.Ok) : (syncT t).2.Ok ∧ (syncT t).2.big ≤ t.big + 100 := ⟨(syncT_ok t h).1, by have := (syncT_ok t h).2; omega⟩
set_option maxRecDepth 100000 in
set_option maxHeartbeats 4000000 in
theorem ksync (hnm : nm.size ≤ maxLen) (h : FsM w A s.used M R s) (hf : FInv s q T) (hT : T ≤ 100000) (hst : s.steps + 1 ≤ 1000000) :
    Calls Tryz.prog 11 #[.pointer (some ⟨A, 0, none⟩), .string nm] w fun e w' => e = .returned (.int .i64 ((stepF s (syncK nm)).1 : Int)) ∧ FsMut w w' A (stepF s (syncK nm)).2.used M R (stepF s (syncK nm)).2 := by
  have HS := Lib.hid (kstepOf (k := syncT) (dcap := #[]) hnm h hf hT hst (fun args w' => enters_of Tryz.func39 (by kernel_rfl) rfl args w') syncT_big
    (fun hb0 w1 hg X B n hv K g MX MF i ha hi hbg => by
      have e1 := (beginF_is s).2.1
      have h1 := ha.files i hi
      rw [e1] at h1
      exact fsync_m h1 (by omega)))
  have e : stepF s (syncK nm) = stepF s (fun s => onF s nm syncT) := rfl
  rw [e]
  clear h hf e
  generalize stepF s (fun s => onF s nm syncT) = an at *
  go_enter Tryz.func11, Tryz.ntmps11
  go_wp2_with fail
  refine HS.out.mono ?_
  rintro e w1 ⟨rfl, hm⟩
  have HM := Lib.hid hm
  clear hm
  go_wp2_with fail
  go_ret
  exact ⟨rfl, HM.out⟩
theorem cutT_big (z : Int) (t : FSt) (h : t.Ok) : (cutT z t).2.Ok ∧ (cutT z t).2.big ≤ t.big + 100 := ⟨(cutT_ok z t h).1, by have := (cutT_ok z t h).2; omega⟩
set_option maxRecDepth 100000 in
set_option maxHeartbeats 4000000 in
theorem ktrunc {z : Int} (hnm : nm.size ≤ maxLen) (h : FsM w A s.used M R s) (hf : FInv s q T) (hT : T ≤ 100000) (hst : s.steps + 1 ≤ 1000000) :
    Calls Tryz.prog 29 #[.pointer (some ⟨A, 0, none⟩), .string nm, .int .i64 z] w fun e w' => e = .returned (.int .i64 ((stepF s (truncK nm z)).1 : Int)) ∧ FsMut w w' A (stepF s (truncK nm z)).2.used M R (stepF s (truncK nm z)).2 := by
  obtain ⟨W, hW⟩ : ∃ W, W = w.alloc (.cells #[.int .i64 z] 3) := ⟨_, rfl⟩
  have hb : Below w.heap.size w W := by rw [hW]; exact (Below.refl _ _).alloc (Nat.le_refl _) _
  have c0 : W.cell? ⟨w.heap.size, 0, none⟩ = some (.int .i64 z) := by rw [hW]; exact box_new _ _ _ _ rfl
  have hlA := h.ltA
  have HS := Lib.hid (kstepOf (k := cutT z) (dcap := #[.pointer (some ⟨w.heap.size, 0, none⟩)]) hnm (h.on hb) hf hT hst (fun args w' => enters_of Tryz.func62 (by kernel_rfl) rfl args w') (cutT_big z)
    (fun hb0 w1 hg X B n hv K g MX MF i ha hi hbg => by
      have e1 := (beginF_is s).2.1
      have h1 := ha.files i hi
      rw [e1] at h1
      exact ktrunc1 h1 (by omega) (cell_keep hg (fun e => by omega) c0)))
  have HB := Lib.hid hb
  have e : stepF s (truncK nm z) = stepF s (fun s => onF s nm (cutT z)) := rfl
  rw [e]
  clear h hf e hb c0
  generalize stepF s (fun s => onF s nm (cutT z)) = an at *
  go_enter Tryz.func29, Tryz.ntmps29
  go_wp2_with fail
  rw [← hW]
  refine HS.out.mono ?_
  rintro e w1 ⟨rfl, hm⟩
  have HM := Lib.hid (hm.after (Chg.of_below HB.out) (fun _ => .inl) (fun _ => .inl))
  clear hm
  go_wp2_with fail
  go_ret
  exact ⟨rfl, HM.out⟩
theorem appT_big (u qu : Nat) {b : List UInt8} (hb : b.length ≤ 100) (t : FSt) (h : t.Ok) : (appT u qu b t).2.Ok ∧ (appT u qu b t).2.big ≤ t.big + 100 := ⟨(appT_ok u qu b t h).1, by have := (appT_ok u qu b t h).2; omega⟩
set_option maxRecDepth 100000 in
set_option maxHeartbeats 4000000 in
theorem kappend {v : Value} {b : List UInt8} (hnm : nm.size ≤ maxLen) (h : FsM w A s.used M R s) (hf : FInv s q T) (hT : T ≤ 100000) (hst : s.steps + 1 ≤ 1000000) (hv : BsIn w N v b) (hN : ∀ i, M i → ¬ N i) (hbl : b.length ≤ 100) :
    Calls Tryz.prog 10 #[.pointer (some ⟨A, 0, none⟩), .string nm, v] w fun e w' => e = .returned (.int .i64 ((stepF s (appendK nm b)).1 : Int)) ∧ FsMut w w' A (stepF s (appendK nm b)).2.used M R (stepF s (appendK nm b)).2 := by
  have hv0 := hv
  obtain ⟨Ab, cb, rfl, _, _⟩ := hv
  obtain ⟨W, hW⟩ : ∃ W, W = (w.alloc (.cells #[.pointer (some ⟨A, 0, none⟩)] 25)).alloc (.cells #[.slice Ab b.length cb] 23) := ⟨_, rfl⟩
  have hb : Below w.heap.size w W := by rw [hW]; exact ((Below.refl _ _).alloc (Nat.le_refl _) _).alloc (by simp) _
  have c0 : W.cell? ⟨w.heap.size, 0, none⟩ = some (.pointer (some ⟨A, 0, none⟩)) := by rw [hW]; exact cell_al (box_new _ _ _ _ rfl) _
  have c1 : W.cell? ⟨w.heap.size + 1, 0, none⟩ = some (.slice Ab b.length cb) := by rw [hW]; exact box_new _ _ _ _ (by simp)
  have hlA := h.ltA
  have hv1 := hv0.chg (Chg.of_below (M := fun _ => False) hb) (fun i e => e.elim)
  have hNA : ∀ i, i = A → ¬ N i := fun i e => by rw [e]; exact hN A h.mA
  have hul := hf.used_le
  have HS := Lib.hid (kstepOf (k := appT s.used s.quota b) (dcap := #[.pointer (some ⟨w.heap.size, 0, none⟩), .pointer (some ⟨w.heap.size + 1, 0, none⟩)]) hnm (h.on hb) hf hT hst (fun args w' => enters_of Tryz.func37 (by kernel_rfl) rfl args w') (fun t ht => appT_big _ _ hbl t ht)
    (fun hb0 w1 hg X B n hv K g MX MF i ha hi hbg => by
      have e1 := beginF_is s
      have h1 := ha.files i hi
      have h2 := ha.cells.c2
      rw [e1.2.1] at h1
      rw [e1.2.2] at h2
      exact kappend1 h1 (by omega) (cell_keep hg (fun e => by omega) c0) (cell_keep hg (fun e => by omega) c1) (hv1.chg hg hNA) (fun j hj => hN j (ha.mF i hi j hj)) hbl ha.cells.c3 h2 (by omega)))
  have HB := Lib.hid hb
  have e : stepF s (appendK nm b) = stepF s (fun s' => onF s' nm (appT s.used s.quota b)) := stepF_congr (by unfold appendK; rw [beginF_used, (beginF_is s).2.2])
  rw [e]
  clear h hf e hb c0 c1 hv0 hv1 hN hNA hul
  generalize stepF s (fun s' => onF s' nm (appT s.used s.quota b)) = an at *
  generalize b.length = nb at *
  go_enter Tryz.func10, Tryz.ntmps10
  go_wp2_with fail
  rw [← hW]
  refine HS.out.mono ?_
  rintro e w1 ⟨rfl, hm⟩
  have HM := Lib.hid (hm.after (Chg.of_below HB.out) (fun _ => .inl) (fun _ => .inl))
  clear hm
  go_wp2_with fail
  go_ret
  exact ⟨rfl, HM.out⟩
end
end Go.Proofs.YtboeiadfmknidaaGreat
