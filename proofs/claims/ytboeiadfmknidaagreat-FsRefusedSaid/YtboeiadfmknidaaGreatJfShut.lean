
/-
  Layer 7: what is handed to a step, over the folder: SyncDir, Rename, Remove, Create.
-/
import Derived.Test.YtboeiadfmknidaaGreatJfLook
set_option linter.unusedVariables false
set_option linter.unusedSimpArgs false
namespace Go.Proofs.YtboeiadfmknidaaGreat
open Go.RowKit Go.Maps

theorem cell_keep {w w' : World} {N : Nat → Prop} (hc : Chg N w w') {p o : Nat} (hp : ¬ N p) {u : Value} (h : w.cell? ⟨p, o, none⟩ = some u) : w'.cell? ⟨p, o, none⟩ = some u := (hc.cell (p := ⟨p, o, none⟩) (fblock_of_cell h) hp).trans h
theorem live_settle {s : PSt} (hg : GInv s) (ho : s.settled ≤ s.last) {k : Nat} (hk : k ≤ s.deeds.length) : ∀ i, i ∈ (s.settle k).live → i ∈ s.live := fun i hi => by
  rcases (mem_live (s := s.settle k) (Nat.le_refl _)).1 hi with ⟨y, hy, rfl⟩ | h1
  · rcases hg.old k hk y hy with h2 | h2
    · exact (mem_live ho).2 (.inl h2)
    · exact (mem_live ho).2 (.inr ⟨h2, ((hg.pre k hk).1 y hy).2.2⟩)
  · have h1 : s.last < i ∧ i ≤ s.last := h1
    omega
theorem live_push (s : PSt) (d : Dd) : (s.push d).live = s.live := rfl
theorem live_rename (s : PSt) (a b : ByteArray) : (renameP s a b).2.live = s.live ∧ (renameP s a b).2.last = s.last := by
  unfold renameP
  split
  · exact ⟨rfl, rfl⟩
  · split
    · exact ⟨rfl, rfl⟩
    · split <;> exact ⟨rfl, rfl⟩
theorem live_remove (s : PSt) (a : ByteArray) : (removeP s a).2.live = s.live ∧ (removeP s a).2.last = s.last := by
  unfold removeP
  split
  · exact ⟨rfl, rfl⟩
  · split <;> exact ⟨rfl, rfl⟩
theorem createP_told (s : PSt) (n : ByteArray) : (∃ c, createP s n = (0, c, s) ∧ c ≠ 0) ∨ createP s n = (s.last + 1, 0, s.made n) := by
  unfold createP
  split
  · exact .inl ⟨1, rfl, by decide⟩
  · split
    · exact .inl ⟨9, rfl, by decide⟩
    · split
      · exact .inl ⟨7, rfl, by decide⟩
      · exact .inr rfl
theorem live_made {s : PSt} (ho : s.settled ≤ s.last) (n : ByteArray) : ∀ i, i ∈ (s.made n).live → i ∈ s.live ∨ i = s.last + 1 := fun i hi => by
  have h0 : (s.made n).settled ≤ (s.made n).last := by show s.settled ≤ s.last + 1; omega
  rcases (mem_live h0).1 hi with h1 | h1
  · exact .inl ((mem_live ho).2 (.inl h1))
  · have h1 : s.settled < i ∧ i ≤ s.last + 1 := h1
    by_cases e : i = s.last + 1
    · exact .inr e
    · exact .inl ((mem_live ho).2 (.inr (by omega)))
section
variable {w w' : World} {A u q T p c d : Nat} {M R N : Nat → Prop} {s : FsP}
/-- the folder has changed -/
theorem FsM.dir_mut {X B n : Nat} {hv : Value} {K : List Nat} {g : Nat → Nat} {MX : Nat → Prop} {MF : Nat → Nat → Prop} (h : FsAt w A X B n u hv K g MX MF M R s) (hn : n ≤ s.dir.last + 1) (hK : ∀ i, i ∈ K → i ≤ s.dir.last) (hl : ∀ i, i ∈ s.dir.live → i ∈ K) {d : PSt} (hm : HMut w w' X MX R d)
    (h1 : d.last = s.dir.last) (h2 : d.live = s.dir.live) : FsMut w w' A u M R { s with dir := d } := by
  obtain ⟨MX', M', R', h3, h4, h5, h6⟩ := h.dir_mut hm
  exact ⟨M', R', ⟨X, B, n, hv, K, g, MX', MF, h3, by show n ≤ d.last + 1; omega, fun i hi => by show i ≤ d.last; have := hK i hi; omega, fun i hi => hl i (by rw [← h2]; exact hi)⟩, h4, h5, h6⟩
set_option maxRecDepth 100000 in
set_option maxHeartbeats 4000000 in
theorem ksyncdir1 (h : FsM w A u M R s) (hf : FInv s q T) (hq : q ≤ 200) (hp : ¬ M p) (cp : w.cell? ⟨p, 0, none⟩ = some (.pointer (some ⟨A, 0, none⟩))) :
    Calls Tryz.prog 40 #[.pointer (some ⟨p, 0, none⟩)] w fun e w' => e = .returned (.int .i64 ((syncDirK s).1 : Int)) ∧ FsMut w w' A u M R (syncDirK s).2 := by
  obtain ⟨X, B, n, hv, K, g, MX, MF, ha, hn1, hn2, hn3, _, _⟩ := h.kfacts hf
  have HS := Lib.hid (hsync ha.dir)
  have Ha := Lib.hid ha
  have Hf := Lib.hid hf
  have Hn := Lib.hid (show n ≤ s.dir.last + 1 ∧ (∀ i, i ∈ K → i ≤ s.dir.last) ∧ (∀ i, i ∈ s.dir.live → i ∈ K) from ⟨hn1, hn2, hn3⟩)
  have hc0 := ha.cells.c0
  clear h ha hf hn1 hn2 hn3
  go_enter Tryz.func40, Tryz.ntmps40
  go_wp2_with fail
  refine HS.out.mono ?_
  rintro e w1 ⟨rfl, hm⟩
  obtain ⟨MX', M', R', h3, h4, h5, h6⟩ := Ha.out.dir_mut hm
  have hf1 : GInv (s.dir.settle s.dir.deeds.length) := Hf.out.ino.settle (Nat.le_refl _)
  have hla : s.dir.last ≤ q := Hf.out.last
  have hfew := Nat.le_trans (settle_big s.dir s.dir.deeds.length) Hf.out.few
  have HB := Lib.hid (kbury h3 (fun i hi => Hn.out.2.2 i (live_settle Hf.out.ino Hf.out.dir.settled (Nat.le_refl _) i hi)) hf1 (by unfold PSt.big at hfew; show (s.dir.settle s.dir.deeds.length).safe.length ≤ 200; omega) (by show s.dir.last ≤ 10000; omega))
  have H4 := Lib.hid h4
  have H5 := Lib.hid h5
  have H6 := Lib.hid h6
  have Hfe := Lib.hid (hf1.live_few h3.dir.ok)
  have hlt : ∀ i, i ∈ (s.dir.settle s.dir.deeds.length).live → i ≤ s.dir.last := fun i hi => (hf1.live_le (Nat.le_refl _) i hi).2
  have Hlt := Lib.hid hlt
  have HMA := Lib.hid h3.mA
  have cp1 := cell_keep h4 hp cp
  clear hm h3 h4 h5 h6 hf1 hfew hlt hc0
  go_wp2_with fail
  refine HB.out.mono ?_
  rintro e w2 ⟨rfl, B', n', h7, h8, h9, h10⟩
  have HF : Hid (FsMut w w2 A u M R (syncDirK s).2) := by
    have hs4 := H4.out.size
    refine ⟨_, R', ⟨X, B', n', hv, _, g, MX', MF, h7, Nat.le_trans h10 Hfe.out, Hlt.out, fun i hi => hi⟩, H4.out.trans h8 (fun i e => by rw [e]; exact H5.out A HMA.out), ?_, H6.out⟩
    rintro i (hi | hi)
    · exact H5.out i hi
    · exact .inr (by omega)
  clear h7 h8 h9 h10 cp1
  go_wp2_with fail
  go_ret
  exact ⟨rfl, HF.out⟩
set_option maxRecDepth 100000 in
set_option maxHeartbeats 4000000 in
theorem krename1 {nm to_ : ByteArray} (hnm : nm.size ≤ maxLen) (hto : to_.size ≤ maxLen) {r : Nat} (h : FsM w A u M R s) (hf : FInv s q T) (hq : q ≤ 200) (hp : ¬ M p) (cp : w.cell? ⟨p, 0, none⟩ = some (.pointer (some ⟨A, 0, none⟩))) (hc : ¬ M c) (cc : w.cell? ⟨c, 0, none⟩ = some (.string nm)) (hr : ¬ M r) (cr : w.cell? ⟨r, 0, none⟩ = some (.string to_)) :
    Calls Tryz.prog 64 #[.pointer (some ⟨p, 0, none⟩), .pointer (some ⟨c, 0, none⟩), .pointer (some ⟨r, 0, none⟩)] w fun e w' => e = .returned (.int .i64 ((renameK nm to_ s).1 : Int)) ∧ FsMut w w' A u M R (renameK nm to_ s).2 := by
  obtain ⟨X, B, n, hv, K, g, MX, MF, ha, hn1, hn2, hn3, _, _⟩ := h.kfacts hf
  obtain ⟨d1, hd1⟩ : ∃ d1, d1 = renameP s.dir nm to_ := ⟨_, rfl⟩
  have hK1 : renameK nm to_ s = (d1.1, { s with dir := d1.2 }) := by rw [hd1]; rfl
  rw [hK1]
  have hfew : s.dir.safe.length + s.dir.deeds.length < 100000 := by have := hf.few; unfold PSt.big at this; omega
  have HS : Hid (∀ w1, FsAt w1 A X B n u hv K g MX MF M R s → Calls Tryz.prog 65 #[.pointer (some ⟨X, 0, none⟩), .string nm, .string to_] w1 fun e w' => e = .returned (.int .i64 (d1.1 : Int)) ∧ HMut w1 w' X MX R d1.2) := fun w1 h1 => by rw [hd1]; exact hrename h1.dir hfew nm to_ (by unfold maxLen at hnm; omega) (by unfold maxLen at hto; omega)
  have Ha := Lib.hid ha
  have HaD := Lib.hid ha.drew
  have Hn := Lib.hid (show n ≤ s.dir.last + 1 ∧ (∀ i, i ∈ K → i ≤ s.dir.last) ∧ (∀ i, i ∈ s.dir.live → i ∈ K) from ⟨hn1, hn2, hn3⟩)
  have hc0 := ha.cells.c0
  have Hd := Lib.hid hd1
  clear h ha hf hn1 hn2 hn3 hd1 hK1 hfew
  go_enter Tryz.func64, Tryz.ntmps64
  go_wp2_with fail
  refine wp_region_noPanic ?_
  refine wp_region_held_drew (S := fun w' => w'.cell? ⟨p, 0, none⟩ = some (.pointer (some ⟨A, 0, none⟩)) ∧ w'.cell? ⟨c, 0, none⟩ = some (.string nm) ∧ w'.cell? ⟨r, 0, none⟩ = some (.string to_) ∧ w'.cell? ⟨A, 0, none⟩ = some (.pointer (some ⟨X, 0, none⟩))) (by kernel_rfl) ⟨cp, cc, cr, hc0⟩ (fun hHeld => ?_)
  clear hc0 cp cc cr
  have HB0 : Hid (Below w.heap.size w w.drew) := (Below.refl _ _).drew
  generalize World.drew _ = W at *
  refine wpAnyH_take (i := 0) (v := ?_) opAt_0 (by kernel_rfl) (by kernel_rfl) (by kernel_rfl) (fun _ _ _ h => h) (Or.inl ⟨by rfl, ?_⟩) hHeld ?_
  rotate_left
  · (intro w' hSw; obtain ⟨k0, k1, k2, k3⟩ := hSw; go_simp; try with_reducible rfl)
  try simp only [Act.put, List.setIfInBounds_toArray, List.set_cons_zero, List.set_cons_succ]
  refine wpAnyH_take (i := 1) (v := ?_) opAt_1 (by kernel_rfl) (by kernel_rfl) (by kernel_rfl) (fun _ _ _ h => h) (Or.inl ⟨by rfl, ?_⟩) hHeld ?_
  rotate_left
  · (intro w' hSw; obtain ⟨k0, k1, k2, k3⟩ := hSw; go_simp; try with_reducible rfl)
  try simp only [Act.put, List.setIfInBounds_toArray, List.set_cons_zero, List.set_cons_succ]
  refine wpAnyH_take (i := 2) (v := ?_) opAt_2 (by kernel_rfl) (by kernel_rfl) (by kernel_rfl) (fun _ _ _ h => h) (Or.inl ⟨by rfl, ?_⟩) hHeld ?_
  rotate_left
  · (intro w' hSw; obtain ⟨k0, k1, k2, k3⟩ := hSw; go_simp; try with_reducible rfl)
  try simp only [Act.put, List.setIfInBounds_toArray, List.set_cons_zero, List.set_cons_succ]
  refine wpAnyH_take (i := 3) (v := ?_) opAt_3 (by kernel_rfl) (by kernel_rfl) (by kernel_rfl) (fun _ _ _ h => h) (Or.inl ⟨by rfl, ?_⟩) hHeld ?_
  rotate_left
  · (intro w' hSw; obtain ⟨k0, k1, k2, k3⟩ := hSw; go_simp; try with_reducible rfl)
  try simp only [Act.put, List.setIfInBounds_toArray, List.set_cons_zero, List.set_cons_succ]
  refine wpAnyH_take (i := 4) (v := ?_) opAt_4 (by kernel_rfl) (by kernel_rfl) (by kernel_rfl) (fun _ _ _ h => h) (Or.inl ⟨by rfl, ?_⟩) hHeld ?_
  rotate_left
  · (intro w' hSw; obtain ⟨k0, k1, k2, k3⟩ := hSw; go_simp; try with_reducible rfl)
  try simp only [Act.put, List.setIfInBounds_toArray, List.set_cons_zero, List.set_cons_succ]
  refine wpAnyH_take (i := 5) (v := ?_) opAt_5 (by kernel_rfl) (by kernel_rfl) (by kernel_rfl) (fun _ _ _ h => h) (Or.inl ⟨by rfl, ?_⟩) hHeld ?_
  rotate_left
  · (intro w' hSw; obtain ⟨k0, k1, k2, k3⟩ := hSw; go_simp; try with_reducible rfl)
  try simp only [Act.put, List.setIfInBounds_toArray, List.set_cons_zero, List.set_cons_succ]
  refine wpAnyH_ready (rs := [6]) (by kernel_rfl) (by simp) ?_
  refine AllReadyH.cons rfl (fun K hK => ?_) AllReadyH.nil
  go_simp
  refine (HS.out _ HaD.out).mono ?_
  rintro e w1 ⟨rfl, hm⟩
  have HF := Lib.hid (FsM.dir_mut HaD.out Hn.out.1 Hn.out.2.1 Hn.out.2.2 hm (Hd.out ▸ live_rename s.dir nm to_).2 (Hd.out ▸ live_rename s.dir nm to_).1)
  have hk : w1.cell? ⟨p, 0, none⟩ = some (.pointer (some ⟨A, 0, none⟩)) ∧ w1.cell? ⟨c, 0, none⟩ = some (.string nm) ∧ w1.cell? ⟨r, 0, none⟩ = some (.string to_) ∧ w1.cell? ⟨A, 0, none⟩ = some (.pointer (some ⟨X, 0, none⟩)) := ⟨cell_keep hm.choose_spec.choose_spec.2.1 (fun e => hp (Ha.out.mX _ e)) hHeld.1, cell_keep hm.choose_spec.choose_spec.2.1 (fun e => hc (Ha.out.mX _ e)) hHeld.2.1, cell_keep hm.choose_spec.choose_spec.2.1 (fun e => hr (Ha.out.mX _ e)) hHeld.2.2.1, cell_keep hm.choose_spec.choose_spec.2.1 Ha.out.xA hHeld.2.2.2⟩
  clear hm
  try go_wp2_with fail
  refine hK.out _ _ hk (fun hHeld => ?_)
  clear hK K
  try simp only [Act.put, List.setIfInBounds_toArray, List.set_cons_zero, List.set_cons_succ]
  refine wpAnyH_take (i := 7) (v := ?_) opAt_7 (by kernel_rfl) (by kernel_rfl) (by kernel_rfl) (fun _ _ _ h => h) (Or.inl ⟨by rfl, ?_⟩) hHeld ?_
  rotate_left
  · (intro w' hSw; obtain ⟨k0, k1, k2, k3⟩ := hSw; go_simp; try with_reducible rfl)
  try simp only [Act.put, List.setIfInBounds_toArray, List.set_cons_zero, List.set_cons_succ]
  refine wpAnyH_done (by kernel_rfl) ?_ _
  refine NoPanic.normal ?_
  go_wp2_with fail
  go_ret
  obtain ⟨M', R', k1, k2, k3, k4⟩ := HF.out
  exact ⟨rfl, FsMut.after (Chg.of_below (M := M) HB0.out) (fun _ => .inl) (fun _ => .inl) ⟨M', R', k1, k2, k3, k4⟩⟩
set_option maxRecDepth 100000 in
set_option maxHeartbeats 4000000 in
theorem kremove1 {nm : ByteArray} (hnm : nm.size ≤ maxLen) (h : FsM w A u M R s) (hf : FInv s q T) (hq : q ≤ 200) (hp : ¬ M p) (cp : w.cell? ⟨p, 0, none⟩ = some (.pointer (some ⟨A, 0, none⟩))) (hc : ¬ M c) (cc : w.cell? ⟨c, 0, none⟩ = some (.string nm)) :
    Calls Tryz.prog 66 #[.pointer (some ⟨p, 0, none⟩), .pointer (some ⟨c, 0, none⟩)] w fun e w' => e = .returned (.int .i64 ((removeK nm s).1 : Int)) ∧ FsMut w w' A u M R (removeK nm s).2 := by
  obtain ⟨X, B, n, hv, K, g, MX, MF, ha, hn1, hn2, hn3, _, _⟩ := h.kfacts hf
  obtain ⟨d1, hd1⟩ : ∃ d1, d1 = removeP s.dir nm := ⟨_, rfl⟩
  have hK1 : removeK nm s = (d1.1, { s with dir := d1.2 }) := by rw [hd1]; rfl
  rw [hK1]
  have hfew : s.dir.safe.length + s.dir.deeds.length < 100000 := by have := hf.few; unfold PSt.big at this; omega
  have HS : Hid (∀ w1, FsAt w1 A X B n u hv K g MX MF M R s → Calls Tryz.prog 67 #[.pointer (some ⟨X, 0, none⟩), .string nm] w1 fun e w' => e = .returned (.int .i64 (d1.1 : Int)) ∧ HMut w1 w' X MX R d1.2) := fun w1 h1 => by rw [hd1]; exact hremove h1.dir hfew nm (by unfold maxLen at hnm; omega)
  have Ha := Lib.hid ha
  have HaD := Lib.hid ha.drew
  have Hn := Lib.hid (show n ≤ s.dir.last + 1 ∧ (∀ i, i ∈ K → i ≤ s.dir.last) ∧ (∀ i, i ∈ s.dir.live → i ∈ K) from ⟨hn1, hn2, hn3⟩)
  have hc0 := ha.cells.c0
  have Hd := Lib.hid hd1
  clear h ha hf hn1 hn2 hn3 hd1 hK1 hfew
  go_enter Tryz.func66, Tryz.ntmps66
  go_wp2_with fail
  refine wp_region_noPanic ?_
  refine wp_region_held_drew (S := fun w' => w'.cell? ⟨p, 0, none⟩ = some (.pointer (some ⟨A, 0, none⟩)) ∧ w'.cell? ⟨c, 0, none⟩ = some (.string nm) ∧ w'.cell? ⟨A, 0, none⟩ = some (.pointer (some ⟨X, 0, none⟩))) (by kernel_rfl) ⟨cp, cc, hc0⟩ (fun hHeld => ?_)
  clear hc0 cp cc
  have HB0 : Hid (Below w.heap.size w w.drew) := (Below.refl _ _).drew
  generalize World.drew _ = W at *
  refine wpAnyH_take (i := 0) (v := ?_) opAt_0 (by kernel_rfl) (by kernel_rfl) (by kernel_rfl) (fun _ _ _ h => h) (Or.inl ⟨by rfl, ?_⟩) hHeld ?_
  rotate_left
  · (intro w' hSw; obtain ⟨k0, k1, k2⟩ := hSw; go_simp; try with_reducible rfl)
  try simp only [Act.put, List.setIfInBounds_toArray, List.set_cons_zero, List.set_cons_succ]
  refine wpAnyH_take (i := 1) (v := ?_) opAt_1 (by kernel_rfl) (by kernel_rfl) (by kernel_rfl) (fun _ _ _ h => h) (Or.inl ⟨by rfl, ?_⟩) hHeld ?_
  rotate_left
  · (intro w' hSw; obtain ⟨k0, k1, k2⟩ := hSw; go_simp; try with_reducible rfl)
  try simp only [Act.put, List.setIfInBounds_toArray, List.set_cons_zero, List.set_cons_succ]
  refine wpAnyH_take (i := 2) (v := ?_) opAt_2 (by kernel_rfl) (by kernel_rfl) (by kernel_rfl) (fun _ _ _ h => h) (Or.inl ⟨by rfl, ?_⟩) hHeld ?_
  rotate_left
  · (intro w' hSw; obtain ⟨k0, k1, k2⟩ := hSw; go_simp; try with_reducible rfl)
  try simp only [Act.put, List.setIfInBounds_toArray, List.set_cons_zero, List.set_cons_succ]
  refine wpAnyH_take (i := 3) (v := ?_) opAt_3 (by kernel_rfl) (by kernel_rfl) (by kernel_rfl) (fun _ _ _ h => h) (Or.inl ⟨by rfl, ?_⟩) hHeld ?_
  rotate_left
  · (intro w' hSw; obtain ⟨k0, k1, k2⟩ := hSw; go_simp; try with_reducible rfl)
  try simp only [Act.put, List.setIfInBounds_toArray, List.set_cons_zero, List.set_cons_succ]
  refine wpAnyH_take (i := 4) (v := ?_) opAt_4 (by kernel_rfl) (by kernel_rfl) (by kernel_rfl) (fun _ _ _ h => h) (Or.inl ⟨by rfl, ?_⟩) hHeld ?_
  rotate_left
  · (intro w' hSw; obtain ⟨k0, k1, k2⟩ := hSw; go_simp; try with_reducible rfl)
  try simp only [Act.put, List.setIfInBounds_toArray, List.set_cons_zero, List.set_cons_succ]
  refine wpAnyH_ready (rs := [5]) (by kernel_rfl) (by simp) ?_
  refine AllReadyH.cons rfl (fun K hK => ?_) AllReadyH.nil
  go_simp
  refine (HS.out _ HaD.out).mono ?_
  rintro e w1 ⟨rfl, hm⟩
  have HF := Lib.hid (FsM.dir_mut HaD.out Hn.out.1 Hn.out.2.1 Hn.out.2.2 hm (Hd.out ▸ live_remove s.dir nm).2 (Hd.out ▸ live_remove s.dir nm).1)
  have hk : w1.cell? ⟨p, 0, none⟩ = some (.pointer (some ⟨A, 0, none⟩)) ∧ w1.cell? ⟨c, 0, none⟩ = some (.string nm) ∧ w1.cell? ⟨A, 0, none⟩ = some (.pointer (some ⟨X, 0, none⟩)) := ⟨cell_keep hm.choose_spec.choose_spec.2.1 (fun e => hp (Ha.out.mX _ e)) hHeld.1, cell_keep hm.choose_spec.choose_spec.2.1 (fun e => hc (Ha.out.mX _ e)) hHeld.2.1, cell_keep hm.choose_spec.choose_spec.2.1 Ha.out.xA hHeld.2.2⟩
  clear hm
  try go_wp2_with fail
  refine hK.out _ _ hk (fun hHeld => ?_)
  clear hK K
  try simp only [Act.put, List.setIfInBounds_toArray, List.set_cons_zero, List.set_cons_succ]
  refine wpAnyH_take (i := 6) (v := ?_) opAt_6 (by kernel_rfl) (by kernel_rfl) (by kernel_rfl) (fun _ _ _ h => h) (Or.inl ⟨by rfl, ?_⟩) hHeld ?_
  rotate_left
  · (intro w' hSw; obtain ⟨k0, k1, k2⟩ := hSw; go_simp; try with_reducible rfl)
  try simp only [Act.put, List.setIfInBounds_toArray, List.set_cons_zero, List.set_cons_succ]
  refine wpAnyH_done (by kernel_rfl) ?_ _
  refine NoPanic.normal ?_
  go_wp2_with fail
  go_ret
  obtain ⟨M', R', k1, k2, k3, k4⟩ := HF.out
  exact ⟨rfl, FsMut.after (Chg.of_below (M := M) HB0.out) (fun _ => .inl) (fun _ => .inl) ⟨M', R', k1, k2, k3, k4⟩⟩
set_option maxRecDepth 100000 in
set_option maxHeartbeats 4000000 in
theorem kcreate1 {nm : ByteArray} (hnm : nm.size ≤ maxLen) (h : FsM w A u M R s) (hf : FInv s q T) (hq : q ≤ 200) (hp : ¬ M p) (cp : w.cell? ⟨p, 0, none⟩ = some (.pointer (some ⟨A, 0, none⟩))) (hc : ¬ M c) (cc : w.cell? ⟨c, 0, none⟩ = some (.string nm)) :
    Calls Tryz.prog 33 #[.pointer (some ⟨p, 0, none⟩), .pointer (some ⟨c, 0, none⟩)] w fun e w' => e = .returned (.int .i64 ((createK nm s).1 : Int)) ∧ FsMut w w' A u M R (createK nm s).2 := by
  obtain ⟨X, B, n, hv, K, g, MX, MF, ha, hn1, hn2, hn3, _, _⟩ := h.kfacts hf
  have hfew : s.dir.safe.length + s.dir.deeds.length < 100000 := by have := hf.few; unfold PSt.big at this; omega
  have hla : s.dir.last ≤ 200 := Nat.le_trans hf.last hq
  have HS0 : Hid (∀ w1, FsAt w1 A X B n u hv K g MX MF M R s → Calls Tryz.prog 34 #[.pointer (some ⟨X, 0, none⟩), .string nm] w1 fun e w' => e = .returned (.tuple #[.int .u64 ((createP s.dir nm).1 : Int), .int .i64 ((createP s.dir nm).2.1 : Int)]) ∧ HMut w1 w' X MX R (createP s.dir nm).2.2) :=
    fun w1 h1 => hcreate h1.dir hfew (by omega) nm (by unfold maxLen at hnm; omega)
  have Ha := Lib.hid ha
  have HaD := Lib.hid ha.drew
  have Hn := Lib.hid (show n ≤ s.dir.last + 1 ∧ (∀ i, i ∈ K → i ≤ s.dir.last) ∧ (∀ i, i ∈ s.dir.live → i ∈ K) from ⟨hn1, hn2, hn3⟩)
  have hc0 := ha.cells.c0
  have Hset := Lib.hid hf.dir.settled
  have hpl := fblock_of_cell cp
  clear h ha hf hn2 hn3 hfew
  have HB0 : Hid (Below w.heap.size w w.drew) := (Below.refl _ _).drew
  have HSz : Hid (w.drew.heap.size = w.heap.size) := rfl
  rcases createP_told s.dir nm with ⟨cd, hcr, hcd⟩ | hcr
  · have hK1 : createK nm s = (cd, s) := by unfold createK; rw [hcr]; simp [hcd]
    rw [hK1]
    rw [hcr] at HS0
    have HS : Hid (∀ w1, FsAt w1 A X B n u hv K g MX MF M R s → Calls Tryz.prog 34 #[.pointer (some ⟨X, 0, none⟩), .string nm] w1 fun e w' => e = .returned (.tuple #[.int .u64 0, .int .i64 (cd : Int)]) ∧ HMut w1 w' X MX R s.dir) := HS0.out
    have hcd2 : decide ((cd : Int) = 0) = false := decide_eq_false (by omega)
    clear hcr hK1 HS0
    go_enter Tryz.func33, Tryz.ntmps33
    go_wp2_with fail
    refine wp_region_noPanic ?_
    refine wp_region_held_drew (S := fun w' => w'.cell? ⟨p, 0, none⟩ = some (.pointer (some ⟨A, 0, none⟩)) ∧ w'.cell? ⟨c, 0, none⟩ = some (.string nm) ∧ w'.cell? ⟨A, 0, none⟩ = some (.pointer (some ⟨X, 0, none⟩))) (by kernel_rfl) ⟨cp, cc, hc0⟩ (fun hHeld => ?_)
    clear hc0 cp cc
    generalize World.drew _ = W at *
    refine wpAnyH_take (i := 0) (v := ?_) opAt_0 (by kernel_rfl) (by kernel_rfl) (by kernel_rfl) (fun _ _ _ h => h) (Or.inl ⟨by rfl, ?_⟩) hHeld ?_
    rotate_left
    · (intro w' hSw; obtain ⟨k0, k1, k2⟩ := hSw; go_simp; try with_reducible rfl)
    try simp only [Act.put, List.setIfInBounds_toArray, List.set_cons_zero, List.set_cons_succ]
    refine wpAnyH_take (i := 1) (v := ?_) opAt_1 (by kernel_rfl) (by kernel_rfl) (by kernel_rfl) (fun _ _ _ h => h) (Or.inl ⟨by rfl, ?_⟩) hHeld ?_
    rotate_left
    · (intro w' hSw; obtain ⟨k0, k1, k2⟩ := hSw; go_simp; try with_reducible rfl)
    try simp only [Act.put, List.setIfInBounds_toArray, List.set_cons_zero, List.set_cons_succ]
    refine wpAnyH_take (i := 2) (v := ?_) opAt_2 (by kernel_rfl) (by kernel_rfl) (by kernel_rfl) (fun _ _ _ h => h) (Or.inl ⟨by rfl, ?_⟩) hHeld ?_
    rotate_left
    · (intro w' hSw; obtain ⟨k0, k1, k2⟩ := hSw; go_simp; try with_reducible rfl)
    try simp only [Act.put, List.setIfInBounds_toArray, List.set_cons_zero, List.set_cons_succ]
    refine wpAnyH_take (i := 3) (v := ?_) opAt_3 (by kernel_rfl) (by kernel_rfl) (by kernel_rfl) (fun _ _ _ h => h) (Or.inl ⟨by rfl, ?_⟩) hHeld ?_
    rotate_left
    · (intro w' hSw; obtain ⟨k0, k1, k2⟩ := hSw; go_simp; try with_reducible rfl)
    try simp only [Act.put, List.setIfInBounds_toArray, List.set_cons_zero, List.set_cons_succ]
    refine wpAnyH_take (i := 4) (v := ?_) opAt_4 (by kernel_rfl) (by kernel_rfl) (by kernel_rfl) (fun _ _ _ h => h) (Or.inl ⟨by rfl, ?_⟩) hHeld ?_
    rotate_left
    · (intro w' hSw; obtain ⟨k0, k1, k2⟩ := hSw; go_simp; try with_reducible rfl)
    try simp only [Act.put, List.setIfInBounds_toArray, List.set_cons_zero, List.set_cons_succ]
    refine wpAnyH_ready (rs := [5]) (by kernel_rfl) (by simp) ?_
    refine AllReadyH.cons rfl (fun K hK => ?_) AllReadyH.nil
    go_simp
    refine (HS.out _ HaD.out).mono ?_
    rintro e w1 ⟨rfl, hm⟩
    obtain ⟨MX', M', R', h3, h4, h5, h6⟩ := HaD.out.dir_mut hm
    have H3 := Lib.hid h3
    have H4 := Lib.hid h4
    have H5 := Lib.hid h5
    have H6 := Lib.hid h6
    have hk : w1.cell? ⟨p, 0, none⟩ = some (.pointer (some ⟨A, 0, none⟩)) ∧ w1.cell? ⟨c, 0, none⟩ = some (.string nm) ∧ w1.cell? ⟨A, 0, none⟩ = some (.pointer (some ⟨X, 0, none⟩)) := ⟨cell_keep h4 hp hHeld.1, cell_keep h4 hc hHeld.2.1, h3.cells.c0⟩
    clear hm h3 h4 h5 h6
    try go_wp2_with fail
    refine hK.out _ _ hk (fun hHeld => ?_)
    clear hK K
    try simp only [Act.put, List.setIfInBounds_toArray, List.set_cons_zero, List.set_cons_succ]
    refine wpAnyH_take (i := 6) (v := ?_) opAt_6 (by kernel_rfl) (by kernel_rfl) (by kernel_rfl) (fun _ _ _ h => h) (Or.inl ⟨by rfl, ?_⟩) hHeld ?_
    rotate_left
    · (intro w' hSw; obtain ⟨k0, k1, k2⟩ := hSw; go_simp; try with_reducible rfl)
    try simp only [Act.put, List.setIfInBounds_toArray, List.set_cons_zero, List.set_cons_succ]
    refine wpAnyH_take (i := 7) (v := ?_) opAt_7 (by kernel_rfl) (by kernel_rfl) (by kernel_rfl) (fun _ _ _ h => h) (Or.inl ⟨by rfl, ?_⟩) hHeld ?_
    rotate_left
    · (intro w' hSw; obtain ⟨k0, k1, k2⟩ := hSw; go_simp; try with_reducible rfl)
    try simp only [Act.put, List.setIfInBounds_toArray, List.set_cons_zero, List.set_cons_succ]
    refine wpAnyH_take (i := 8) (v := ?_) opAt_8 (by kernel_rfl) (by kernel_rfl) (by kernel_rfl) (fun _ _ _ h => h) (Or.inl ⟨by rfl, ?_⟩) hHeld ?_
    rotate_left
    · (intro w' hSw; obtain ⟨k0, k1, k2⟩ := hSw; go_simp; try with_reducible rfl)
    try simp only [Act.put, List.setIfInBounds_toArray, List.set_cons_zero, List.set_cons_succ]
    refine wpAnyH_take (i := 9) (v := ?_) opAt_9 (by kernel_rfl) (by kernel_rfl) (by kernel_rfl) (fun _ _ _ h => h) (Or.inl ⟨by rfl, ?_⟩) hHeld ?_
    rotate_left
    · (intro w' hSw; obtain ⟨k0, k1, k2⟩ := hSw; go_simp; try with_reducible rfl)
    try simp only [Act.put, List.setIfInBounds_toArray, List.set_cons_zero, List.set_cons_succ]
    refine wpAnyH_take (i := 10) (v := ?_) opAt_10 (by kernel_rfl) (by kernel_rfl) (by kernel_rfl) (fun _ _ _ h => h) (Or.inl ⟨by rfl, ?_⟩) hHeld ?_
    rotate_left
    · (intro w' hSw; obtain ⟨k0, k1, k2⟩ := hSw; go_simp; try with_reducible rfl)
    try simp only [Act.put, List.setIfInBounds_toArray, List.set_cons_zero, List.set_cons_succ]
    refine wpAnyH_done (by kernel_rfl) ?_ _
    refine NoPanic.normal ?_
    go_wp2_with fail
    go_ret
    exact ⟨rfl, M', R', ⟨X, B, n, hv, K, g, MX', MF, H3.out, Hn.out⟩, (Chg.of_below (M := M) HB0.out).trans H4.out (fun i e => .inl e), fun i e => (H5.out i e).imp id (fun e => HSz.out ▸ e), fun i e => (H6.out i e).imp id (fun e => HSz.out ▸ e)⟩
  · have hK1 : createK nm s = (0, { s with dir := s.dir.made nm, file := upd s.file (s.dir.last + 1) (FSt.new []) }) := by unfold createK; rw [hcr]; simp
    rw [hK1]
    rw [hcr] at HS0
    obtain ⟨l1, hl1⟩ : ∃ l1, l1 = s.dir.last + 1 := ⟨_, rfl⟩
    have HS : Hid (∀ w1, FsAt w1 A X B n u hv K g MX MF M R s → Calls Tryz.prog 34 #[.pointer (some ⟨X, 0, none⟩), .string nm] w1 fun e w' => e = .returned (.tuple #[.int .u64 (l1 : Int), .int .i64 0]) ∧ HMut w1 w' X MX R (s.dir.made nm)) := by rw [hl1]; exact HS0.out
    have hl2 : l1 ≤ 201 := by omega
    have Hl1 := Lib.hid hl1
    clear hl1
    clear hcr hK1 HS0
    go_enter Tryz.func33, Tryz.ntmps33
    go_wp2_with fail
    refine wp_region_noPanic ?_
    refine wp_region_held_drew (S := fun w' => w'.cell? ⟨p, 0, none⟩ = some (.pointer (some ⟨A, 0, none⟩)) ∧ w'.cell? ⟨c, 0, none⟩ = some (.string nm) ∧ w'.cell? ⟨A, 0, none⟩ = some (.pointer (some ⟨X, 0, none⟩))) (by kernel_rfl) ⟨cp, cc, hc0⟩ (fun hHeld => ?_)
    clear hc0 cp cc
    generalize World.drew _ = W at *
    refine wpAnyH_take (i := 0) (v := ?_) opAt_0 (by kernel_rfl) (by kernel_rfl) (by kernel_rfl) (fun _ _ _ h => h) (Or.inl ⟨by rfl, ?_⟩) hHeld ?_
    rotate_left
    · (intro w' hSw; obtain ⟨k0, k1, k2⟩ := hSw; go_simp; try with_reducible rfl)
    try simp only [Act.put, List.setIfInBounds_toArray, List.set_cons_zero, List.set_cons_succ]
    refine wpAnyH_take (i := 1) (v := ?_) opAt_1 (by kernel_rfl) (by kernel_rfl) (by kernel_rfl) (fun _ _ _ h => h) (Or.inl ⟨by rfl, ?_⟩) hHeld ?_
    rotate_left
    · (intro w' hSw; obtain ⟨k0, k1, k2⟩ := hSw; go_simp; try with_reducible rfl)
    try simp only [Act.put, List.setIfInBounds_toArray, List.set_cons_zero, List.set_cons_succ]
    refine wpAnyH_take (i := 2) (v := ?_) opAt_2 (by kernel_rfl) (by kernel_rfl) (by kernel_rfl) (fun _ _ _ h => h) (Or.inl ⟨by rfl, ?_⟩) hHeld ?_
    rotate_left
    · (intro w' hSw; obtain ⟨k0, k1, k2⟩ := hSw; go_simp; try with_reducible rfl)
    try simp only [Act.put, List.setIfInBounds_toArray, List.set_cons_zero, List.set_cons_succ]
    refine wpAnyH_take (i := 3) (v := ?_) opAt_3 (by kernel_rfl) (by kernel_rfl) (by kernel_rfl) (fun _ _ _ h => h) (Or.inl ⟨by rfl, ?_⟩) hHeld ?_
    rotate_left
    · (intro w' hSw; obtain ⟨k0, k1, k2⟩ := hSw; go_simp; try with_reducible rfl)
    try simp only [Act.put, List.setIfInBounds_toArray, List.set_cons_zero, List.set_cons_succ]
    refine wpAnyH_take (i := 4) (v := ?_) opAt_4 (by kernel_rfl) (by kernel_rfl) (by kernel_rfl) (fun _ _ _ h => h) (Or.inl ⟨by rfl, ?_⟩) hHeld ?_
    rotate_left
    · (intro w' hSw; obtain ⟨k0, k1, k2⟩ := hSw; go_simp; try with_reducible rfl)
    try simp only [Act.put, List.setIfInBounds_toArray, List.set_cons_zero, List.set_cons_succ]
    refine wpAnyH_ready (rs := [5]) (by kernel_rfl) (by simp) ?_
    refine AllReadyH.cons rfl (fun K hK => ?_) AllReadyH.nil
    go_simp
    refine (HS.out _ HaD.out).mono ?_
    rintro e w1 ⟨rfl, hm⟩
    obtain ⟨MX', M', R', h3, h4, h5, h6⟩ := HaD.out.dir_mut hm
    have H3 := Lib.hid h3
    have H4 := Lib.hid h4
    have H5 := Lib.hid h5
    have H6 := Lib.hid h6
    have hk : w1.cell? ⟨p, 0, none⟩ = some (.pointer (some ⟨A, 0, none⟩)) ∧ w1.cell? ⟨c, 0, none⟩ = some (.string nm) ∧ w1.cell? ⟨A, 0, none⟩ = some (.pointer (some ⟨X, 0, none⟩)) := ⟨cell_keep h4 hp hHeld.1, cell_keep h4 hc hHeld.2.1, h3.cells.c0⟩
    clear hm h3 h4 h5 h6
    try go_wp2_with fail
    refine hK.out _ _ hk (fun hHeld => ?_)
    clear hK K
    try simp only [Act.put, List.setIfInBounds_toArray, List.set_cons_zero, List.set_cons_succ]
    refine wpAnyH_take (i := 6) (v := ?_) opAt_6 (by kernel_rfl) (by kernel_rfl) (by kernel_rfl) (fun _ _ _ h => h) (Or.inl ⟨by rfl, ?_⟩) hHeld ?_
    rotate_left
    · (intro w' hSw; obtain ⟨k0, k1, k2⟩ := hSw; go_simp; try with_reducible rfl)
    try simp only [Act.put, List.setIfInBounds_toArray, List.set_cons_zero, List.set_cons_succ]
    refine wpAnyH_take (i := 7) (v := ?_) opAt_7 (by kernel_rfl) (by kernel_rfl) (by kernel_rfl) (fun _ _ _ h => h) (Or.inl ⟨by rfl, ?_⟩) hHeld ?_
    rotate_left
    · (intro w' hSw; obtain ⟨k0, k1, k2⟩ := hSw; go_simp; try with_reducible rfl)
    try simp only [Act.put, List.setIfInBounds_toArray, List.set_cons_zero, List.set_cons_succ]
    refine wpAnyH_take (i := 8) (v := ?_) opAt_8 (by kernel_rfl) (by kernel_rfl) (by kernel_rfl) (fun _ _ _ h => h) (Or.inl ⟨by rfl, ?_⟩) hHeld ?_
    rotate_left
    · (intro w' hSw; obtain ⟨k0, k1, k2⟩ := hSw; go_simp; try with_reducible rfl)
    try simp only [Act.put, List.setIfInBounds_toArray, List.set_cons_zero, List.set_cons_succ]
    refine wpAnyH_take (i := 9) (v := ?_) opAt_9 (by kernel_rfl) (by kernel_rfl) (by kernel_rfl) (fun _ _ _ h => h) (Or.inl ⟨by rfl, ?_⟩) hHeld ?_
    rotate_left
    · (intro w' hSw; obtain ⟨k0, k1, k2⟩ := hSw; go_simp; try with_reducible rfl)
    try simp only [Act.put, List.setIfInBounds_toArray, List.set_cons_zero, List.set_cons_succ]
    refine wpAnyH_take (i := 10) (v := ?_) opAt_10 (by kernel_rfl) (by kernel_rfl) (by kernel_rfl) (fun _ _ _ h => h) (Or.inl ⟨by rfl, ?_⟩) hHeld ?_
    rotate_left
    · (intro w' hSw; obtain ⟨k0, k1, k2⟩ := hSw; go_simp; try with_reducible rfl)
    try simp only [Act.put, List.setIfInBounds_toArray, List.set_cons_zero, List.set_cons_succ]
    refine wpAnyH_done (by kernel_rfl) ?_ _
    refine NoPanic.normal ?_
    go_wp2_with fail
    have HD3 := Lib.hid H3.out.drew
    have hAc := H3.out.cells.c1
    have hAB := H3.out.ab
    have hkk := hHeld.1
    refine wp_region_noPanic ?_
    refine wp_region_held_drew (S := fun w' => w'.cell? ⟨p, 0, none⟩ = some (.pointer (some ⟨A, 0, none⟩)) ∧ w'.cell? ⟨A, 1, none⟩ = some (.map (some B))) (by kernel_rfl) ⟨hkk, hAc⟩ (fun hHeld => ?_)
    clear hAc hkk
    have HS3 : Hid (w1.drew.heap.size = w1.heap.size) := rfl
    have HG3 : Hid (Chg M w w1.drew) := ((Chg.of_below (M := M) HB0.out).trans H4.out (fun i e => .inl e)).drew
    generalize World.drew _ = W3 at *
    refine wpAnyH_take (i := 0) (v := ?_) opAt_0 (by kernel_rfl) (by kernel_rfl) (by kernel_rfl) (fun _ _ _ h => h) (Or.inl ⟨by rfl, ?_⟩) hHeld ?_
    rotate_left
    · (intro w' hSw; obtain ⟨k0, k1⟩ := hSw; go_simp; try with_reducible rfl)
    try simp only [Act.put, List.setIfInBounds_toArray, List.set_cons_zero, List.set_cons_succ]
    refine wpAnyH_take (i := 1) (v := ?_) opAt_1 (by kernel_rfl) (by kernel_rfl) (by kernel_rfl) (fun _ _ _ h => h) (Or.inl ⟨by rfl, ?_⟩) hHeld ?_
    rotate_left
    · (intro w' hSw; obtain ⟨k0, k1⟩ := hSw; go_simp; try with_reducible rfl)
    try simp only [Act.put, List.setIfInBounds_toArray, List.set_cons_zero, List.set_cons_succ]
    refine wpAnyH_take (i := 2) (v := ?_) opAt_2 (by kernel_rfl) (by kernel_rfl) (by kernel_rfl) (fun _ _ _ h => h) (Or.inl ⟨by rfl, ?_⟩) hHeld ?_
    rotate_left
    · (intro w' hSw; obtain ⟨k0, k1⟩ := hSw; go_simp; try with_reducible rfl)
    try simp only [Act.put, List.setIfInBounds_toArray, List.set_cons_zero, List.set_cons_succ]
    refine wpAnyH_take (i := 3) (v := ?_) opAt_3 (by kernel_rfl) (by kernel_rfl) (by kernel_rfl) (fun _ _ _ h => h) (Or.inl ⟨by rfl, ?_⟩) hHeld ?_
    rotate_left
    · (intro w' hSw; obtain ⟨k0, k1⟩ := hSw; go_simp; try with_reducible rfl)
    try simp only [Act.put, List.setIfInBounds_toArray, List.set_cons_zero, List.set_cons_succ]
    refine wpAnyH_take (i := 4) (v := ?_) opAt_4 (by kernel_rfl) (by kernel_rfl) (by kernel_rfl) (fun _ _ _ h => h) (Or.inl ⟨by rfl, ?_⟩) hHeld ?_
    rotate_left
    · (intro w' hSw; obtain ⟨k0, k1⟩ := hSw; go_simp; try with_reducible rfl)
    try simp only [Act.put, List.setIfInBounds_toArray, List.set_cons_zero, List.set_cons_succ]
    refine wpAnyH_ready (rs := [5]) (by kernel_rfl) (by simp) ?_
    refine AllReadyH.cons rfl (fun K hK => ?_) AllReadyH.nil
    go_simp
    refine (fnew_b (B := 0) Bs.none_ (Nat.zero_le _) (by simp)).mono ?_
    rintro e w4 ⟨F, M1, rfl, hfm, hb4, hM1⟩
    have HB4 := Lib.hid hb4
    have HFm := Lib.hid hfm
    have HM1 := Lib.hid hM1
    have hk4 : w4.cell? ⟨p, 0, none⟩ = some (.pointer (some ⟨A, 0, none⟩)) ∧ w4.cell? ⟨A, 1, none⟩ = some (.map (some B)) := ⟨(hb4.cell (p := ⟨p, 0, none⟩) (fblock_of_cell hHeld.1)).trans hHeld.1, (hb4.cell (p := ⟨A, 1, none⟩) (fblock_of_cell hHeld.2)).trans hHeld.2⟩
    obtain ⟨w5, hrun, hmu5, ht5⟩ := (HD3.out.map.on HB4.out).store (by omega) (show l1 < 1000000000 by omega) F
    have hc5 := Chg.of_turned ht5
    have HC5 := Lib.hid hc5
    have HMU := Lib.hid hmu5
    have hAB := H3.out.ab
    have hk5 : w5.cell? ⟨p, 0, none⟩ = some (.pointer (some ⟨A, 0, none⟩)) ∧ w5.cell? ⟨A, 1, none⟩ = some (.map (some B)) := ⟨cell_keep hc5 (fun e => hp (by rw [show p = B from e]; exact Ha.out.mB)) hk4.1, cell_keep hc5 hAB hk4.2⟩
    clear hb4 hfm hM1 hmu5 ht5 hc5
    try go_wp2_with fail
    refine hK.out _ _ hk4 (fun hHeld => ?_)
    clear hK K
    try simp only [Act.put, List.setIfInBounds_toArray, List.set_cons_zero, List.set_cons_succ]
    refine wpAnyH_ready (rs := [6]) (by kernel_rfl) (by simp) ?_
    refine AllReadyH.cons rfl (fun K hK => ?_) AllReadyH.nil
    go_simp
    refine hK.out _ _ hk5 (fun hHeld => ?_)
    clear hK K
    try simp only [Act.put, List.setIfInBounds_toArray, List.set_cons_zero, List.set_cons_succ]
    refine wpAnyH_done (by kernel_rfl) ?_ _
    refine NoPanic.normal ?_
    go_wp2_with fail
    go_ret
    have h9 := HD3.out.add HB4.out HFm.out (fun _ e => e.elim) HM1.out HMU.out HC5.out (show l1 < 1000000000 by omega)
    have h10 : FsAt w5 A X B (n + 1) u hv (l1 :: K) (updN g l1 F) MX' (fun k => if k = l1 then M1 else MF k) (fun j => M' j ∨ M1 j) R' { s with dir := s.dir.made nm, file := upd s.file (s.dir.last + 1) (FSt.new []) } := by rw [← Hl1.out]; exact h9
    refine ⟨rfl, _, R', ⟨X, B, n + 1, hv, l1 :: K, updN g l1 F, MX', _, h10, ?_, ?_, ?_⟩, (HG3.out.trans (Chg.of_below (M := fun _ => False) HB4.out) (fun i e => e.elim)).trans HC5.out (fun i e => .inl (e ▸ Ha.out.mB)), ?_, fun i e => (H6.out i e).imp id (fun e => HSz.out ▸ e)⟩
    · show n + 1 ≤ s.dir.last + 1 + 1
      omega
    · intro i hi
      show i ≤ s.dir.last + 1
      have := Hl1.out
      rcases List.mem_cons.1 hi with rfl | hi
      · omega
      · have := Hn.out.2.1 i hi; omega
    · intro i hi
      rcases live_made Hset.out nm i hi with h8 | h8
      · exact List.mem_cons_of_mem _ (Hn.out.2.2 i h8)
      · exact List.mem_cons.2 (.inl (h8.trans Hl1.out.symm))
    · rintro i (e | e)
      · exact (H5.out i e).imp id (fun e => HSz.out ▸ e)
      · have h7 := HM1.out i e
        have := HG3.out.size
        exact .inr (by omega)
end
end Go.Proofs.YtboeiadfmknidaaGreat

/-
  Layer 7: a step of the file of a name.
-/
set_option linter.unusedVariables false
set_option linter.unusedSimpArgs false
namespace Go.Proofs.YtboeiadfmknidaaGreat
open Go.RowKit Go.Maps

section
variable {w w' : World} {A u q T p c r : Nat} {M R N : Nat → Prop} {s : FsP} {nm : ByteArray} {dg : Nat} {dcap : Array Value} {k : FSt → Nat × FSt}
theorem FsM.file_mut {X B n i : Nat} {hv : Value} {K : List Nat} {g : Nat → Nat} {MX : Nat → Prop} {MF : Nat → Nat → Prop} (h : FsAt w A X B n u hv K g MX MF M R s) (hn : n ≤ s.dir.last + 1 ∧ (∀ i, i ∈ K → i ≤ s.dir.last) ∧ (∀ i, i ∈ s.dir.live → i ∈ K)) (hi : i ∈ K) {t : FSt} (hm : Mut w w' (g i) (MF i) R t) :
    FsMut w w' A u M R { s with file := upd s.file i t } := by
  obtain ⟨MF', M', R', h3, h4, h5, h6⟩ := h.file_mut hi hm
  exact ⟨M', R', ⟨X, B, n, hv, K, g, MX, MF', h3, hn⟩, h4, h5, h6⟩
theorem nodeF_ne_cases (h : (nodeF s nm).1 ≠ 0) : onF s nm k = ((nodeF s nm).1, s) := by unfold onF; rw [if_neg h]
set_option maxRecDepth 100000 in
set_option maxHeartbeats 4000000 in
theorem kstepof1 (hnm : nm.size ≤ maxLen) (h : FsM w A u M R s) (hf : FInv s q T) (ho : s.off = false) (hp : ¬ M p) (cp : w.cell? ⟨p, 0, none⟩ = some (.pointer (some ⟨A, 0, none⟩))) (hc : ¬ M c) (cc : w.cell? ⟨c, 0, none⟩ = some (.string nm)) (cr : w.cell? ⟨r, 0, none⟩ = some (.func (.func dg) #[] dcap))
    (hen : ∀ args w', (callFunc dg args).run Tryz.prog w' = .ok (.enter dg args) w')
    (hdo : ∀ w1, Below w.heap.size w w1 → ∀ X B n hv K g MX MF i, FsAt w1 A X B n u hv K g MX MF M R s → i ∈ K → i ≤ s.dir.last → Calls Tryz.prog dg (#[.pointer (some ⟨g i, 0, none⟩)] ++ dcap) w1 fun e w' => e = .returned (.int .i64 ((k (s.file i)).1 : Int)) ∧ Mut w1 w' (g i) (MF i) R (k (s.file i)).2) :
    Calls Tryz.prog 73 #[.pointer (some ⟨p, 0, none⟩), .pointer (some ⟨c, 0, none⟩), .pointer (some ⟨r, 0, none⟩)] w fun e w' => e = .returned (.int .i64 ((onF s nm k).1 : Int)) ∧ FsMut w w' A u M R (onF s nm k).2 := by
  obtain ⟨X, B, n, hv, K, g, MX, MF, ha, hn1, hn2, hn3, hn4, _⟩ := h.kfacts hf
  have HF := Lib.hid (kfind ha hn4 ho hnm)
  have Ha := Lib.hid ha
  have Hn := Lib.hid (show n ≤ s.dir.last + 1 ∧ (∀ i, i ∈ K → i ≤ s.dir.last) ∧ (∀ i, i ∈ s.dir.live → i ∈ K) from ⟨hn1, hn2, hn3⟩)
  have HD := Lib.hid hdo
  have Hn4 := Lib.hid hn4
  have HM := Lib.hid h
  clear ha h hf hn1 hn2 hn3 hn4 hdo ho
  by_cases h0 : (nodeF s nm).1 = 0
  · have hK : onF s nm k = ((k (s.file (nodeF s nm).2)).1, { s with file := upd s.file (nodeF s nm).2 (k (s.file (nodeF s nm).2)).2 }) := by unfold onF; rw [if_pos h0]
    have hfin : findL s.dir.now nm = some (nodeF s nm).2 := by
      unfold nodeF at h0 ⊢
      split
      · rename_i h1; rw [if_pos h1] at h0; cases h0
      · rename_i h1
        rw [if_neg h1] at h0
        cases hf2 : findL s.dir.now nm with
        | none => rw [hf2] at h0; cases h0
        | some m => rfl
    rw [hK]
    rw [h0] at HF
    simp only [if_true] at HF
    generalize (nodeF s nm).2 = i at *
    have hiK : i ∈ K := Hn4.out _ (findL_mem hfin)
    have HD1 : Hid (∀ w1, Below w.heap.size w w1 → Calls Tryz.prog dg (#[.pointer (some ⟨g i, 0, none⟩)] ++ dcap) w1 fun e w' => e = .returned (.int .i64 ((k (s.file i)).1 : Int)) ∧ Mut w1 w' (g i) (MF i) R (k (s.file i)).2) := fun w1 hb => HD.out w1 hb X B n hv K g MX MF i (Ha.out.on hb) hiK (Hn.out.2.1 i hiK)
    obtain ⟨kk, hkk⟩ : ∃ kk, kk = k (s.file i) := ⟨_, rfl⟩
    rw [← hkk] at HD1 ⊢
    obtain ⟨Fi, hFi⟩ : ∃ Fi, Fi = g i := ⟨_, rfl⟩
    rw [← hFi] at HD1 HF
    have HFi := Lib.hid hFi
    clear hK h0 HD hkk hFi hfin
    go_enter Tryz.func73, Tryz.ntmps73
    go_wp2_with fail
    refine HF.out.mono ?_
    rintro e w1 ⟨rfl, hb1⟩
    have cr1 := (hb1.cell (p := ⟨r, 0, none⟩) (fblock_of_cell cr)).trans cr
    have HB1 := Lib.hid hb1
    have Ha1 := Lib.hid (Ha.out.on hb1)
    clear hb1 cr cp cc
    go_wp2_with fail
    refine (HD1.out w1 HB1.out).mono ?_
    rintro e w2 ⟨rfl, hm⟩
    have HM2 : Hid (FsMut w w2 A u M R { s with file := upd s.file i kk.2 }) := (FsM.file_mut Ha1.out Hn.out hiK (HFi.out ▸ hm)).after (Chg.of_below HB1.out) (fun _ => .inl) (fun _ => .inl)
    clear hm cr1
    go_wp2_with fail
    go_ret
    exact ⟨rfl, HM2.out⟩
  · rw [nodeF_ne_cases h0]
    rw [if_neg h0] at HF
    generalize (nodeF s nm).1 = cd at *
    have hcd2 : decide ((cd : Int) = 0) = false := decide_eq_false (by omega)
    go_enter Tryz.func73, Tryz.ntmps73
    go_wp2_with fail
    refine HF.out.mono ?_
    rintro e w1 ⟨rfl, hb1⟩
    have HB1 := Lib.hid hb1
    clear hb1 cr cp cc
    go_wp2_with fail
    go_ret
    exact ⟨rfl, FsMut.of_below HM.out HB1.out⟩
theorem beginF_on (h : (beginF s).1 = 0) : (beginF s).2.off = false := by
  unfold beginF at h ⊢
  split
  · rename_i h1; rw [if_pos h1] at h; cases h
  · rename_i h1
    rw [if_neg h1] at h
    split
    · rename_i h2; rw [if_pos h2] at h; cases h
    · simpa using h1
theorem beginF_used (s : FsP) : (beginF s).2.used = s.used := by unfold FsP.used; rw [(beginF_is s).1, (beginF_is s).2.1]
theorem box_new (w : World) (v : Value) (t : TypeId) (n : Nat) (hn : n = w.heap.size) : (w.alloc (.cells #[v] t)).cell? ⟨n, 0, none⟩ = some v := by subst hn; simp
theorem cell_al {w : World} {b o : Nat} {v : Value} (h : w.cell? ⟨b, o, none⟩ = some v) (ob : Obj) : (w.alloc ob).cell? ⟨b, o, none⟩ = some v := (World.cell?_alloc_lt w ob _ (fblock_of_cell h)).trans h
theorem ssR_one {W : World} {b : Nat} {nm : ByteArray} (h : W.cell? ⟨b, 0, none⟩ = some (.string nm)) : SsR W (fun i => i = b) (.slice (some ⟨b, 0, none⟩) 1 1) [nm] :=
  ⟨_, 1, rfl, Nat.le_refl _, by unfold maxLen; omega, fun _ => ⟨b, 0, rfl, rfl, fun j u hu => by
    rcases j with _ | j
    · simp [svs] at hu; subst hu; simpa using h
    · simp [svs] at hu⟩⟩
set_option maxRecDepth 100000 in
set_option maxHeartbeats 4000000 in
theorem kstepOf (hnm : nm.size ≤ maxLen) (h : FsM w A s.used M R s) (hf : FInv s q T) (hT : T ≤ 100000) (hst : s.steps + 1 ≤ 1000000)
    (hen : ∀ args w', (callFunc dg args).run Tryz.prog w' = .ok (.enter dg args) w') (hk : ∀ t : FSt, t.Ok → (k t).2.Ok ∧ (k t).2.big ≤ t.big + 100)
    (hdo : (beginF s).1 = 0 → ∀ w1, Chg (fun i => i = A) w w1 → ∀ X B n hv K g MX MF i, FsAt w1 A X B n s.used hv K g MX MF M R (beginF s).2 → i ∈ K → (s.file i).big ≤ T → Calls Tryz.prog dg (#[.pointer (some ⟨g i, 0, none⟩)] ++ dcap) w1 fun e w' => e = .returned (.int .i64 ((k (s.file i)).1 : Int)) ∧ Mut w1 w' (g i) (MF i) R (k (s.file i)).2) :
    Calls Tryz.prog 36 #[.pointer (some ⟨A, 0, none⟩), .string nm, .func (.func dg) #[] dcap] w fun e w' => e = .returned (.int .i64 ((stepF s fun s => onF s nm k).1 : Int)) ∧ FsMut w w' A (stepF s fun s => onF s nm k).2.used M R (stepF s fun s => onF s nm k).2 := by
  obtain ⟨W, hW⟩ : ∃ W, W = ((((w.alloc (.cells #[.pointer (some ⟨A, 0, none⟩)] 25)).alloc (.cells #[.string nm] 9)).alloc (.cells #[.func (.func dg) #[] dcap] 71)).alloc (.cells #[.string nm] 9)) := ⟨_, rfl⟩
  have hb : Below w.heap.size w W := by rw [hW]; exact ((((Below.refl _ _).alloc (Nat.le_refl _) _).alloc (by simp) _).alloc (by simp; omega) _).alloc (by simp; omega) _
  have c0 : W.cell? ⟨w.heap.size, 0, none⟩ = some (.pointer (some ⟨A, 0, none⟩)) := by rw [hW]; exact cell_al (cell_al (cell_al (box_new _ _ _ _ rfl) _) _) _
  have c1 : W.cell? ⟨w.heap.size + 1, 0, none⟩ = some (.string nm) := by rw [hW]; exact cell_al (cell_al (box_new _ _ _ _ (by simp)) _) _
  have c2 : W.cell? ⟨w.heap.size + 1 + 1, 0, none⟩ = some (.func (.func dg) #[] dcap) := by rw [hW]; exact cell_al (box_new _ _ _ _ (by simp)) _
  have c3 : W.cell? ⟨w.heap.size + 1 + 1 + 1, 0, none⟩ = some (.string nm) := by rw [hW]; exact box_new _ _ _ _ (by simp)
  have hlA := h.ltA
  have hbi := beginF_is s
  have hon1 : (beginF s).1 = 0 → _ := beginF_on (s := s)
  have hf1 : FInv (beginF s).2 q T := hf.same hbi.1 hbi.2.1
  have Hstep := Lib.hid (kstep (k := fun s => onF s nm k) (dcap := #[.pointer (some ⟨w.heap.size, 0, none⟩), .pointer (some ⟨w.heap.size + 1, 0, none⟩), .pointer (some ⟨w.heap.size + 1 + 1, 0, none⟩)]) (h.on hb) hf hT hst (ssR_one c3) (fun i hi e => by have := h.ml i hi; omega) (fun x hx => by simp at hx; subst hx; exact hnm) (by simp)
    (fun args w' => enters_of Tryz.func73 (by kernel_rfl) rfl args w')
    (fun hb0 w1 hm1 hg1 => by
      have hne : ∀ x, w.heap.size ≤ x → ¬ (x = A) := fun x hx e => by omega
      refine kstepof1 (k := k) hnm hm1 hf1 (hon1 hb0) (p := w.heap.size) (c := w.heap.size + 1) (r := w.heap.size + 1 + 1) (fun e => by have := h.ml _ e; omega) (cell_keep hg1 (hne _ (by omega)) c0) (fun e => by have := h.ml _ e; omega) (cell_keep hg1 (hne _ (by omega)) c1) (cell_keep hg1 (hne _ (by omega)) c2) hen ?_
      intro w2 hb2 X B n hv K g MX MF i ha hi hle
      rw [hbi.2.1]
      exact hdo hb0 w2 (((Chg.of_below (M := fun i => i = A) hb).trans hg1 (fun i e => .inl e)).trans (Chg.of_below (M := fun _ => False) hb2) (fun i e => e.elim)) X B n hv K g MX MF i ha hi (by rw [← hbi.2.1]; exact hf1.big_le hle))
    (fun hb0 => ⟨q, hf1.onF_ nm 100 hk⟩)
    (fun hb0 => by have h1 := used_on hf1 nm k; rw [beginF_used, hbi.1, hbi.2.1] at h1; exact h1))
  have HB := Lib.hid hb
  clear h hf hdo hk c0 c1 c2 c3 hb hf1 hon1 hbi
  go_enter Tryz.func36, Tryz.ntmps36
  go_wp2_with fail
  rw [← hW]
  refine Hstep.out.mono ?_
  rintro e w' ⟨rfl, hm⟩
  have HM := Lib.hid (hm.after (Chg.of_below HB.out) (fun _ => .inl) (fun _ => .inl))
  clear hm
  go_wp2_with fail
  go_ret
  exact ⟨rfl, HM.out⟩
end
end Go.Proofs.YtboeiadfmknidaaGreat
