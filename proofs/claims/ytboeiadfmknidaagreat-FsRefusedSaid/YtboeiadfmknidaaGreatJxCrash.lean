
/-
  Layer 7: crash by crash; what is refused (plain mathematics).
-/
import Derived.Test.YtboeiadfmknidaaGreatJxSafe
import Derived.Test.YtboeiadfmknidaaGreatHxSince
set_option linter.unusedVariables false
set_option linter.unusedSimpArgs false
namespace Go.Proofs.YtboeiadfmknidaaGreat
open Go.RowKit

/-- names and bytes -/
def stateL (s : FsP) : List (ByteArray × List UInt8) := s.dir.now.map fun x => (x.1, (s.file x.2).bytes)
theorem stateL_ext {s t : FsP} (h1 : t.dir.now = s.dir.now) (h2 : ∀ x ∈ s.dir.now, (t.file x.2).bytes = (s.file x.2).bytes) : stateL t = stateL s := by
  unfold stateL
  rw [h1]
  exact List.map_congr_left fun x hx => by rw [h2 x hx]
/-- the power is on, and there is no fuse -/
def OnF (s : FsP) : Prop := s.off = false ∧ s.fuse = none
section
variable {s : FsP} {q T : Nat}
theorem OnF.begin (h : OnF s) : beginF s = (0, { s with steps := s.steps + 1, fuse := none }) := beginF_ok h.1 h.2
theorem OnF.begin_on (h : OnF s) : OnF (beginF s).2 := by rw [h.begin]; exact ⟨h.1, rfl⟩
theorem OnF.step (h : OnF s) (f : FsP → Nat × FsP) : stepF s f = f (beginF s).2 := by
  unfold stepF
  rw [if_pos (by rw [h.begin])]
theorem onF_on {n : ByteArray} {f : FSt → Nat × FSt} (h : OnF s) : OnF (onF s n f).2 := by
  unfold onF
  split <;> exact h
theorem OnF.doF (h : OnF s) {a : Act7} (h9 : a.what ≠ 9) : OnF (doF s a).2 := by
  have hb := h.begin_on
  unfold Go.Proofs.YtboeiadfmknidaaGreat.doF
  split
  · rw [h.step]; exact hb
  · split
    · rw [h.step]; exact onF_on hb
    · split
      · rw [h.step]; exact onF_on hb
      · split
        · rw [h.step]; exact onF_on hb
        · split
          · rw [h.step]; exact hb
          · split
            · rw [h.step]; exact hb
            · split
              · rw [h.step]; exact hb
              · split
                · unfold crashK
                  split
                  · exact h
                  · exact ⟨rfl, rfl⟩
                · exact h
/-- the names that were there since the last SyncDir -/
def NamesI (s : FsP) (nm : ByteArray → Prop) : Prop := ∀ k, k ≤ s.dir.deeds.length → ∀ x ∈ s.dir.at_ k, nm x.1
theorem NamesI.new (z : Nat) : NamesI (FsP.new z) (fun _ => False) := fun k hk x hx => by
  have h0 : (FsP.new z).dir.at_ k = [] := by
    show PSt.new.at_ k = []
    unfold PSt.at_ PSt.new
    simp [doAll]
  rw [h0] at hx
  simp at hx
theorem NamesI.mono {nm nm' : ByteArray → Prop} (h : NamesI s nm) (hm : ∀ x, nm x → nm' x) : NamesI s nm' := fun k hk x hx => hm _ (h k hk x hx)
theorem NamesI.of_states {s' : FsP} {nm nm' : ByteArray → Prop} (h : NamesI s nm) (hm : ∀ x, nm x → nm' x) (hn : ∀ x ∈ s'.dir.now, nm' x.1) (hs : s'.dir = s.dir ∨ (s'.dir.deeds.length = s.dir.deeds.length + 1 ∧ s'.dir.states = s.dir.states ++ [s'.dir.now])) : NamesI s' nm' := by
  rcases hs with e | ⟨e1, e2⟩
  · intro k hk x hx
    rw [e] at hk hx
    exact hm _ (h k hk x hx)
  · intro k hk x hx
    by_cases hk2 : k ≤ s.dir.deeds.length
    · have h3 := states_get (s := s'.dir) hk
      rw [e2, List.getElem?_append_left (by rw [states_length]; omega), states_get hk2] at h3
      injection h3 with h3
      rw [← h3] at hx
      exact hm _ (h k hk2 x hx)
    · have e3 : k = s'.dir.deeds.length := by omega
      rw [e3, PSt.at_all] at hx
      exact hn x hx
theorem NamesI.settled {s' : FsP} {nm : ByteArray → Prop} (hd : s'.dir.deeds = []) (hn : ∀ x ∈ s'.dir.now, nm x.1) : NamesI s' nm := fun k hk x hx => by
  have hk0 : k = s'.dir.deeds.length := by rw [hd] at hk ⊢; simp at hk ⊢; omega
  rw [hk0, PSt.at_all] at hx
  exact hn x hx
/-- a call that is no crash: what nm is behind it -/
theorem NamesI.doF {nm nm' : ByteArray → Prop} (h : NamesI s nm) (hon : OnF s) {a : Act7} (h11 : a.what ≠ 11) (hm : a.what ≠ 5 → ∀ x, nm x → nm' x) (hn : ∀ x ∈ (doF s a).2.dir.now, nm' x.1) : NamesI (doF s a).2 nm' := by
  by_cases h5 : a.what = 5
  · refine NamesI.settled ?_ hn
    unfold Go.Proofs.YtboeiadfmknidaaGreat.doF
    rw [if_neg (by omega), if_neg (by omega), if_neg (by omega), if_neg (by omega), if_pos h5, hon.step]
    rfl
  · rcases doF_dir s a with e | ⟨c, _, _, e, hc⟩ | ⟨e, _⟩
    · exact h.of_states (hm h5) hn (.inl e)
    · refine h.of_states (hm h5) hn ?_
      rw [e]
      by_cases hcw : c.what = 5 ∨ c.what = 6
      · rcases hc with hc | ⟨hc, _⟩ | ⟨hc, hc2⟩ | ⟨hc, hc2⟩
        · -- the folder's call bears the number of the file system's: of these only 0
          rcases doF_dir s a with e2 | ⟨c2, _, _, e2, _⟩ | ⟨e2, _⟩
          · exact .inl (e ▸ e2)
          · rcases begins s.dir c with ⟨b5, _⟩ | ⟨b6, _⟩ | ⟨_, _, b⟩
            · omega
            · -- what = 6 is a rename: its folder's call is number 3
              have h6 : a.what = 6 := by omega
              have hd : (Go.Proofs.YtboeiadfmknidaaGreat.doF s a).2.dir = (renameP s.dir a.name a.dst).2 := by
                unfold Go.Proofs.YtboeiadfmknidaaGreat.doF
                rw [if_neg (by omega), if_neg (by omega), if_neg (by omega), if_neg (by omega), if_neg (by omega), if_pos h6, hon.step, hon.begin]
                rfl
              have hr := renameP_do s.dir a.name a.dst
              rw [← e, hd]
              rcases begins s.dir ⟨3, a.name, a.dst, 0⟩ with ⟨b5, _⟩ | ⟨b6', _⟩ | ⟨_, _, b⟩
              · simp at b5
              · simp at b6'
              · rw [hr] at b
                exact b
            · exact b
          · exact absurd e2 h11
        · exact absurd hc h5
        · omega
        · omega
      · rcases begins s.dir c with ⟨b5, _⟩ | ⟨b6, _⟩ | ⟨_, _, b⟩
        · exact absurd (.inl b5) hcw
        · exact absurd (.inr b6) hcw
        · exact b
    · exact absurd e h11
/-- nothing is loose of what a name leads to -/
structure Still (s : FsP) : Prop where
  dir : s.dir.deeds = []
  files : ∀ x ∈ s.dir.now, (s.file x.2).deeds = []
theorem crash_dir0 (h : s.dir.deeds = []) (picks : List Int) : (crashD s picks).safe = s.dir.safe ∧ (crashD s picks).now = s.dir.now := by
  have e1 : s.dir.now = s.dir.safe := by unfold PSt.now; rw [h]; rfl
  have e2 : (crashD s picks).safe = s.dir.safe := by
    unfold crashD PSt.settle
    simp only [h, List.take_nil]
    rfl
  exact ⟨e2, by rw [e1]; exact e2⟩
/-- a crash where nothing is loose changes nothing -/
theorem crash_still (hf : FInv s q T) (h : Still s) (picks : List Int) (hp : picks.any (· < 0) = false) : stateL (crashK s picks).2 = stateL s := by
  unfold crashK
  rw [if_neg (by simp [hp])]
  refine stateL_ext (crash_dir0 h.dir picks).2 (fun x hx => ?_)
  show (crashT picks (inosL (crashD s picks).safe) s.file x.2).bytes = _
  unfold crashT
  split
  · have h1 := FSt.still (hf.files x.2) (h.files x hx)
    rw [FSt.settled_bytes, h1.2.2]
    have h2 := h.files x hx
    unfold FSt.behind
    rw [h2]
    rfl
  · rfl
/-- behind a crash nothing is loose -/
theorem crash_makes_still (s : FsP) (picks : List Int) (hp : picks.any (· < 0) = false) : Still (crashK s picks).2 := by
  unfold crashK
  rw [if_neg (by simp [hp])]
  refine ⟨rfl, fun x hx => ?_⟩
  show (crashT picks (inosL (crashD s picks).safe) s.file x.2).deeds = []
  unfold crashT
  have hm : x.2 ∈ inosL (crashD s picks).safe := (inosL_perm _).mem_iff.2 (List.mem_map.2 ⟨x, hx, rfl⟩)
  rw [if_pos hm]
  rfl
theorem crash_names {nm : ByteArray → Prop} (h : NamesI s nm) (picks : List Int) (hp : picks.any (· < 0) = false) : ∀ x ∈ (crashK s picks).2.dir.now, nm x.1 := by
  unfold crashK
  rw [if_neg (by simp [hp])]
  intro x hx
  exact h (pickAt picks 0 % (s.dir.deeds.length + 1)) (by have := Nat.mod_lt (pickAt picks 0) (show 0 < s.dir.deeds.length + 1 by omega); omega) x hx
/-- Sync of a name that is there -/
theorem sync_step (hon : OnF s) (hf : FInv s q T) {n : ByteArray} {i : Nat} (hm : mayN n = true) (hn : findL s.dir.now n = some i) :
    stepF s (syncK n) = (0, { s with steps := s.steps + 1, fuse := none, file := upd s.file i ((s.file i).settled (s.file i).loose) }) := by
  rw [hon.step, hon.begin]
  have h1 : nodeF { s with steps := s.steps + 1, fuse := none } n = (0, i) := by
    unfold nodeF
    rw [if_neg (by simp [hm])]
    show (match findL s.dir.now n with | none => (6, 0) | some i => (0, i)) = (0, i)
    rw [hn]
  unfold syncK onF
  rw [h1]
  rfl
/-- the first j names were synced -/
structure SyncI (s0 s : FsP) (j : Nat) : Prop where
  on : OnF s
  dir : s.dir = s0.dir
  bytes : ∀ i, (s.file i).bytes = (s0.file i).bytes
  still : ∀ x ∈ s0.dir.now.take j, (s.file x.2).deeds = []
theorem SyncI.start (h : OnF s) : SyncI s s 0 := ⟨h, rfl, fun _ => rfl, by simp⟩
theorem SyncI.next {s0 : FsP} {j : Nat} (h : SyncI s0 s j) (hf : FInv s q T) {x : Ent} (hx : s0.dir.now[j]? = some x) (hs : SortE s0.dir.now) (hm : mayN x.1 = true) :
    (stepF s (syncK x.1)).1 = 0 ∧ SyncI s0 (stepF s (syncK x.1)).2 (j + 1) ∧ FInv (stepF s (syncK x.1)).2 q T := by
  have hn : findL s.dir.now x.1 = some x.2 := by rw [h.dir]; exact (findL_iff hs).2 (List.mem_of_getElem? hx)
  rw [sync_step h.on hf hm hn]
  refine ⟨rfl, ⟨⟨h.on.1, rfl⟩, h.dir, fun i => ?_, fun y hy => ?_⟩, ⟨hf.dir, hf.ino, fun i => ?_, Nat.le_trans (totL_upd s.file _ 0 (FSt.settled_big _ (Nat.le_refl _))) (by have := hf.tot; omega), hf.last, hf.few⟩⟩
  · show (upd s.file x.2 ((s.file x.2).settled (s.file x.2).loose) i).bytes = _
    by_cases e : i = x.2
    · subst e
      rw [upd_same, FSt.settled_bytes, (hf.files _).whole]
      exact h.bytes _
    · rw [upd_other _ _ e]; exact h.bytes i
  · show (upd s.file x.2 ((s.file x.2).settled (s.file x.2).loose) y.2).deeds = []
    by_cases e : y.2 = x.2
    · rw [e, upd_same]; rfl
    · rw [upd_other _ _ e]
      rw [take_next6 hx] at hy
      rcases List.mem_append.1 hy with h1 | h1
      · exact h.still y h1
      · simp at h1; subst h1; exact absurd rfl e
  · show (upd s.file x.2 ((s.file x.2).settled (s.file x.2).loose) i).Ok
    by_cases e : i = x.2
    · subst e; rw [upd_same]; exact FSt.settled_ok _ _
    · rw [upd_other _ _ e]; exact hf.files i
/-- all were synced, and then the folder: nothing is loose, and all is there -/
theorem SyncI.done {s0 : FsP} (h : SyncI s0 s s0.dir.now.length) : (stepF s syncDirK).1 = 0 ∧ Still (stepF s syncDirK).2 ∧ stateL (stepF s syncDirK).2 = stateL s0 := by
  rw [h.on.step, h.on.begin]
  have hnow : (s.dir.settle s.dir.deeds.length).now = s0.dir.now := by rw [settle_now, PSt.at_all, h.dir]
  refine ⟨rfl, ⟨rfl, fun x hx => ?_⟩, stateL_ext hnow (fun x _ => h.bytes x.2)⟩
  have hx2 : x ∈ s0.dir.now := by rw [← hnow]; exact hx
  exact h.still x (by rw [List.take_length]; exact hx2)
/-- what is refused changes nothing that is there -/
theorem onF_refused {n : ByteArray} {f : FSt → Nat × FSt} (hk : ∀ t, (f t).1 ≠ 0 → (f t).2 = t) (h : (onF s n f).1 ≠ 0) : (onF s n f).2.dir = s.dir ∧ ∀ i, (onF s n f).2.file i = s.file i := by
  refine ⟨onF_dir s n f, fun i => ?_⟩
  unfold onF at h ⊢
  split
  · rename_i h0
    rw [if_pos h0] at h
    show upd s.file _ _ i = _
    rw [hk _ h]
    by_cases e : i = (nodeF s n).2
    · rw [e, upd_same]
    · rw [upd_other _ _ e]
  · rfl
theorem doF_refused (s : FsP) (a : Act7) (h : (doF s a).1 ≠ 0) : (doF s a).2.dir = s.dir ∧ ∀ i, (doF s a).2.file i = s.file i := by
  have hb := beginF_is s
  have h0 : (beginF s).2.dir = s.dir ∧ ∀ i, (beginF s).2.file i = s.file i := ⟨hb.1, fun i => by rw [hb.2.1]⟩
  have keep : ∀ {f : FsP → Nat × FsP}, (stepF s f).1 ≠ 0 → ((f (beginF s).2).1 ≠ 0 → (f (beginF s).2).2.dir = (beginF s).2.dir ∧ ∀ i, (f (beginF s).2).2.file i = (beginF s).2.file i) → (stepF s f).2.dir = s.dir ∧ ∀ i, (stepF s f).2.file i = s.file i := by
    intro f h1 h2
    rcases stepF_cases s f with ⟨e, _⟩ | ⟨_, e⟩
    · rw [e] at h1 ⊢
      exact ⟨(h2 h1).1.trans h0.1, fun i => ((h2 h1).2 i).trans (h0.2 i)⟩
    · rw [e]; exact h0
  unfold doF at h ⊢
  split at h
  · rename_i hw
    rw [if_pos hw]
    refine keep h (fun h1 => ?_)
    have h2 : (createP (beginF s).2.dir a.name).2.1 ≠ 0 := h1
    have h3 : (createP (beginF s).2.dir a.name).2.2 = (beginF s).2.dir := by
      unfold createP at h2 ⊢
      split
      · rfl
      · rename_i q1
        rw [if_neg q1] at h2
        split
        · rfl
        · rename_i q2
          rw [if_neg q2] at h2
          split
          · rfl
          · rename_i q3
            rw [if_neg q3] at h2
            exact absurd rfl h2
    refine ⟨h3, fun i => ?_⟩
    show (if (createP (beginF s).2.dir a.name).2.1 = 0 then _ else (beginF s).2.file) i = _
    rw [if_neg h2]
  · rename_i w0
    rw [if_neg w0]
    split at h
    · rename_i hw
      rw [if_pos hw]
      refine keep h (fun h1 => onF_refused (fun t ht => ?_) h1)
      unfold appT at ht ⊢
      split
      · rfl
      · rename_i q1
        rw [if_neg q1] at ht
        split
        · rfl
        · rename_i q2; rw [if_neg q2] at ht; exact absurd rfl ht
    · rename_i w1
      rw [if_neg w1]
      split at h
      · rename_i hw
        rw [if_pos hw]
        refine keep h (fun h1 => onF_refused (fun t ht => ?_) h1)
        unfold cutT at ht ⊢
        split
        · rfl
        · rename_i q1
          rw [if_neg q1] at ht
          split
          · rfl
          · rename_i q2; rw [if_neg q2] at ht; exact absurd rfl ht
      · rename_i w3
        rw [if_neg w3]
        split at h
        · rename_i hw
          rw [if_pos hw]
          exact keep h (fun h1 => onF_refused (fun t ht => absurd rfl ht) h1)
        · rename_i w4
          rw [if_neg w4]
          split at h
          · rename_i hw
            rw [if_pos hw]
            exact keep h (fun h1 => absurd rfl h1)
          · rename_i w5
            rw [if_neg w5]
            split at h
            · rename_i hw
              rw [if_pos hw]
              refine keep h (fun h1 => ?_)
              have h2 : (renameP (beginF s).2.dir a.name a.dst).1 ≠ 0 := h1
              have h3 : (renameP (beginF s).2.dir a.name a.dst).2 = (beginF s).2.dir := by
                unfold renameP at h2 ⊢
                split
                · rfl
                · rename_i q1
                  rw [if_neg q1] at h2
                  split
                  · rfl
                  · rename_i q2
                    rw [if_neg q2] at h2
                    split
                    · rfl
                    · rename_i q3; rw [if_neg q3] at h2; exact absurd rfl h2
              exact ⟨h3, fun _ => rfl⟩
            · rename_i w6
              rw [if_neg w6]
              split at h
              · rename_i hw
                rw [if_pos hw]
                refine keep h (fun h1 => ?_)
                have h2 : (removeP (beginF s).2.dir a.name).1 ≠ 0 := h1
                have h3 : (removeP (beginF s).2.dir a.name).2 = (beginF s).2.dir := by
                  unfold removeP at h2 ⊢
                  split
                  · rfl
                  · rename_i q1
                    rw [if_neg q1] at h2
                    split
                    · rename_i q2; rw [if_pos q2] at h2; exact absurd rfl h2
                    · rfl
                exact ⟨h3, fun _ => rfl⟩
              · rename_i w7
                rw [if_neg w7]
                split at h
                · rename_i hw
                  rw [if_pos hw]
                  unfold fuseF
                  split <;> exact ⟨rfl, fun _ => rfl⟩
                · rename_i w9
                  rw [if_neg w9]
                  split at h
                  · rename_i hw
                    rw [if_pos hw]
                    unfold crashK at h ⊢
                    split
                    · exact ⟨rfl, fun _ => rfl⟩
                    · rename_i q1; rw [if_neg q1] at h; exact absurd rfl h
                  · exact absurd rfl h
theorem refused_state (s : FsP) (a : Act7) (h : (doF s a).1 ≠ 0) : stateL (doF s a).2 = stateL s := by
  obtain ⟨h1, h2⟩ := doF_refused s a h
  exact stateL_ext (by rw [h1]) (fun x _ => by rw [h2])
end
end Go.Proofs.YtboeiadfmknidaaGreat
