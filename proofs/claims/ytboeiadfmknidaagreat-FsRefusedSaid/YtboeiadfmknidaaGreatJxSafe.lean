
/-
  Layer 7: what is safe (plain mathematics): a file that was synced, whose name the folder's Sync saw.
-/
import Derived.Test.YtboeiadfmknidaaGreatJxPlain
set_option linter.unusedVariables false
set_option linter.unusedSimpArgs false
namespace Go.Proofs.YtboeiadfmknidaaGreat
open Go.RowKit

theorem KInv.same {k : ByteArray} {r : Option Nat} {s s' : PSt} (h : KInv k r s) (e : s' = s) : KInv k r s' := e ▸ h
section
variable {s : FsP} {k : ByteArray} {r : Option Nat}
theorem stepF_cases (s : FsP) (f : FsP → Nat × FsP) : ((stepF s f) = f (beginF s).2 ∧ (beginF s).1 = 0) ∨ ((stepF s f).1 ≠ 0 ∧ (stepF s f).2 = (beginF s).2) := by
  unfold stepF
  split
  · rename_i h; exact .inl ⟨rfl, h⟩
  · rename_i h; exact .inr ⟨h, rfl⟩
theorem onF_dir (s : FsP) (n : ByteArray) (f : FSt → Nat × FSt) : (onF s n f).2.dir = s.dir := by
  unfold onF
  split <;> rfl
/-- what a call makes of the folder -/
theorem doF_dir (s : FsP) (a : Act7) : (doF s a).2.dir = s.dir ∨ (∃ c : Call6, (c.name = a.name ∨ c.name = a.dst) ∧ (c.to = a.name ∨ c.to = a.dst) ∧ (doF s a).2.dir = (doP s.dir c).2.2 ∧ (c.what = a.what ∨ (a.what = 5 ∧ c.what = 5) ∨ (a.what = 6 ∧ c.what = 3) ∨ (a.what = 7 ∧ c.what = 4))) ∨ (a.what = 11 ∧ ∃ j, j ≤ s.dir.deeds.length ∧ (doF s a).2.dir = s.dir.settle j) := by
  have hb := (beginF_is s).1
  unfold doF
  split
  · rename_i hw
    rcases stepF_cases s (createK a.name) with ⟨e, _⟩ | ⟨_, e⟩
    · rw [e]
      refine .inr (.inl ⟨⟨0, a.name, a.name, 0⟩, .inl rfl, .inl rfl, ?_, .inl hw.symm⟩)
      rw [createP_do, ← hb]
      rfl
    · rw [e]; exact .inl hb
  · split
    · rcases stepF_cases s (appendK a.name (a.b.take 60)) with ⟨e, _⟩ | ⟨_, e⟩
      · rw [e]; exact .inl ((onF_dir _ _ _).trans hb)
      · rw [e]; exact .inl hb
    · split
      · rcases stepF_cases s (truncK a.name a.n) with ⟨e, _⟩ | ⟨_, e⟩
        · rw [e]; exact .inl ((onF_dir _ _ _).trans hb)
        · rw [e]; exact .inl hb
      · split
        · rcases stepF_cases s (syncK a.name) with ⟨e, _⟩ | ⟨_, e⟩
          · rw [e]; exact .inl ((onF_dir _ _ _).trans hb)
          · rw [e]; exact .inl hb
        · split
          · rename_i hw
            rcases stepF_cases s syncDirK with ⟨e, _⟩ | ⟨_, e⟩
            · rw [e]
              refine .inr (.inl ⟨⟨5, a.name, a.name, 0⟩, .inl rfl, .inl rfl, ?_, .inr (.inl ⟨hw, rfl⟩)⟩)
              unfold doP
              rw [if_neg (by simp), if_neg (by simp), if_neg (by simp), if_pos rfl, ← hb]
              rfl
            · rw [e]; exact .inl hb
          · split
            · rename_i hw
              rcases stepF_cases s (renameK a.name a.dst) with ⟨e, _⟩ | ⟨_, e⟩
              · rw [e]
                refine .inr (.inl ⟨⟨3, a.name, a.dst, 0⟩, .inl rfl, .inr rfl, ?_, .inr (.inr (.inl ⟨hw, rfl⟩))⟩)
                rw [renameP_do, ← hb]
                rfl
              · rw [e]; exact .inl hb
            · split
              · rename_i hw
                rcases stepF_cases s (removeK a.name) with ⟨e, _⟩ | ⟨_, e⟩
                · rw [e]
                  refine .inr (.inl ⟨⟨4, a.name, a.name, 0⟩, .inl rfl, .inl rfl, ?_, .inr (.inr (.inr ⟨hw, rfl⟩))⟩)
                  rw [removeP_do, ← hb]
                  rfl
                · rw [e]; exact .inl hb
              · split
                · unfold fuseF
                  split <;> exact .inl rfl
                · split
                  · rename_i hw
                    unfold crashK
                    split
                    · exact .inl rfl
                    · refine .inr (.inr ⟨hw, _, ?_, rfl⟩)
                      have := Nat.mod_lt (pickAt a.picks 0) (show 0 < s.dir.deeds.length + 1 by omega)
                      omega
                  · exact .inl rfl
theorem KInv.doF (h : KInv k r s.dir) (ho : s.dir.Ok) {a : Act7} (h1 : k ≠ a.name) (h2 : k ≠ a.dst) : KInv k r (doF s a).2.dir := by
  rcases doF_dir s a with e | ⟨c, hn, ht, e, _⟩ | ⟨_, j, _, e⟩
  · rw [e]; exact h
  · rw [e]; exact h.doP ho (by rcases hn with e | e <;> rw [e] <;> assumption) (by rcases ht with e | e <;> rw [e] <;> assumption)
  · rw [e]; exact h.settle ho j
/-- a file other than that of a name which no call speaks of stays -/
theorem nodeF_ne (hi : GInv s.dir) {n : ByteArray} {i : Nat} (hk : findL s.dir.now k = some i) (hn : n ≠ k) (h0 : (nodeF s n).1 = 0) : i ≠ (nodeF s n).2 := by
  unfold nodeF at h0 ⊢
  split
  · rename_i h; rw [if_pos h] at h0; cases h0
  · rename_i h
    rw [if_neg h] at h0
    cases hf : findL s.dir.now n with
    | none => rw [hf] at h0; cases h0
    | some j =>
      intro e
      have h1 := hi.now.2 _ (findL_mem hk) _ (findL_mem hf) e
      exact hn (congrArg Prod.fst h1).symm
theorem onF_file (hi : GInv s.dir) {n : ByteArray} {i : Nat} (hk : findL s.dir.now k = some i) (hn : n ≠ k) (f : FSt → Nat × FSt) : (onF s n f).2.file i = s.file i := by
  unfold onF
  split
  · rename_i h0
    exact upd_other _ _ (nodeF_ne hi hk hn h0)
  · rfl
theorem doF_file (hi : GInv s.dir) {i : Nat} (hk : findL s.dir.now k = some i) {a : Act7} (hn : a.name ≠ k) (hw : a.what ≠ 11) : (doF s a).2.file i = s.file i := by
  have hb := beginF_is s
  have hi' : GInv (beginF s).2.dir := hb.1 ▸ hi
  have hk' : findL (beginF s).2.dir.now k = some i := by rw [hb.1]; exact hk
  have hle : i ≤ s.dir.last := (hi.now.1 _ (findL_mem hk)).2.2
  have hf : (beginF s).2.file i = s.file i := by rw [hb.2.1]
  unfold doF
  split
  · rcases stepF_cases s (createK a.name) with ⟨e, _⟩ | ⟨_, e⟩
    · rw [e]
      show (if _ then upd (beginF s).2.file ((beginF s).2.dir.last + 1) (FSt.new []) else (beginF s).2.file) i = _
      split
      · rw [upd_other _ _ (by rw [hb.1]; omega)]; exact hf
      · exact hf
    · rw [e]; exact hf
  · split
    · rcases stepF_cases s (appendK a.name (a.b.take 60)) with ⟨e, _⟩ | ⟨_, e⟩
      · rw [e]; exact (onF_file hi' hk' hn _).trans hf
      · rw [e]; exact hf
    · split
      · rcases stepF_cases s (truncK a.name a.n) with ⟨e, _⟩ | ⟨_, e⟩
        · rw [e]; exact (onF_file hi' hk' hn _).trans hf
        · rw [e]; exact hf
      · split
        · rcases stepF_cases s (syncK a.name) with ⟨e, _⟩ | ⟨_, e⟩
          · rw [e]; exact (onF_file hi' hk' hn _).trans hf
          · rw [e]; exact hf
        · split
          · rcases stepF_cases s syncDirK with ⟨e, _⟩ | ⟨_, e⟩ <;> (rw [e]; exact hf)
          · split
            · rcases stepF_cases s (renameK a.name a.dst) with ⟨e, _⟩ | ⟨_, e⟩ <;> (rw [e]; exact hf)
            · split
              · rcases stepF_cases s (removeK a.name) with ⟨e, _⟩ | ⟨_, e⟩ <;> (rw [e]; exact hf)
              · split
                · unfold fuseF
                  split <;> rfl
                · rfl
end
/-- a file whose deeds only append: behind k units its safe bytes and a beginning of what was appended -/
theorem adds_behind : ∀ (ds : List Deed) (b : List UInt8), (∀ d ∈ ds, ∃ r, d = Deed.added r) → ∃ t : List UInt8, settleL b (unitsL ds) ds = b ++ t ∧ ∀ k, settleL b k ds = b ++ t.take k
  | [], b, _ => ⟨[], by simp [settleL], fun k => by simp [settleL]⟩
  | d :: ds, b, h => by
    obtain ⟨r, rfl⟩ := h d (by simp)
    obtain ⟨t, h1, h2⟩ := adds_behind ds (b ++ r) (fun x hx => h x (by simp [hx]))
    have key : ∀ k, settleL b k (Deed.added r :: ds) = b ++ (r ++ t).take k := fun k => by
      unfold settleL
      by_cases hk : k ≤ r.length
      · have e1 : min k (Deed.added r).units = k := by simp only [Deed.units]; omega
        rw [e1, Nat.sub_self, settleL_zero, List.take_append_of_le_length hk]
        rfl
      · have e1 : min k (Deed.added r).units = r.length := by simp only [Deed.units]; omega
        rw [e1]
        have e2 : (Deed.added r).act b r.length = b ++ r := by simp [Deed.act]
        rw [e2, h2, List.append_assoc, List.take_append, List.take_of_length_le (l := r) (by omega)]
    refine ⟨r ++ t, ?_, key⟩
    rw [key]
    congr 1
    refine List.take_of_length_le ?_
    have h3 := settleL_length ds (b ++ r) (unitsL ds)
    rw [h1] at h3
    simp only [List.length_append, unitsL, Deed.units] at h3 ⊢
    omega
def nS : ByteArray := { data := #[115, 97, 102, 101] }
/-- the file 'safe' at inode i: b is safe, whole is there -/
structure SafeI (s : FsP) (i : Nat) (b whole : List UInt8) : Prop where
  key : KInv nS (some i) s.dir
  safe : (s.file i).safe = b
  adds : ∀ d ∈ (s.file i).deeds, ∃ r, d = Deed.added r
  bytes : (s.file i).bytes = whole
section
variable {s : FsP} {i q T : Nat} {b whole : List UInt8}
theorem SafeI.now (h : SafeI s i b whole) (hf : FInv s q T) : findL s.dir.now nS = some i := h.key.now hf.dir
/-- a call by other names, and no crash -/
theorem SafeI.doF (h : SafeI s i b whole) (hf : FInv s q T) {a : Act7} (h1 : a.name ≠ nS) (h2 : a.dst ≠ nS) (hw : a.what ≠ 11) : SafeI (doF s a).2 i b whole := by
  have e := doF_file hf.ino (h.now hf) h1 hw
  exact ⟨h.key.doF hf.dir (fun e => h1 e.symm) (fun e => h2 e.symm), e ▸ h.safe, e ▸ h.adds, e ▸ h.bytes⟩
theorem mayS : mayN nS = true := by decide
theorem nodeF_safe {s : FsP} (h : findL s.dir.now nS = some i) : nodeF s nS = (0, i) := by
  unfold nodeF
  rw [if_neg (by simp [mayS]), h]
/-- an append to it -/
theorem SafeI.append (h : SafeI s i b whole) (hf : FInv s q T) (r : List UInt8) : SafeI (stepF s (appendK nS r)).2 i b (if (stepF s (appendK nS r)).1 = 0 then whole ++ r else whole) := by
  have hb := beginF_is s
  have h0 : SafeI (beginF s).2 i b whole := ⟨hb.1 ▸ h.key, by rw [hb.2.1]; exact h.safe, by rw [hb.2.1]; exact h.adds, by rw [hb.2.1]; exact h.bytes⟩
  rcases stepF_cases s (appendK nS r) with ⟨e, _⟩ | ⟨e1, e2⟩
  · rw [e]
    have hn := nodeF_safe (s := (beginF s).2) (i := i) (by rw [hb.1]; exact h.now hf)
    unfold appendK onF
    rw [hn]
    simp only [if_true]
    unfold appT
    split
    · rw [if_neg (by simp)]
      exact ⟨h0.key, by simp only [upd_same]; exact h0.safe, by simp only [upd_same]; exact h0.adds, by simp only [upd_same]; exact h0.bytes⟩
    · split
      · rename_i hr
        subst hr
        rw [if_pos rfl, List.append_nil]
        exact ⟨h0.key, by simp only [upd_same]; exact h0.safe, by simp only [upd_same]; exact h0.adds, by simp only [upd_same]; exact h0.bytes⟩
      · rw [if_pos rfl]
        refine ⟨h0.key, by simp only [upd_same]; exact h0.safe, ?_, ?_⟩
        · simp only [upd_same]
          intro d hd
          rcases List.mem_append.1 hd with h1 | h1
          · exact h0.adds d h1
          · simp at h1; exact ⟨r, h1⟩
        · simp only [upd_same]
          rw [FSt.app_bytes, h0.bytes]
  · rw [if_neg e1, e2]
    exact h0
/-- behind a crash: its safe bytes, and a beginning of what was appended -/
theorem SafeI.crash (h : SafeI s i b whole) (hf : FInv s q T) (picks : List Int) (hp : picks.any (· < 0) = false) :
    (crashK s picks).1 = 0 ∧ (crashK s picks).2.off = false ∧ findL (crashK s picks).2.dir.now nS = some i ∧ ∃ t, whole = b ++ t ∧ ∃ k, ((crashK s picks).2.file i).bytes = b ++ t.take k := by
  unfold crashK
  rw [if_neg (by simp [hp])]
  have hk := h.key.settle hf.dir (pickAt picks 0 % (s.dir.deeds.length + 1))
  have hnow : findL (crashD s picks).now nS = some i := hk.now (PSt.settle_ok hf.dir _)
  refine ⟨rfl, rfl, hnow, ?_⟩
  obtain ⟨t, h1, h2⟩ := adds_behind (s.file i).deeds (s.file i).safe h.adds
  have hw : whole = b ++ t := by
    rw [← h.bytes, ← (hf.files i).whole, ← h.safe]
    exact h1
  refine ⟨t, hw, ?_⟩
  show ∃ k, (crashT picks (inosL (crashD s picks).safe) s.file i).bytes = b ++ t.take k
  unfold crashT
  split
  · refine ⟨pickAt picks ((inosL (crashD s picks).safe).idxOf i + 1) % ((s.file i).loose + 1), ?_⟩
    rw [FSt.settled_bytes, ← h.safe]
    exact h2 _
  · refine ⟨t.length, ?_⟩
    rw [List.take_length, ← hw]
    exact h.bytes
end
end Go.Proofs.YtboeiadfmknidaaGreat
