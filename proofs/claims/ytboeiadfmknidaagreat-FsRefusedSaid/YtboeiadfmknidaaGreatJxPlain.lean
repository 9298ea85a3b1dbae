
/-
  Layer 7: a file system as plain mathematics: a folder's state, a file for each inode, the quota, the power, the fuse; what each call tells and makes.
-/
import Derived.Test.YtboeiadfmknidaaGreatHxIno
import Derived.Test.YtboeiadfmknidaaGreatFxPlain
import Derived.Test.YtboeiadfmknidaaGreatJxAct
set_option linter.unusedVariables false
set_option linter.unusedSimpArgs false
namespace Go.Proofs.YtboeiadfmknidaaGreat
open Go.RowKit

structure FsP where
  dir : PSt
  file : Nat → FSt
  quota : Nat
  off : Bool
  steps : Nat
  fuse : Option Nat
def upd (g : Nat → FSt) (i : Nat) (t : FSt) : Nat → FSt := fun j => if j = i then t else g j
theorem upd_same (g : Nat → FSt) (i : Nat) (t : FSt) : upd g i t i = t := by simp [upd]
theorem upd_other (g : Nat → FSt) {i j : Nat} (t : FSt) (h : j ≠ i) : upd g i t j = g j := by simp [upd, h]
def FsP.new (q : Nat) : FsP := ⟨PSt.new, fun _ => FSt.new [], q, false, 0, none⟩
/-- how many bytes the files have to which a name leads -/
def usedL (g : Nat → FSt) (l : List Ent) : Nat := (l.map fun x => (g x.2).bytes.length).sum
def FsP.used (s : FsP) : Nat := usedL s.file s.dir.now
/-- a step begins: what is wrong, and what is left -/
def beginF (s : FsP) : Nat × FsP :=
  if s.off then (20, s) else if s.fuse = some 0 then (20, { s with off := true, steps := s.steps + 1 }) else (0, { s with steps := s.steps + 1, fuse := s.fuse.map (· - 1) })
/-- a step: what it does if nothing is wrong at its beginning -/
def stepF (s : FsP) (k : FsP → Nat × FsP) : Nat × FsP := if (beginF s).1 = 0 then k (beginF s).2 else ((beginF s).1, (beginF s).2)
/-- the inode of a name, or what is wrong -/
def nodeF (s : FsP) (n : ByteArray) : Nat × Nat := if mayN n = false then (1, 0) else match findL s.dir.now n with
  | none => (6, 0)
  | some i => (0, i)
/-- a step on a file -/
def onF (s : FsP) (n : ByteArray) (k : FSt → Nat × FSt) : Nat × FsP :=
  if (nodeF s n).1 = 0 then ((k (s.file (nodeF s n).2)).1, { s with file := upd s.file (nodeF s n).2 (k (s.file (nodeF s n).2)).2 }) else ((nodeF s n).1, s)
def createK (n : ByteArray) (s : FsP) : Nat × FsP :=
  ((createP s.dir n).2.1, { s with dir := (createP s.dir n).2.2, file := if (createP s.dir n).2.1 = 0 then upd s.file (s.dir.last + 1) (FSt.new []) else s.file })
def appT (used quota : Nat) (b : List UInt8) (t : FSt) : Nat × FSt := if quota < used + b.length then (21, t) else if b = [] then (0, t) else (0, t.app b)
def cutT (z : Int) (t : FSt) : Nat × FSt := if z < 0 ∨ (t.bytes.length : Int) < z then (1, t) else if z = t.bytes.length then (0, t) else (0, t.cutd z.toNat)
def syncT (t : FSt) : Nat × FSt := (0, t.settled t.loose)
def appendK (n : ByteArray) (b : List UInt8) (s : FsP) : Nat × FsP := onF s n (appT s.used s.quota b)
def truncK (n : ByteArray) (z : Int) (s : FsP) : Nat × FsP := onF s n (cutT z)
def syncK (n : ByteArray) (s : FsP) : Nat × FsP := onF s n syncT
def syncDirK (s : FsP) : Nat × FsP := (0, { s with dir := s.dir.settle s.dir.deeds.length })
def renameK (n d : ByteArray) (s : FsP) : Nat × FsP := ((renameP s.dir n d).1, { s with dir := (renameP s.dir n d).2 })
def removeK (n : ByteArray) (s : FsP) : Nat × FsP := ((removeP s.dir n).1, { s with dir := (removeP s.dir n).2 })
def fuseF (s : FsP) (n : Int) : Nat × FsP := if s.off then (20, s) else (0, { s with fuse := if n < 0 then none else some n.toNat })
/-- how much of each file a crash by picks keeps -/
def pickAt (picks : List Int) (i : Nat) : Nat := ((picks[i]?).getD 0).toNat
def crashD (s : FsP) (picks : List Int) : PSt := s.dir.settle (pickAt picks 0 % (s.dir.deeds.length + 1))
def crashT (picks : List Int) (l : List Nat) (g : Nat → FSt) (i : Nat) : FSt := if i ∈ l then (g i).settled (pickAt picks (l.idxOf i + 1) % ((g i).loose + 1)) else g i
def crashK (s : FsP) (picks : List Int) : Nat × FsP :=
  if picks.any (· < 0) then (1, s) else (0, { s with dir := crashD s picks, file := crashT picks (inosL (crashD s picks).safe) s.file, off := false, fuse := none })

/-- all that is there: no step makes more than one of it at a time -/
def totL (g : Nat → FSt) (n : Nat) : Nat := ((List.range (n + 1)).map fun i => (g i).big).sum
theorem sum_perm {f : Nat → Nat} {l m : List Nat} (h : l.Perm m) : (l.map f).sum = (m.map f).sum := by
  induction h with
  | nil => rfl
  | cons x _ ih => simp only [List.map_cons, List.sum_cons, ih]
  | swap x y l => simp only [List.map_cons, List.sum_cons]; omega
  | trans _ _ ih1 ih2 => exact ih1.trans ih2
theorem sum_mono {α : Type} {f g : α → Nat} : ∀ {l : List α}, (∀ x ∈ l, f x ≤ g x) → (l.map f).sum ≤ (l.map g).sum
  | [], _ => Nat.le_refl _
  | x :: r, h => by
    have h1 := h x (by simp)
    have h2 := sum_mono (l := r) (f := f) (g := g) (fun y hy => h y (by simp [hy]))
    simp only [List.map_cons, List.sum_cons]
    omega
theorem sum_nodup_lt {f : Nat → Nat} : ∀ {n : Nat} {l : List Nat}, l.Nodup → (∀ i ∈ l, i < n) → (l.map f).sum ≤ ((List.range n).map f).sum
  | 0, [], _, _ => Nat.le_refl _
  | 0, x :: r, _, h => absurd (h x (by simp)) (by omega)
  | n + 1, l, hd, h => by
    rw [List.range_succ, List.map_append, List.sum_append]
    simp only [List.map_cons, List.map_nil, List.sum_cons, List.sum_nil, Nat.add_zero]
    by_cases hn : n ∈ l
    · have hp := List.perm_cons_erase hn
      rw [sum_perm hp]
      simp only [List.map_cons, List.sum_cons]
      have hd2 := hp.nodup_iff.1 hd
      obtain ⟨h1, h2⟩ := List.nodup_cons.1 hd2
      have h3 := sum_nodup_lt (f := f) (n := n) h2 (fun i hi => by
        have h4 := h i (List.mem_of_mem_erase hi)
        have h5 : i ≠ n := fun e => by subst e; exact h1 hi
        omega)
      omega
    · have h3 := sum_nodup_lt (f := f) (n := n) hd (fun i hi => by
        have h4 := h i hi
        have h5 : i ≠ n := fun e => by subst e; exact hn hi
        omega)
      omega
theorem sum_nodup_le {f : Nat → Nat} {l : List Nat} {n : Nat} (hd : l.Nodup) (h : ∀ i ∈ l, i ≤ n) : (l.map f).sum ≤ ((List.range (n + 1)).map f).sum :=
  sum_nodup_lt hd (fun i hi => by have := h i hi; omega)
theorem totL_next (g : Nat → FSt) (n : Nat) : totL g (n + 1) = totL g n + (g (n + 1)).big := by
  unfold totL
  rw [List.range_succ, List.map_append, List.sum_append]
  simp
theorem totL_congr {g h : Nat → FSt} {n : Nat} (e : ∀ i, i ≤ n → (h i).big ≤ (g i).big) : totL h n ≤ totL g n :=
  sum_mono (fun i hi => e i (by have := List.mem_range.1 hi; omega))
theorem totL_upd (g : Nat → FSt) {i n : Nat} (t : FSt) (d : Nat) (h : t.big ≤ (g i).big + d) : totL (upd g i t) n ≤ totL g n + d := by
  by_cases hi : i ≤ n
  · induction n with
    | zero =>
      obtain rfl : i = 0 := by omega
      simp [totL, upd]
      omega
    | succ n ih =>
      rw [totL_next, totL_next]
      by_cases e : i = n + 1
      · subst e
        rw [upd_same]
        have h1 : totL (upd g (n + 1) t) n ≤ totL g n := totL_congr (fun j hj => by rw [upd_other _ _ (by omega)]; exact Nat.le_refl _)
        omega
      · have h1 := ih (by omega)
        rw [upd_other _ _ (show n + 1 ≠ i by omega)]
        omega
  · exact Nat.le_trans (totL_congr (fun j hj => by rw [upd_other _ _ (by omega)]; exact Nat.le_refl _)) (Nat.le_add_right _ _)
/-- what a file system keeps, step by step -/
structure FInv (s : FsP) (q T : Nat) : Prop where
  dir : s.dir.Ok
  ino : GInv s.dir
  files : ∀ i, (s.file i).Ok
  tot : totL s.file s.dir.last ≤ T
  last : s.dir.last ≤ q
  few : s.dir.big ≤ q
theorem FInv.used_le {s : FsP} {q T : Nat} (h : FInv s q T) : s.used ≤ T := by
  have h1 : s.used ≤ (s.dir.now.map fun x => (s.file x.2).big).sum := sum_mono (fun x _ => FSt.bytes_length (h.files x.2))
  have h2 : (s.dir.now.map fun x => (s.file x.2).big) = (s.dir.now.map (·.2)).map fun i => (s.file i).big := by rw [List.map_map]; rfl
  rw [h2] at h1
  have hg := h.ino.now
  have hd : (s.dir.now.map (·.2)).Nodup := List.pairwise_map.2 (h.dir.now.1.nodup.imp_of_mem (fun {a b} ha hb hn e => hn (hg.2 a ha b hb e)))
  have h3 := sum_nodup_le (f := fun i => (s.file i).big) (n := s.dir.last) hd (fun i hi => by
    obtain ⟨x, hx, rfl⟩ := List.mem_map.1 hi
    exact (hg.1 x hx).2.2)
  exact Nat.le_trans h1 (Nat.le_trans h3 h.tot)
theorem FInv.mono {s : FsP} {q q' T T' : Nat} (h : FInv s q T) (h1 : q ≤ q') (h2 : T ≤ T') : FInv s q' T' := ⟨h.dir, h.ino, h.files, Nat.le_trans h.tot h2, Nat.le_trans h.last h1, Nat.le_trans h.few h1⟩
theorem FInv.new (q : Nat) : FInv (FsP.new q) 0 0 := ⟨PSt.new_ok, GInv.new, fun _ => FSt.new_ok _, by simp [totL, FsP.new, PSt.new, FSt.new, FSt.big, FSt.loose, unitsL], by simp [FsP.new, PSt.new], by simp [FsP.new, PSt.new, PSt.big]⟩
end Go.Proofs.YtboeiadfmknidaaGreat

/-
  Layer 7: what a file system keeps, call by call (plain mathematics).
-/
set_option linter.unusedVariables false
set_option linter.unusedSimpArgs false
namespace Go.Proofs.YtboeiadfmknidaaGreat
open Go.RowKit

/-- what a call tells and makes ('does') -/
def doF (s : FsP) (a : Act7) : Nat × FsP :=
  if a.what = 0 then stepF s (createK a.name)
  else if a.what = 1 ∨ a.what = 2 then stepF s (appendK a.name (a.b.take 60))
  else if a.what = 3 then stepF s (truncK a.name a.n)
  else if a.what = 4 then stepF s (syncK a.name)
  else if a.what = 5 then stepF s syncDirK
  else if a.what = 6 then stepF s (renameK a.name a.dst)
  else if a.what = 7 then stepF s (removeK a.name)
  else if a.what = 9 then fuseF s a.n
  else if a.what = 11 then crashK s a.picks
  else (0, s)
theorem doP_ok {s : PSt} (ho : s.Ok) (c : Call6) (hf : s.safe.length + s.deeds.length < 100000) (hl : s.last + 1 < 100000000) : (doP s c).2.2.Ok := by
  rcases doP_cases s c with e | ⟨e, _, _, hn, _⟩ | ⟨e, _, _, ha, hb, _⟩ | ⟨e, _, _, hn, _⟩ | ⟨k, hk, e, _⟩
  · rw [e]; exact ho
  · rw [e]
    have h0 : PSt.Ok { s with last := s.last + 1 } := ⟨ho.safe, ho.deeds, hl, by have := ho.settled; show s.settled ≤ s.last + 1; omega, ho.few⟩
    exact PSt.push_ok h0 ⟨mayN_size hn, by omega⟩ hf
  · rw [e]; exact PSt.push_ok ho ⟨mayN_size ha, mayN_size hb⟩ hf
  · rw [e]; exact PSt.push_ok ho (mayN_size hn) hf
  · rw [e]; exact PSt.settle_ok ho k
/-- the folder's calls as calls of the folder's laws -/
theorem createP_do (s : PSt) (n : ByteArray) : doP s ⟨0, n, n, 0⟩ = createP s n := by unfold doP; rw [if_pos (.inl rfl)]
theorem renameP_do (s : PSt) (n d : ByteArray) : doP s ⟨3, n, d, 0⟩ = (0, (renameP s n d).1, (renameP s n d).2) := by
  unfold doP
  rw [if_neg (by simp), if_pos rfl]
theorem removeP_do (s : PSt) (n : ByteArray) : doP s ⟨4, n, n, 0⟩ = (0, (removeP s n).1, (removeP s n).2) := by
  unfold doP
  rw [if_neg (by simp), if_neg (by simp), if_pos rfl]
section
variable {s : FsP} {q T : Nat}
theorem beginF_is (s : FsP) : (beginF s).2.dir = s.dir ∧ (beginF s).2.file = s.file ∧ (beginF s).2.quota = s.quota := by
  unfold beginF
  split
  · exact ⟨rfl, rfl, rfl⟩
  · split <;> exact ⟨rfl, rfl, rfl⟩
theorem beginF_ok (h1 : s.off = false) (h2 : s.fuse = none) : beginF s = (0, { s with steps := s.steps + 1, fuse := none }) := by
  unfold beginF
  rw [if_neg (by simp [h1]), if_neg (by simp [h2]), h2]
  rfl
theorem FInv.same {s' : FsP} (h : FInv s q T) (h1 : s'.dir = s.dir) (h2 : s'.file = s.file) : FInv s' q T := ⟨h1 ▸ h.dir, h1 ▸ h.ino, h2 ▸ h.files, by rw [h1, h2]; exact h.tot, h1 ▸ h.last, h1 ▸ h.few⟩
theorem FInv.step (h : FInv s q T) {k : FsP → Nat × FsP} {q' T' : Nat} (hq : q ≤ q') (hT : T ≤ T') (hk : FInv (beginF s).2 q T → FInv (k (beginF s).2).2 q' T') : FInv (stepF s k).2 q' T' := by
  have h0 : FInv (beginF s).2 q T := h.same (beginF_is s).1 (beginF_is s).2.1
  unfold stepF
  split
  · exact hk h0
  · exact h0.mono hq hT
/-- the folder goes on, no new inode -/
theorem FInv.dir_ (h : FInv s q T) (hq : q ≤ 1000) (c : Call6) (hw : ¬ (c.what = 0 ∨ c.what = 1 ∨ c.what = 2)) : FInv { s with dir := (doP s.dir c).2.2 } (q + 1) T := by
  have hb := doP_big s.dir c
  have hf := h.few
  have hl := h.last
  have hlast : (doP s.dir c).2.2.last = s.dir.last := by
    rcases doP_cases s.dir c with e | ⟨e, hx, _⟩ | ⟨e, _⟩ | ⟨e, _⟩ | ⟨k, hk, e, _⟩
    · rw [e]
    · exact absurd (by omega) hw
    · rw [e]; rfl
    · rw [e]; rfl
    · rw [e]; rfl
  exact ⟨doP_ok h.dir c (by unfold PSt.big at hf; omega) (by omega), h.ino.doP h.dir c, h.files, by rw [show (FsP.dir { s with dir := (doP s.dir c).2.2 }).last = s.dir.last from hlast]; exact h.tot, by show (doP s.dir c).2.2.last ≤ _; omega, by show (doP s.dir c).2.2.big ≤ _; omega⟩
theorem FInv.createK_ (h : FInv s q T) (hq : q ≤ 1000) (n : ByteArray) : FInv (createK n s).2 (q + 1) T := by
  have hb := doP_big s.dir ⟨0, n, n, 0⟩
  have hok := doP_ok h.dir ⟨0, n, n, 0⟩ (by have := h.few; unfold PSt.big at this; omega) (by have := h.last; omega)
  have hg := h.ino.doP h.dir ⟨0, n, n, 0⟩
  have ht := told_make (s := s.dir) (c := ⟨0, n, n, 0⟩) ⟨by simp, by simp⟩
  rw [createP_do] at hb hok hg ht
  have hf := h.few
  have hl := h.last
  rcases ht with ⟨e0, e1, e2⟩ | ⟨e0, e1, e2⟩
  · refine ⟨hok, hg, fun i => ?_, ?_, by show (createP s.dir n).2.2.last ≤ _; omega, by show (createP s.dir n).2.2.big ≤ _; omega⟩
    · show ((if (createP s.dir n).2.1 = 0 then upd s.file (s.dir.last + 1) (FSt.new []) else s.file) i).Ok
      rw [if_pos e0]
      by_cases e : i = s.dir.last + 1
      · subst e; rw [upd_same]; exact FSt.new_ok _
      · rw [upd_other _ _ e]; exact h.files i
    · show totL (if (createP s.dir n).2.1 = 0 then upd s.file (s.dir.last + 1) (FSt.new []) else s.file) (createP s.dir n).2.2.last ≤ T
      rw [if_pos e0, e2, totL_next, upd_same]
      have h1 : totL (upd s.file (s.dir.last + 1) (FSt.new [])) s.dir.last ≤ totL s.file s.dir.last := totL_congr (fun j hj => by rw [upd_other _ _ (by omega)]; exact Nat.le_refl _)
      have h2 : (FSt.new []).big = 0 := rfl
      have := h.tot
      omega
  · refine ⟨hok, hg, fun i => ?_, ?_, by show (createP s.dir n).2.2.last ≤ _; omega, by show (createP s.dir n).2.2.big ≤ _; omega⟩
    · show ((if (createP s.dir n).2.1 = 0 then upd s.file (s.dir.last + 1) (FSt.new []) else s.file) i).Ok
      rw [if_neg e0]
      exact h.files i
    · show totL (if (createP s.dir n).2.1 = 0 then upd s.file (s.dir.last + 1) (FSt.new []) else s.file) (createP s.dir n).2.2.last ≤ T
      rw [if_neg e0, e2]
      exact h.tot
/-- a step on a file that makes no more of it than d -/
theorem FInv.onF_ (h : FInv s q T) (n : ByteArray) {k : FSt → Nat × FSt} (d : Nat) (hk : ∀ t : FSt, t.Ok → (k t).2.Ok ∧ (k t).2.big ≤ t.big + d) : FInv (onF s n k).2 q (T + d) := by
  unfold onF
  split
  · refine ⟨h.dir, h.ino, fun i => ?_, ?_, h.last, h.few⟩
    · show (upd s.file (nodeF s n).2 (k (s.file (nodeF s n).2)).2 i).Ok
      by_cases e : i = (nodeF s n).2
      · subst e; rw [upd_same]; exact (hk _ (h.files _)).1
      · rw [upd_other _ _ e]; exact h.files i
    · exact Nat.le_trans (totL_upd s.file _ d (hk _ (h.files _)).2) (Nat.add_le_add_right h.tot d)
  · exact h.mono (Nat.le_refl _) (Nat.le_add_right _ _)
theorem appT_ok (u z : Nat) (b : List UInt8) (t : FSt) (h : t.Ok) : (appT u z b t).2.Ok ∧ (appT u z b t).2.big ≤ t.big + b.length := by
  unfold appT
  split
  · exact ⟨h, by simp⟩
  · split
    · exact ⟨h, by simp⟩
    · rename_i hb
      exact ⟨FSt.app_ok h hb, by rw [show ((0, t.app b) : Nat × FSt).2 = t.app b from rfl, FSt.app_big]; exact Nat.le_refl _⟩
theorem cutT_ok (z : Int) (t : FSt) (h : t.Ok) : (cutT z t).2.Ok ∧ (cutT z t).2.big ≤ t.big + 1 := by
  unfold cutT
  split
  · exact ⟨h, by simp⟩
  · split
    · exact ⟨h, by simp⟩
    · exact ⟨FSt.cutd_ok h (by omega), by rw [show ((0, t.cutd z.toNat) : Nat × FSt).2 = t.cutd z.toNat from rfl, FSt.cutd_big]; exact Nat.le_refl _⟩
theorem syncT_ok (t : FSt) (h : t.Ok) : (syncT t).2.Ok ∧ (syncT t).2.big ≤ t.big + 0 := ⟨FSt.settled_ok _ _, FSt.settled_big t (Nat.le_refl _)⟩
theorem crashT_ok (picks : List Int) (l : List Nat) (g : Nat → FSt) (i : Nat) (h : (g i).Ok) : (crashT picks l g i).Ok ∧ (crashT picks l g i).big ≤ (g i).big := by
  unfold crashT
  split
  · exact ⟨FSt.settled_ok _ _, FSt.settled_big _ (by have := Nat.mod_lt (pickAt picks (l.idxOf i + 1)) (show 0 < (g i).loose + 1 by omega); omega)⟩
  · exact ⟨h, Nat.le_refl _⟩
theorem FInv.crashK_ (h : FInv s q T) (picks : List Int) : FInv (crashK s picks).2 q T := by
  unfold crashK
  split
  · exact h
  · have hk : pickAt picks 0 % (s.dir.deeds.length + 1) ≤ s.dir.deeds.length := by have := Nat.mod_lt (pickAt picks 0) (show 0 < s.dir.deeds.length + 1 by omega); omega
    exact ⟨PSt.settle_ok h.dir _, h.ino.settle hk, fun i => (crashT_ok _ _ _ _ (h.files i)).1, Nat.le_trans (totL_congr (fun i _ => (crashT_ok _ _ _ _ (h.files i)).2)) h.tot, h.last, Nat.le_trans (settle_big _ _) h.few⟩
theorem FInv.doF_ (h : FInv s q T) (hq : q ≤ 1000) (a : Act7) : FInv (doF s a).2 (q + 1) (T + 60) := by
  have q1 : q ≤ q + 1 := Nat.le_succ _
  have T1 : T ≤ T + 60 := Nat.le_add_right _ _
  unfold doF
  split
  · exact h.step q1 T1 (fun h0 => (h0.createK_ hq _).mono (Nat.le_refl _) T1)
  · split
    · exact h.step q1 T1 (fun h0 => (h0.onF_ a.name (a.b.take 60).length (fun t ht => appT_ok _ _ _ t ht)).mono q1 (by rw [List.length_take]; omega))
    · split
      · exact h.step q1 T1 (fun h0 => (h0.onF_ a.name 1 (fun t ht => cutT_ok _ t ht)).mono q1 (by omega))
      · split
        · exact h.step q1 T1 (fun h0 => (h0.onF_ a.name 0 (fun t ht => syncT_ok t ht)).mono q1 (by omega))
        · split
          · refine h.step q1 T1 (fun h0 => ?_)
            have h1 := h0.dir_ hq ⟨5, a.name, a.name, 0⟩ (by simp)
            have e : (doP (beginF s).2.dir ⟨5, a.name, a.name, 0⟩).2.2 = (beginF s).2.dir.settle (beginF s).2.dir.deeds.length := by
              unfold doP
              rw [if_neg (by simp), if_neg (by simp), if_neg (by simp), if_pos rfl]
            rw [e] at h1
            exact h1.mono (Nat.le_refl _) T1
          · split
            · refine h.step q1 T1 (fun h0 => ?_)
              have h1 := h0.dir_ hq ⟨3, a.name, a.dst, 0⟩ (by simp)
              rw [renameP_do] at h1
              exact h1.mono (Nat.le_refl _) T1
            · split
              · refine h.step q1 T1 (fun h0 => ?_)
                have h1 := h0.dir_ hq ⟨4, a.name, a.name, 0⟩ (by simp)
                rw [removeP_do] at h1
                exact h1.mono (Nat.le_refl _) T1
              · split
                · unfold fuseF
                  split
                  · exact h.mono q1 T1
                  · have h1 : FInv { s with fuse := if a.n < 0 then none else some a.n.toNat } q T := h.same rfl rfl
                    exact h1.mono q1 T1
                · split
                  · exact (h.crashK_ _).mono q1 T1
                  · exact h.mono q1 T1
end
end Go.Proofs.YtboeiadfmknidaaGreat
