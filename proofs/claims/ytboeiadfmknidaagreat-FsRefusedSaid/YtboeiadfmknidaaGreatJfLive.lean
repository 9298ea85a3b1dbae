
/-
  Layer 7: a file system in new memory; what the document's examples make (plain mathematics).
-/
import Derived.Test.YtboeiadfmknidaaGreatJfSee
import Derived.Test.YtboeiadfmknidaaGreatJxSafe
set_option linter.unusedVariables false
set_option linter.unusedSimpArgs false
namespace Go.Proofs.YtboeiadfmknidaaGreat
open Go.RowKit Go.Maps

/-- a file system in memory that is new since w -/
structure FLive (w wk : World) (A : Nat) (M R : Nat → Prop) (s : FsP) : Prop where
  fs : FsM wk A s.used M R s
  below : Below w.heap.size w wk
  newM : ∀ i, M i → w.heap.size ≤ i
  newR : ∀ i, R i → w.heap.size ≤ i
section
variable {w wk w' : World} {A : Nat} {M R N : Nat → Prop} {s s' : FsP}
theorem FLive.on (h : FLive w wk A M R s) (hb : Below wk.heap.size wk w') : FLive w w' A M R s := ⟨h.fs.on hb, h.below.trans (hb.mono h.below.size), h.newM, h.newR⟩
theorem FLive.step (h : FLive w wk A M R s) (hm : FsMut wk w' A s'.used M R s') : ∃ M' R', FLive w w' A M' R' s' ∧ Chg M wk w' ∧ (∀ i, M' i → M i ∨ wk.heap.size ≤ i) ∧ (∀ i, R' i → R i ∨ wk.heap.size ≤ i) := by
  obtain ⟨M', R', h1, h2, h3, h4⟩ := hm
  have hs := h.below.size
  exact ⟨M', R', ⟨h1, h.below.trans (h2.below hs h.newM), fun i hi => (h3 i hi).elim (h.newM i) (fun e => by omega), fun i hi => (h4 i hi).elim (h.newR i) (fun e => by omega)⟩, h2, h3, h4⟩
theorem FLive.step_ (h : FLive w wk A M R s) (hm : FsMut wk w' A s'.used M R s') : ∃ M' R', FLive w w' A M' R' s' := by
  obtain ⟨M', R', h1, _⟩ := h.step hm
  exact ⟨M', R', h1⟩
theorem FLive.chg (h : FLive w wk A M R s) (hc : Chg N wk w') (hN : ∀ i, N i → ¬ M i ∧ ¬ R i ∧ w.heap.size ≤ i) : FLive w w' A M R s :=
  ⟨h.fs.chg hc (fun i hi => ⟨(hN i hi).1, (hN i hi).2.1⟩), h.below.trans (hc.below h.below.size (fun i hi => (hN i hi).2.2)), h.newM, h.newR⟩
theorem FLive.ltM (h : FLive w wk A M R s) : ∀ i, M i ∨ R i → i < wk.heap.size := fun i hi => hi.elim (h.fs.ml i) (h.fs.rl i)
end
/-- the row of a literal -/
theorem isR_lit (w : World) (l : List Int) (n : Nat) (hn : n = l.length) (C : Array Value) (hC : C = (ivs l).toArray) (e : TypeId) (hb : n ≤ 1000) : IsR (w.alloc (.cells C e)) (fun i => i = w.heap.size) (.slice (some ⟨w.heap.size, 0, none⟩) n n) l := by
  subst hn hC
  refine ⟨_, _, rfl, Nat.le_refl _, by omega, fun _ => ⟨w.heap.size, 0, rfl, rfl, fun j u hu => ?_⟩⟩
  rw [Nat.zero_add, cell_of_row (w.alloc (.cells (ivs l).toArray e)) w.heap.size j _ e (0, 0) (heap_alloc_new w _)]
  simpa using hu
def nA7 : ByteArray := { data := #[97] }
def nB7 : ByteArray := { data := #[98] }
def nC7 : ByteArray := { data := #[99] }
def wk0 : FsP := FsP.new 10
def wk1 : FsP := (stepF wk0 (createK nA7)).2
def wk2 : FsP := (stepF wk1 (appendK nA7 [97, 98, 99, 100, 101, 102])).2
def wk3 : FsP := (stepF wk2 (appendK nA7 [103, 104, 105, 106, 107])).2
def wk4 : FsP := (stepF wk3 (syncK nA7)).2
def wk5 : FsP := (crashK wk4 [0]).2
def wk6 : FsP := (stepF wk5 (createK nA7)).2
def wk7 : FsP := (stepF wk6 syncDirK).2
def wk8 : FsP := (stepF wk7 (appendK nA7 [120, 121, 122])).2
def wk9 : FsP := (crashK wk8 [0, 2]).2
def wk10 : FsP := (fuseF wk9 1).2
def wk11 : FsP := (stepF wk10 (createK nB7)).2
def wk12 : FsP := (stepF wk11 (createK nC7)).2
theorem wc1 : (stepF wk0 (createK nA7)).1 = 0 := by kernel_rfl
theorem wc2 : (stepF wk1 (appendK nA7 [97, 98, 99, 100, 101, 102])).1 = 0 := by kernel_rfl
theorem wc3 : (stepF wk2 (appendK nA7 [103, 104, 105, 106, 107])).1 = 21 := by kernel_rfl
theorem wc4 : (stepF wk3 (syncK nA7)).1 = 0 := by kernel_rfl
theorem wc5 : wk5.dir.now = [] := by kernel_rfl
theorem wo5 : wk5.off = false := by kernel_rfl
theorem wc8 : (stepF wk7 (appendK nA7 [120, 121, 122])).1 = 0 := by kernel_rfl
theorem wc9 : nodeF wk9 nA7 = (0, 2) := by kernel_rfl
theorem wo9 : wk9.off = false := by kernel_rfl
theorem wf9 : (wk9.file 2).bytes = [120, 121] := by
  have h1 : (crashD wk8 [0, 2]).safe = [(nA7, 2)] := by kernel_rfl
  have h2 : wk9.file = crashT [0, 2] (inosL (crashD wk8 [0, 2]).safe) wk8.file := by kernel_rfl
  have h3 : inosL [(nA7, 2)] = [2] := by simp [inosL]
  have h4 : wk8.file 2 = (FSt.new []).app [120, 121, 122] := by kernel_rfl
  rw [h2, h1, h3]
  unfold crashT
  rw [if_pos (by simp), h4]
  rfl
theorem wc10 : (fuseF wk9 1).1 = 0 := by kernel_rfl
theorem wc11 : (stepF wk10 (createK nB7)).1 = 0 := by kernel_rfl
theorem wc12 : (stepF wk11 (createK nC7)).1 = 20 := by kernel_rfl
theorem wo12 : wk12.off = true := by kernel_rfl
theorem finv_step {s : FsP} {q T : Nat} (h : FInv s q T) (hq : q ≤ 1000) {k : FsP → Nat × FsP} (hk : ∀ t, FInv t q T → FInv (k t).2 (q + 1) (T + 60)) : FInv (stepF s k).2 (q + 1) (T + 60) := h.step (Nat.le_succ _) (Nat.le_add_right _ _) (fun h0 => hk _ h0)
section
variable {s : FsP} {q T : Nat}
theorem FInv.c_create (h : FInv s q T) (hq : q ≤ 1000) (n : ByteArray) : FInv (stepF s (createK n)).2 (q + 1) (T + 60) := finv_step h hq (fun t ht => (ht.createK_ hq n).mono (Nat.le_refl _) (Nat.le_add_right _ _))
theorem FInv.c_append (h : FInv s q T) (hq : q ≤ 1000) (n : ByteArray) {b : List UInt8} (hb : b.length ≤ 60) : FInv (stepF s (appendK n b)).2 (q + 1) (T + 60) := finv_step h hq (fun t ht => (ht.onF_ n b.length (fun t ht => appT_ok _ _ _ t ht)).mono (Nat.le_succ _) (by omega))
theorem FInv.c_sync (h : FInv s q T) (hq : q ≤ 1000) (n : ByteArray) : FInv (stepF s (syncK n)).2 (q + 1) (T + 60) := finv_step h hq (fun t ht => (ht.onF_ n 0 (fun t ht => syncT_ok t ht)).mono (Nat.le_succ _) (by omega))
theorem FInv.c_syncdir (h : FInv s q T) (hq : q ≤ 1000) : FInv (stepF s syncDirK).2 (q + 1) (T + 60) := finv_step h hq (fun t ht => (finv_syncdir ht hq).mono (Nat.le_refl _) (by omega))
theorem FInv.c_crash (h : FInv s q T) (picks : List Int) : FInv (crashK s picks).2 (q + 1) (T + 60) := (h.crashK_ picks).mono (Nat.le_succ _) (Nat.le_add_right _ _)
end
theorem wi0 : FInv wk0 0 0 := FInv.new 10
theorem wi1 : FInv wk1 1 60 := wi0.c_create (by omega) _
theorem wi2 : FInv wk2 2 120 := wi1.c_append (by omega) _ (by decide)
theorem wi3 : FInv wk3 3 180 := wi2.c_append (by omega) _ (by decide)
theorem wi4 : FInv wk4 4 240 := wi3.c_sync (by omega) _
theorem wi5 : FInv wk5 5 300 := wi4.c_crash _
theorem wi6 : FInv wk6 6 360 := wi5.c_create (by omega) _
theorem wi7 : FInv wk7 7 420 := wi6.c_syncdir (by omega)
theorem wi8 : FInv wk8 8 480 := wi7.c_append (by omega) _ (by decide)
theorem wi9 : FInv wk9 9 540 := wi8.c_crash _
theorem wi10 : FInv wk10 9 540 := wi9.same (by kernel_rfl) (by kernel_rfl)
theorem wi11 : FInv wk11 10 600 := wi10.c_create (by omega) _
theorem wst : wk0.steps = 0 ∧ wk1.steps = 1 ∧ wk2.steps = 2 ∧ wk3.steps = 3 ∧ wk4.steps = 4 ∧ wk5.steps = 4 ∧ wk6.steps = 5 ∧ wk7.steps = 6 ∧ wk8.steps = 7 ∧ wk9.steps = 7 ∧ wk10.steps = 7 ∧ wk11.steps = 8 := by
  refine ⟨?_, ?_, ?_, ?_, ?_, ?_, ?_, ?_, ?_, ?_, ?_, ?_⟩ <;> kernel_rfl
end Go.Proofs.YtboeiadfmknidaaGreat
