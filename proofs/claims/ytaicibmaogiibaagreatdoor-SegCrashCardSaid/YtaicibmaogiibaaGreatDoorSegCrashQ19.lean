/-
  SegCrash, part 19 of what the law's proof leans on: JfLive.
-/
import Derived.Test.YtaicibmaogiibaaGreatDoorSegCrashQ18
/- JfLive -/

/-
  Layer 7: a file system in new memory; what the document's examples make (plain mathematics).
-/
set_option linter.unusedVariables false
set_option linter.unusedSimpArgs false
namespace Go.Proofs.YtaicibmaogiibaaGreatDoor
open Go.RowKit Go.Maps

/-- a file system in memory that is new since w -/
structure FLive (w wk : World) (A : Nat) (M R : Nat → Prop) (s : FsP) : Prop where
  fs : FsM wk A s.used M R s
  below : Below w.heap.size w wk
  newM : ∀ i, M i → w.heap.size ≤ i
  newR : ∀ i, R i → w.heap.size ≤ i
section
variable {w wk w' : World} {A : Nat} {M R N : Nat → Prop} {s s' : FsP}
theorem FLive.on (h : FLive w wk A M R s) (hb : Below wk.heap.size wk w') : FLive w w' A M R s := ⟨h.fs.on hb, h.below.trans (hb.mono h.below.size), h.newM, h.newR⟩
theorem FLive.step (h : FLive w wk A M R s) (hm : FsMut wk w' A s'.used M R s') : ∃ M' R', FLive w w' A M' R' s' ∧ Chg M wk w' ∧ (∀ i, M' i → M i ∨ wk.heap.size ≤ i) ∧ (∀ i, R' i → R i ∨ wk.heap.size ≤ i) := by
  obtain ⟨M', R', h1, h2, h3, h4⟩ := hm
  have hs := h.below.size
  exact ⟨M', R', ⟨h1, h.below.trans (h2.below hs h.newM), fun i hi => (h3 i hi).elim (h.newM i) (fun e => by omega), fun i hi => (h4 i hi).elim (h.newR i) (fun e => by omega)⟩, h2, h3, h4⟩
theorem FLive.chg (h : FLive w wk A M R s) (hc : Chg N wk w') (hN : ∀ i, N i → ¬ M i ∧ ¬ R i ∧ w.heap.size ≤ i) : FLive w w' A M R s :=
  ⟨h.fs.chg hc (fun i hi => ⟨(hN i hi).1, (hN i hi).2.1⟩), h.below.trans (hc.below h.below.size (fun i hi => (hN i hi).2.2)), h.newM, h.newR⟩
end
def nA7 : ByteArray := { data := #[97] }
def wk0 : FsP := FsP.new 10
def wk1 : FsP := (stepF wk0 (createK nA7)).2
theorem wc1 : (stepF wk0 (createK nA7)).1 = 0 := by kernel_rfl
theorem finv_step {s : FsP} {q T : Nat} (h : FInv s q T) (hq : q ≤ 1000) {k : FsP → Nat × FsP} (hk : ∀ t, FInv t q T → FInv (k t).2 (q + 1) (T + 60)) : FInv (stepF s k).2 (q + 1) (T + 60) := h.step (Nat.le_succ _) (Nat.le_add_right _ _) (fun h0 => hk _ h0)
section
variable {s : FsP} {q T : Nat}
theorem FInv.c_create (h : FInv s q T) (hq : q ≤ 1000) (n : ByteArray) : FInv (stepF s (createK n)).2 (q + 1) (T + 60) := finv_step h hq (fun t ht => (ht.createK_ hq n).mono (Nat.le_refl _) (Nat.le_add_right _ _))
theorem FInv.c_append (h : FInv s q T) (hq : q ≤ 1000) (n : ByteArray) {b : List UInt8} (hb : b.length ≤ 60) : FInv (stepF s (appendK n b)).2 (q + 1) (T + 60) := finv_step h hq (fun t ht => (ht.onF_ n b.length (fun t ht => appT_ok _ _ _ t ht)).mono (Nat.le_succ _) (by omega))
theorem FInv.c_sync (h : FInv s q T) (hq : q ≤ 1000) (n : ByteArray) : FInv (stepF s (syncK n)).2 (q + 1) (T + 60) := finv_step h hq (fun t ht => (ht.onF_ n 0 (fun t ht => syncT_ok t ht)).mono (Nat.le_succ _) (by omega))
theorem FInv.c_syncdir (h : FInv s q T) (hq : q ≤ 1000) : FInv (stepF s syncDirK).2 (q + 1) (T + 60) := finv_step h hq (fun t ht => (finv_syncdir ht hq).mono (Nat.le_refl _) (by omega))
theorem FInv.c_crash (h : FInv s q T) (picks : List Int) : FInv (crashK s picks).2 (q + 1) (T + 60) := (h.crashK_ picks).mono (Nat.le_succ _) (Nat.le_add_right _ _)
end
end Go.Proofs.YtaicibmaogiibaaGreatDoor

