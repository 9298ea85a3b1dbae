
/-
  Layer 7: the fuse, and what is refused while the power is off (plain mathematics; Size while it is off).
-/
import Derived.Test.YtboeiadfmknidaaGreatJgState
set_option linter.unusedVariables false
set_option linter.unusedSimpArgs false
namespace Go.Proofs.YtboeiadfmknidaaGreat
open Go.RowKit Go.Maps

section
variable {s : FsP} {q T : Nat}
/-- the folder's Sync makes nothing more -/
theorem FInv.syncdir0 (h : FInv s q T) : FInv (syncDirK s).2 q T :=
  ⟨PSt.settle_ok h.dir _, h.ino.settle (Nat.le_refl _), h.files, h.tot, h.last, Nat.le_trans (settle_big _ _) h.few⟩
theorem FInv.step0 (h : FInv s q T) : FInv (stepF s syncDirK).2 q T := h.step (Nat.le_refl _) (Nat.le_refl _) (fun h0 => h0.syncdir0)
/-- the fuse lets through: behind i of n steps -/
structure Fuse7 (s0 st : FsP) (n i : Nat) : Prop where
  off : st.off = false
  fuse : st.fuse = some (n - i)
  steps : st.steps = s0.steps + i
theorem Fuse7.start (h : s.off = false) (n : Nat) : (fuseF s (n : Int)).1 = 0 ∧ Fuse7 s (fuseF s (n : Int)).2 n 0 ∧ (fuseF s (n : Int)).2.dir = s.dir ∧ (fuseF s (n : Int)).2.file = s.file := by
  have e : fuseF s (n : Int) = (0, { s with fuse := some n }) := by
    unfold fuseF
    rw [if_neg (by simp [h]), if_neg (by omega)]
    simp
  rw [e]
  exact ⟨rfl, ⟨h, by simp, by simp⟩, rfl, rfl⟩
theorem Fuse7.next {s0 : FsP} {n i : Nat} (h : Fuse7 s0 s n i) (hi : i < n) : (stepF s syncDirK).1 = 0 ∧ Fuse7 s0 (stepF s syncDirK).2 n (i + 1) := by
  have hb : beginF s = (0, { s with steps := s.steps + 1, fuse := some (n - i - 1) }) := by
    unfold beginF
    rw [if_neg (by simp [h.off]), if_neg (by rw [h.fuse]; intro e; injection e; omega), h.fuse]
    rfl
  have e : stepF s syncDirK = syncDirK { s with steps := s.steps + 1, fuse := some (n - i - 1) } := by unfold stepF; rw [hb]; rfl
  rw [e]
  refine ⟨rfl, ⟨h.off, ?_, ?_⟩⟩
  · show some (n - i - 1) = some (n - (i + 1))
    congr 1
  · show s.steps + 1 = s0.steps + (i + 1)
    rw [h.steps]; omega
/-- at its end: the power goes off, and nothing is done -/
theorem Fuse7.last {s0 : FsP} {n : Nat} (h : Fuse7 s0 s n n) (k : FsP → Nat × FsP) : stepF s k = (20, { s with off := true, steps := s.steps + 1 }) := by
  have hz : s.fuse = some 0 := by rw [h.fuse, Nat.sub_self]
  have hb : beginF s = (20, { s with off := true, steps := s.steps + 1 }) := by
    unfold beginF
    rw [if_neg (by simp [h.off]), if_pos hz]
  unfold stepF
  rw [hb]
  rfl
theorem stepF_off (h : s.off = true) (k : FsP → Nat × FsP) : stepF s k = (20, s) := by
  unfold stepF
  rw [beginF_off h]
  rfl
theorem fuseF_off (h : s.off = true) (n : Int) : fuseF s n = (20, s) := by unfold fuseF; rw [if_pos h]
/-- a crash looks at the folder and the files alone -/
theorem crash_same {t : FsP} (h1 : t.dir = s.dir) (h2 : t.file = s.file) (picks : List Int) (hp : picks.any (· < 0) = false) : stateL (crashK t picks).2 = stateL (crashK s picks).2 ∧ (crashK t picks).2.steps = t.steps := by
  unfold crashK
  rw [if_neg (by simp [hp]), if_neg (by simp [hp])]
  refine ⟨?_, rfl⟩
  unfold stateL crashD
  simp only [h1, h2]
end
section
variable {w : World} {A X B n u q T : Nat} {hv : Value} {K : List Nat} {g : Nat → Nat} {MX M R : Nat → Prop} {MF : Nat → Nat → Prop} {s : FsP} {nm : ByteArray}
set_option maxRecDepth 100000 in
theorem kfind_off (h : FsAt w A X B n u hv K g MX MF M R s) (ho : s.off = true) : Calls Tryz.prog 54 #[.pointer (some ⟨A, 0, none⟩), .string nm] w fun e w' => e = .returned (.tuple #[.pointer none, .int .i64 20]) ∧ w = w' := by
  have hon := kready h.cells
  rw [ho] at hon
  simp only [Bool.not_true] at hon
  have HON := Lib.hid hon
  clear h hon
  go_enter Tryz.func54, Tryz.ntmps54
  go_wp2_with (go_at_call 60; refine HON.out.mono ?_; rintro e w' ⟨rfl, rfl⟩)
  go_ret2
  exact ⟨rfl, rfl⟩
set_option maxRecDepth 100000 in
theorem ksize_off (h : FsM w A u M R s) (ho : s.off = true) : Calls Tryz.prog 17 #[.pointer (some ⟨A, 0, none⟩), .string nm] w fun e w' => e = .returned (.tuple #[.int .i64 0, .int .i64 20]) ∧ w = w' := by
  obtain ⟨X, B, n, hv, K, g, MX, MF, ha, _⟩ := h
  have HF := Lib.hid (kfind_off (nm := nm) ha ho)
  clear ha
  go_enter Tryz.func17, Tryz.ntmps17
  go_wp2_with (go_at_call 54; refine HF.out.mono ?_; rintro e w1 ⟨rfl, rfl⟩)
  go_ret2
  exact ⟨rfl, rfl⟩
end
end Go.Proofs.YtboeiadfmknidaaGreat
