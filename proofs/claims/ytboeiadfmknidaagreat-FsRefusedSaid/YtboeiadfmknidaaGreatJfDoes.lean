
/-
  Layer 7: a call of the laws ('does').
-/
import Derived.Test.YtboeiadfmknidaaGreatJfWakes
import Derived.Test.YtboeiadfmknidaaGreatArgsE
set_option linter.unusedVariables false
set_option linter.unusedSimpArgs false
namespace Go.Proofs.YtboeiadfmknidaaGreat
open Go.RowKit Go.Maps

def act7V (a : Act7) (bv pv : Value) : Value := .agg #[.int .i64 a.what, .string a.name, .string a.dst, .int .i64 a.n, .int .i64 a.m, bv, pv]
/-- what a call needs -/
structure ActOk (w : World) (N : Nat → Prop) (a : Act7) (bv pv : Value) : Prop where
  b : BsIn w N bv a.b
  bl : a.b.length ≤ 9223372036854775807
  p : IsR w N pv a.picks
  nm : a.name.size ≤ maxLen
  dst : a.dst.size ≤ maxLen
  n : a.n < 9223372036854775808
theorem ActOk.on {w w' : World} {N : Nat → Prop} {a : Act7} {bv pv : Value} (h : ActOk w N a bv pv) (hb : Below w.heap.size w w') : ActOk w' N a bv pv :=
  ⟨h.b.chg (Chg.of_below (M := fun _ => False) hb) (fun i e => e.elim), h.bl, h.p.on hb, h.nm, h.dst, h.n⟩
section
variable {w : World} {A q T : Nat} {M R N : Nat → Prop} {s : FsP} {a : Act7} {bv pv : Value}
theorem doF_app (h : a.what = 1 ∨ a.what = 2) : doF s a = stepF s (appendK a.name (a.b.take 60)) := by
  unfold doF
  rw [if_neg (by omega), if_pos h]
theorem doF_other (h : ¬ (a.what = 0 ∨ a.what = 1 ∨ a.what = 2 ∨ a.what = 3 ∨ a.what = 4 ∨ a.what = 5 ∨ a.what = 6 ∨ a.what = 7 ∨ a.what = 9 ∨ a.what = 11)) : doF s a = (0, s) := by
  unfold doF
  rw [if_neg (by omega), if_neg (by omega), if_neg (by omega), if_neg (by omega), if_neg (by omega), if_neg (by omega), if_neg (by omega), if_neg (by omega), if_neg (by omega)]
set_option maxRecDepth 100000 in
set_option maxHeartbeats 8000000 in
theorem kdoes_create (h : FsM w A s.used M R s) (hf : FInv s q T) (hq : q ≤ 200) (hT : T ≤ 90000) (hst : s.steps + 1 ≤ 1000000) (ha : ActOk w N a bv pv) (hN : ∀ i, M i → ¬ N i) (hNl : ∀ i, N i → i < w.heap.size) (hw : a.what = 0) :
    Calls Tryz.prog 8 #[.pointer (some ⟨A, 0, none⟩), act7V a bv pv] w fun e w' => e = .returned (.int .i64 ((doF s a).1 : Int)) ∧ FsMut w w' A (doF s a).2.used M R (doF s a).2 := by
  obtain ⟨what, nm, dst, zn, zm, bl, picks⟩ := a
  obtain ⟨h1, h1l, h2, h3, h4, h5⟩ := ha
  simp only at hw h1 h1l h2 h3 h4 h5
  have hb1 := h1
  have hp1 := h2
  obtain ⟨Ab, cb, rfl, hcb, _⟩ := h1
  obtain ⟨Ap, cpp, rfl, hcp, _, _⟩ := h2
  obtain ⟨W, hW⟩ : ∃ W, W = w.alloc (.cells #[.int .i64 what, .string nm, .string dst, .int .i64 zn, .int .i64 zm, .slice Ab bl.length cb, .slice Ap picks.length cpp] 31) := ⟨_, rfl⟩
  have hb : Below w.heap.size w W := by rw [hW]; exact (Below.refl _ _).alloc (Nat.le_refl _) _
  have hm := h.on hb
  have HB := Lib.hid hb
  have hNl' : ∀ i, N i → i < W.heap.size := fun i e => Nat.lt_of_lt_of_le (hNl i e) hb.size
  have hb2 := hb1.chg (Chg.of_below (M := fun _ => False) hb) (fun i e => e.elim)
  have hp2 := hp1.on hb
  unfold act7V
  subst hw
  have hcon := Lib.hid (kcreate h3 hm hf hq (by omega) hst)
  rw [show doF s _ = stepF s (createK nm) from rfl]
  generalize stepF s (createK nm) = an at *
  clear h hf hm hb hb1 hp1 hb2 hp2 hNl' hN hNl
  go_enter Tryz.func8, Tryz.ntmps8
  go_wp2_with fail
  rw [← hW]
  refine hcon.out.mono ?_
  rintro e w1 ⟨rfl, hm⟩
  have HM := Lib.hid (hm.after (Chg.of_below HB.out) (fun _ => .inl) (fun _ => .inl))
  clear hm
  go_wp2_with fail
  go_ret
  exact ⟨rfl, HM.out⟩
set_option maxRecDepth 100000 in
set_option maxHeartbeats 8000000 in
theorem kdoes_trunc (h : FsM w A s.used M R s) (hf : FInv s q T) (hq : q ≤ 200) (hT : T ≤ 90000) (hst : s.steps + 1 ≤ 1000000) (ha : ActOk w N a bv pv) (hN : ∀ i, M i → ¬ N i) (hNl : ∀ i, N i → i < w.heap.size) (hw : a.what = 3) :
    Calls Tryz.prog 8 #[.pointer (some ⟨A, 0, none⟩), act7V a bv pv] w fun e w' => e = .returned (.int .i64 ((doF s a).1 : Int)) ∧ FsMut w w' A (doF s a).2.used M R (doF s a).2 := by
  obtain ⟨what, nm, dst, zn, zm, bl, picks⟩ := a
  obtain ⟨h1, h1l, h2, h3, h4, h5⟩ := ha
  simp only at hw h1 h1l h2 h3 h4 h5
  have hb1 := h1
  have hp1 := h2
  obtain ⟨Ab, cb, rfl, hcb, _⟩ := h1
  obtain ⟨Ap, cpp, rfl, hcp, _, _⟩ := h2
  obtain ⟨W, hW⟩ : ∃ W, W = w.alloc (.cells #[.int .i64 what, .string nm, .string dst, .int .i64 zn, .int .i64 zm, .slice Ab bl.length cb, .slice Ap picks.length cpp] 31) := ⟨_, rfl⟩
  have hb : Below w.heap.size w W := by rw [hW]; exact (Below.refl _ _).alloc (Nat.le_refl _) _
  have hm := h.on hb
  have HB := Lib.hid hb
  have hNl' : ∀ i, N i → i < W.heap.size := fun i e => Nat.lt_of_lt_of_le (hNl i e) hb.size
  have hb2 := hb1.chg (Chg.of_below (M := fun _ => False) hb) (fun i e => e.elim)
  have hp2 := hp1.on hb
  unfold act7V
  subst hw
  have hcon := Lib.hid (ktrunc (z := zn) h3 hm hf (by omega) hst)
  rw [show doF s _ = stepF s (truncK nm zn) from rfl]
  generalize stepF s (truncK nm zn) = an at *
  clear h hf hm hb hb1 hp1 hb2 hp2 hNl' hN hNl
  go_enter Tryz.func8, Tryz.ntmps8
  go_wp2_with fail
  rw [← hW]
  refine hcon.out.mono ?_
  rintro e w1 ⟨rfl, hm⟩
  have HM := Lib.hid (hm.after (Chg.of_below HB.out) (fun _ => .inl) (fun _ => .inl))
  clear hm
  go_wp2_with fail
  go_ret
  exact ⟨rfl, HM.out⟩
set_option maxRecDepth 100000 in
set_option maxHeartbeats 8000000 in
theorem kdoes_sync (h : FsM w A s.used M R s) (hf : FInv s q T) (hq : q ≤ 200) (hT : T ≤ 90000) (hst : s.steps + 1 ≤ 1000000) (ha : ActOk w N a bv pv) (hN : ∀ i, M i → ¬ N i) (hNl : ∀ i, N i → i < w.heap.size) (hw : a.what = 4) :
    Calls Tryz.prog 8 #[.pointer (some ⟨A, 0, none⟩), act7V a bv pv] w fun e w' => e = .returned (.int .i64 ((doF s a).1 : Int)) ∧ FsMut w w' A (doF s a).2.used M R (doF s a).2 := by
  obtain ⟨what, nm, dst, zn, zm, bl, picks⟩ := a
  obtain ⟨h1, h1l, h2, h3, h4, h5⟩ := ha
  simp only at hw h1 h1l h2 h3 h4 h5
  have hb1 := h1
  have hp1 := h2
  obtain ⟨Ab, cb, rfl, hcb, _⟩ := h1
  obtain ⟨Ap, cpp, rfl, hcp, _, _⟩ := h2
  obtain ⟨W, hW⟩ : ∃ W, W = w.alloc (.cells #[.int .i64 what, .string nm, .string dst, .int .i64 zn, .int .i64 zm, .slice Ab bl.length cb, .slice Ap picks.length cpp] 31) := ⟨_, rfl⟩
  have hb : Below w.heap.size w W := by rw [hW]; exact (Below.refl _ _).alloc (Nat.le_refl _) _
  have hm := h.on hb
  have HB := Lib.hid hb
  have hNl' : ∀ i, N i → i < W.heap.size := fun i e => Nat.lt_of_lt_of_le (hNl i e) hb.size
  have hb2 := hb1.chg (Chg.of_below (M := fun _ => False) hb) (fun i e => e.elim)
  have hp2 := hp1.on hb
  unfold act7V
  subst hw
  have hcon := Lib.hid (ksync h3 hm hf (by omega) hst)
  rw [show doF s _ = stepF s (syncK nm) from rfl]
  generalize stepF s (syncK nm) = an at *
  clear h hf hm hb hb1 hp1 hb2 hp2 hNl' hN hNl
  go_enter Tryz.func8, Tryz.ntmps8
  go_wp2_with fail
  rw [← hW]
  refine hcon.out.mono ?_
  rintro e w1 ⟨rfl, hm⟩
  have HM := Lib.hid (hm.after (Chg.of_below HB.out) (fun _ => .inl) (fun _ => .inl))
  clear hm
  go_wp2_with fail
  go_ret
  exact ⟨rfl, HM.out⟩
set_option maxRecDepth 100000 in
set_option maxHeartbeats 8000000 in
theorem kdoes_syncdir (h : FsM w A s.used M R s) (hf : FInv s q T) (hq : q ≤ 200) (hT : T ≤ 90000) (hst : s.steps + 1 ≤ 1000000) (ha : ActOk w N a bv pv) (hN : ∀ i, M i → ¬ N i) (hNl : ∀ i, N i → i < w.heap.size) (hw : a.what = 5) :
    Calls Tryz.prog 8 #[.pointer (some ⟨A, 0, none⟩), act7V a bv pv] w fun e w' => e = .returned (.int .i64 ((doF s a).1 : Int)) ∧ FsMut w w' A (doF s a).2.used M R (doF s a).2 := by
  obtain ⟨what, nm, dst, zn, zm, bl, picks⟩ := a
  obtain ⟨h1, h1l, h2, h3, h4, h5⟩ := ha
  simp only at hw h1 h1l h2 h3 h4 h5
  have hb1 := h1
  have hp1 := h2
  obtain ⟨Ab, cb, rfl, hcb, _⟩ := h1
  obtain ⟨Ap, cpp, rfl, hcp, _, _⟩ := h2
  obtain ⟨W, hW⟩ : ∃ W, W = w.alloc (.cells #[.int .i64 what, .string nm, .string dst, .int .i64 zn, .int .i64 zm, .slice Ab bl.length cb, .slice Ap picks.length cpp] 31) := ⟨_, rfl⟩
  have hb : Below w.heap.size w W := by rw [hW]; exact (Below.refl _ _).alloc (Nat.le_refl _) _
  have hm := h.on hb
  have HB := Lib.hid hb
  have hNl' : ∀ i, N i → i < W.heap.size := fun i e => Nat.lt_of_lt_of_le (hNl i e) hb.size
  have hb2 := hb1.chg (Chg.of_below (M := fun _ => False) hb) (fun i e => e.elim)
  have hp2 := hp1.on hb
  unfold act7V
  subst hw
  have hcon := Lib.hid (ksyncdir hm hf hq (by omega) hst)
  rw [show doF s _ = stepF s syncDirK from rfl]
  generalize stepF s syncDirK = an at *
  clear h hf hm hb hb1 hp1 hb2 hp2 hNl' hN hNl
  go_enter Tryz.func8, Tryz.ntmps8
  go_wp2_with fail
  rw [← hW]
  refine hcon.out.mono ?_
  rintro e w1 ⟨rfl, hm⟩
  have HM := Lib.hid (hm.after (Chg.of_below HB.out) (fun _ => .inl) (fun _ => .inl))
  clear hm
  go_wp2_with fail
  go_ret
  exact ⟨rfl, HM.out⟩
set_option maxRecDepth 100000 in
set_option maxHeartbeats 8000000 in
theorem kdoes_rename (h : FsM w A s.used M R s) (hf : FInv s q T) (hq : q ≤ 200) (hT : T ≤ 90000) (hst : s.steps + 1 ≤ 1000000) (ha : ActOk w N a bv pv) (hN : ∀ i, M i → ¬ N i) (hNl : ∀ i, N i → i < w.heap.size) (hw : a.what = 6) :
    Calls Tryz.prog 8 #[.pointer (some ⟨A, 0, none⟩), act7V a bv pv] w fun e w' => e = .returned (.int .i64 ((doF s a).1 : Int)) ∧ FsMut w w' A (doF s a).2.used M R (doF s a).2 := by
  obtain ⟨what, nm, dst, zn, zm, bl, picks⟩ := a
  obtain ⟨h1, h1l, h2, h3, h4, h5⟩ := ha
  simp only at hw h1 h1l h2 h3 h4 h5
  have hb1 := h1
  have hp1 := h2
  obtain ⟨Ab, cb, rfl, hcb, _⟩ := h1
  obtain ⟨Ap, cpp, rfl, hcp, _, _⟩ := h2
  obtain ⟨W, hW⟩ : ∃ W, W = w.alloc (.cells #[.int .i64 what, .string nm, .string dst, .int .i64 zn, .int .i64 zm, .slice Ab bl.length cb, .slice Ap picks.length cpp] 31) := ⟨_, rfl⟩
  have hb : Below w.heap.size w W := by rw [hW]; exact (Below.refl _ _).alloc (Nat.le_refl _) _
  have hm := h.on hb
  have HB := Lib.hid hb
  have hNl' : ∀ i, N i → i < W.heap.size := fun i e => Nat.lt_of_lt_of_le (hNl i e) hb.size
  have hb2 := hb1.chg (Chg.of_below (M := fun _ => False) hb) (fun i e => e.elim)
  have hp2 := hp1.on hb
  unfold act7V
  subst hw
  have hcon := Lib.hid (krename h3 h4 hm hf hq (by omega) hst)
  rw [show doF s _ = stepF s (renameK nm dst) from rfl]
  generalize stepF s (renameK nm dst) = an at *
  clear h hf hm hb hb1 hp1 hb2 hp2 hNl' hN hNl
  go_enter Tryz.func8, Tryz.ntmps8
  go_wp2_with fail
  rw [← hW]
  refine hcon.out.mono ?_
  rintro e w1 ⟨rfl, hm⟩
  have HM := Lib.hid (hm.after (Chg.of_below HB.out) (fun _ => .inl) (fun _ => .inl))
  clear hm
  go_wp2_with fail
  go_ret
  exact ⟨rfl, HM.out⟩
set_option maxRecDepth 100000 in
set_option maxHeartbeats 8000000 in
theorem kdoes_remove (h : FsM w A s.used M R s) (hf : FInv s q T) (hq : q ≤ 200) (hT : T ≤ 90000) (hst : s.steps + 1 ≤ 1000000) (ha : ActOk w N a bv pv) (hN : ∀ i, M i → ¬ N i) (hNl : ∀ i, N i → i < w.heap.size) (hw : a.what = 7) :
    Calls Tryz.prog 8 #[.pointer (some ⟨A, 0, none⟩), act7V a bv pv] w fun e w' => e = .returned (.int .i64 ((doF s a).1 : Int)) ∧ FsMut w w' A (doF s a).2.used M R (doF s a).2 := by
  obtain ⟨what, nm, dst, zn, zm, bl, picks⟩ := a
  obtain ⟨h1, h1l, h2, h3, h4, h5⟩ := ha
  simp only at hw h1 h1l h2 h3 h4 h5
  have hb1 := h1
  have hp1 := h2
  obtain ⟨Ab, cb, rfl, hcb, _⟩ := h1
  obtain ⟨Ap, cpp, rfl, hcp, _, _⟩ := h2
  obtain ⟨W, hW⟩ : ∃ W, W = w.alloc (.cells #[.int .i64 what, .string nm, .string dst, .int .i64 zn, .int .i64 zm, .slice Ab bl.length cb, .slice Ap picks.length cpp] 31) := ⟨_, rfl⟩
  have hb : Below w.heap.size w W := by rw [hW]; exact (Below.refl _ _).alloc (Nat.le_refl _) _
  have hm := h.on hb
  have HB := Lib.hid hb
  have hNl' : ∀ i, N i → i < W.heap.size := fun i e => Nat.lt_of_lt_of_le (hNl i e) hb.size
  have hb2 := hb1.chg (Chg.of_below (M := fun _ => False) hb) (fun i e => e.elim)
  have hp2 := hp1.on hb
  unfold act7V
  subst hw
  have hcon := Lib.hid (kremove h3 hm hf hq (by omega) hst)
  rw [show doF s _ = stepF s (removeK nm) from rfl]
  generalize stepF s (removeK nm) = an at *
  clear h hf hm hb hb1 hp1 hb2 hp2 hNl' hN hNl
  go_enter Tryz.func8, Tryz.ntmps8
  go_wp2_with fail
  rw [← hW]
  refine hcon.out.mono ?_
  rintro e w1 ⟨rfl, hm⟩
  have HM := Lib.hid (hm.after (Chg.of_below HB.out) (fun _ => .inl) (fun _ => .inl))
  clear hm
  go_wp2_with fail
  go_ret
  exact ⟨rfl, HM.out⟩
set_option maxRecDepth 100000 in
set_option maxHeartbeats 8000000 in
theorem kdoes_fuse (h : FsM w A s.used M R s) (hf : FInv s q T) (hq : q ≤ 200) (hT : T ≤ 90000) (hst : s.steps + 1 ≤ 1000000) (ha : ActOk w N a bv pv) (hN : ∀ i, M i → ¬ N i) (hNl : ∀ i, N i → i < w.heap.size) (hw : a.what = 9) :
    Calls Tryz.prog 8 #[.pointer (some ⟨A, 0, none⟩), act7V a bv pv] w fun e w' => e = .returned (.int .i64 ((doF s a).1 : Int)) ∧ FsMut w w' A (doF s a).2.used M R (doF s a).2 := by
  obtain ⟨what, nm, dst, zn, zm, bl, picks⟩ := a
  obtain ⟨h1, h1l, h2, h3, h4, h5⟩ := ha
  simp only at hw h1 h1l h2 h3 h4 h5
  have hb1 := h1
  have hp1 := h2
  obtain ⟨Ab, cb, rfl, hcb, _⟩ := h1
  obtain ⟨Ap, cpp, rfl, hcp, _, _⟩ := h2
  obtain ⟨W, hW⟩ : ∃ W, W = w.alloc (.cells #[.int .i64 what, .string nm, .string dst, .int .i64 zn, .int .i64 zm, .slice Ab bl.length cb, .slice Ap picks.length cpp] 31) := ⟨_, rfl⟩
  have hb : Below w.heap.size w W := by rw [hW]; exact (Below.refl _ _).alloc (Nat.le_refl _) _
  have hm := h.on hb
  have HB := Lib.hid hb
  have hNl' : ∀ i, N i → i < W.heap.size := fun i e => Nat.lt_of_lt_of_le (hNl i e) hb.size
  have hb2 := hb1.chg (Chg.of_below (M := fun _ => False) hb) (fun i e => e.elim)
  have hp2 := hp1.on hb
  unfold act7V
  subst hw
  have huse : (fuseF s zn).2.used = s.used := by unfold fuseF; split <;> rfl
  have hcon := kfuseset h5 hm
  rw [← huse] at hcon
  replace hcon := Lib.hid hcon
  rw [show doF s _ = fuseF s zn from rfl]
  clear huse
  generalize fuseF s zn = an at *
  clear h hf hm hb hb1 hp1 hb2 hp2 hNl' hN hNl
  go_enter Tryz.func8, Tryz.ntmps8
  go_wp2_with fail
  rw [← hW]
  refine hcon.out.mono ?_
  rintro e w1 ⟨rfl, hm⟩
  have HM := Lib.hid (hm.after (Chg.of_below HB.out) (fun _ => .inl) (fun _ => .inl))
  clear hm
  go_wp2_with fail
  go_ret
  exact ⟨rfl, HM.out⟩
set_option maxRecDepth 100000 in
set_option maxHeartbeats 8000000 in
theorem kdoes_app1 (h : FsM w A s.used M R s) (hf : FInv s q T) (hq : q ≤ 200) (hT : T ≤ 90000) (hst : s.steps + 1 ≤ 1000000) (ha : ActOk w N a bv pv) (hN : ∀ i, M i → ¬ N i) (hNl : ∀ i, N i → i < w.heap.size) (hw : a.what = 1) :
    Calls Tryz.prog 8 #[.pointer (some ⟨A, 0, none⟩), act7V a bv pv] w fun e w' => e = .returned (.int .i64 ((doF s a).1 : Int)) ∧ FsMut w w' A (doF s a).2.used M R (doF s a).2 := by
  obtain ⟨what, nm, dst, zn, zm, bl, picks⟩ := a
  obtain ⟨h1, h1l, h2, h3, h4, h5⟩ := ha
  simp only at hw h1 h1l h2 h3 h4 h5
  have hb1 := h1
  have hp1 := h2
  obtain ⟨Ab, cb, rfl, hcb, _⟩ := h1
  obtain ⟨Ap, cpp, rfl, hcp, _, _⟩ := h2
  obtain ⟨W, hW⟩ : ∃ W, W = w.alloc (.cells #[.int .i64 what, .string nm, .string dst, .int .i64 zn, .int .i64 zm, .slice Ab bl.length cb, .slice Ap picks.length cpp] 31) := ⟨_, rfl⟩
  have hb : Below w.heap.size w W := by rw [hW]; exact (Below.refl _ _).alloc (Nat.le_refl _) _
  have hm := h.on hb
  have HB := Lib.hid hb
  have hNl' : ∀ i, N i → i < W.heap.size := fun i e => Nat.lt_of_lt_of_le (hNl i e) hb.size
  have hb2 := hb1.chg (Chg.of_below (M := fun _ => False) hb) (fun i e => e.elim)
  have hp2 := hp1.on hb
  unfold act7V
  subst hw
  obtain ⟨l, hl⟩ : ∃ l, l = bl.length := ⟨_, rfl⟩
  obtain ⟨k, hk⟩ : ∃ k, k = min l 60 := ⟨_, rfl⟩
  have hmin : min (l : Int) 60 = (k : Int) := by omega
  have hcut := cut_h Ab l cb k (by omega)
  have htk : bl.take 60 = bl.take k := by rw [List.take_eq_take_iff]; omega
  rw [← hl] at hb2 hW
  have hc1 : W.cell? ⟨w.heap.size, 1, none⟩ = some (.string nm) := by rw [hW]; simp
  have hc5 : W.cell? ⟨w.heap.size, 5, none⟩ = some (.slice Ab l cb) := by rw [hW]; simp
  have HnM : Hid (¬ M w.heap.size) := fun e => by have := h.ml _ e; omega
  have hb3 := BsIn.take hb2 (k := k) (by omega)
  rw [← htk] at hb3
  have HS : Hid (∀ w1, Below W.heap.size W w1 → Calls Tryz.prog 10 #[.pointer (some ⟨A, 0, none⟩), .string nm, .slice Ab k cb] w1 fun e w' => e = .returned (.int .i64 ((stepF s (appendK nm (bl.take 60))).1 : Int)) ∧ FsMut w1 w' A (stepF s (appendK nm (bl.take 60))).2.used M R (stepF s (appendK nm (bl.take 60))).2) := fun w1 hb1 =>
    kappend h3 (hm.on hb1) hf (by omega) hst (hb3.chg (Chg.of_below (M := fun _ => False) hb1) (fun i e => e.elim)) hN (by rw [List.length_take]; omega)
  rw [show doF s _ = stepF s (appendK nm (bl.take 60)) from rfl]
  generalize stepF s (appendK nm (bl.take 60)) = an at *
  rw [← hl]
  clear h hf hm hb hb1 hp1 hb2 hp2 hNl' hN hNl hb3 htk hk hl
  go_enter Tryz.func8, Tryz.ntmps8
  go_wp2_with fail
  rw [← hW]
  refine wp_region_noPanic ?_
  refine wp_region_held_drew (S := fun w' => w'.cell? ⟨w.heap.size, 1, none⟩ = some (.string nm) ∧ w'.cell? ⟨w.heap.size, 5, none⟩ = some (.slice Ab l cb)) (by kernel_rfl) ⟨hc1, hc5⟩ (fun hHeld => ?_)
  clear hc1 hc5
  have HBd : Hid (Below W.heap.size W W.drew) := (Below.refl _ _).drew
  clear hW
  generalize World.drew _ = Wd at *
  refine wpAnyH_take (i := 0) (v := ?_) opAt_0 (by kernel_rfl) (by kernel_rfl) (by kernel_rfl) (fun _ _ _ h => h) (Or.inl ⟨by rfl, ?_⟩) hHeld ?_
  rotate_left
  · (intro w' hSw; obtain ⟨k1, k5⟩ := hSw; go_simp; try with_reducible rfl)
  try simp only [Act.put, List.setIfInBounds_toArray, List.set_cons_zero, List.set_cons_succ]
  refine wpAnyH_take (i := 1) (v := ?_) opAt_1 (by kernel_rfl) (by kernel_rfl) (by kernel_rfl) (fun _ _ _ h => h) (Or.inl ⟨by rfl, ?_⟩) hHeld ?_
  rotate_left
  · (intro w' hSw; obtain ⟨k1, k5⟩ := hSw; go_simp; try with_reducible rfl)
  try simp only [Act.put, List.setIfInBounds_toArray, List.set_cons_zero, List.set_cons_succ]
  refine wpAnyH_take (i := 2) (v := ?_) opAt_2 (by kernel_rfl) (by kernel_rfl) (by kernel_rfl) (fun _ _ _ h => h) (Or.inl ⟨by rfl, ?_⟩) hHeld ?_
  rotate_left
  · (intro w' hSw; obtain ⟨k1, k5⟩ := hSw; go_simp; try with_reducible rfl)
  try simp only [Act.put, List.setIfInBounds_toArray, List.set_cons_zero, List.set_cons_succ]
  refine wpAnyH_take (i := 3) (v := ?_) opAt_3 (by kernel_rfl) (by kernel_rfl) (by kernel_rfl) (fun _ _ _ h => h) (Or.inl ⟨by rfl, ?_⟩) hHeld ?_
  rotate_left
  · (intro w' hSw; obtain ⟨k1, k5⟩ := hSw; go_simp; try with_reducible rfl)
  try simp only [Act.put, List.setIfInBounds_toArray, List.set_cons_zero, List.set_cons_succ]
  refine wpAnyH_take (i := 4) (v := ?_) opAt_4 (by kernel_rfl) (by kernel_rfl) (by kernel_rfl) (fun _ _ _ h => h) (Or.inl ⟨by rfl, ?_⟩) hHeld ?_
  rotate_left
  · (intro w' hSw; obtain ⟨k1, k5⟩ := hSw; go_simp; try with_reducible rfl)
  try simp only [Act.put, List.setIfInBounds_toArray, List.set_cons_zero, List.set_cons_succ]
  refine wpAnyH_take (i := 5) (v := ?_) opAt_5 (by kernel_rfl) (by kernel_rfl) (by kernel_rfl) (fun _ _ _ h => h) (Or.inl ⟨by rfl, ?_⟩) hHeld ?_
  rotate_left
  · (intro w' hSw; obtain ⟨k1, k5⟩ := hSw; go_simp; try with_reducible rfl)
  try simp only [Act.put, List.setIfInBounds_toArray, List.set_cons_zero, List.set_cons_succ]
  refine wpAnyH_take (i := 6) (v := ?_) opAt_6 (by kernel_rfl) (by kernel_rfl) (by kernel_rfl) (fun _ _ _ h => h) (Or.inl ⟨by rfl, ?_⟩) hHeld ?_
  rotate_left
  · (intro w' hSw; obtain ⟨k1, k5⟩ := hSw; go_simp; try with_reducible rfl)
  try simp only [Act.put, List.setIfInBounds_toArray, List.set_cons_zero, List.set_cons_succ]
  refine wpAnyH_take (i := 7) (v := ?_) opAt_7 (by kernel_rfl) (by kernel_rfl) (by kernel_rfl) (fun _ _ _ h => h) (Or.inl ⟨by rfl, ?_⟩) hHeld ?_
  rotate_left
  · (intro w' hSw; obtain ⟨k1, k5⟩ := hSw; go_simp; try with_reducible rfl)
  try simp only [Act.put, List.setIfInBounds_toArray, List.set_cons_zero, List.set_cons_succ]
  refine wpAnyH_take (i := 8) (v := ?_) opAt_8 (by kernel_rfl) (by kernel_rfl) (by kernel_rfl) (fun _ _ _ h => h) (Or.inl ⟨by rfl, ?_⟩) hHeld ?_
  rotate_left
  · (intro w' hSw; obtain ⟨k1, k5⟩ := hSw; go_simp; try with_reducible rfl)
  try simp only [Act.put, List.setIfInBounds_toArray, List.set_cons_zero, List.set_cons_succ]
  refine wpAnyH_take (i := 9) (v := ?_) opAt_9 (by kernel_rfl) (by kernel_rfl) (by kernel_rfl) (fun _ _ _ h => h) (Or.inl ⟨by rfl, ?_⟩) hHeld ?_
  rotate_left
  · (intro w' hSw; obtain ⟨k1, k5⟩ := hSw; go_simp; try with_reducible rfl)
  try simp only [Act.put, List.setIfInBounds_toArray, List.set_cons_zero, List.set_cons_succ]
  refine wpAnyH_ready (rs := [10]) (by kernel_rfl) (by simp) ?_
  refine AllReadyH.cons rfl (fun K hK => ?_) AllReadyH.nil
  go_simp
  refine (HS.out _ HBd.out).mono ?_
  rintro e w1 ⟨rfl, hm⟩
  have hkk : w1.cell? ⟨w.heap.size, 1, none⟩ = some (.string nm) ∧ w1.cell? ⟨w.heap.size, 5, none⟩ = some (.slice Ab l cb) := ⟨cell_keep hm.choose_spec.choose_spec.2.1 HnM.out hHeld.1, cell_keep hm.choose_spec.choose_spec.2.1 HnM.out hHeld.2⟩
  have HM := Lib.hid (hm.after ((Chg.of_below (M := M) HB.out).trans (Chg.of_below (M := fun _ => False) HBd.out) (fun i e => e.elim)) (fun _ => .inl) (fun _ => .inl))
  have HM2 := HM.out
  clear hm HM2
  try go_wp2_with fail
  refine hK.out _ _ hkk (fun hHeld => ?_)
  clear hK K
  try simp only [Act.put, List.setIfInBounds_toArray, List.set_cons_zero, List.set_cons_succ]
  refine wpAnyH_take (i := 11) (v := ?_) opAt_11 (by kernel_rfl) (by kernel_rfl) (by kernel_rfl) (fun _ _ _ h => h) (Or.inl ⟨by rfl, ?_⟩) hHeld ?_
  rotate_left
  · (intro w' hSw; obtain ⟨k1, k5⟩ := hSw; go_simp; try with_reducible rfl)
  try simp only [Act.put, List.setIfInBounds_toArray, List.set_cons_zero, List.set_cons_succ]
  refine wpAnyH_done (by kernel_rfl) ?_ _
  refine NoPanic.normal ?_
  go_wp2_with fail
  go_ret
  exact ⟨rfl, HM.out⟩
set_option maxRecDepth 100000 in
set_option maxHeartbeats 8000000 in
theorem kdoes_app2 (h : FsM w A s.used M R s) (hf : FInv s q T) (hq : q ≤ 200) (hT : T ≤ 90000) (hst : s.steps + 1 ≤ 1000000) (ha : ActOk w N a bv pv) (hN : ∀ i, M i → ¬ N i) (hNl : ∀ i, N i → i < w.heap.size) (hw : a.what = 2) :
    Calls Tryz.prog 8 #[.pointer (some ⟨A, 0, none⟩), act7V a bv pv] w fun e w' => e = .returned (.int .i64 ((doF s a).1 : Int)) ∧ FsMut w w' A (doF s a).2.used M R (doF s a).2 := by
  obtain ⟨what, nm, dst, zn, zm, bl, picks⟩ := a
  obtain ⟨h1, h1l, h2, h3, h4, h5⟩ := ha
  simp only at hw h1 h1l h2 h3 h4 h5
  have hb1 := h1
  have hp1 := h2
  obtain ⟨Ab, cb, rfl, hcb, _⟩ := h1
  obtain ⟨Ap, cpp, rfl, hcp, _, _⟩ := h2
  obtain ⟨W, hW⟩ : ∃ W, W = w.alloc (.cells #[.int .i64 what, .string nm, .string dst, .int .i64 zn, .int .i64 zm, .slice Ab bl.length cb, .slice Ap picks.length cpp] 31) := ⟨_, rfl⟩
  have hb : Below w.heap.size w W := by rw [hW]; exact (Below.refl _ _).alloc (Nat.le_refl _) _
  have hm := h.on hb
  have HB := Lib.hid hb
  have hNl' : ∀ i, N i → i < W.heap.size := fun i e => Nat.lt_of_lt_of_le (hNl i e) hb.size
  have hb2 := hb1.chg (Chg.of_below (M := fun _ => False) hb) (fun i e => e.elim)
  have hp2 := hp1.on hb
  unfold act7V
  subst hw
  obtain ⟨l, hl⟩ : ∃ l, l = bl.length := ⟨_, rfl⟩
  obtain ⟨k, hk⟩ : ∃ k, k = min l 60 := ⟨_, rfl⟩
  have hmin : min (l : Int) 60 = (k : Int) := by omega
  have hcut := cut_h Ab l cb k (by omega)
  have htk : bl.take 60 = bl.take k := by rw [List.take_eq_take_iff]; omega
  rw [← hl] at hb2 hW
  have hc1 : W.cell? ⟨w.heap.size, 1, none⟩ = some (.string nm) := by rw [hW]; simp
  have hc5 : W.cell? ⟨w.heap.size, 5, none⟩ = some (.slice Ab l cb) := by rw [hW]; simp
  have HnM : Hid (¬ M w.heap.size) := fun e => by have := h.ml _ e; omega
  have hb3 := BsIn.take hb2 (k := k) (by omega)
  rw [← htk] at hb3
  have HS : Hid (∀ w1, Below W.heap.size W w1 → Calls Tryz.prog 10 #[.pointer (some ⟨A, 0, none⟩), .string nm, .slice Ab k cb] w1 fun e w' => e = .returned (.int .i64 ((stepF s (appendK nm (bl.take 60))).1 : Int)) ∧ FsMut w1 w' A (stepF s (appendK nm (bl.take 60))).2.used M R (stepF s (appendK nm (bl.take 60))).2) := fun w1 hb1 =>
    kappend h3 (hm.on hb1) hf (by omega) hst (hb3.chg (Chg.of_below (M := fun _ => False) hb1) (fun i e => e.elim)) hN (by rw [List.length_take]; omega)
  rw [show doF s _ = stepF s (appendK nm (bl.take 60)) from rfl]
  generalize stepF s (appendK nm (bl.take 60)) = an at *
  rw [← hl]
  clear h hf hm hb hb1 hp1 hb2 hp2 hNl' hN hNl hb3 htk hk hl
  go_enter Tryz.func8, Tryz.ntmps8
  go_wp2_with fail
  rw [← hW]
  refine wp_region_noPanic ?_
  refine wp_region_held_drew (S := fun w' => w'.cell? ⟨w.heap.size, 1, none⟩ = some (.string nm) ∧ w'.cell? ⟨w.heap.size, 5, none⟩ = some (.slice Ab l cb)) (by kernel_rfl) ⟨hc1, hc5⟩ (fun hHeld => ?_)
  clear hc1 hc5
  have HBd : Hid (Below W.heap.size W W.drew) := (Below.refl _ _).drew
  clear hW
  generalize World.drew _ = Wd at *
  refine wpAnyH_take (i := 0) (v := ?_) opAt_0 (by kernel_rfl) (by kernel_rfl) (by kernel_rfl) (fun _ _ _ h => h) (Or.inl ⟨by rfl, ?_⟩) hHeld ?_
  rotate_left
  · (intro w' hSw; obtain ⟨k1, k5⟩ := hSw; go_simp; try with_reducible rfl)
  try simp only [Act.put, List.setIfInBounds_toArray, List.set_cons_zero, List.set_cons_succ]
  refine wpAnyH_take (i := 1) (v := ?_) opAt_1 (by kernel_rfl) (by kernel_rfl) (by kernel_rfl) (fun _ _ _ h => h) (Or.inl ⟨by rfl, ?_⟩) hHeld ?_
  rotate_left
  · (intro w' hSw; obtain ⟨k1, k5⟩ := hSw; go_simp; try with_reducible rfl)
  try simp only [Act.put, List.setIfInBounds_toArray, List.set_cons_zero, List.set_cons_succ]
  refine wpAnyH_take (i := 2) (v := ?_) opAt_2 (by kernel_rfl) (by kernel_rfl) (by kernel_rfl) (fun _ _ _ h => h) (Or.inl ⟨by rfl, ?_⟩) hHeld ?_
  rotate_left
  · (intro w' hSw; obtain ⟨k1, k5⟩ := hSw; go_simp; try with_reducible rfl)
  try simp only [Act.put, List.setIfInBounds_toArray, List.set_cons_zero, List.set_cons_succ]
  refine wpAnyH_take (i := 3) (v := ?_) opAt_3 (by kernel_rfl) (by kernel_rfl) (by kernel_rfl) (fun _ _ _ h => h) (Or.inl ⟨by rfl, ?_⟩) hHeld ?_
  rotate_left
  · (intro w' hSw; obtain ⟨k1, k5⟩ := hSw; go_simp; try with_reducible rfl)
  try simp only [Act.put, List.setIfInBounds_toArray, List.set_cons_zero, List.set_cons_succ]
  refine wpAnyH_take (i := 4) (v := ?_) opAt_4 (by kernel_rfl) (by kernel_rfl) (by kernel_rfl) (fun _ _ _ h => h) (Or.inl ⟨by rfl, ?_⟩) hHeld ?_
  rotate_left
  · (intro w' hSw; obtain ⟨k1, k5⟩ := hSw; go_simp; try with_reducible rfl)
  try simp only [Act.put, List.setIfInBounds_toArray, List.set_cons_zero, List.set_cons_succ]
  refine wpAnyH_take (i := 5) (v := ?_) opAt_5 (by kernel_rfl) (by kernel_rfl) (by kernel_rfl) (fun _ _ _ h => h) (Or.inl ⟨by rfl, ?_⟩) hHeld ?_
  rotate_left
  · (intro w' hSw; obtain ⟨k1, k5⟩ := hSw; go_simp; try with_reducible rfl)
  try simp only [Act.put, List.setIfInBounds_toArray, List.set_cons_zero, List.set_cons_succ]
  refine wpAnyH_take (i := 6) (v := ?_) opAt_6 (by kernel_rfl) (by kernel_rfl) (by kernel_rfl) (fun _ _ _ h => h) (Or.inl ⟨by rfl, ?_⟩) hHeld ?_
  rotate_left
  · (intro w' hSw; obtain ⟨k1, k5⟩ := hSw; go_simp; try with_reducible rfl)
  try simp only [Act.put, List.setIfInBounds_toArray, List.set_cons_zero, List.set_cons_succ]
  refine wpAnyH_take (i := 7) (v := ?_) opAt_7 (by kernel_rfl) (by kernel_rfl) (by kernel_rfl) (fun _ _ _ h => h) (Or.inl ⟨by rfl, ?_⟩) hHeld ?_
  rotate_left
  · (intro w' hSw; obtain ⟨k1, k5⟩ := hSw; go_simp; try with_reducible rfl)
  try simp only [Act.put, List.setIfInBounds_toArray, List.set_cons_zero, List.set_cons_succ]
  refine wpAnyH_take (i := 8) (v := ?_) opAt_8 (by kernel_rfl) (by kernel_rfl) (by kernel_rfl) (fun _ _ _ h => h) (Or.inl ⟨by rfl, ?_⟩) hHeld ?_
  rotate_left
  · (intro w' hSw; obtain ⟨k1, k5⟩ := hSw; go_simp; try with_reducible rfl)
  try simp only [Act.put, List.setIfInBounds_toArray, List.set_cons_zero, List.set_cons_succ]
  refine wpAnyH_take (i := 9) (v := ?_) opAt_9 (by kernel_rfl) (by kernel_rfl) (by kernel_rfl) (fun _ _ _ h => h) (Or.inl ⟨by rfl, ?_⟩) hHeld ?_
  rotate_left
  · (intro w' hSw; obtain ⟨k1, k5⟩ := hSw; go_simp; try with_reducible rfl)
  try simp only [Act.put, List.setIfInBounds_toArray, List.set_cons_zero, List.set_cons_succ]
  refine wpAnyH_ready (rs := [10]) (by kernel_rfl) (by simp) ?_
  refine AllReadyH.cons rfl (fun K hK => ?_) AllReadyH.nil
  go_simp
  refine (HS.out _ HBd.out).mono ?_
  rintro e w1 ⟨rfl, hm⟩
  have hkk : w1.cell? ⟨w.heap.size, 1, none⟩ = some (.string nm) ∧ w1.cell? ⟨w.heap.size, 5, none⟩ = some (.slice Ab l cb) := ⟨cell_keep hm.choose_spec.choose_spec.2.1 HnM.out hHeld.1, cell_keep hm.choose_spec.choose_spec.2.1 HnM.out hHeld.2⟩
  have HM := Lib.hid (hm.after ((Chg.of_below (M := M) HB.out).trans (Chg.of_below (M := fun _ => False) HBd.out) (fun i e => e.elim)) (fun _ => .inl) (fun _ => .inl))
  have HM2 := HM.out
  clear hm HM2
  try go_wp2_with fail
  refine hK.out _ _ hkk (fun hHeld => ?_)
  clear hK K
  try simp only [Act.put, List.setIfInBounds_toArray, List.set_cons_zero, List.set_cons_succ]
  refine wpAnyH_take (i := 11) (v := ?_) opAt_11 (by kernel_rfl) (by kernel_rfl) (by kernel_rfl) (fun _ _ _ h => h) (Or.inl ⟨by rfl, ?_⟩) hHeld ?_
  rotate_left
  · (intro w' hSw; obtain ⟨k1, k5⟩ := hSw; go_simp; try with_reducible rfl)
  try simp only [Act.put, List.setIfInBounds_toArray, List.set_cons_zero, List.set_cons_succ]
  refine wpAnyH_done (by kernel_rfl) ?_ _
  refine NoPanic.normal ?_
  go_wp2_with fail
  go_ret
  exact ⟨rfl, HM.out⟩
set_option maxRecDepth 100000 in
set_option maxHeartbeats 8000000 in
theorem kdoes_crash (h : FsM w A s.used M R s) (hf : FInv s q T) (hq : q ≤ 200) (hT : T ≤ 90000) (hst : s.steps + 1 ≤ 1000000) (ha : ActOk w N a bv pv) (hN : ∀ i, M i → ¬ N i) (hNl : ∀ i, N i → i < w.heap.size) (hw : a.what = 11) :
    Calls Tryz.prog 8 #[.pointer (some ⟨A, 0, none⟩), act7V a bv pv] w fun e w' => e = .returned (.int .i64 ((doF s a).1 : Int)) ∧ FsMut w w' A (doF s a).2.used M R (doF s a).2 := by
  obtain ⟨what, nm, dst, zn, zm, bl, picks⟩ := a
  obtain ⟨h1, h1l, h2, h3, h4, h5⟩ := ha
  simp only at hw h1 h1l h2 h3 h4 h5
  have hb1 := h1
  have hp1 := h2
  obtain ⟨Ab, cb, rfl, hcb, _⟩ := h1
  obtain ⟨Ap, cpp, rfl, hcp, _, _⟩ := h2
  obtain ⟨W, hW⟩ : ∃ W, W = w.alloc (.cells #[.int .i64 what, .string nm, .string dst, .int .i64 zn, .int .i64 zm, .slice Ab bl.length cb, .slice Ap picks.length cpp] 31) := ⟨_, rfl⟩
  have hb : Below w.heap.size w W := by rw [hW]; exact (Below.refl _ _).alloc (Nat.le_refl _) _
  have hm := h.on hb
  have HB := Lib.hid hb
  have hNl' : ∀ i, N i → i < W.heap.size := fun i e => Nat.lt_of_lt_of_le (hNl i e) hb.size
  have hb2 := hb1.chg (Chg.of_below (M := fun _ => False) hb) (fun i e => e.elim)
  have hp2 := hp1.on hb
  unfold act7V
  subst hw
  have HS : Hid (Calls Tryz.prog 14 #[.pointer (some ⟨A, 0, none⟩), .slice Ap picks.length cpp] W fun e w' => e = .returned (.int .i64 ((crashK s picks).1 : Int)) ∧ FsMut W w' A (crashK s picks).2.used M R (crashK s picks).2) := by
    cases hp : picks.any (· < 0)
    · have e0 : (crashK s picks).1 = 0 := by unfold crashK; rw [if_neg (by simp [hp])]
      rw [e0]
      exact kcrash hm hf hq (by omega) hp2 hN hNl' hp
    · have e0 : crashK s picks = (1, s) := by unfold crashK; rw [if_pos hp]
      rw [e0]
      exact kcrash_arg hm hp2 hp
  rw [show doF s _ = crashK s picks from rfl]
  generalize crashK s picks = an at *
  clear h hf hm hb hb1 hp1 hb2 hp2 hNl' hN hNl
  go_enter Tryz.func8, Tryz.ntmps8
  go_wp2_with fail
  rw [← hW]
  refine HS.out.mono ?_
  rintro e w1 ⟨rfl, hm⟩
  have HM := Lib.hid (hm.after (Chg.of_below HB.out) (fun _ => .inl) (fun _ => .inl))
  clear hm
  go_wp2_with fail
  go_ret
  exact ⟨rfl, HM.out⟩
set_option maxRecDepth 100000 in
set_option maxHeartbeats 8000000 in
theorem kdoes_other (h : FsM w A s.used M R s) (hf : FInv s q T) (hq : q ≤ 200) (hT : T ≤ 90000) (hst : s.steps + 1 ≤ 1000000) (ha : ActOk w N a bv pv) (hN : ∀ i, M i → ¬ N i) (hNl : ∀ i, N i → i < w.heap.size) (hw : ¬ (a.what = 0 ∨ a.what = 1 ∨ a.what = 2 ∨ a.what = 3 ∨ a.what = 4 ∨ a.what = 5 ∨ a.what = 6 ∨ a.what = 7 ∨ a.what = 9 ∨ a.what = 11)) :
    Calls Tryz.prog 8 #[.pointer (some ⟨A, 0, none⟩), act7V a bv pv] w fun e w' => e = .returned (.int .i64 ((doF s a).1 : Int)) ∧ FsMut w w' A (doF s a).2.used M R (doF s a).2 := by
  rw [doF_other hw]
  obtain ⟨what, nm, dst, zn, zm, bl, picks⟩ := a
  obtain ⟨h1, h1l, h2, h3, h4, h5⟩ := ha
  simp only at hw h1 h1l h2 h3 h4 h5
  have hb1 := h1
  have hp1 := h2
  obtain ⟨Ab, cb, rfl, hcb, _⟩ := h1
  obtain ⟨Ap, cpp, rfl, hcp, _, _⟩ := h2
  obtain ⟨W, hW⟩ : ∃ W, W = w.alloc (.cells #[.int .i64 what, .string nm, .string dst, .int .i64 zn, .int .i64 zm, .slice Ab bl.length cb, .slice Ap picks.length cpp] 31) := ⟨_, rfl⟩
  have hb : Below w.heap.size w W := by rw [hW]; exact (Below.refl _ _).alloc (Nat.le_refl _) _
  have hm := h.on hb
  have HB := Lib.hid hb
  have hNl' : ∀ i, N i → i < W.heap.size := fun i e => Nat.lt_of_lt_of_le (hNl i e) hb.size
  have hb2 := hb1.chg (Chg.of_below (M := fun _ => False) hb) (fun i e => e.elim)
  have hp2 := hp1.on hb
  unfold act7V
  have n0 : ¬ what = 0 := fun e => hw (by omega)
  have n1 : ¬ what = 1 := fun e => hw (by omega)
  have n2 : ¬ what = 2 := fun e => hw (by omega)
  have n3 : ¬ what = 3 := fun e => hw (by omega)
  have n4 : ¬ what = 4 := fun e => hw (by omega)
  have n5 : ¬ what = 5 := fun e => hw (by omega)
  have n6 : ¬ what = 6 := fun e => hw (by omega)
  have n7 : ¬ what = 7 := fun e => hw (by omega)
  have n9 : ¬ what = 9 := fun e => hw (by omega)
  have n11 : ¬ what = 11 := fun e => hw (by omega)
  have HM := Lib.hid h
  clear h hf hm hb hb1 hp1 hb2 hp2 hNl' hN hNl hw
  go_enter Tryz.func8, Tryz.ntmps8
  go_wp2_with fail
  go_ret
  rw [← hW]
  exact ⟨rfl, FsMut.of_below HM.out HB.out⟩
/-- a call -/
theorem kdoes (h : FsM w A s.used M R s) (hf : FInv s q T) (hq : q ≤ 200) (hT : T ≤ 90000) (hst : s.steps + 1 ≤ 1000000) (ha : ActOk w N a bv pv) (hN : ∀ i, M i → ¬ N i) (hNl : ∀ i, N i → i < w.heap.size) : Calls Tryz.prog 8 #[.pointer (some ⟨A, 0, none⟩), act7V a bv pv] w fun e w' => e = .returned (.int .i64 ((doF s a).1 : Int)) ∧ FsMut w w' A (doF s a).2.used M R (doF s a).2 := by
  by_cases h0 : a.what = 0
  · exact kdoes_create h hf hq hT hst ha hN hNl h0
  by_cases h1 : a.what = 1
  · exact kdoes_app1 h hf hq hT hst ha hN hNl h1
  by_cases h2 : a.what = 2
  · exact kdoes_app2 h hf hq hT hst ha hN hNl h2
  by_cases h3 : a.what = 3
  · exact kdoes_trunc h hf hq hT hst ha hN hNl h3
  by_cases h4 : a.what = 4
  · exact kdoes_sync h hf hq hT hst ha hN hNl h4
  by_cases h5 : a.what = 5
  · exact kdoes_syncdir h hf hq hT hst ha hN hNl h5
  by_cases h6 : a.what = 6
  · exact kdoes_rename h hf hq hT hst ha hN hNl h6
  by_cases h7 : a.what = 7
  · exact kdoes_remove h hf hq hT hst ha hN hNl h7
  by_cases h9 : a.what = 9
  · exact kdoes_fuse h hf hq hT hst ha hN hNl h9
  by_cases h11 : a.what = 11
  · exact kdoes_crash h hf hq hT hst ha hN hNl h11
  exact kdoes_other h hf hq hT hst ha hN hNl (by omega)
end
end Go.Proofs.YtboeiadfmknidaaGreat

/-
  Layer 7: what FsSafe keeps, call by call (plain mathematics).
-/
set_option linter.unusedVariables false
set_option linter.unusedSimpArgs false
namespace Go.Proofs.YtboeiadfmknidaaGreat
open Go.RowKit Go.Maps

section
variable {s : FsP}
theorem beginF_steps (s : FsP) : (beginF s).2.steps ≤ s.steps + 1 := by
  unfold beginF
  split
  · exact Nat.le_succ _
  · split <;> exact Nat.le_refl _
theorem stepF_steps (s : FsP) (k : FsP → Nat × FsP) (hk : ∀ t, (k t).2.steps = t.steps) : (stepF s k).2.steps ≤ s.steps + 1 := by
  have hb := beginF_steps s
  rcases stepF_cases s k with ⟨e, _⟩ | ⟨_, e⟩
  · rw [e, hk]; exact hb
  · rw [e]; exact hb
theorem onF_steps (s : FsP) (n : ByteArray) (k : FSt → Nat × FSt) : (onF s n k).2.steps = s.steps := by unfold onF; split <;> rfl
theorem doF_steps (s : FsP) (a : Act7) : (doF s a).2.steps ≤ s.steps + 1 := by
  unfold doF
  split
  · exact stepF_steps s _ (fun _ => rfl)
  · split
    · exact stepF_steps s _ (fun _ => onF_steps _ _ _)
    · split
      · exact stepF_steps s _ (fun _ => onF_steps _ _ _)
      · split
        · exact stepF_steps s _ (fun _ => onF_steps _ _ _)
        · split
          · exact stepF_steps s _ (fun _ => rfl)
          · split
            · exact stepF_steps s _ (fun _ => rfl)
            · split
              · exact stepF_steps s _ (fun _ => rfl)
              · split
                · unfold fuseF; split <;> exact Nat.le_succ _
                · split
                  · unfold crashK; split <;> exact Nat.le_succ _
                  · exact Nat.le_succ _
/-- the power is on, and there is no fuse -/
def Lit7 (s : FsP) : Prop := s.off = false ∧ s.fuse = none ∧ s.quota = 1073741824
theorem Lit7.step (h : Lit7 s) (k : FsP → Nat × FsP) (hk : ∀ t, (k t).2.off = t.off ∧ (k t).2.fuse = t.fuse ∧ (k t).2.quota = t.quota) : Lit7 (stepF s k).2 ∧ stepF s k = k { s with steps := s.steps + 1, fuse := none } := by
  have hb := beginF_ok h.1 h.2.1
  have e : stepF s k = k { s with steps := s.steps + 1, fuse := none } := by unfold stepF; rw [hb]; rfl
  rw [e]
  have h1 := hk { s with steps := s.steps + 1, fuse := none }
  exact ⟨⟨h1.1.trans h.1, h1.2.1, h1.2.2.trans h.2.2⟩, rfl⟩
theorem onF_lit (t : FsP) (n : ByteArray) (k : FSt → Nat × FSt) : (onF t n k).2.off = t.off ∧ (onF t n k).2.fuse = t.fuse ∧ (onF t n k).2.quota = t.quota := by unfold onF; split <;> exact ⟨rfl, rfl, rfl⟩
theorem Lit7.doF (h : Lit7 s) (a : Act7) (hw : a.what ≠ 9) : Lit7 (doF s a).2 := by
  unfold Go.Proofs.YtboeiadfmknidaaGreat.doF
  split
  · exact (h.step _ (fun _ => ⟨rfl, rfl, rfl⟩)).1
  · split
    · exact (h.step _ (fun _ => onF_lit _ _ _)).1
    · split
      · exact (h.step _ (fun _ => onF_lit _ _ _)).1
      · split
        · exact (h.step _ (fun _ => onF_lit _ _ _)).1
        · split
          · exact (h.step _ (fun _ => ⟨rfl, rfl, rfl⟩)).1
          · split
            · exact (h.step _ (fun _ => ⟨rfl, rfl, rfl⟩)).1
            · split
              · exact (h.step _ (fun _ => ⟨rfl, rfl, rfl⟩)).1
              · skip
                split
                · unfold crashK
                  split
                  · exact h
                  · exact ⟨rfl, rfl, h.2.2⟩
                · exact h
end
/-- ahead of the file 'safe' -/
structure Ahead (s : FsP) (j : Nat) : Prop where
  inv : FInv s j (60 * j)
  lit : Lit7 s
  key : KInv nS none s.dir
  steps : s.steps ≤ j
/-- behind it -/
structure Behind (s : FsP) (i j : Nat) (b whole : List UInt8) : Prop where
  inv : FInv s j (60 * j)
  safe : SafeI s i b whole
  steps : s.steps ≤ j
section
variable {s : FsP} {i j : Nat} {b whole : List UInt8}
theorem Ahead.new : Ahead (FsP.new 1073741824) 0 := ⟨FInv.new _, ⟨rfl, rfl, rfl⟩, ⟨rfl, fun d hd => by simp [FsP.new, PSt.new] at hd⟩, Nat.le_refl _⟩
theorem Ahead.doF (h : Ahead s j) (hj : j ≤ 1000) {a : Act7} (h1 : a.name ≠ nS) (h2 : a.dst ≠ nS) (hw : a.what ≠ 9) : Ahead (doF s a).2 (j + 1) :=
  ⟨(h.inv.doF_ hj a).mono (Nat.le_refl _) (by omega), h.lit.doF a hw, h.key.doF h.inv.dir (fun e => h1 e.symm) (fun e => h2 e.symm), Nat.le_trans (doF_steps s a) (by have := h.steps; omega)⟩
theorem Ahead.mono (h : Ahead s j) {k : Nat} (hk : j ≤ k) : Ahead s k := ⟨h.inv.mono hk (by omega), h.lit, h.key, Nat.le_trans h.steps hk⟩
theorem Behind.mono (h : Behind s i j b whole) {k : Nat} (hk : j ≤ k) : Behind s i k b whole := ⟨h.inv.mono hk (by omega), h.safe, Nat.le_trans h.steps hk⟩
theorem Behind.doF (h : Behind s i j b whole) (hj : j ≤ 1000) {a : Act7} (h1 : a.name ≠ nS) (h2 : a.dst ≠ nS) (hw : a.what ≠ 11) : Behind (doF s a).2 i (j + 1) b whole :=
  ⟨(h.inv.doF_ hj a).mono (Nat.le_refl _) (by omega), h.safe.doF h.inv h1 h2 hw, Nat.le_trans (doF_steps s a) (by have := h.steps; omega)⟩
theorem Behind.append (h : Behind s i j b whole) (hj : j ≤ 1000) (r : List UInt8) (hr : r.length ≤ 60) : Behind (stepF s (appendK nS r)).2 i (j + 1) b (if (stepF s (appendK nS r)).1 = 0 then whole ++ r else whole) :=
  ⟨(h.inv.c_append hj nS hr).mono (Nat.le_refl _) (by omega), h.safe.append h.inv r, Nat.le_trans (stepF_steps s _ (fun _ => onF_steps _ _ _)) (by have := h.steps; omega)⟩
/-- 'safe' is made, or there is no room for a name -/
theorem Ahead.create (h : Ahead s j) (hj : j ≤ 1000) : (stepF s (createK nS)).1 = 7 ∨ ((stepF s (createK nS)).1 = 0 ∧ Lit7 (stepF s (createK nS)).2 ∧ FInv (stepF s (createK nS)).2 (j + 1) (60 * (j + 1)) ∧ (stepF s (createK nS)).2.steps ≤ j + 1 ∧
    (stepF s (createK nS)).2.dir = s.dir.made nS ∧ (stepF s (createK nS)).2.file (s.dir.last + 1) = FSt.new []) := by
  have hl := h.lit.step (createK nS) (fun _ => ⟨rfl, rfl, rfl⟩)
  have hi := (h.inv.c_create hj nS).mono (Nat.le_refl _) (show 60 * j + 60 ≤ 60 * (j + 1) by omega)
  have hs := stepF_steps s (createK nS) (fun _ => rfl)
  have hst := h.steps
  have hnow := h.key.now h.inv.dir
  rw [hl.2] at hi hs ⊢
  rw [hl.2] at hl
  have hc : createP s.dir nS = (if 256 ≤ s.dir.now.length then (0, 7, s.dir) else (s.dir.last + 1, 0, s.dir.made nS)) := by
    unfold createP
    rw [if_neg (by simp [mayS]), if_neg (by rw [hnow]; simp)]
  by_cases h256 : 256 ≤ s.dir.now.length
  · rw [if_pos h256] at hc
    left
    show (createP s.dir nS).2.1 = 7
    rw [hc]
  · rw [if_neg h256] at hc
    right
    have e : createK nS { s with steps := s.steps + 1, fuse := none } = (0, { s with dir := s.dir.made nS, file := upd s.file (s.dir.last + 1) (FSt.new []), steps := s.steps + 1, fuse := none }) := by
      unfold createK
      show ((createP s.dir nS).2.1, ({ s with dir := (createP s.dir nS).2.2, file := if (createP s.dir nS).2.1 = 0 then upd s.file (s.dir.last + 1) (FSt.new []) else s.file, steps := s.steps + 1, fuse := none } : FsP)) = _
      rw [hc]
      simp
    rw [e] at hi hs hl ⊢
    exact ⟨rfl, hl.1, hi, by omega, rfl, upd_same _ _ _⟩
/-- then it is synced, and the folder too -/
theorem begun {s1 : FsP} (hl : Lit7 s1) (hi : FInv s1 j (60 * j)) (hs : s1.steps ≤ j) (hj : j ≤ 500) (hk : findL s1.dir.now nS = some i) (hf : s1.file i = FSt.new []) (hb : b.length ≤ 60) :
    (stepF s1 (appendK nS b)).1 = 0 ∧ (stepF (stepF s1 (appendK nS b)).2 (syncK nS)).1 = 0 ∧ (stepF (stepF (stepF s1 (appendK nS b)).2 (syncK nS)).2 syncDirK).1 = 0 ∧
    FInv (stepF s1 (appendK nS b)).2 (j + 1) (60 * (j + 1)) ∧ (stepF s1 (appendK nS b)).2.steps ≤ j + 1 ∧
    FInv (stepF (stepF s1 (appendK nS b)).2 (syncK nS)).2 (j + 2) (60 * (j + 2)) ∧ (stepF (stepF s1 (appendK nS b)).2 (syncK nS)).2.steps ≤ j + 2 ∧
    Behind (stepF (stepF (stepF s1 (appendK nS b)).2 (syncK nS)).2 syncDirK).2 i (j + 3) b b := by
  have l2 := hl.step (appendK nS b) (fun _ => onF_lit _ _ _)
  have i2 := (hi.c_append (by omega) nS hb).mono (Nat.le_refl _) (show 60 * j + 60 ≤ 60 * (j + 1) by omega)
  have t2 := stepF_steps s1 (appendK nS b) (fun _ => onF_steps _ _ _)
  have hu := hi.used_le
  have e2 : stepF s1 (appendK nS b) = (0, { s1 with file := upd s1.file i (if b = [] then FSt.new [] else (FSt.new []).app b), steps := s1.steps + 1, fuse := none }) := by
    rw [l2.2]
    unfold appendK onF
    rw [nodeF_safe (s := { s1 with steps := s1.steps + 1, fuse := none }) (i := i) hk]
    simp only [if_true]
    have haT : appT s1.used 1073741824 b (FSt.new []) = (0, if b = [] then FSt.new [] else (FSt.new []).app b) := by
      unfold appT
      rw [if_neg (by omega)]
      split <;> rfl
    show ((appT s1.used s1.quota b (s1.file i)).1, ({ s1 with file := upd s1.file i (appT s1.used s1.quota b (s1.file i)).2, steps := s1.steps + 1, fuse := none } : FsP)) = _
    rw [hf, hl.2.2, haT]
  obtain ⟨f2, hf2⟩ : ∃ f2, f2 = (if b = [] then FSt.new [] else (FSt.new []).app b) := ⟨_, rfl⟩
  have hf2b : f2.bytes = b := by
    rw [hf2]
    split
    · rename_i e; rw [e]; rfl
    · rw [FSt.app_bytes]; rfl
  rw [← hf2] at e2
  obtain ⟨s2, hs2⟩ : ∃ s2, s2 = (stepF s1 (appendK nS b)).2 := ⟨_, rfl⟩
  have c2 : (stepF s1 (appendK nS b)).1 = 0 := by rw [e2]
  have d2 : s2.dir = s1.dir ∧ s2.file i = f2 := by rw [hs2, e2]; exact ⟨rfl, upd_same _ _ _⟩
  have l2' := l2.1
  rw [← hs2] at l2' i2 t2 ⊢
  have l3 := l2'.step (syncK nS) (fun _ => onF_lit _ _ _)
  have i3 := (i2.c_sync (by omega) nS).mono (Nat.le_refl _) (show 60 * (j + 1) + 60 ≤ 60 * (j + 2) by omega)
  have t3 := stepF_steps s2 (syncK nS) (fun _ => onF_steps _ _ _)
  have e3 : stepF s2 (syncK nS) = (0, { s2 with file := upd s2.file i (f2.settled f2.loose), steps := s2.steps + 1, fuse := none }) := by
    rw [l3.2]
    unfold syncK onF
    rw [nodeF_safe (s := { s2 with steps := s2.steps + 1, fuse := none }) (i := i) (by show findL s2.dir.now nS = some i; rw [d2.1]; exact hk)]
    simp only [if_true]
    show ((syncT (s2.file i)).1, ({ s2 with file := upd s2.file i (syncT (s2.file i)).2, steps := s2.steps + 1, fuse := none } : FsP)) = _
    rw [d2.2]
    rfl
  obtain ⟨s3, hs3⟩ : ∃ s3, s3 = (stepF s2 (syncK nS)).2 := ⟨_, rfl⟩
  have c3 : (stepF s2 (syncK nS)).1 = 0 := by rw [e3]
  have d3 : s3.dir = s1.dir ∧ s3.file i = f2.settled f2.loose := by rw [hs3, e3]; exact ⟨d2.1, upd_same _ _ _⟩
  have l3' := l3.1
  rw [← hs3] at l3' i3 t3 ⊢
  have l4 := l3'.step syncDirK (fun _ => ⟨rfl, rfl, rfl⟩)
  have i4 := (i3.c_syncdir (by omega)).mono (Nat.le_refl _) (show 60 * (j + 2) + 60 ≤ 60 * (j + 3) by omega)
  have t4 := stepF_steps s3 syncDirK (fun _ => rfl)
  have e4 : stepF s3 syncDirK = (0, { s3 with dir := s3.dir.settle s3.dir.deeds.length, steps := s3.steps + 1, fuse := none }) := by rw [l4.2]; rfl
  have c4 : (stepF s3 syncDirK).1 = 0 := by rw [e4]
  have hf2ok : f2.Ok := by
    have := i2.files i
    rw [d2.2] at this
    exact this
  have hset : f2.settled f2.loose = FSt.new b := by
    show FSt.new (f2.behind f2.loose) = FSt.new b
    have h9 : f2.behind f2.loose = f2.bytes := hf2ok.whole
    rw [h9, hf2b]
  refine ⟨c2, c3, c4, i2, by omega, i3, by omega, ⟨i4, ?_, by omega⟩⟩
  rw [e4]
  refine ⟨⟨?_, fun d hd => by simp [PSt.settle] at hd⟩, ?_, ?_, ?_⟩
  · show findL (s3.dir.settle s3.dir.deeds.length).safe nS = some i
    have h9 : (s3.dir.settle s3.dir.deeds.length).safe = s3.dir.now := by unfold PSt.settle PSt.now; rw [List.take_of_length_le (Nat.le_refl _)]
    rw [h9, d3.1]
    exact hk
  · show (s3.file i).safe = b
    rw [d3.2, hset]
    rfl
  · show ∀ d ∈ (s3.file i).deeds, _
    rw [d3.2, hset]
    intro d hd
    simp [FSt.new] at hd
  · show (s3.file i).bytes = b
    rw [d3.2, hset, FSt.new_bytes]
end
end Go.Proofs.YtboeiadfmknidaaGreat

/-
  Layer 7: the laws' calls, as a slice that is cut; one of them read.
-/
set_option linter.unusedVariables false
set_option linter.unusedSimpArgs false
namespace Go.Proofs.YtboeiadfmknidaaGreat
open Go.RowKit Go.Maps

theorem elActs7 : Tryz.prog.underlying 22 = some (.slice (Tryz.prog.elem 22)) := by kernel_rfl
theorem run_cutA_h (A : Option Addr) (n c k : Nat) (hkc : k ≤ c) (w : World) :
    (Instr.sliceAt 22 (.slice A n c) none (some (.int .i64 (k : Int))) none).run Tryz.prog w = .ok (.slice A k c) w := by
  rw [run_sliceAt_slice _ 22 _ _ _ _ elActs7, run_slice_h _ 22 A n c elActs7 .i64 k (by omega) (by omega)]
  have : (sizeOf (Tryz.prog.elem 22)).run Tryz.prog w = .ok 7 w := by kernel_rfl
  rw [this]
  have e : (if c = 0 then A else A.map (·.add 0)) = A := by
    split
    · rfl
    · cases A with
      | none => rfl
      | some a => simp [Addr.add]
  simp [Result.andThen, sliced, e]
theorem run_cutA_l (A : Option Addr) (n c k : Nat) (hkn : k ≤ n) (w : World) :
    (Instr.sliceAt 22 (.slice A n c) (some (.int .i64 (k : Int))) none none).run Tryz.prog w = .ok (.slice (if c = k then A else A.map (·.add (k * 7))) (n - k) (c - k)) w := by
  rw [run_sliceAt_slice _ 22 _ _ _ _ elActs7, run_slice_l _ 22 A n c elActs7 .i64 k (by omega) (by omega)]
  have : (sizeOf (Tryz.prog.elem 22)).run Tryz.prog w = .ok 7 w := by kernel_rfl
  rw [this]
  simp [Result.andThen, sliced]
section
variable {w wk : World} {B : Nat} {l : List Act7}
theorem Acts7.take {A : Option Addr} {n c : Nat} (h : Acts7 w B (.slice A n c) l) {k : Nat} (hk : k ≤ n) : Acts7 w B (.slice A k c) (l.take k) := by
  obtain ⟨A', c', e, h1, h2, h3⟩ := h
  injection e with e1 e2 e3
  subst e1 e2 e3
  have hl : (l.take k).length = k := by rw [List.length_take]; omega
  refine ⟨A, c, by rw [hl], by rw [hl]; omega, h2, fun i a ha => h3 i a ?_⟩
  rw [List.getElem?_take] at ha
  split at ha
  · exact ha
  · cases ha
/-- 's[k:]' -/
theorem Acts7.drop {A : Option Addr} {n c : Nat} (h : Acts7 w B (.slice A n c) l) {k r : Nat} (hn : n = k + r) : ∃ A' c', (∀ w, (Instr.sliceAt 22 (.slice A n c) (some (.int .i64 (k : Int))) none none).run Tryz.prog w = .ok (.slice A' r c') w) ∧ Acts7 w B (.slice A' r c') (l.drop k) := by
  obtain ⟨A', c', e, h1, h2, h3⟩ := h
  injection e with e1 e2 e3
  subst e1 e2 e3
  have hl : (l.drop k).length = r := by rw [List.length_drop]; omega
  refine ⟨if c = k then A else A.map (·.add (k * 7)), c - k, fun w => ?_, ⟨_, _, by rw [hl], by rw [hl]; omega, by unfold maxLen at *; omega, fun i a ha => ?_⟩⟩
  · rw [run_cutA_l A _ c k (by omega) w, show l.length - k = r by omega]
  · rw [List.getElem?_drop] at ha
    have hlt := (List.getElem?_eq_some_iff.1 ha).1
    obtain ⟨b, o, e, hb, hat⟩ := h3 _ a ha
    rw [if_neg (by omega), e]
    refine ⟨b, o + k * 7, by simp [add_none], hb, ?_⟩
    rw [show o + k * 7 + i * 7 = o + (k + i) * 7 by omega]
    exact hat
theorem isR_of_ints {B : Nat} {v : Value} {zs : List Int} (h : Ints w B .i64 v zs) (hl : zs.length ≤ 9223372036854775807) : IsR w (fun i => i < B) v zs := by
  obtain ⟨A, c, e, hc, hr⟩ := h
  refine ⟨A, c, e, hc, hl, fun hx => ?_⟩
  obtain ⟨b, o, e2, hb, hcs⟩ := hr hx
  exact ⟨b, o, e2, hb, hcs⟩
/-- a call of the row -/
theorem Acts7.at_ {v : Value} (h : Acts7 w w.heap.size v l) (hb : Below w.heap.size w wk) {A : Option Addr} {n c : Nat} (hv : v = .slice A n c) {i : Nat} {a : Act7} (ha : l[i]? = some a) :
    ∃ b o Ab cb Ap cp, A = some ⟨b, o, none⟩ ∧ ActOk wk (fun i => i < w.heap.size) a (.slice Ab a.b.length cb) (.slice Ap a.picks.length cp) ∧ b < w.heap.size ∧
      wk.cell? ⟨b, o + i * 7, none⟩ = some (.int .i64 a.what) ∧ wk.cell? ⟨b, o + i * 7 + 1, none⟩ = some (.string a.name) ∧ wk.cell? ⟨b, o + i * 7 + 2, none⟩ = some (.string a.dst) ∧ wk.cell? ⟨b, o + i * 7 + 3, none⟩ = some (.int .i64 a.n) ∧
      wk.cell? ⟨b, o + i * 7 + 4, none⟩ = some (.int .i64 a.m) ∧ wk.cell? ⟨b, o + i * 7 + 5, none⟩ = some (.slice Ab a.b.length cb) ∧ wk.cell? ⟨b, o + i * 7 + 6, none⟩ = some (.slice Ap a.picks.length cp) := by
  obtain ⟨A', c', e, _, _, h2⟩ := h
  obtain ⟨b, o, e2, hB, hc⟩ := h2 i a ha
  rw [hv] at e
  injection e with e _ _
  subst e
  obtain ⟨c0, c1, c2, c3, c4, ⟨v5, c5, b5, l5⟩, ⟨v6, c6, b6, l6⟩, h7⟩ := hc
  have key : ∀ {j : Nat} {u : Value}, w.cell? ⟨b, j, none⟩ = some u → wk.cell? ⟨b, j, none⟩ = some u := fun {j u} hu => (hb.cell (p := ⟨b, j, none⟩) hB).trans hu
  have k5 := b5.inB.chg (Chg.of_below (M := fun _ => False) hb) (fun i e => e.elim)
  have k6 := (isR_of_ints b6 l6).on hb
  obtain ⟨Ab, cb, rfl, hb1, hb2⟩ := k5
  obtain ⟨Ap, cp, rfl, hp1, hp3, hp2⟩ := k6
  exact ⟨b, o, Ab, cb, Ap, cp, e2, ⟨⟨Ab, cb, rfl, hb1, hb2⟩, l5, ⟨Ap, cp, rfl, hp1, hp3, hp2⟩, h7.1, h7.2.1, h7.2.2⟩, hB, key c0, key c1, key c2, key c3, key c4, key c5, key c6⟩
end
theorem nS_list : nS.toList = [115, 97, 102, 101] := by kernel_rfl
theorem eqS {x : ByteArray} (h : x = nS) : (x.toList == [115, 97, 102, 101]) = true ∧ (x.toList != [115, 97, 102, 101]) = false := by rw [h, nS_list]; exact ⟨rfl, rfl⟩
theorem neS {x : ByteArray} (h : x ≠ nS) : (x.toList == [115, 97, 102, 101]) = false ∧ (x.toList != [115, 97, 102, 101]) = true := by
  rw [← nS_list]
  exact ⟨by simpa using toList_ne h, by simpa using toList_ne h⟩
end Go.Proofs.YtboeiadfmknidaaGreat
