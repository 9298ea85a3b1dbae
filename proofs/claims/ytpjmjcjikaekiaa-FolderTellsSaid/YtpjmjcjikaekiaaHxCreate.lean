
/-
  Layer 6: the program's folder: Create.
-/
import Derived.Test.YtpjmjcjikaekiaaHxRemove
import Derived.IntWalk
set_option linter.unusedVariables false
set_option linter.unusedSimpArgs false
namespace Go.Proofs.Ytpjmjcjikaekiaa
open Go.RowKit Go.Maps

/-- what Create tells and makes -/
def PSt.made (s : PSt) (n : ByteArray) : PSt := PSt.push { s with last := s.last + 1 } (.mk n (s.last + 1))
def createP (s : PSt) (n : ByteArray) : Nat × Nat × PSt :=
  if mayN n = false then (0, 1, s) else if (findL s.now n).isSome then (0, 9, s) else if 256 ≤ s.now.length then (0, 7, s) else (s.last + 1, 0, s.made n)
section
variable {w : World} {X : Nat} {M R : Nat → Prop} {s : PSt}
theorem HFolM.set3 (h : HFolM w X M R s) (hl : s.last + 1 < 100000000) : HFolM (w.setCell ⟨X, 3, none⟩ (.int .u64 ((s.last + 1 : Nat) : Int))) X M R { s with last := s.last + 1 } := by
  obtain ⟨ho, hMR, hM, hR, bs, bn, vd, dvs, h, hvX, hOM⟩ := h
  have hc : Chg (fun i => i = X) w (w.setCell ⟨X, 3, none⟩ (.int .u64 ((s.last + 1 : Nat) : Int))) := (Chg.refl (M := fun i => i = X) (w := w)).setCell (p := ⟨X, 3, none⟩) rfl _
  have hok : PSt.Ok { s with last := s.last + 1 } := ⟨ho.safe, ho.deeds, hl, by have := ho.settled; show s.settled ≤ s.last + 1; omega, ho.few⟩
  exact ⟨hok, hMR, fun i hi => Nat.lt_of_lt_of_le (hM i hi) hc.size, fun i hi => Nat.lt_of_lt_of_le (hR i hi) hc.size, bs, bn, vd, dvs,
    ⟨h.cells.set3 _, h.safe.chg hc (fun e => h.xs e.symm), h.now.chg hc (fun e => h.xn e.symm), hc.own h.deeds (fun g hg e => hvX (by rw [hg, e])), h.each.chg hc (fun i e => by rw [e]; exact h.rows X (.inl rfl)), h.ne, h.rows⟩, hvX, hOM⟩
set_option maxRecDepth 100000 in
set_option maxHeartbeats 4000000 in
theorem hcreate (h : HFolM w X M R s) (hf : s.safe.length + s.deeds.length < 100000) (hla : s.last + 1 < 100000000) (n : ByteArray) (hn : n.size ≤ 9223372036854775807) :
    Calls Try.prog 10 #[.pointer (some ⟨X, 0, none⟩), .string n] w fun e w' => e = .returned (.tuple #[.int .u64 ((createP s n).1 : Int), .int .i64 ((createP s n).2.1 : Int)]) ∧ HMut w w' X M R (createP s n).2.2 := by
  have H := Lib.hid h
  have Hf := Lib.hid hf
  clear h hf
  have hb0 : Below w.heap.size w (w.alloc (.cells #[.string n] 9)) := (Below.refl _ _).alloc (Nat.le_refl _) _
  have hq : (w.alloc (.cells #[.string n] 9)).cell? ⟨w.heap.size, 0, none⟩ = some (.string n) := by simp
  go_enter Try.func10, Try.ntmps10
  go_wp2_with fail
  obtain ⟨q, hqe⟩ : ∃ q, q = w.heap.size := ⟨_, rfl⟩
  have Hq := Lib.hid hqe
  have HB0 := Lib.hid hb0
  rw [← hqe] at hq
  simp only [← hqe]
  clear hqe
  generalize w.alloc (.cells #[.string n] 9) = w0 at *
  have H0 := Lib.hid (H.out.on HB0.out)
  obtain ⟨bs, bn, Ad, cd, hc, hms, hmn⟩ := H0.out.cells
  have Hc := Lib.hid hc
  have Hmn := Lib.hid hmn
  clear hc hms hmn
  refine (hmade Hc.out).mono ?_
  rintro e w' ⟨rfl, rfl⟩
  go_wp2_with fail
  refine (hmay n _ hn).mono ?_
  rintro e w1 ⟨rfl, hb1⟩
  have HB1 := Lib.hid hb1
  have hq1 : w1.cell? ⟨q, 0, none⟩ = some (.string n) := (hb1.cell (p := ⟨q, 0, none⟩) (fblock_of_cell hq)).trans hq
  have Hq1 := Lib.hid hq1
  have HB01 := Lib.hid (HB0.out.trans (HB1.out.mono HB0.out.size))
  have H1 := Lib.hid (H0.out.on HB1.out)
  have Hc1 := Lib.hid (Hc.out.on HB1.out)
  have Hm1 := Lib.hid (Hmn.out.on HB1.out)
  clear hq hb1
  cases hmy : mayN n
  · have Hr : Hid (createP s n = (0, 1, s)) := by unfold createP; rw [if_pos hmy]; exact rfl
    go_wp2_with fail
    go_ret2
    rw [Hr.out]
    exact ⟨rfl, HMut.of_below H.out HB01.out⟩
  · have Hsz := Lib.hid (mayN_size hmy)
    go_wp2_with fail
    refine (hhas Hc1.out Hm1.out (by unfold maxLen; omega)).mono ?_
    rintro e w' ⟨rfl, rfl⟩
    cases hfi : (findL s.now n).isSome
    · have cc1 := Hc1.out.c1
      have cc3 := Hc1.out.c3
      have ff3 := Hc1.out.f3
      have hlen := Hm1.out.len 3
      by_cases h256 : 256 ≤ s.now.length
      · have Hr : Hid (createP s n = (0, 7, s)) := by unfold createP; rw [if_neg (by simp [hmy]), if_neg (by simp [hfi]), if_pos h256]; exact rfl
        have hd1 : decide ((s.now.length : Int) ≥ 256) = true := decide_eq_true (by omega)
        have H256 := Lib.hid h256
        clear h256
        go_wp2_with fail
        go_ret2
        rw [Hr.out]
        exact ⟨rfl, HMut.of_below H.out HB01.out⟩
      · have Hr : Hid (createP s n = (s.last + 1, 0, s.made n)) := by unfold createP; rw [if_neg (by simp [hmy]), if_neg (by simp [hfi]), if_neg h256]; exact rfl
        have hd1 : decide ((s.now.length : Int) ≥ 256) = false := decide_eq_false (by omega)
        have hwl : IntKind.u64.wrap ((s.last : Int) + 1) = ((s.last + 1 : Nat) : Int) := by
          have h9 := Lib.hid hla
          rw [show ((s.last : Int) + 1) = ((s.last + 1 : Nat) : Int) by omega]
          exact IntWalk.u64_in _ (by omega)
        have H256 := Lib.hid h256
        clear h256
        go_wp2_with fail
        obtain ⟨L, hL⟩ : ∃ L, L = s.last + 1 := ⟨_, rfl⟩
        have hLi : (s.last : Int) + 1 = (L : Int) := by omega
        simp only [hLi]
        have h2 := H1.out.set3 hla
        rw [← hL] at h2
        have hq2 : (w1.setCell ⟨X, 3, none⟩ (.int .u64 (L : Int))).cell? ⟨q, 0, none⟩ = some (.string n) := (World.cell?_setCell_other _ _ _ _ (by intro e; injection e with e1 e2; omega)).trans Hq1.out
        have hb2 : Chg M w (w1.setCell ⟨X, 3, none⟩ (.int .u64 (L : Int))) := (Chg.of_below (M := M) HB01.out).setCell (p := ⟨X, 3, none⟩) (by obtain ⟨_, _, _, _, _, _, _, _, _, _, hOM⟩ := H.out; exact hOM X (.inl rfl)) _
        have hsz2 : (w1.setCell ⟨X, 3, none⟩ (.int .u64 (L : Int))).heap.size = w1.heap.size := by simp
        obtain ⟨p, hp⟩ : ∃ p, p = w1.heap.size := ⟨_, rfl⟩
        rw [← hp] at hsz2
        simp only [← hp]
        have Hpp : Hid (w.heap.size ≤ p ∧ q < p) := ⟨by rw [hp]; exact HB01.out.size, by rw [hp]; exact fblock_of_cell Hq1.out⟩
        clear hp
        generalize w1.setCell ⟨X, 3, none⟩ (.int .u64 (L : Int)) = w2 at *
        have hb3 : Below w2.heap.size w2 (w2.alloc (.cells #[.int .u64 (L : Int)] 29)) := (Below.refl _ _).alloc (Nat.le_refl _) _
        have hp3 : (w2.alloc (.cells #[.int .u64 (L : Int)] 29)).cell? ⟨p, 0, none⟩ = some (.int .u64 (L : Int)) := by rw [← hsz2]; simp
        generalize w2.alloc (.cells #[.int .u64 (L : Int)] 29) = w3 at *
        have H3 := Lib.hid (h2.on hb3)
        have hq3 : w3.cell? ⟨q, 0, none⟩ = some (.string n) := (hb3.cell (p := ⟨q, 0, none⟩) (fblock_of_cell hq2)).trans hq2
        have HC3 : Hid (Chg M w w3) := hb2.trans (Chg.of_below (M := fun _ => False) hb3) (fun i hi => hi.elim)
        have hd : DdAt w3 (fun i => i = p ∨ i = q) (.func (.func 32) #[] #[.pointer (some ⟨p, 0, none⟩), .pointer (some ⟨q, 0, none⟩)]) (.mk n L) := ⟨p, q, rfl, .inl rfl, .inr rfl, hp3, hq3⟩
        have hnM : ∀ i, (i = p ∨ i = q) → ¬ M i := by
          intro i hi e
          have h9 := H.out.2.2.1 _ e
          have h8 := Hpp.out
          have h7 := Hq.out
          omega
        have hqM : ∀ i, (i = p ∨ i = q) → i < w3.heap.size ∧ ¬ M i := by
          rintro i hi
          refine ⟨?_, hnM i hi⟩
          rcases hi with rfl | rfl
          · exact fblock_of_cell hp3
          · exact fblock_of_cell hq3
        have HnM := Lib.hid hnM
        have HL := Lib.hid hL
        have Hp3 := Lib.hid hp3
        refine (hdo H3.out hd ⟨Hsz.out, by omega⟩ hqM Hf.out).mono ?_
        clear hd hqM hnM hb2 hb3 h2 hq1 hq2 hq3 hp3 hb0 hwl cc1 cc3 ff3 hlen hL
        rintro e w4 ⟨⟨u, rfl⟩, M', hm', hc', hM'⟩
        have hp4 : w4.cell? ⟨p, 0, none⟩ = some (.int .u64 (L : Int)) := (hc'.cell (p := ⟨p, 0, none⟩) (fblock_of_cell Hp3.out) (HnM.out p (.inl rfl))).trans Hp3.out
        have Hm' := Lib.hid hm'
        have Hc' := Lib.hid hc'
        have HM' := Lib.hid hM'
        clear hm' hc' hM'
        go_wp2_with fail
        go_ret2
        rw [Hr.out]
        have hs := HC3.out.size
        refine ⟨by rw [HL.out]; rfl, M', fun i => R i ∨ (i = p ∨ i = q), ?_, HC3.out.trans Hc'.out (fun i hi => .inl hi), fun i hi => (HM'.out i hi).imp (fun e => e) (fun e => by omega), ?_⟩
        · have := Hm'.out
          rw [HL.out] at this
          exact this
        · rintro i (hi | hi)
          · exact .inl hi
          · exact .inr (by have := Hq.out; have := Hpp.out; omega)
    · have Hr : Hid (createP s n = (0, 9, s)) := by unfold createP; rw [if_neg (by simp [hmy]), if_pos hfi]; exact rfl
      go_wp2_with fail
      go_ret2
      rw [Hr.out]
      exact ⟨rfl, HMut.of_below H.out HB01.out⟩
end
end Go.Proofs.Ytpjmjcjikaekiaa
