
/-
  Layer 6: the program's folder: Remove, Rename.
-/
import Derived.Test.YtpjmjcjikaekiaaHxDo
set_option linter.unusedVariables false
set_option linter.unusedSimpArgs false
namespace Go.Proofs.Ytpjmjcjikaekiaa
open Go.RowKit Go.Maps

theorem mayN_size {n : ByteArray} (h : mayN n = true) : n.size ≤ 1000 := by
  unfold mayN at h
  simp only [Bool.and_eq_true, decide_eq_true_eq] at h
  omega
theorem HFolM.cells {w : World} {X : Nat} {M R : Nat → Prop} {s : PSt} (h : HFolM w X M R s) : ∃ bs bn Ad cd, HCells w X bs bn (.slice Ad s.deeds.length cd) s.last s.settled ∧ MapAt w bs s.safe ∧ MapAt w bn s.now := by
  obtain ⟨ho, hMR, hM, hR, bs, bn, vd, dvs, h, hvX, hOM⟩ := h
  obtain ⟨Ad, cd, hvd, _⟩ := own_slice h.deeds
  have := h.cells
  rw [hvd] at this
  exact ⟨bs, bn, Ad, cd, this, h.safe, h.now⟩
/-- what Remove tells and makes -/
def removeP (s : PSt) (n : ByteArray) : Nat × PSt := if mayN n = false then (1, s) else if (findL s.now n).isSome then (0, s.push (.rm n)) else (6, s)
def renameP (s : PSt) (n to : ByteArray) : Nat × PSt :=
  if mayN n = false ∨ mayN to = false then (1, s) else if (findL s.now n).isSome = false then (6, s) else if n.toList == to.toList then (0, s) else (0, s.push (.mv n to))
section
variable {w : World} {X : Nat} {M R : Nat → Prop} {s : PSt}
set_option maxRecDepth 100000 in
set_option maxHeartbeats 4000000 in
theorem hremove (h : HFolM w X M R s) (hf : s.safe.length + s.deeds.length < 100000) (n : ByteArray) (hn : n.size ≤ 9223372036854775807) :
    Calls Try.prog 11 #[.pointer (some ⟨X, 0, none⟩), .string n] w fun e w' => e = .returned (.int .i64 ((removeP s n).1 : Int)) ∧ HMut w w' X M R (removeP s n).2 := by
  have H := Lib.hid h
  have Hf := Lib.hid hf
  clear h hf
  have hb0 : Below w.heap.size w (w.alloc (.cells #[.string n] 9)) := (Below.refl _ _).alloc (Nat.le_refl _) _
  have hq : (w.alloc (.cells #[.string n] 9)).cell? ⟨w.heap.size, 0, none⟩ = some (.string n) := by simp
  go_enter Try.func11, Try.ntmps11
  go_wp2_with fail
  obtain ⟨q, hqe⟩ : ∃ q, q = w.heap.size := ⟨_, rfl⟩
  have Hq := Lib.hid hqe
  have HB0 := Lib.hid hb0
  rw [← hqe] at hq
  simp only [← hqe]
  clear hqe
  generalize w.alloc (.cells #[.string n] 9) = w0 at *
  have H0 := Lib.hid (H.out.on HB0.out)
  obtain ⟨bs, bn, Ad, cd, hc, hms, hmn⟩ := H0.out.cells
  have Hc := Lib.hid hc
  have Hmn := Lib.hid hmn
  clear hc hms hmn
  refine (hmade Hc.out).mono ?_
  rintro e w' ⟨rfl, rfl⟩
  go_wp2_with fail
  refine (hmay n _ hn).mono ?_
  rintro e w1 ⟨rfl, hb1⟩
  have HB1 := Lib.hid hb1
  have hq1 : w1.cell? ⟨q, 0, none⟩ = some (.string n) := (hb1.cell (p := ⟨q, 0, none⟩) (fblock_of_cell hq)).trans hq
  have Hq1 := Lib.hid hq1
  have HB01 := Lib.hid (HB0.out.trans (HB1.out.mono HB0.out.size))
  have H1 := Lib.hid (H0.out.on HB1.out)
  have Hc1 := Lib.hid (Hc.out.on HB1.out)
  have Hm1 := Lib.hid (Hmn.out.on HB1.out)
  clear hq hb1
  cases hmy : mayN n
  · have Hr : Hid (removeP s n = (1, s)) := by unfold removeP; rw [if_pos hmy]; exact rfl
    go_wp2_with fail
    go_ret
    rw [Hr.out]
    exact ⟨rfl, HMut.of_below H.out HB01.out⟩
  · have Hsz := Lib.hid (mayN_size hmy)
    go_wp2_with fail
    refine (hhas Hc1.out Hm1.out (by unfold maxLen; omega)).mono ?_
    rintro e w' ⟨rfl, rfl⟩
    cases hfi : (findL s.now n).isSome
    · have Hr : Hid (removeP s n = (6, s)) := by unfold removeP; rw [if_neg (by simp [hmy]), if_neg (by simp [hfi])]; exact rfl
      go_wp2_with fail
      go_ret
      rw [Hr.out]
      exact ⟨rfl, HMut.of_below H.out HB01.out⟩
    · have Hr : Hid (removeP s n = (0, s.push (.rm n))) := by unfold removeP; rw [if_neg (by simp [hmy]), if_pos hfi]; exact rfl
      go_wp2_with fail
      have hd : DdAt w1 (fun i => i = q) (.func (.func 33) #[] #[.pointer (some ⟨q, 0, none⟩)]) (.rm n) := ⟨q, rfl, rfl, Hq1.out⟩
      have hqM : ∀ i, i = q → i < w1.heap.size ∧ ¬ M i := by
        rintro i rfl
        refine ⟨fblock_of_cell Hq1.out, fun e => ?_⟩
        have := H.out.2.2.1 _ e
        have := Hq.out
        omega
      refine (hdo H1.out hd Hsz.out hqM Hf.out).mono ?_
      rintro e w2 ⟨⟨u, rfl⟩, M', hm', hc', hM'⟩
      go_wp2_with fail
      go_ret
      rw [Hr.out]
      have hs := HB01.out.size
      refine ⟨rfl, M', fun i => R i ∨ i = q, hm', (Chg.of_below (M := M) HB01.out).trans hc' (fun i hi => .inl hi), fun i hi => (hM' i hi).imp (fun e => e) (fun e => by omega), ?_⟩
      rintro i (hi | rfl)
      · exact .inl hi
      · exact .inr (by have := Hq.out; omega)
set_option maxRecDepth 100000 in
set_option maxHeartbeats 4000000 in
theorem hrename (h : HFolM w X M R s) (hf : s.safe.length + s.deeds.length < 100000) (n to : ByteArray) (hn : n.size ≤ 9223372036854775807) (ht : to.size ≤ 9223372036854775807) :
    Calls Try.prog 35 #[.pointer (some ⟨X, 0, none⟩), .string n, .string to] w fun e w' => e = .returned (.int .i64 ((renameP s n to).1 : Int)) ∧ HMut w w' X M R (renameP s n to).2 := by
  have H := Lib.hid h
  have Hf := Lib.hid hf
  clear h hf
  obtain ⟨wz, hwz⟩ : ∃ wz, wz = w.alloc (.cells #[.string n] 9) := ⟨_, rfl⟩
  have hbz : Below w.heap.size w wz := by rw [hwz]; exact (Below.refl _ _).alloc (Nat.le_refl _) _
  have hsz : wz.heap.size = w.heap.size + 1 := by rw [hwz]; simp
  have hp : wz.cell? ⟨w.heap.size, 0, none⟩ = some (.string n) := by rw [hwz]; simp
  have hb0 : Below wz.heap.size wz (wz.alloc (.cells #[.string to] 9)) := (Below.refl _ _).alloc (Nat.le_refl _) _
  have hq : (wz.alloc (.cells #[.string to] 9)).cell? ⟨wz.heap.size, 0, none⟩ = some (.string to) := by simp
  have hp2 := (hb0.cell (p := ⟨w.heap.size, 0, none⟩) (fblock_of_cell hp)).trans hp
  go_enter Try.func35, Try.ntmps35
  go_wp2_with fail
  rw [← hwz]
  obtain ⟨p, hpe⟩ : ∃ p, p = w.heap.size := ⟨_, rfl⟩
  obtain ⟨q, hqe⟩ : ∃ q, q = w.heap.size + 1 := ⟨_, rfl⟩
  have HB0 := Lib.hid (hbz.trans (hb0.mono hbz.size))
  rw [hsz, ← hqe] at hq
  rw [← hpe] at hp2
  simp only [← hqe]
  simp only [← hpe]
  have Hp := Lib.hid hpe
  have Hq := Lib.hid hqe
  clear hpe hqe hsz hp hbz hb0 hwz
  generalize wz.alloc (.cells #[.string to] 9) = w0 at *
  have H0 := Lib.hid (H.out.on HB0.out)
  obtain ⟨bs, bn, Ad, cd, hc, hms, hmn⟩ := H0.out.cells
  have Hc := Lib.hid hc
  have Hmn := Lib.hid hmn
  clear hc hms hmn
  refine (hmade Hc.out).mono ?_
  rintro e w' ⟨rfl, rfl⟩
  go_wp2_with fail
  refine (hmay n _ hn).mono ?_
  rintro e w1 ⟨rfl, hb1⟩
  have HB1 := Lib.hid hb1
  have hq1 : w1.cell? ⟨q, 0, none⟩ = some (.string to) := (hb1.cell (p := ⟨q, 0, none⟩) (fblock_of_cell hq)).trans hq
  have hp1 : w1.cell? ⟨p, 0, none⟩ = some (.string n) := (hb1.cell (p := ⟨p, 0, none⟩) (fblock_of_cell hp2)).trans hp2
  have HB01 := Lib.hid (HB0.out.trans (HB1.out.mono HB0.out.size))
  have H1 := Lib.hid (H0.out.on HB1.out)
  have Hc1 := Lib.hid (Hc.out.on HB1.out)
  have Hm1 := Lib.hid (Hmn.out.on HB1.out)
  clear hq hb1 hp2
  cases hmy : mayN n
  · have Hr : Hid (renameP s n to = (1, s)) := by unfold renameP; rw [if_pos (.inl hmy)]; exact rfl
    go_wp2_with fail
    go_ret
    rw [Hr.out]
    exact ⟨rfl, HMut.of_below H.out HB01.out⟩
  · have Hsz := Lib.hid (mayN_size hmy)
    go_wp2_with fail
    refine (hmay to _ ht).mono ?_
    rintro e w2 ⟨rfl, hb2⟩
    have HB2 := Lib.hid hb2
    have hq2 : w2.cell? ⟨q, 0, none⟩ = some (.string to) := (hb2.cell (p := ⟨q, 0, none⟩) (fblock_of_cell hq1)).trans hq1
    have hp2 : w2.cell? ⟨p, 0, none⟩ = some (.string n) := (hb2.cell (p := ⟨p, 0, none⟩) (fblock_of_cell hp1)).trans hp1
    have HB02 := Lib.hid (HB01.out.trans (HB2.out.mono HB01.out.size))
    have H2 := Lib.hid (H1.out.on HB2.out)
    have Hc2 := Lib.hid (Hc1.out.on HB2.out)
    have Hm2 := Lib.hid (Hm1.out.on HB2.out)
    have HQ2 := Lib.hid hq2
    have HP2 := Lib.hid hp2
    clear hq1 hp1 hb2
    cases hmt : mayN to
    · have Hr : Hid (renameP s n to = (1, s)) := by unfold renameP; rw [if_pos (.inr hmt)]; exact rfl
      go_wp2_with fail
      go_ret
      rw [Hr.out]
      exact ⟨rfl, HMut.of_below H.out HB02.out⟩
    · have Hst := Lib.hid (mayN_size hmt)
      go_wp2_with fail
      refine (hhas Hc2.out Hm2.out (by unfold maxLen; omega)).mono ?_
      rintro e w' ⟨rfl, rfl⟩
      cases hfi : (findL s.now n).isSome
      · have Hr : Hid (renameP s n to = (6, s)) := by unfold renameP; rw [if_neg (by simp [hmy, hmt]), if_pos hfi]; exact rfl
        go_wp2_with fail
        go_ret
        rw [Hr.out]
        exact ⟨rfl, HMut.of_below H.out HB02.out⟩
      · cases hne : (n.toList == to.toList)
        · have Hr : Hid (renameP s n to = (0, s.push (.mv n to))) := by unfold renameP; rw [if_neg (by simp [hmy, hmt]), if_neg (by simp [hfi]), if_neg (by simp [hne])]; exact rfl
          go_wp2_with fail
          have hd : DdAt w2 (fun i => i = p ∨ i = q) (.func (.func 46) #[] #[.pointer (some ⟨p, 0, none⟩), .pointer (some ⟨q, 0, none⟩)]) (.mv n to) := ⟨p, q, rfl, .inl rfl, .inr rfl, HP2.out, HQ2.out⟩
          have hqM : ∀ i, (i = p ∨ i = q) → i < w2.heap.size ∧ ¬ M i := by
            rintro i hi
            refine ⟨?_, fun e => ?_⟩
            · rcases hi with rfl | rfl
              · exact fblock_of_cell HP2.out
              · exact fblock_of_cell HQ2.out
            · have := H.out.2.2.1 _ e
              have := Hq.out
              have := Hp.out
              omega
          refine (hdo H2.out hd ⟨Hsz.out, Hst.out⟩ hqM Hf.out).mono ?_
          rintro e w3 ⟨⟨u, rfl⟩, M', hm', hc', hM'⟩
          go_wp2_with fail
          go_ret
          rw [Hr.out]
          have hs := HB02.out.size
          refine ⟨rfl, M', fun i => R i ∨ (i = p ∨ i = q), hm', (Chg.of_below (M := M) HB02.out).trans hc' (fun i hi => .inl hi), fun i hi => (hM' i hi).imp (fun e => e) (fun e => by omega), ?_⟩
          rintro i (hi | hi)
          · exact .inl hi
          · exact .inr (by have := Hq.out; have := Hp.out; omega)
        · have Hr : Hid (renameP s n to = (0, s)) := by unfold renameP; rw [if_neg (by simp [hmy, hmt]), if_neg (by simp [hfi]), if_pos hne]; exact rfl
          go_wp2_with fail
          go_ret
          rw [Hr.out]
          exact ⟨rfl, HMut.of_below H.out HB02.out⟩
end
end Go.Proofs.Ytpjmjcjikaekiaa
