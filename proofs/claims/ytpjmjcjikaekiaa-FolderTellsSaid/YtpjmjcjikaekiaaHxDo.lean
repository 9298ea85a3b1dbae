
/-
  Layer 6: the program's folder: do: a deed is done and told to be loose.
-/
import Derived.Test.YtpjmjcjikaekiaaHxDeed
set_option linter.unusedVariables false
set_option linter.unusedSimpArgs false
namespace Go.Proofs.Ytpjmjcjikaekiaa
open Go.RowKit Go.Maps

theorem fn_info : (Try.prog.info? 68).map (fun i => (i.zero, i.size, i.bytes)) = some (some .nilFunc, 1, 8) := by kernel_rfl
set_option maxRecDepth 100000 in
set_option maxHeartbeats 4000000 in
theorem hdo {w : World} {X : Nat} {M R R2 : Nat → Prop} {s : PSt} {v : Value} {d : Dd} (h : HFolM w X M R s) (hd : DdAt w R2 v d) (hok : d.Ok) (hR2 : ∀ i, R2 i → i < w.heap.size ∧ ¬ M i) (hf : s.safe.length + s.deeds.length < 100000) :
    Calls Try.prog 31 #[.pointer (some ⟨X, 0, none⟩), v] w fun e w' => (∃ u, e = .returned u) ∧ ∃ M', HFolM w' X M' (fun i => R i ∨ R2 i) (s.push d) ∧ Chg M w w' ∧ ∀ i, M' i → M i ∨ w.heap.size ≤ i := by
  obtain ⟨ho, hMR, hM, hR, bs, bn, vd, dvs, h, hvX, hOM⟩ := h
  obtain ⟨i0, hi0, hz0, hz1, hz2⟩ := info_parts fn_info
  obtain ⟨g, cap, rfl, hen, hcall⟩ := hdeed hd hok
  have hone := hd.one
  have hkey := hcall w bn s.now h.now (Nat.le_trans ho.now_length (by omega)) hd
  have HCa := Lib.hid hkey
  have H := Lib.hid h
  have c1 := h.cells.c1
  obtain ⟨Ad, cd, hvd, hlc, hcm, _⟩ := own_slice h.deeds
  obtain ⟨nd, hnd⟩ : ∃ nd, nd = s.deeds.length := ⟨_, rfl⟩
  have Hnd := Lib.hid hnd
  have hnd2 : nd ≤ 100000 := by omega
  have hown : w.ownsRow 0 68 1 (.slice Ad nd cd) nd dvs := by have := h.deeds; rw [hvd, ← hnd] at this; exact this
  have HO := Lib.hid hown
  have Hvd : Hid (vd = .slice Ad nd cd) := by rw [hnd]; exact hvd
  have Hho := Lib.hid ho
  have HMR := Lib.hid hMR
  have HM := Lib.hid hM
  have HR := Lib.hid hR
  have HvX := Lib.hid hvX
  have HOM := Lib.hid hOM
  have Hd := Lib.hid hd
  have Hok := Lib.hid hok
  have HR2 := Lib.hid hR2
  have Hf := Lib.hid hf
  clear ho hMR hM hR hvX hOM hd hok hR2 hf hown hvd hlc hcm hnd h hkey hcall
  go_enter Try.func31, Try.ntmps31
  go_wp2_with fail
  refine HCa.out.mono ?_
  rintro e w1 ⟨⟨u, rfl⟩, hm1, ht1⟩
  have hc1 : Chg (fun i => i = bn) w w1 := Chg.of_turned ht1
  have HM1 := Lib.hid hm1
  have HC1 := Lib.hid hc1
  have hX1 : HCells w1 X bs bn (.slice Ad nd cd) s.last s.settled := by
    have := H.out.cells.of_block (hc1.block X H.out.cells.lt H.out.xn)
    rw [Hvd.out] at this
    exact this
  have HX1 := Lib.hid hX1
  have HO1 : Hid (w1.ownsRow 0 68 1 (.slice Ad nd cd) nd dvs) := hc1.own HO.out (fun g hg e => H.out.gn (by rw [Hvd.out, hg, e]))
  have c2 := hX1.c2
  clear hm1 ht1 hc1 hX1 c1
  go_wp2_with (at_builtin; (refine wpList_append_1 _ rfl _ _ 63 rfl 0 68 i0 .nilFunc 8 Try.underlying63 hi0 hz0 hz1 hz2 rfl (.slice Ad nd cd) nd dvs rfl (HO1.out.alloc _) ⟨w1.heap.size, 0, none⟩ 1 (.func (.func g) #[] cap) rfl (by simp) hone (by unfold maxLen; omega) (by omega) (Nat.zero_le _) ?_); (intro v3 w3 hown3 hb3 hg3 hv3); (have HO3 := Lib.hid hown3); (have HG3 := Lib.hid hg3); (have HV3 := Lib.hid hv3); (have hbX := hg3.block X (by have := HX1.out.lt; simp; omega) (by intro e; exact HvX.out (by rw [Hvd.out]; exact e.symm))); (have hX3 := (HX1.out.on ((Below.refl _ w1).alloc (Nat.le_refl _) (.cells #[.func (.func g) #[] cap] 68))).of_block hbX); (have HX3 := Lib.hid hX3); (have c2' := hX3.c2); (have f2' := hX3.f2); clear hown3 hb3 hg3 hv3 hbX hX3 c2; (obtain ⟨A3, k3, rfl, _, _, _⟩ := own_slice HO3.out))
  go_end0
  have hcA : Chg (fun i => vd.ownBlock = some i) w1 w3 := ((Chg.refl (M := fun i => vd.ownBlock = some i) (w := w1)).alloc (.cells #[.func (.func g) #[] cap] 68)).trans (Chg.of_grown HG3.out (M := fun i => vd.ownBlock = some i) (by intro g hg; rw [Hvd.out]; exact hg)) (fun i hi => .inl hi)
  have hcB : Chg (fun i => i = X ∨ vd.ownBlock = some i) w1 (w3.setCell ⟨X, 2, none⟩ (.slice A3 (nd + 1) k3)) := (hcA.mono (fun i hi => .inr hi)).setCell (.inl rfl) _
  have hcw : Chg M w (w3.setCell ⟨X, 2, none⟩ (.slice A3 (nd + 1) k3)) := (HC1.out.mono (fun i hi => HOM.out i (.inr (.inr (.inl hi))))).trans hcB (fun i hi => .inl (HOM.out i (hi.elim .inl (fun h => .inr (.inr (.inr h))))))
  have hX4 := HX3.out.set2 (.slice A3 (nd + 1) k3)
  have hsz1 : w.heap.size ≤ w1.heap.size := HC1.out.size
  have hv3X : ∀ g, (Value.slice A3 (nd + 1) k3).ownBlock = some g → vd.ownBlock = some g ∨ w.heap.size ≤ g := fun g hg => by
    rcases HV3.out with e | e
    · rw [e] at hg; left; rw [Hvd.out]; exact hg
    · rw [hg] at e; injection e with e; simp at e; right; omega
  have hcX : Chg (fun i => i = X) w3 (w3.setCell ⟨X, 2, none⟩ (.slice A3 (nd + 1) k3)) := (Chg.refl (M := fun i => i = X) (w := w3)).setCell (p := ⟨X, 2, none⟩) rfl _
  have hv3ne : (Value.slice A3 (nd + 1) k3).ownBlock ≠ some X := fun e => by
    rcases hv3X _ e with e2 | e2
    · exact HvX.out e2
    · have := H.out.cells.lt; omega
  have hO4 : (w3.setCell ⟨X, 2, none⟩ (.slice A3 (nd + 1) k3)).ownsRow 0 68 1 (.slice A3 (nd + 1) k3) (s.push d).deeds.length (dvs ++ [.func (.func g) #[] cap]) := by
    have := hcX.own HO3.out (fun g hg e => hv3ne (by rw [hg, e]))
    have e : (s.push d).deeds.length = nd + 1 := by simp [PSt.push, Hnd.out]
    rw [e]
    exact this
  have hMnow : MapAt (w3.setCell ⟨X, 2, none⟩ (.slice A3 (nd + 1) k3)) bn (s.push d).now := by
    rw [PSt.push_now]
    exact HM1.out.chg hcB (by rintro (e | e); exact H.out.xn e.symm; exact H.out.gn e)
  have hMsafe : MapAt (w3.setCell ⟨X, 2, none⟩ (.slice A3 (nd + 1) k3)) bs s.safe := (H.out.safe.chg HC1.out H.out.ne).chg hcB (by rintro (e | e); exact H.out.xs e.symm; exact H.out.gs e)
  have hEach : DdsAt (w3.setCell ⟨X, 2, none⟩ (.slice A3 (nd + 1) k3)) (fun i => R i ∨ R2 i) (dvs ++ [.func (.func g) #[] cap]) (s.push d).deeds :=
    DdsAt.add ((H.out.each.chg hcw HMR.out).mono (fun i => .inl)) ((Hd.out.chg hcw (fun i hi e => (HR2.out i e).2 hi)).mono (fun i => .inr))
  have hrows : ∀ i, HOwn X bs bn (.slice A3 (nd + 1) k3) i → ¬ (R i ∨ R2 i) := by
    have hM' : ∀ i, M i → ¬ (R i ∨ R2 i) := fun i hi e => e.elim (HMR.out i hi) (fun e => (HR2.out i e).2 hi)
    rintro i (rfl | rfl | rfl | hi)
    · exact hM' _ (HOM.out _ (.inl rfl))
    · exact hM' _ (HOM.out _ (.inr (.inl rfl)))
    · exact hM' _ (HOM.out _ (.inr (.inr (.inl rfl))))
    · rcases hv3X i hi with e | e
      · exact hM' _ (HOM.out _ (.inr (.inr (.inr e))))
      · rintro (e2 | e2)
        · have := HR.out i e2; omega
        · have := (HR2.out i e2).1; omega
  have hFin : HFol (w3.setCell ⟨X, 2, none⟩ (.slice A3 (nd + 1) k3)) X bs bn (fun i => R i ∨ R2 i) (.slice A3 (nd + 1) k3) (dvs ++ [.func (.func g) #[] cap]) (s.push d) := ⟨hX4, hMsafe, hMnow, hO4, hEach, H.out.ne, hrows⟩
  refine ⟨⟨_, rfl⟩, fun i => HOwn X bs bn (.slice A3 (nd + 1) k3) i, ⟨PSt.push_ok Hho.out Hok.out Hf.out, hrows, hFin.lt, ?_, bs, bn, (.slice A3 (nd + 1) k3), _, hFin, hv3ne, fun i h => h⟩, hcw, ?_⟩
  · rintro i (e | e)
    · exact Nat.lt_of_lt_of_le (HR.out i e) hcw.size
    · exact Nat.lt_of_lt_of_le (HR2.out i e).1 hcw.size
  · rintro i (rfl | rfl | rfl | hi)
    · exact .inl (HOM.out _ (.inl rfl))
    · exact .inl (HOM.out _ (.inr (.inl rfl)))
    · exact .inl (HOM.out _ (.inr (.inr (.inl rfl))))
    · exact (hv3X i hi).imp (fun e => HOM.out _ (.inr (.inr (.inr e)))) (fun e => e)
end Go.Proofs.Ytpjmjcjikaekiaa
