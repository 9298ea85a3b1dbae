/-
  SegCrash, part 24 of what the law's proof leans on: SgApp, SgCut, SgNum, SgLone, SgWakes, SgFill, SgRead.
-/
import Derived.Deep.QuietTactic
import Derived.Test.YtaicibmaogiibaaGreatDoorSegCrashQ23
import Derived.Test.YtaicibmaogiibaaGreatDoorSegCrashQ4
import Derived.Lib.SmallJoins
import Derived.Test.YtaicibmaogiibaaGreatDoorSegCrashQ1
import Derived.Test.YtaicibmaogiibaaGreatDoorSegCrashQ5
import Derived.Test.YtaicibmaogiibaaGreatDoorSegCrashQ3
/- SgApp -/

/-
  Layer 11: Append.
-/
set_option linter.unusedVariables false
set_option linter.unusedSimpArgs false
namespace Go.Proofs.YtaicibmaogiibaaGreatDoor.Sg
open Go Go.RowKit

/-- what Append does: its code, the loc, the file system, the segment -/
def appG (s : FsP) (x : S) (r : Rc.Rec) : Nat × (Nat × Nat) × FsP × S :=
  if Rc.mayB r = false ∨ r.seq ≤ (x.last : Int) then (1, (0, 0), s, x)
  else if 16777216 < x.size + Rc.sizeN r then (7, (0, 0), s, x)
  else if (stepF s (appendK (nameB x.id) (Rc.runL r))).1 = 0 then (0, (x.id, x.size), (stepF s (appendK (nameB x.id) (Rc.runL r))).2, x.more r.seq.toNat (Rc.sizeN r))
  else ((stepF s (appendK (nameB x.id) (Rc.runL r))).1, (0, 0), (stepF s (appendK (nameB x.id) (Rc.runL r))).2, x)
def locV (l : Nat × Nat) : Value := .agg #[.int .u32 (l.1 : Int), .int .u32 (l.2 : Int)]
theorem SegMut.refl {w w' : World} {G A : Nat} {M R : Nat → Prop} {s : FsP} {x : S} (h : SegIn w G A M R s x) (hb : Below w.heap.size w w') : SegMut w w' G A M R s x :=
  ⟨M, R, h.1.on hb, (Chg.of_below hb).mono (fun _ => .inl), fun _ => .inl, fun _ => .inl, h.2.1.on hb, h.2.2.1, h.2.2.2⟩
theorem SegMut.of_box {w w' w'' w3 : World} {G A : Nat} {M R N : Nat → Prop} {s : FsP} {y : S} (hb : Chg M w w') (hm : FsMut w' w'' A s.used M R s) (hg : Chg N w'' w3) (hN : ∀ i, N i → (i = G ∨ w.heap.size ≤ i) ∧ i < w'.heap.size ∧ ¬ M i ∧ ¬ R i) (hc : SegC w3 G A y) (hl : G < w'.heap.size) (h1 : ¬ M G) (h2 : ¬ R G) : SegMut w w3 G A M R s y := by
  obtain ⟨M', R', k1, k2, k3, k4⟩ := hm
  refine ⟨M', R', k1.chg hg (fun i hi => ⟨fun e => (k3 _ e).elim (hN i hi).2.2.1 (fun e => by have := (hN i hi).2.1; omega), fun e => (k4 _ e).elim (hN i hi).2.2.2 (fun e => by have := (hN i hi).2.1; omega)⟩), ?_, fun j hj => (k3 j hj).imp id (fun e => Nat.le_trans hb.size e), fun j hj => (k4 j hj).imp id (fun e => Nat.le_trans hb.size e), hc, fun e => ?_, fun e => ?_⟩
  · exact ((hb.trans k2 (fun _ => .inl)).mono (fun _ => .inl)).trans hg (fun i hi => (hN i hi).1.elim (fun e => .inl (.inr e)) .inr)
  · exact (k3 _ e).elim h1 (fun e => by omega)
  · exact (k4 _ e).elim h2 (fun e => by omega)
theorem get2 {W : World} {l : Nat} {u0 u1 : Value} (h0 : W.cell? ⟨l, 0, none⟩ = some u0) (h1 : W.cell? ⟨l, 1, none⟩ = some u1) (n : Nat) (a c : Value) :
    (((W.drewN n).setCell ⟨l, 0, none⟩ a).setCell ⟨l, 1, none⟩ c).cell? ⟨l, 0, none⟩ = some a ∧ (((W.drewN n).setCell ⟨l, 0, none⟩ a).setCell ⟨l, 1, none⟩ c).cell? ⟨l, 1, none⟩ = some c := by
  have e0 : (W.drewN n).cell? ⟨l, 0, none⟩ = some u0 := h0
  have e1 : (W.drewN n).cell? ⟨l, 1, none⟩ = some u1 := h1
  refine ⟨?_, ?_⟩
  · rw [World.cell?_setCell_other _ _ _ _ (by intro e; injection e with e1 e2; omega)]
    exact World.cell?_setCell_same _ _ _ e0
  · have e2 : ((W.drewN n).setCell ⟨l, 0, none⟩ a).cell? ⟨l, 1, none⟩ = some u1 := by
      rw [World.cell?_setCell_other _ _ _ _ (by intro e; injection e with e1 e2; omega)]
      exact e1
    exact World.cell?_setCell_same _ _ _ e2
theorem get2n {W : World} {l : Nat} {u0 u1 : Value} (h0 : W.cell? ⟨l, 0, none⟩ = some u0) (h1 : W.cell? ⟨l, 1, none⟩ = some u1) (a c : Value) :
    ((W.setCell ⟨l, 0, none⟩ a).setCell ⟨l, 1, none⟩ c).cell? ⟨l, 0, none⟩ = some a ∧ ((W.setCell ⟨l, 0, none⟩ a).setCell ⟨l, 1, none⟩ c).cell? ⟨l, 1, none⟩ = some c := by
  refine ⟨?_, ?_⟩
  · rw [World.cell?_setCell_other _ _ _ _ (by intro e; injection e with e1 e2; omega)]
    exact World.cell?_setCell_same _ _ _ h0
  · have e2 : (W.setCell ⟨l, 0, none⟩ a).cell? ⟨l, 1, none⟩ = some u1 := by
      rw [World.cell?_setCell_other _ _ _ _ (by intro e; injection e with e1 e2; omega)]
      exact h1
    exact World.cell?_setCell_same _ _ _ e2
theorem fin2 {w W1 : World} {B0 l : Nat} (h : Below B0 w W1) (n : Nat) (hl : B0 ≤ l) (a c : Value) : Below B0 w (((W1.drewN n).setCell ⟨l, 0, none⟩ a).setCell ⟨l, 1, none⟩ c) :=
  (Below.setCell (Below.setCell (p := ⟨l, 0, none⟩) (fbdrewN h n) hl a) (p := ⟨l, 1, none⟩) hl c)
section
variable {w : World} {G A q T B Br : Nat} {M R : Nat → Prop} {s : FsP} {x : S} {r : Rc.Rec} {v : Value}
set_option maxRecDepth 100000 in
set_option maxHeartbeats 16000000 in
theorem sappend (h : SegIn w G A M R s x) (hx : Ctx B w) (hB : B ≤ w.heap.size) (hMB : ∀ i, M i → B ≤ i) (hxf : x.Fit) (hmany : x.many < 1000000) (hv : RecV w Br v r) (hBr : Br ≤ w.heap.size) (hr : Rc.Fit r) (hf : FInv s q T) (hT : T ≤ 100000) (hst : s.steps + 1 ≤ 1000000) :
    Calls Tryz.prog 19 #[.pointer (some ⟨G, 0, none⟩), v] w fun e w' => e = .returned (.tuple #[locV (appG s x r).2.1, .int .i64 ((appG s x r).1 : Int)]) ∧ SegMut w w' G A M R (appG s x r).2.2.1 (appG s x r).2.2.2 := by
  have hm := h.1
  have hc := h.2.1
  have hG1 := h.2.2.1
  have hG2 := h.2.2.2
  obtain ⟨nm, hnm⟩ : ∃ nm, nm = nameB x.id := ⟨_, rfl⟩
  have hsz : nm.size ≤ maxLen := by rw [hnm]; have := nameB_size x.id; unfold maxLen; omega
  obtain ⟨R1, hR1⟩ : ∃ R1, R1 = appG s x r := ⟨_, rfl⟩
  rw [← hR1]
  obtain ⟨kv, vv, rfl, hk1, hk2⟩ := hv.mono hBr
  obtain ⟨W, hW⟩ : ∃ W, W = (w.alloc (.cells #[.int .u64 r.seq, .int .i64 r.kind, kv, vv, .int .u32 r.seg, .int .u32 r.off] 51)).alloc (.cells #[.int .u32 0, .int .u32 0] 49) := ⟨_, rfl⟩
  have hb : Below w.heap.size w W := by rw [hW]; exact ((Below.refl _ _).alloc (Nat.le_refl _) _).alloc (by simp) _
  have hWs : W.heap.size = w.heap.size + 2 := by rw [hW]; simp
  have hi1 : W.heap[w.heap.size]? = some (.cells #[.int .u64 r.seq, .int .i64 r.kind, kv, vv, .int .u32 r.seg, .int .u32 r.off] 51 (0, 0)) := by rw [hW]; exact ((((Below.refl _ _).alloc (Nat.le_refl _) _ : Below (w.alloc (.cells #[.int .u64 r.seq, .int .i64 r.kind, kv, vv, .int .u32 r.seg, .int .u32 r.off] 51)).heap.size _ _)).block w.heap.size (by simp)).trans (heap_alloc_new w _)
  have hi2 : W.heap[w.heap.size + 1]? = some (.cells #[.int .u32 0, .int .u32 0] 49 (0, 0)) := by rw [hW]; have := heap_alloc_new (w.alloc (.cells #[.int .u64 r.seq, .int .i64 r.kind, kv, vv, .int .u32 r.seg, .int .u32 r.off] 51)) (.cells #[.int .u32 0, .int .u32 0] 49); rw [World.size_alloc] at this; exact this
  have hRV : RecV W w.heap.size (recV r.seq r.kind kv vv r.seg r.off) r := (show RecV w w.heap.size _ r from ⟨_, _, rfl, hk1, hk2⟩).below hb (Nat.le_refl _)
  have HMD := Lib.hid (smade (hc.on hb))
  have hxW := hx.below (hb.mono hB)
  have HX0 := Lib.hid hx
  have HX := Lib.hid (And.intro hxW (And.intro hB hMB))
  obtain ⟨bx, hbx⟩ : ∃ bx, bx = w.heap.size := ⟨_, rfl⟩
  have HBX := Lib.hid hbx
  rw [← hbx] at hi1 hi2 hRV
  have HR0 : Hid (R1 = appG s x r) := Lib.hid hR1
  have HV := Lib.hid hRV
  have HW := Lib.hid (And.intro hi1 hi2)
  have HB := Lib.hid hb
  have HH := Lib.hid h
  have HF := Lib.hid hf
  have HQ := Lib.hid (And.intro hT (And.intro hst (And.intro hxf hmany)))
  have HNM := Lib.hid (And.intro hnm hsz)
  have HWS := Lib.hid hWs
  have Hr := Lib.hid hr
  have hbl : bx ≤ W.heap.size := by omega
  obtain ⟨c0, c1, c2, c3, c4, c5⟩ := box6h hi1
  clear hR1 hRV hi1 hi2 hb h hf hT hst hxf hmany hnm hsz hWs hm hc hG1 hG2 hk1 hk2 hB hMB hx hxW hr
  unfold recV at HV ⊢
  cases hmay : Rc.mayB r
  case false =>
    have HP := Lib.hid (rput_no _ r bx W HV.out hbl Hr.out hmay)
    have HE := Lib.hid (show R1 = (1, (0, 0), s, x) by rw [HR0.out]; unfold appG; rw [if_pos (.inl hmay)])
    clear hmay
    unfold recV at HP
    go_enter Tryz.func19, Tryz.ntmps19
    go_wp2_with fail
    rw [← hW, ← hbx]
    clear hW hbx
    refine HMD.out.mono ?_
    rintro e w1 ⟨rfl, rfl⟩
    go_wp2_with fail
    refine HP.out.mono ?_
    rintro e W1 ⟨rfl, hb1⟩
    have hl1 := (hb1.block (bx + 1) (by rw [HWS.out, HBX.out]; omega)).trans HW.out.2
    have l0 : W1.cell? ⟨bx + 1, 0, none⟩ = some (.int .u32 0) := cell_of_row W1 (bx + 1) 0 _ _ _ hl1
    have l1 : W1.cell? ⟨bx + 1, 1, none⟩ = some (.int .u32 0) := cell_of_row W1 (bx + 1) 1 _ _ _ hl1
    have m0 : W1.frozen? ⟨bx + 1, 0, none⟩ = false := by simp [World.frozen?, hl1]
    have m1 : W1.frozen? ⟨bx + 1, 1, none⟩ = false := by simp [World.frozen?, hl1]
    have HL := Lib.hid hl1
    have HB2 := Lib.hid (HB.out.trans (hb1.mono HB.out.size))
    clear hb1 hl1 c0 c1 c2 c3 c4 c5
    go_wp2_with fail
    go_quiet (fail)
    go_wp2_with fail
    exact bodyPost_ret (v := .tuple #[locV (0, 0), .int .i64 1]) (by simp [results, Tryz.results19, go_sem, locV, (get2 l0 l1 nq (.int .u32 0) (.int .u32 0)).1, (get2 l0 l1 nq (.int .u32 0) (.int .u32 0)).2]) rfl ⟨by rw [HE.out]; rfl, by rw [HE.out]; exact SegMut.refl HH.out (fin2 HB2.out nq (by rw [HBX.out]; omega) _ _)⟩
  case true =>
    have HP := Lib.hid (rput_ok _ r bx W HV.out hbl hmay HX.out.1.tab)
    have HMy := Lib.hid hmay
    have hsq : r.seq = ((r.seq.toNat : Nat) : Int) := by have := Hr.out.seq0; omega
    obtain ⟨sq, hsqd⟩ : ∃ sq, sq = r.seq.toNat := ⟨_, rfl⟩
    rw [← hsqd] at hsq
    have hsq2 : sq < 18446744073709551616 := by have := Hr.out.seq1; omega
    obtain ⟨L, hL⟩ : ∃ L, L = Rc.sizeN r := ⟨_, rfl⟩
    have hLb := Rc.may_size hmay
    rw [← hL] at HP hLb
    have HLd := Lib.hid hL
    have HSQ := Lib.hid hsqd
    have HSQ2 := Lib.hid hsq
    clear hmay hL hsqd
    rw [hsq] at HP
    rw [hsq] at c0 hW ⊢
    rw [hsq] at HW
    clear hsq
    by_cases hlast : sq ≤ x.last
    · have HE := Lib.hid (show R1 = (1, (0, 0), s, x) by rw [HR0.out]; unfold appG; rw [if_pos (.inr (by rw [HSQ2.out]; omega))])
      have i1 : (sq : Int) ≤ (x.last : Int) := by omega
      go_enter Tryz.func19, Tryz.ntmps19
      go_wp2_with fail
      rw [← hW, ← hbx]
      clear hW hbx
      refine HMD.out.mono ?_
      rintro e w1 ⟨rfl, rfl⟩
      go_wp2_with fail
      refine HP.out.mono ?_
      rintro e W1 ⟨v1, rfl, hv1, hb1⟩
      have hl1 := (hb1.block (bx + 1) (by rw [HWS.out, HBX.out]; omega)).trans HW.out.2
      have hx1 := (hb1.block bx (by rw [HWS.out, HBX.out]; omega)).trans HW.out.1
      have HB2 := Lib.hid (HB.out.trans (hb1.mono HB.out.size))
      have HC1 := Lib.hid (HH.out.2.1.on HB2.out)
      have a5 := HC1.out.c5
      have a2 := HC1.out.c2
      have d0 := (box6h hx1).1
      have l0 : W1.cell? ⟨bx + 1, 0, none⟩ = some (.int .u32 0) := cell_of_row W1 (bx + 1) 0 _ _ _ hl1
      have l1 : W1.cell? ⟨bx + 1, 1, none⟩ = some (.int .u32 0) := cell_of_row W1 (bx + 1) 1 _ _ _ hl1
      have m0 : W1.frozen? ⟨bx + 1, 0, none⟩ = false := by simp [World.frozen?, hl1]
      have m1 : W1.frozen? ⟨bx + 1, 1, none⟩ = false := by simp [World.frozen?, hl1]
      have HL := Lib.hid (And.intro hl1 hx1)
      have HV1 := Lib.hid hv1
      have HB1 := Lib.hid hb1
      obtain ⟨Av, cv, rfl, q1, q2, _⟩ := own_slice hv1
      clear hb1 hl1 hx1 hv1 c0 c1 c2 c3 c4 c5
      go_wp2_with fail
      go_quiet (fail)
      go_wp2_with fail
      exact bodyPost_ret (v := .tuple #[locV (0, 0), .int .i64 1]) (by simp [results, Tryz.results19, go_sem, locV, (get2 l0 l1 nq (.int .u32 0) (.int .u32 0)).1, (get2 l0 l1 nq (.int .u32 0) (.int .u32 0)).2]) rfl ⟨by rw [HE.out]; rfl, by rw [HE.out]; exact SegMut.refl HH.out (fin2 HB2.out nq (by rw [HBX.out]; omega) _ _)⟩
    · have HNL : Hid (¬ (Rc.mayB r = false ∨ r.seq ≤ (x.last : Int))) := Lib.hid (fun e => e.elim (fun e => by rw [HMy.out] at e; cases e) (fun e => by rw [HSQ2.out] at e; omega))
      have i1 : ¬ (sq : Int) ≤ (x.last : Int) := by omega
      have hfit := HQ.out.2.2.1
      have hz1 := hfit.size
      have hz2 := hfit.id
      have hadd : IntKind.i64.wrap ((x.size : Int) + (L : Int)) = ((x.size + L : Nat) : Int) := by rw [IntWalk.i64_in _ (by omega)]; push_cast; rfl
      by_cases hfull : 16777216 < x.size + L
      · have HE := Lib.hid (show R1 = (7, (0, 0), s, x) by rw [HR0.out]; unfold appG; rw [if_neg HNL.out, if_pos (by rw [← HLd.out]; exact hfull)])
        have i2 : (16777216 : Int) < ((x.size + L : Nat) : Int) := by omega
        clear hfit
        go_enter Tryz.func19, Tryz.ntmps19
        go_wp2_with fail
        rw [← hW, ← hbx]
        clear hW hbx
        refine HMD.out.mono ?_
        rintro e w1 ⟨rfl, rfl⟩
        go_wp2_with fail
        refine HP.out.mono ?_
        rintro e W1 ⟨v1, rfl, hv1, hb1⟩
        have hl1 := (hb1.block (bx + 1) (by rw [HWS.out, HBX.out]; omega)).trans HW.out.2
        have hx1 := (hb1.block bx (by rw [HWS.out, HBX.out]; omega)).trans HW.out.1
        have HB2 := Lib.hid (HB.out.trans (hb1.mono HB.out.size))
        have HC1 := Lib.hid (HH.out.2.1.on HB2.out)
        have a5 := HC1.out.c5
        have a2 := HC1.out.c2
        have d0 := (box6h hx1).1
        have l0 : W1.cell? ⟨bx + 1, 0, none⟩ = some (.int .u32 0) := cell_of_row W1 (bx + 1) 0 _ _ _ hl1
        have l1 : W1.cell? ⟨bx + 1, 1, none⟩ = some (.int .u32 0) := cell_of_row W1 (bx + 1) 1 _ _ _ hl1
        have m0 : W1.frozen? ⟨bx + 1, 0, none⟩ = false := by simp [World.frozen?, hl1]
        have m1 : W1.frozen? ⟨bx + 1, 1, none⟩ = false := by simp [World.frozen?, hl1]
        have HL := Lib.hid (And.intro hl1 hx1)
        have HV1 := Lib.hid hv1
        have HB1 := Lib.hid hb1
        obtain ⟨Av, cv, rfl, q1, q2, _⟩ := own_slice hv1
        clear hb1 hl1 hx1 hv1 c0 c1 c2 c3 c4 c5
        go_wp2_with fail
        go_quiet (fail)
        go_wp2_with fail
        exact bodyPost_ret (v := .tuple #[locV (0, 0), .int .i64 7]) (by simp [results, Tryz.results19, go_sem, locV, (get2 l0 l1 nq (.int .u32 0) (.int .u32 0)).1, (get2 l0 l1 nq (.int .u32 0) (.int .u32 0)).2]) rfl ⟨by rw [HE.out]; rfl, by rw [HE.out]; exact SegMut.refl HH.out (fin2 HB2.out nq (by rw [HBX.out]; omega) _ _)⟩
      · have HNF : Hid (¬ 16777216 < x.size + Rc.sizeN r) := Lib.hid (by rw [← HLd.out]; exact hfull)
        have i2 : ¬ (16777216 : Int) < ((x.size + L : Nat) : Int) := by omega
        obtain ⟨an, han⟩ : ∃ an, an = stepF s (appendK nm (Rc.runL r)) := ⟨_, rfl⟩
        have HRE : Hid (R1 = if an.1 = 0 then (0, (x.id, x.size), an.2, x.more sq L) else (an.1, (0, 0), an.2, x)) := Lib.hid (by rw [HR0.out]; unfold appG; rw [if_neg HNL.out, if_neg HNF.out, ← HNM.out.1, ← han, ← HSQ.out, ← HLd.out])
        have HNMc : Hid (∀ V, Below w.heap.size w V → Calls Tryz.prog 40 #[.pointer (some ⟨G, 0, none⟩)] V fun e w' => e = .returned (.string nm) ∧ Below V.heap.size V w') := Lib.hid fun V hb => by rw [HNM.out.1]; exact sname (HH.out.2.1.on hb) hz2 ((HX0.out.below (hb.mono HX.out.2.1)).std)
        have HAN := Lib.hid han
        clear hfit hfull han
        go_enter Tryz.func19, Tryz.ntmps19
        go_wp2_with fail
        rw [← hW, ← hbx]
        clear hW hbx
        refine HMD.out.mono ?_
        rintro e w1 ⟨rfl, rfl⟩
        go_wp2_with fail
        refine HP.out.mono ?_
        rintro e W1 ⟨v1, rfl, hv1, hb1⟩
        have hl1 := (hb1.block (bx + 1) (by rw [HWS.out, HBX.out]; omega)).trans HW.out.2
        have hx1 := (hb1.block bx (by rw [HWS.out, HBX.out]; omega)).trans HW.out.1
        have HB2 := Lib.hid (HB.out.trans (hb1.mono HB.out.size))
        have HC1 := Lib.hid (HH.out.2.1.on HB2.out)
        have a5 := HC1.out.c5
        have a2 := HC1.out.c2
        have d0 := (box6h hx1).1
        have l0 : W1.cell? ⟨bx + 1, 0, none⟩ = some (.int .u32 0) := cell_of_row W1 (bx + 1) 0 _ _ _ hl1
        have l1 : W1.cell? ⟨bx + 1, 1, none⟩ = some (.int .u32 0) := cell_of_row W1 (bx + 1) 1 _ _ _ hl1
        have m0 : W1.frozen? ⟨bx + 1, 0, none⟩ = false := by simp [World.frozen?, hl1]
        have m1 : W1.frozen? ⟨bx + 1, 1, none⟩ = false := by simp [World.frozen?, hl1]
        have HL := Lib.hid (And.intro hl1 hx1)
        have HV1 := Lib.hid hv1
        have HB1 := Lib.hid hb1
        obtain ⟨Av, cv, rfl, q1, q2, _⟩ := own_slice hv1
        clear hb1 hl1 hx1 hv1 c0 c1 c2 c3 c4 c5
        have a0 := HC1.out.c0
        have HBV : Hid (BsIn W1 (fun i => W.heap.size ≤ i ∧ i < W1.heap.size) (.slice Av L cv) (Rc.runL r)) := Lib.hid (own_bsin HV1.out (by rw [HLd.out, Rc.runL_length]))
        have HK : Hid (∀ V, Below W1.heap.size W1 V → Calls Tryz.prog 45 #[.pointer (some ⟨A, 0, none⟩), .string nm, .slice Av L cv] V fun e w' => e = .returned (.int .i64 (an.1 : Int)) ∧ FsMut V w' A an.2.used M R an.2) := Lib.hid fun V hb => by
          rw [HAN.out]
          exact kappend HNM.out.2 ((HH.out.1.on HB2.out).on hb) HF.out HQ.out.1 HQ.out.2.1 (HBV.out.chg (Chg.of_below (M := fun _ => False) hb) (fun i e => e.elim)) (fun i hi e => by have := HH.out.1.ml i hi; have := HB.out.size; omega) (by rw [Rc.runL_length, ← HLd.out]; omega)
        go_wp2_with fail
        go_quiet (fail)
        go_wp2_with fail
        have hHeld0 : (W1.drewN nq).cell? ⟨G, 0, none⟩ = some (.pointer (some ⟨A, 0, none⟩)) := a0
        have HBQ := Lib.hid (show Below W1.heap.size W1 (W1.drewN nq) from fbdrewN (Below.refl _ _) nq)
        generalize W1.drewN nq = W1q at *
        refine wp_region_noPanic ?_
        refine wp_region_held_drew (S := fun w' : World => w'.cell? ⟨G, 0, none⟩ = some (.pointer (some ⟨A, 0, none⟩))) (by kernel_rfl) hHeld0 (fun hHeld => ?_)
        have HB0 := Lib.hid (HBQ.out.drew)
        generalize World.drew W1q = W2 at *
        refine wpAnyH_take (i := 0) (v := ?_) opAt_0 (by kernel_rfl) (by kernel_rfl) (by kernel_rfl) (fun _ _ _ h => h) (Or.inl ⟨by rfl, ?_⟩) hHeld ?_
        rotate_left
        · (intro w' hSw; go_simp; try with_reducible rfl)
        try simp only [Act.put, List.setIfInBounds_toArray, List.set_cons_zero, List.set_cons_succ]
        refine wpAnyH_take (i := 1) (v := ?_) opAt_1 (by kernel_rfl) (by kernel_rfl) (by kernel_rfl) (fun _ _ _ h => h) (Or.inl ⟨by rfl, ?_⟩) hHeld ?_
        rotate_left
        · (intro w' hSw; go_simp; try with_reducible rfl)
        try simp only [Act.put, List.setIfInBounds_toArray, List.set_cons_zero, List.set_cons_succ]
        refine wpAnyH_take (i := 2) (v := ?_) opAt_2 (by kernel_rfl) (by kernel_rfl) (by kernel_rfl) (fun _ _ _ h => h) (Or.inl ⟨by rfl, ?_⟩) hHeld ?_
        rotate_left
        · (intro w' hSw; go_simp; try with_reducible rfl)
        try simp only [Act.put, List.setIfInBounds_toArray, List.set_cons_zero, List.set_cons_succ]
        refine wpAnyH_take (i := 3) (v := ?_) opAt_3 (by kernel_rfl) (by kernel_rfl) (by kernel_rfl) (fun _ _ _ h => h) (Or.inl ⟨by rfl, ?_⟩) hHeld ?_
        rotate_left
        · (intro w' hSw; go_simp; try with_reducible rfl)
        try simp only [Act.put, List.setIfInBounds_toArray, List.set_cons_zero, List.set_cons_succ]
        refine wpAnyH_take (i := 4) (v := ?_) opAt_4 (by kernel_rfl) (by kernel_rfl) (by kernel_rfl) (fun _ _ _ h => h) (Or.inl ⟨by rfl, ?_⟩) hHeld ?_
        rotate_left
        · (intro w' hSw; go_simp; try with_reducible rfl)
        try simp only [Act.put, List.setIfInBounds_toArray, List.set_cons_zero, List.set_cons_succ]
        refine wpAnyH_take (i := 6) (v := ?_) opAt_6 (by kernel_rfl) (by kernel_rfl) (by kernel_rfl) (fun _ _ _ h => h) (Or.inl ⟨by rfl, ?_⟩) hHeld ?_
        rotate_left
        · (intro w' hSw; go_simp; try with_reducible rfl)
        try simp only [Act.put, List.setIfInBounds_toArray, List.set_cons_zero, List.set_cons_succ]
        refine wpAnyH_ready (rs := [5]) (by kernel_rfl) (by simp) ?_
        refine AllReadyH.cons rfl (fun K hK => ?_) AllReadyH.nil
        go_simp
        refine (HNMc.out _ (HB2.out.trans (HB0.out.mono HB2.out.size))).mono ?_
        rintro e W3 ⟨rfl, hb⟩
        have HB3 := Lib.hid (HB0.out.trans (hb.mono HB0.out.size))
        have hHeld1 := (HC1.out.on HB3.out).c0
        clear hb
        go_wp2_with fail
        refine hK.out _ _ hHeld1 (fun hHeld => ?_)
        clear hK K
        try simp only [Act.put, List.setIfInBounds_toArray, List.set_cons_zero, List.set_cons_succ]
        refine wpAnyH_ready (rs := [7]) (by kernel_rfl) (by simp) ?_
        refine AllReadyH.cons rfl (fun K hK => ?_) AllReadyH.nil
        go_simp
        refine (HK.out _ HB3.out).mono ?_
        rintro e W4 ⟨rfl, hm⟩
        have HM4 := Lib.hid hm
        have hHeld1 := (cell_keep (hm.choose_spec.choose_spec.2.1) HH.out.2.2.1 (HC1.out.on HB3.out).c0)
        clear hm
        go_wp2_with fail
        refine hK.out _ _ hHeld1 (fun hHeld => ?_)
        clear hK K
        try simp only [Act.put, List.setIfInBounds_toArray, List.set_cons_zero, List.set_cons_succ]
        refine wpAnyH_take (i := 8) (v := ?_) opAt_8 (by kernel_rfl) (by kernel_rfl) (by kernel_rfl) (fun _ _ _ h => h) (Or.inl ⟨by rfl, ?_⟩) hHeld ?_
        rotate_left
        · (intro w' hSw; go_simp; try with_reducible rfl)
        try simp only [Act.put, List.setIfInBounds_toArray, List.set_cons_zero, List.set_cons_succ]
        refine wpAnyH_done (by kernel_rfl) ?_ _
        refine NoPanic.normal ?_
        have hgM := HM4.out.choose_spec.choose_spec.2.1
        have HC4 := Lib.hid ((HC1.out.on HB3.out).chg hgM HH.out.2.2.1)
        have hlG := (HC1.out.on HB3.out).lt
        have HS4 := Lib.hid (SegMut.of (x := x) (Chg.of_below (HB2.out.trans (HB3.out.mono HB2.out.size))) HM4.out HC4.out hlG HH.out.2.2.1 HH.out.2.2.2)
        have hnM : ∀ i, bx ≤ i → ¬ M i := fun i hi e => by have := HH.out.1.ml i e; rw [HBX.out] at hi; omega
        have hs3 : ∀ i, i < W1.heap.size → i < W3.heap.size := fun i hi => Nat.lt_of_lt_of_le hi HB3.out.size
        have hk1 : bx + 1 < W1.heap.size := (Array.getElem?_eq_some_iff.1 HL.out.1).1
        have hl4 := (hgM.block (bx + 1) (hs3 _ hk1) (hnM _ (by omega))).trans ((HB3.out.block (bx + 1) hk1).trans HL.out.1)
        have hx4 := (hgM.block bx (hs3 _ (by omega)) (hnM _ (Nat.le_refl _))).trans ((HB3.out.block bx (by omega)).trans HL.out.2)
        clear l0 l1 m0 m1 d0 a0 a2 a5 hHeld hHeld1 hHeld0 hgM hlG hnM hs3 hk1 q1 q2
        have l0 : W4.cell? ⟨bx + 1, 0, none⟩ = some (.int .u32 0) := cell_of_row W4 (bx + 1) 0 _ _ _ hl4
        have l1 : W4.cell? ⟨bx + 1, 1, none⟩ = some (.int .u32 0) := cell_of_row W4 (bx + 1) 1 _ _ _ hl4
        have m0 : W4.frozen? ⟨bx + 1, 0, none⟩ = false := by simp [World.frozen?, hl4]
        have m1 : W4.frozen? ⟨bx + 1, 1, none⟩ = false := by simp [World.frozen?, hl4]
        have HL4 := Lib.hid (And.intro hl4 hx4)
        clear hl4 hx4
        by_cases e0 : an.1 = 0
        · have HE := Lib.hid (show R1 = (0, (x.id, x.size), an.2, x.more sq L) by rw [HRE.out, if_pos e0])
          rw [e0]
          have a1 := HC4.out.c1
          have a2 := HC4.out.c2
          go_wp2_with fail
          refine wp_region_noPanic ?_
          refine wp_region_held_drew (S := fun w' : World => w'.cell? ⟨G, 1, none⟩ = some (.int .u32 (x.id : Int)) ∧ w'.cell? ⟨G, 2, none⟩ = some (.int .u32 (x.size : Int))) (by kernel_rfl) ⟨a1, a2⟩ (fun hHeld => ?_)
          have HB5 := Lib.hid ((Below.refl W4.heap.size W4).drew)
          generalize World.drew W4 = W5 at *
          refine wpAnyH_take (i := 0) (v := ?_) opAt_0 (by kernel_rfl) (by kernel_rfl) (by kernel_rfl) (fun _ _ _ h => h) (Or.inl ⟨by rfl, ?_⟩) hHeld ?_
          rotate_left
          · (intro w' hSw; obtain ⟨k1, k2⟩ := hSw; go_simp; try with_reducible rfl)
          try simp only [Act.put, List.setIfInBounds_toArray, List.set_cons_zero, List.set_cons_succ]
          refine wpAnyH_take (i := 1) (v := ?_) opAt_1 (by kernel_rfl) (by kernel_rfl) (by kernel_rfl) (fun _ _ _ h => h) (Or.inl ⟨by rfl, ?_⟩) hHeld ?_
          rotate_left
          · (intro w' hSw; obtain ⟨k1, k2⟩ := hSw; go_simp; try with_reducible rfl)
          try simp only [Act.put, List.setIfInBounds_toArray, List.set_cons_zero, List.set_cons_succ]
          refine wpAnyH_take (i := 2) (v := ?_) opAt_2 (by kernel_rfl) (by kernel_rfl) (by kernel_rfl) (fun _ _ _ h => h) (Or.inl ⟨by rfl, ?_⟩) hHeld ?_
          rotate_left
          · (intro w' hSw; obtain ⟨k1, k2⟩ := hSw; go_simp; try with_reducible rfl)
          try simp only [Act.put, List.setIfInBounds_toArray, List.set_cons_zero, List.set_cons_succ]
          refine wpAnyH_take (i := 3) (v := ?_) opAt_3 (by kernel_rfl) (by kernel_rfl) (by kernel_rfl) (fun _ _ _ h => h) (Or.inl ⟨by rfl, ?_⟩) hHeld ?_
          rotate_left
          · (intro w' hSw; obtain ⟨k1, k2⟩ := hSw; go_simp; try with_reducible rfl)
          try simp only [Act.put, List.setIfInBounds_toArray, List.set_cons_zero, List.set_cons_succ]
          refine wpAnyH_take (i := 4) (v := ?_) opAt_4 (by kernel_rfl) (by kernel_rfl) (by kernel_rfl) (fun _ _ _ h => h) (Or.inl ⟨by rfl, ?_⟩) hHeld ?_
          rotate_left
          · (intro w' hSw; obtain ⟨k1, k2⟩ := hSw; go_simp; try with_reducible rfl)
          try simp only [Act.put, List.setIfInBounds_toArray, List.set_cons_zero, List.set_cons_succ]
          refine wpAnyH_take (i := 5) (v := ?_) opAt_5 (by kernel_rfl) (by kernel_rfl) (by kernel_rfl) (fun _ _ _ h => h) (Or.inl ⟨by rfl, ?_⟩) hHeld ?_
          rotate_left
          · (intro w' hSw; obtain ⟨k1, k2⟩ := hSw; go_simp; try with_reducible rfl)
          try simp only [Act.put, List.setIfInBounds_toArray, List.set_cons_zero, List.set_cons_succ]
          refine wpAnyH_take (i := 6) (v := ?_) opAt_6 (by kernel_rfl) (by kernel_rfl) (by kernel_rfl) (fun _ _ _ h => h) (Or.inl ⟨by rfl, ?_⟩) hHeld ?_
          rotate_left
          · (intro w' hSw; obtain ⟨k1, k2⟩ := hSw; go_simp; try with_reducible rfl)
          try simp only [Act.put, List.setIfInBounds_toArray, List.set_cons_zero, List.set_cons_succ]
          refine wpAnyH_take (i := 7) (v := ?_) opAt_7 (by kernel_rfl) (by kernel_rfl) (by kernel_rfl) (fun _ _ _ h => h) (Or.inl ⟨by rfl, ?_⟩) hHeld ?_
          rotate_left
          · (intro w' hSw; obtain ⟨k1, k2⟩ := hSw; go_simp; try with_reducible rfl)
          try simp only [Act.put, List.setIfInBounds_toArray, List.set_cons_zero, List.set_cons_succ]
          refine wpAnyH_take (i := 8) (v := ?_) opAt_8 (by kernel_rfl) (by kernel_rfl) (by kernel_rfl) (fun _ _ _ h => h) (Or.inl ⟨by rfl, ?_⟩) hHeld ?_
          rotate_left
          · (intro w' hSw; obtain ⟨k1, k2⟩ := hSw; go_simp; try with_reducible rfl)
          try simp only [Act.put, List.setIfInBounds_toArray, List.set_cons_zero, List.set_cons_succ]
          refine wpAnyH_take (i := 9) (v := ?_) opAt_9 (by kernel_rfl) (by kernel_rfl) (by kernel_rfl) (fun _ _ _ h => h) (Or.inl ⟨by rfl, ?_⟩) hHeld ?_
          rotate_left
          · (intro w' hSw; obtain ⟨k1, k2⟩ := hSw; go_simp; try with_reducible rfl)
          try simp only [Act.put, List.setIfInBounds_toArray, List.set_cons_zero, List.set_cons_succ]
          refine wpAnyH_take (i := 10) (v := ?_) opAt_10 (by kernel_rfl) (by kernel_rfl) (by kernel_rfl) (fun _ _ _ h => h) (Or.inl ⟨by rfl, ?_⟩) hHeld ?_
          rotate_left
          · (intro w' hSw; obtain ⟨k1, k2⟩ := hSw; go_simp; try with_reducible rfl)
          try simp only [Act.put, List.setIfInBounds_toArray, List.set_cons_zero, List.set_cons_succ]
          have HG5 := Lib.hid hHeld
          refine wpAnyH_ready (rs := [11]) (by kernel_rfl) (by simp) ?_
          refine AllReadyH.cons rfl (fun K hK => ?_) AllReadyH.nil
          go_simp
          refine hK.out _ _ ⟨cell_al hHeld.1 _, cell_al hHeld.2 _⟩ (fun hHeld => ?_)
          clear hK K
          try simp only [Act.put, List.setIfInBounds_toArray, List.set_cons_zero, List.set_cons_succ]
          refine wpAnyH_ready (rs := [12]) (by kernel_rfl) (by simp) ?_
          refine AllReadyH.cons rfl (fun K hK => ?_) AllReadyH.nil
          go_simp
          refine hK.out _ _ ⟨cell_al HG5.out.1 _, cell_al HG5.out.2 _⟩ (fun hHeld => ?_)
          clear hK K
          try simp only [Act.put, List.setIfInBounds_toArray, List.set_cons_zero, List.set_cons_succ]
          refine wpAnyH_done (by kernel_rfl) ?_ _
          refine NoPanic.normal ?_
          obtain ⟨W6, hW6⟩ : ∃ W6, W6 = W5.alloc (.cells #[.int .u32 (x.id : Int), .int .u32 (x.size : Int)] 49) := ⟨_, rfl⟩
          have hb6 : Below W5.heap.size W5 W6 := by rw [hW6]; exact (Below.refl _ _).alloc (Nat.le_refl _) _
          have h46 : Below W4.heap.size W4 W6 := HB5.out.trans (hb6.mono HB5.out.size)
          have hnb : W6.heap[W5.heap.size]? = some (.cells #[.int .u32 (x.id : Int), .int .u32 (x.size : Int)] 49 (0, 0)) := by rw [hW6]; exact heap_alloc_new W5 _
          have hlt4 : bx + 1 < W4.heap.size := (Array.getElem?_eq_some_iff.1 HL4.out.1).1
          have hx6 := (h46.block bx (by omega)).trans HL4.out.2
          have hl6 := (h46.block (bx + 1) hlt4).trans HL4.out.1
          have d0 := (box6h hx6).1
          have hlt5 : W4.heap.size ≤ W5.heap.size := HB5.out.size
          have hG4 : G < W4.heap.size := HC4.out.lt
          have hbG : bx = w.heap.size := HBX.out
          have hGw : G < w.heap.size := HH.out.2.1.lt
          have hnf := HNF.out
          rw [← HLd.out] at hnf
          have HCnt := Lib.hid (scount (HC4.out.on h46) sq L (by omega) (by have := HQ.out.2.2.2; omega) hsq2)
          have H46 := Lib.hid h46
          have HNB := Lib.hid (And.intro hnb hl6)
          have HLT := Lib.hid (And.intro hlt4 (And.intro hlt5 (And.intro hG4 (And.intro hbG hGw))))
          rw [← hW6]
          clear hW6 hb6 h46 hnb hlt4 hx6 hl6 hlt5 hG4 hbG hGw hnf l0 l1 m0 m1 a1 a2 hHeld
          obtain ⟨nb, hnbd⟩ : ∃ nb, nb = W5.heap.size := ⟨_, rfl⟩
          rw [← hnbd] at HNB HLT ⊢
          clear hnbd
          go_wp2_with fail
          refine HCnt.out.mono ?_
          rintro e W7 ⟨rfl, hc7, hg7⟩
          have hlt7 := HLT.out
          have hlt6 : nb < W6.heap.size ∧ bx + 1 < W6.heap.size := ⟨(Array.getElem?_eq_some_iff.1 HNB.out.1).1, (Array.getElem?_eq_some_iff.1 HNB.out.2).1⟩
          have hn7 := (hg7.block nb hlt6.1 (fun e => by omega)).trans HNB.out.1
          have hl7 := (hg7.block (bx + 1) hlt6.2 (fun e => by omega)).trans HNB.out.2
          have e0' : W7.cell? ⟨nb, 0, none⟩ = some (.int .u32 (x.id : Int)) := cell_of_row W7 nb 0 _ _ _ hn7
          have e1' : W7.cell? ⟨nb, 1, none⟩ = some (.int .u32 (x.size : Int)) := cell_of_row W7 nb 1 _ _ _ hn7
          have l0 : W7.cell? ⟨bx + 1, 0, none⟩ = some (.int .u32 0) := cell_of_row W7 (bx + 1) 0 _ _ _ hl7
          have l1 : W7.cell? ⟨bx + 1, 1, none⟩ = some (.int .u32 0) := cell_of_row W7 (bx + 1) 1 _ _ _ hl7
          have m0 : W7.frozen? ⟨bx + 1, 0, none⟩ = false := by simp [World.frozen?, hl7]
          have m1 : W7.frozen? ⟨bx + 1, 1, none⟩ = false := by simp [World.frozen?, hl7]
          have g2 := get2n l0 l1 (.int .u32 (x.id : Int)) (.int .u32 (x.size : Int))
          have HC7 := Lib.hid (And.intro hc7 hg7)
          clear hc7 hg7 hn7 hl7 hlt6 hlt7 d0
          go_wp2_with fail
          have hlt7 := HLT.out
          have hk3 : bx + 1 < W3.heap.size := Nat.lt_of_lt_of_le ((Array.getElem?_eq_some_iff.1 HL.out.1).1) HB3.out.size
          exact bodyPost_ret (v := .tuple #[locV (x.id, x.size), .int .i64 0]) (by simp [results, Tryz.results19, go_sem, locV, g2.1, g2.2]) rfl ⟨by rw [HE.out]; rfl, by
            rw [HE.out]
            refine SegMut.of_box (N := fun i => i = bx + 1 ∨ i = G) (Chg.of_below (HB2.out.trans (HB3.out.mono HB2.out.size))) HM4.out ((((Chg.of_below H46.out).trans HC7.out.2 (fun i e => .inl (.inr e))).setCell (p := ⟨bx + 1, 0, none⟩) (.inl rfl) _).setCell (p := ⟨bx + 1, 1, none⟩) (.inl rfl) _) ?_ ((HC7.out.1.chg (chg_set W7 (bx + 1) 0 _) (fun e => by omega)).chg (chg_set _ (bx + 1) 1 _) (fun e => by omega)) ((HC1.out.on HB3.out).lt) HH.out.2.2.1 HH.out.2.2.2
            rintro i (e | e)
            · exact ⟨.inr (by omega), by omega, fun e2 => by have := HH.out.1.ml i e2; omega, fun e2 => by have := HH.out.1.rl i e2; omega⟩
            · exact ⟨.inl e, by rw [e]; exact (HC1.out.on HB3.out).lt, by rw [e]; exact HH.out.2.2.1, by rw [e]; exact HH.out.2.2.2⟩⟩
        · have HE := Lib.hid (show R1 = (an.1, (0, 0), an.2, x) by rw [HRE.out, if_neg e0])
          have i0 : ¬ (an.1 : Int) = 0 := by omega
          obtain ⟨cd, hcd⟩ : ∃ cd, cd = an.1 := ⟨_, rfl⟩
          have HCD := Lib.hid hcd
          rw [← hcd] at i0 ⊢
          clear e0 hcd
          have g2 := get2n l0 l1 (.int .u32 0) (.int .u32 0)
          go_wp2_with fail
          have hbx1 : bx = w.heap.size := HBX.out
          have hk3 : bx + 1 < W3.heap.size := Nat.lt_of_lt_of_le ((Array.getElem?_eq_some_iff.1 HL.out.1).1) HB3.out.size
          exact bodyPost_ret (v := .tuple #[locV (0, 0), .int .i64 (cd : Int)]) (by simp [results, Tryz.results19, go_sem, locV, g2.1, g2.2]) rfl ⟨by rw [HE.out, HCD.out], by
            rw [HE.out]
            exact SegMut.of_box (N := fun i => i = bx + 1) (Chg.of_below (HB2.out.trans (HB3.out.mono HB2.out.size))) HM4.out (((Chg.refl (M := fun i => i = bx + 1) (w := W4)).setCell (p := ⟨bx + 1, 0, none⟩) rfl _).setCell (p := ⟨bx + 1, 1, none⟩) rfl _) (fun i e => ⟨.inr (by omega), by omega, fun e2 => by have := HH.out.1.ml i e2; omega, fun e2 => by have := HH.out.1.rl i e2; omega⟩) ((HC4.out.chg (chg_set W4 (bx + 1) 0 _) (fun e => by have := HH.out.2.1.lt; omega)).chg (chg_set _ (bx + 1) 1 _) (fun e => by have := HH.out.2.1.lt; omega)) ((HC1.out.on HB3.out).lt) HH.out.2.2.1 HH.out.2.2.2⟩
end
end Go.Proofs.YtaicibmaogiibaaGreatDoor.Sg

/- SgCut -/

/-
  Layer 11: a record cut by the law.
-/
set_option linter.unusedVariables false
set_option linter.unusedSimpArgs false
namespace Go.Proofs.YtaicibmaogiibaaGreatDoor.Sg
open Go Go.RowKit

def cutR (r : Rc.Rec) : Rc.Rec := { r with key := r.key.take 70, val := r.val.take 1030 }
set_option maxRecDepth 100000 in
set_option maxHeartbeats 8000000 in
theorem scut {w : World} {Br : Nat} {r : Rc.Rec} {v : Value} (hv : RecV w Br v r) (hBr : Br ≤ w.heap.size) :
    Calls Tryz.prog 30 #[v] w fun e w' => ∃ rv, e = .returned rv ∧ RecV w' Br rv (cutR r) ∧ Below w.heap.size w w' := by
  obtain ⟨kv, vv, rfl, hk, hw⟩ := hv
  have hk0 := hk
  have hw0 := hw
  obtain ⟨K1, k1, rfl, hc1, hr1⟩ := hk
  obtain ⟨K2, k2, rfl, hc2, hr2⟩ := hw
  obtain ⟨J1, hJ1⟩ : ∃ J1, J1 = min r.key.length 70 := ⟨_, rfl⟩
  obtain ⟨J2, hJ2⟩ : ∃ J2, J2 = min r.val.length 1030 := ⟨_, rfl⟩
  have hm1 : min (r.key.length : Int) 70 = (J1 : Int) := by omega
  have hm2 : min (r.val.length : Int) 1030 = (J2 : Int) := by omega
  obtain ⟨A1, c1, sl1, hc1', rd1⟩ := kcut_h K1 r.key.length k1 J1 (by omega) hc1
  obtain ⟨A2, c2, sl2, hc2', rd2⟩ := kcut_h K2 r.val.length k2 J2 (by omega) hc2
  obtain ⟨W, hW⟩ : ∃ W, W = (w.alloc (.cells #[.int .u64 r.seq, .int .i64 r.kind, .slice K1 r.key.length k1, .slice K2 r.val.length k2, .int .u32 r.seg, .int .u32 r.off] 51)).alloc (.cells #[.int .u64 0, .int .i64 0, .slice none 0 0, .slice none 0 0, .int .u32 0, .int .u32 0] 51) := ⟨_, rfl⟩
  have hb : Below w.heap.size w W := by rw [hW]; exact ((Below.refl _ _).alloc (Nat.le_refl _) _).alloc (by simp) _
  have hWs : W.heap.size = w.heap.size + 2 := by rw [hW]; simp
  have hi1 : W.heap[w.heap.size]? = some (.cells #[.int .u64 r.seq, .int .i64 r.kind, .slice K1 r.key.length k1, .slice K2 r.val.length k2, .int .u32 r.seg, .int .u32 r.off] 51 (0, 0)) := by
    rw [hW]
    exact ((((Below.refl _ _).alloc (Nat.le_refl _) _ : Below (w.alloc (.cells #[.int .u64 r.seq, .int .i64 r.kind, .slice K1 r.key.length k1, .slice K2 r.val.length k2, .int .u32 r.seg, .int .u32 r.off] 51)).heap.size _ _)).block w.heap.size (by simp)).trans (heap_alloc_new w _)
  have hi2 : W.heap[w.heap.size + 1]? = some (.cells #[.int .u64 0, .int .i64 0, .slice none 0 0, .slice none 0 0, .int .u32 0, .int .u32 0] 51 (0, 0)) := by
    rw [hW]
    have := heap_alloc_new (w.alloc (.cells #[.int .u64 r.seq, .int .i64 r.kind, .slice K1 r.key.length k1, .slice K2 r.val.length k2, .int .u32 r.seg, .int .u32 r.off] 51)) (.cells #[.int .u64 0, .int .i64 0, .slice none 0 0, .slice none 0 0, .int .u32 0, .int .u32 0] 51)
    rw [World.size_alloc] at this
    exact this
  have HF := Lib.hid (show RecV W Br (recV r.seq r.kind (.slice A1 J1 c1) (.slice A2 J2 c2) r.seg r.off) (cutR r) by
    have e1 : J1 = (r.key.take 70).length := by rw [List.length_take, hJ1]; omega
    have e2 : J2 = (r.val.take 1030).length := by rw [List.length_take, hJ2]; omega
    have t1 : r.key.take J1 = r.key.take 70 := by rw [hJ1, List.take_eq_take_iff]; omega
    have t2 : r.val.take J2 = r.val.take 1030 := by rw [hJ2, List.take_eq_take_iff]; omega
    have q1 := rd1 w Br r.key rfl hr1
    have q2 := rd2 w Br r.val rfl hr2
    rw [t1] at q1
    rw [t2] at q2
    refine ⟨_, _, rfl, Bs.below (B := Br) (C := w.heap.size) ⟨A1, c1, by rw [e1]; rfl, by show (r.key.take 70).length ≤ c1; rw [← e1]; exact hc1', q1⟩ hb hBr, Bs.below (B := Br) (C := w.heap.size) ⟨A2, c2, by rw [e2]; rfl, by show (r.val.take 1030).length ≤ c2; rw [← e2]; exact hc2', q2⟩ hb hBr⟩)
  have HB := Lib.hid hb
  obtain ⟨bx, hbx⟩ : ∃ bx, bx = w.heap.size := ⟨_, rfl⟩
  rw [← hbx] at hi1 hi2 hWs
  have HBX := Lib.hid hbx
  have HI := Lib.hid (And.intro hi1 hi2)
  obtain ⟨n1, hn1⟩ : ∃ n1, n1 = r.key.length := ⟨_, rfl⟩
  obtain ⟨n2, hn2⟩ : ∃ n2, n2 = r.val.length := ⟨_, rfl⟩
  rw [← hn1] at hm1 sl1 hi1 hW HI ⊢
  rw [← hn2] at hm2 sl2 hi1 hW HI ⊢
  obtain ⟨f0, f1, f2, f3, f4, f5⟩ := box6h hi1
  clear rd1 rd2 hr1 hr2 hb hk0 hw0 hJ1 hJ2 hc1 hc2 hc1' hc2' hi1 hi2 hn1 hn2
  unfold recV
  go_enter Tryz.func30, Tryz.ntmps30
  go_wp2_with fail
  rw [← hW, ← hbx]
  clear hW hbx
  refine wp_region_noPanic ?_
  refine OrdL.wpL_region (fun w' => w'.cell? ⟨bx, 2, none⟩ = some (.slice K1 n1 k1) ∧ w'.cell? ⟨bx, 3, none⟩ = some (.slice K2 n2 k2)) 15 (by kernel_rfl) ?_
  have hHeld : (W.drew).cell? ⟨bx, 2, none⟩ = some (.slice K1 n1 k1) ∧ (W.drew).cell? ⟨bx, 3, none⟩ = some (.slice K2 n2 k2) := ⟨f2, f3⟩
  have HBD := Lib.hid (show Below w.heap.size w W.drew from HB.out.drew)
  have HID := Lib.hid (show W.drew.heap[bx]? = some (.cells #[.int .u64 r.seq, .int .i64 r.kind, .slice K1 n1 k1, .slice K2 n2 k2, .int .u32 r.seg, .int .u32 r.off] 51 (0, 0)) ∧ W.drew.heap[bx + 1]? = some (.cells #[.int .u64 0, .int .i64 0, .slice none 0 0, .slice none 0 0, .int .u32 0, .int .u32 0] 51 (0, 0)) from HI.out)
  have HFD := Lib.hid (show RecV W.drew Br (recV r.seq r.kind (.slice A1 J1 c1) (.slice A2 J2 c2) r.seg r.off) (cutR r) from HF.out.below ((Below.refl W.heap.size W).drew) (by have := HB.out.size; omega))
  generalize World.drew W = V at *
  clear f0 f1 f2 f3 f4 f5 HF HI HB
  refine OrdL.wpL_take (i := 0) (v := ?_) opAt_0 [] (by kernel_rfl) (by kernel_rfl) (by kernel_rfl) (by kernel_rfl) (by kernel_rfl) (by kernel_rfl) (fun _ _ _ h => h) (Or.inl ⟨by rfl, ?_⟩) hHeld ?_
  rotate_left
  · (intro w' hSw; obtain ⟨k2, k3⟩ := hSw; go_simp; try with_reducible rfl)
  try simp only [Act.put, List.setIfInBounds_toArray, List.set_cons_zero, List.set_cons_succ]
  refine OrdL.wpL_take (i := 1) (v := ?_) opAt_1 [] (by kernel_rfl) (by kernel_rfl) (by kernel_rfl) (by kernel_rfl) (by kernel_rfl) (by kernel_rfl) (fun _ _ _ h => h) (Or.inl ⟨by rfl, ?_⟩) hHeld ?_
  rotate_left
  · (intro w' hSw; obtain ⟨k2, k3⟩ := hSw; go_simp; try with_reducible rfl)
  try simp only [Act.put, List.setIfInBounds_toArray, List.set_cons_zero, List.set_cons_succ]
  refine OrdL.wpL_take (i := 2) (v := ?_) opAt_2 [] (by kernel_rfl) (by kernel_rfl) (by kernel_rfl) (by kernel_rfl) (by kernel_rfl) (by kernel_rfl) (fun _ _ _ h => h) (Or.inl ⟨by rfl, ?_⟩) hHeld ?_
  rotate_left
  · (intro w' hSw; obtain ⟨k2, k3⟩ := hSw; go_simp; try with_reducible rfl)
  try simp only [Act.put, List.setIfInBounds_toArray, List.set_cons_zero, List.set_cons_succ]
  refine OrdL.wpL_take (i := 3) (v := ?_) opAt_3 [] (by kernel_rfl) (by kernel_rfl) (by kernel_rfl) (by kernel_rfl) (by kernel_rfl) (by kernel_rfl) (fun _ _ _ h => h) (Or.inl ⟨by rfl, ?_⟩) hHeld ?_
  rotate_left
  · (intro w' hSw; obtain ⟨k2, k3⟩ := hSw; go_simp; try with_reducible rfl)
  try simp only [Act.put, List.setIfInBounds_toArray, List.set_cons_zero, List.set_cons_succ]
  refine OrdL.wpL_take (i := 4) (v := ?_) opAt_4 [] (by kernel_rfl) (by kernel_rfl) (by kernel_rfl) (by kernel_rfl) (by kernel_rfl) (by kernel_rfl) (fun _ _ _ h => h) (Or.inl ⟨by rfl, ?_⟩) hHeld ?_
  rotate_left
  · (intro w' hSw; obtain ⟨k2, k3⟩ := hSw; go_simp; try with_reducible rfl)
  try simp only [Act.put, List.setIfInBounds_toArray, List.set_cons_zero, List.set_cons_succ]
  refine OrdL.wpL_take (i := 5) (v := ?_) opAt_5 [] (by kernel_rfl) (by kernel_rfl) (by kernel_rfl) (by kernel_rfl) (by kernel_rfl) (by kernel_rfl) (fun _ _ _ h => h) (Or.inl ⟨by rfl, ?_⟩) hHeld ?_
  rotate_left
  · (intro w' hSw; obtain ⟨k2, k3⟩ := hSw; go_simp; try with_reducible rfl)
  try simp only [Act.put, List.setIfInBounds_toArray, List.set_cons_zero, List.set_cons_succ]
  refine OrdL.wpL_take (i := 6) (v := ?_) opAt_6 [] (by kernel_rfl) (by kernel_rfl) (by kernel_rfl) (by kernel_rfl) (by kernel_rfl) (by kernel_rfl) (fun _ _ _ h => h) (Or.inl ⟨by rfl, ?_⟩) hHeld ?_
  rotate_left
  · (intro w' hSw; obtain ⟨k2, k3⟩ := hSw; go_simp; try with_reducible rfl)
  try simp only [Act.put, List.setIfInBounds_toArray, List.set_cons_zero, List.set_cons_succ]
  refine OrdL.wpL_take (i := 7) (v := ?_) opAt_7 [] (by kernel_rfl) (by kernel_rfl) (by kernel_rfl) (by kernel_rfl) (by kernel_rfl) (by kernel_rfl) (fun _ _ _ h => h) (Or.inl ⟨by rfl, ?_⟩) hHeld ?_
  rotate_left
  · (intro w' hSw; obtain ⟨k2, k3⟩ := hSw; go_simp; try with_reducible rfl)
  try simp only [Act.put, List.setIfInBounds_toArray, List.set_cons_zero, List.set_cons_succ]
  refine OrdL.wpL_take (i := 8) (v := ?_) opAt_8 [] (by kernel_rfl) (by kernel_rfl) (by kernel_rfl) (by kernel_rfl) (by kernel_rfl) (by kernel_rfl) (fun _ _ _ h => h) (Or.inl ⟨by rfl, ?_⟩) hHeld ?_
  rotate_left
  · (intro w' hSw; obtain ⟨k2, k3⟩ := hSw; go_simp; try with_reducible rfl)
  try simp only [Act.put, List.setIfInBounds_toArray, List.set_cons_zero, List.set_cons_succ]
  refine OrdL.wpL_take (i := 9) (v := ?_) opAt_9 [] (by kernel_rfl) (by kernel_rfl) (by kernel_rfl) (by kernel_rfl) (by kernel_rfl) (by kernel_rfl) (fun _ _ _ h => h) (Or.inl ⟨by rfl, ?_⟩) hHeld ?_
  rotate_left
  · (intro w' hSw; obtain ⟨k2, k3⟩ := hSw; go_simp; try with_reducible rfl)
  try simp only [Act.put, List.setIfInBounds_toArray, List.set_cons_zero, List.set_cons_succ]
  refine OrdL.wpL_take (i := 10) (v := ?_) opAt_10 [] (by kernel_rfl) (by kernel_rfl) (by kernel_rfl) (by kernel_rfl) (by kernel_rfl) (by kernel_rfl) (fun _ _ _ h => h) (Or.inl ⟨by rfl, ?_⟩) hHeld ?_
  rotate_left
  · (intro w' hSw; obtain ⟨k2, k3⟩ := hSw; go_simp; try with_reducible rfl)
  try simp only [Act.put, List.setIfInBounds_toArray, List.set_cons_zero, List.set_cons_succ]
  refine OrdL.wpL_free (i := 11) (v := ?_) opAt_11 (by kernel_rfl) (by kernel_rfl) (by kernel_rfl) (by kernel_rfl) (fun _ _ _ h => h) (Or.inl ⟨by rfl, ?_⟩) (fun _ => hHeld) ?_
  rotate_left
  · (intro w' hSw; go_simp; try with_reducible rfl)
  try simp only [Act.put, List.setIfInBounds_toArray, List.set_cons_zero, List.set_cons_succ]
  refine OrdL.wpL_free (i := 12) (v := ?_) opAt_12 (by kernel_rfl) (by kernel_rfl) (by kernel_rfl) (by kernel_rfl) (fun _ _ _ h => h) (Or.inl ⟨by rfl, ?_⟩) (fun _ => hHeld) ?_
  rotate_left
  · (intro w' hSw; go_simp; try with_reducible rfl)
  try simp only [Act.put, List.setIfInBounds_toArray, List.set_cons_zero, List.set_cons_succ]
  refine OrdL.wpL_free (i := 13) (v := ?_) opAt_13 (by kernel_rfl) (by kernel_rfl) (by kernel_rfl) (by kernel_rfl) (fun _ _ _ h => h) (Or.inl ⟨by rfl, ?_⟩) (fun _ => hHeld) ?_
  rotate_left
  · (intro w' hSw; go_simp; try with_reducible rfl)
  try simp only [Act.put, List.setIfInBounds_toArray, List.set_cons_zero, List.set_cons_succ]
  refine OrdL.wpL_take (i := 14) (v := ?_) opAt_14 [] (by kernel_rfl) (by kernel_rfl) (by kernel_rfl) (by kernel_rfl) (by kernel_rfl) (by kernel_rfl) (fun _ _ _ h => h) (Or.inl ⟨by rfl, ?_⟩) hHeld ?_
  rotate_left
  · (intro w' hSw; obtain ⟨k2, k3⟩ := hSw; go_simp; try with_reducible rfl)
  try simp only [Act.put, List.setIfInBounds_toArray, List.set_cons_zero, List.set_cons_succ]
  obtain ⟨f0, f1, f2, f3, f4, f5⟩ := box6h HID.out.1
  obtain ⟨m0, m1, m2, m3, m4, m5⟩ := box6hf HID.out.1
  obtain ⟨e0, e1, e2, e3, e4, e5⟩ := box6h HID.out.2
  obtain ⟨g0, g1, g2, g3, g4, g5⟩ := box6hf HID.out.2
  clear hHeld
  refine OrdL.wpL_ready (rs := [15]) (by kernel_rfl) (by simp) ?_
  refine OrdL.AllL.cons rfl (fun K hK => ?_) OrdL.AllL.nil
  go_simp
  refine hK.out _ _ (fun h => absurd (show true = false from h) (by decide)) ?_
  clear hK K
  try simp only [Act.put, List.setIfInBounds_toArray, List.set_cons_zero, List.set_cons_succ]
  refine OrdL.wpL_ready (rs := [16]) (by kernel_rfl) (by simp) ?_
  refine OrdL.AllL.cons rfl (fun K hK => ?_) OrdL.AllL.nil
  go_simp
  refine hK.out _ _ (fun h => absurd (show true = false from h) (by decide)) ?_
  clear hK K
  try simp only [Act.put, List.setIfInBounds_toArray, List.set_cons_zero, List.set_cons_succ]
  refine OrdL.wpL_ready (rs := [17]) (by kernel_rfl) (by simp) ?_
  refine OrdL.AllL.cons rfl (fun K hK => ?_) OrdL.AllL.nil
  go_simp
  refine hK.out _ _ (fun h => absurd (show true = false from h) (by decide)) ?_
  clear hK K
  try simp only [Act.put, List.setIfInBounds_toArray, List.set_cons_zero, List.set_cons_succ]
  refine OrdL.wpL_done (by kernel_rfl) ?_ _
  refine NoPanic.normal ?_
  go_wp2_with fail
  have hz0 : ((V.setCell ⟨bx, 2, none⟩ (.slice A1 J1 c1)).setCell ⟨bx, 3, none⟩ (.slice A2 J2 c2)).heap[bx + 1]? = some (.cells #[.int .u64 0, .int .i64 0, .slice none 0 0, .slice none 0 0, .int .u32 0, .int .u32 0] 51 (0, 0)) := by
    rw [Below.heap_setCell _ _ _ _ (by show bx + 1 ≠ bx; omega), Below.heap_setCell _ _ _ _ (by show bx + 1 ≠ bx; omega)]
    exact HID.out.2
  have hz := Go.Joins.block_setCell (i := 5) (Go.Joins.block_setCell (i := 4) (Go.Joins.block_setCell (i := 3) (Go.Joins.block_setCell (i := 2) (Go.Joins.block_setCell (i := 1) (Go.Joins.block_setCell (i := 0) hz0 (.int .u64 r.seq)) (.int .i64 r.kind)) (.slice A1 J1 c1)) (.slice A2 J2 c2)) (.int .u32 r.seg)) (.int .u32 r.off)
  have hz : _ = some (Obj.cells #[.int .u64 r.seq, .int .i64 r.kind, .slice A1 J1 c1, .slice A2 J2 c2, .int .u32 r.seg, .int .u32 r.off] 51 (0, 0)) := hz
  obtain ⟨z0, z1, z2, z3, z4, z5⟩ := box6h hz
  have hbs : Below w.heap.size V _ := below6 (B := w.heap.size) (g := bx + 1) (Below.setCell (p := ⟨bx, 3, none⟩) (Below.setCell (p := ⟨bx, 2, none⟩) (Below.refl w.heap.size V) (by show w.heap.size ≤ bx; rw [HBX.out]; exact Nat.le_refl _) (.slice A1 J1 c1)) (by show w.heap.size ≤ bx; rw [HBX.out]; exact Nat.le_refl _) (.slice A2 J2 c2)) (by rw [HBX.out]; omega) (.int .u64 r.seq) (.int .i64 r.kind) (.slice A1 J1 c1) (.slice A2 J2 c2) (.int .u32 r.seg) (.int .u32 r.off)
  exact bodyPost_ret (v := recV r.seq r.kind (.slice A1 J1 c1) (.slice A2 J2 c2) r.seg r.off) (by simp [results, Tryz.results30, go_sem, recV, z0, z1, z2, z3, z4, z5]) rfl ⟨_, rfl, HFD.out.below hbs hBr, HBD.out.trans hbs⟩
end Go.Proofs.YtaicibmaogiibaaGreatDoor.Sg

/- SgNum -/

/-
  Layer 11: the law's records, numbered anew.
-/
set_option linter.unusedVariables false
set_option linter.unusedSimpArgs false
namespace Go.Proofs.YtaicibmaogiibaaGreatDoor.Sg
open Go Go.RowKit

/-- a record, and its two slices -/
abbrev Tri := Rc.Rec × Value × Value
def Tri.cells (x : Tri) : List Value := [.int .u64 x.1.seq, .int .i64 x.1.kind, x.2.1, x.2.2, .int .u32 x.1.seg, .int .u32 x.1.off]
def Tri.val (x : Tri) : Value := recV x.1.seq x.1.kind x.2.1 x.2.2 x.1.seg x.1.off
structure TriOk (w : World) (B : Nat) (x : Tri) : Prop where
  key : Bs w B x.2.1 x.1.key
  val : Bs w B x.2.2 x.1.val
  fit : Rc.Fit x.1
theorem TriOk.recv {w : World} {B : Nat} {x : Tri} (h : TriOk w B x) : RecV w B x.val x.1 := ⟨_, _, rfl, h.key, h.val⟩
theorem TriOk.below {w w' : World} {B C : Nat} {x : Tri} (h : TriOk w B x) (hb : Below C w w') (hC : B ≤ C) : TriOk w' B x := ⟨h.key.below hb hC, h.val.below hb hC, h.fit⟩
def rowT (l : List Tri) : List Value := l.flatMap Tri.cells
theorem rowT_snoc (l : List Tri) (x : Tri) : rowT (l ++ [x]) = rowT l ++ x.cells := by simp [rowT]
/-- one record more, if it may be, and there is room -/
def numG (out : List Rc.Rec) (r : Rc.Rec) : List Rc.Rec :=
  if Rc.mayB { cutR r with seq := (out.length + 1 : Nat) } = true ∧ out.length < 30 then out ++ [{ cutR r with seq := (out.length + 1 : Nat) }] else out
def numL (l : List Rc.Rec) : List Rc.Rec := l.foldl numG []
theorem numL_next {l : List Rc.Rec} {j : Nat} {r : Rc.Rec} (h : l[j]? = some r) : numL (l.take (j + 1)) = numG (numL (l.take j)) r := by
  unfold numL
  rw [List.take_add_one, h]
  simp
theorem fit_cut {r : Rc.Rec} (h : Rc.Fit r) (k : Nat) (hk : k < 18446744073709551616) : Rc.Fit { cutR r with seq := (k : Int) } :=
  ⟨by show (0 : Int) ≤ (k : Int); omega, by show (k : Int) < _; omega, h.kind0, h.kind1, h.seg0, h.seg1, h.off0, h.off1, by show (r.key.take 70).length ≤ _; have := h.key1; rw [List.length_take]; omega, by show (r.val.take 1030).length ≤ _; have := h.val1; rw [List.length_take]; omega⟩
theorem rec_info11 : (Tryz.prog.info? 51).map (fun i => (i.zero, i.size, i.bytes)) = some (some (.agg #[.int .u64 0, .int .i64 0, .slice none 0 0, .slice none 0 0, .int .u32 0, .int .u32 0]), 6, 72) := by kernel_rfl
set_option maxRecDepth 100000 in
set_option maxHeartbeats 16000000 in
theorem snum {w : World} {v : Value} {l : List Rc.Rec} (hv : Recs w w.heap.size v l) :
    Calls Tryz.prog 7 #[v] w fun e w' => ∃ v' t, e = .returned v' ∧ t.map (·.1) = numL l ∧ t.length ≤ 30 ∧ w'.ownsRow w.heap.size 51 6 v' t.length (rowT t) ∧ (∀ x ∈ t, TriOk w' w.heap.size x) ∧ Below w.heap.size w w' := by
  obtain ⟨i0, hi0, hz0, hz1, hz2⟩ := info_parts rec_info11
  obtain ⟨A, c, rfl, hlc, hcm, hrec⟩ := hv
  have HR := Lib.hid hrec
  unfold maxLen at hcm
  obtain ⟨n, hn⟩ : ∃ n, n = l.length := ⟨_, rfl⟩
  rw [← hn] at hlc ⊢
  have HN := Lib.hid hn
  clear hrec hn
  go_enter Tryz.func7, Tryz.ntmps7
  go_wp2_with fail
  go_loopw [3, 8] (fun vo vi wr => ∃ (j m : Nat), vi = .int .i64 j ∧ j ≤ n ∧ m ≤ 30 ∧ Hid (∃ t : List Tri, t.length = m ∧ t.map (·.1) = numL (l.take j) ∧ wr.ownsRow w.heap.size 51 6 vo m (rowT t) ∧ (∀ x ∈ t, TriOk wr w.heap.size x) ∧ Below w.heap.size w wr)) (fun _ vi _ => n - (RowKit.intOf vi).toNat)
  case atStart => exact ⟨0, 0, rfl, by omega, by omega, Lib.hid ⟨[], rfl, rfl, World.ownsRow_nil _ _ _ _, by simp, Below.refl _ _⟩⟩
  case round =>
    obtain ⟨j, m, rfl, hj, hm, hh⟩ := hrel
    rename World => W
    by_cases hjn : j < n
    · obtain ⟨t, ht1, ht2, ht3, ht4, hbW⟩ := hh.out
      clear hh
      have hjl : j < l.length := by rw [← HN.out]; exact hjn
      obtain ⟨r, hr⟩ : ∃ r, l[j]? = some r := ⟨_, List.getElem?_eq_getElem hjl⟩
      obtain ⟨b, o, rfl, hbB, kv, vv, e0, e1, e2, e3, e4, e5, hk, hw, hfit⟩ := HR.out j r hr
      have hk0 := hk
      have hw0 := hw
      obtain ⟨K1, k1, rfl, _, _⟩ := hk0
      obtain ⟨K2, k2, rfl, _, _⟩ := hw0
      have hnext := numL_next hr
      have HK := Lib.hid (And.intro hk hw)
      obtain ⟨n1, hn1⟩ : ∃ n1, n1 = r.key.length := ⟨_, rfl⟩
      obtain ⟨n2, hn2⟩ : ∃ n2, n2 = r.val.length := ⟨_, rfl⟩
      rw [← hn1] at HK e2
      rw [← hn2] at HK e3
      have x0 := (hbW.cell (p := ⟨b, o + j * 6, none⟩) hbB).trans e0
      have x1 := (hbW.cell (p := ⟨b, o + j * 6 + 1, none⟩) hbB).trans e1
      have x2 := (hbW.cell (p := ⟨b, o + j * 6 + 2, none⟩) hbB).trans e2
      have x3 := (hbW.cell (p := ⟨b, o + j * 6 + 3, none⟩) hbB).trans e3
      have x4 := (hbW.cell (p := ⟨b, o + j * 6 + 4, none⟩) hbB).trans e4
      have x5 := (hbW.cell (p := ⟨b, o + j * 6 + 5, none⟩) hbB).trans e5
      obtain ⟨Av, cv, rfl, q1, q2, _⟩ := own_slice ht3
      obtain ⟨W1, hW1⟩ : ∃ W1, W1 = W.alloc (.cells #[.int .u64 r.seq, .int .i64 r.kind, .slice K1 n1 k1, .slice K2 n2 k2, .int .u32 r.seg, .int .u32 r.off] 51) := ⟨_, rfl⟩
      have hb1 : Below W.heap.size W W1 := by rw [hW1]; exact (Below.refl _ _).alloc (Nat.le_refl _) _
      have hbk1 : W1.heap[W.heap.size]? = some (.cells #[.int .u64 r.seq, .int .i64 r.kind, .slice K1 n1 k1, .slice K2 n2 k2, .int .u32 r.seg, .int .u32 r.off] 51 (0, 0)) := by rw [hW1]; exact heap_alloc_new W _
      have hb1' := hbW.trans (hb1.mono hbW.size)
      have HC := Lib.hid (scut (w := W1) (Br := w.heap.size) (r := r) (v := recV r.seq r.kind (.slice K1 n1 k1) (.slice K2 n2 k2) r.seg r.off) ⟨_, _, rfl, HK.out.1.below hb1' (Nat.le_refl _), HK.out.2.below hb1' (Nat.le_refl _)⟩ hb1'.size)
      have HB1 := Lib.hid hb1'
      have HOL := Lib.hid (show ∀ g, (Value.slice Av m cv).ownBlock = some g → g < W.heap.size from fun g hg => (ht3.lt g hg).2)
      have HO := Lib.hid (own_below ht3 hb1 (Nat.le_refl _))
      have HT := Lib.hid (And.intro ht1 (And.intro ht2 (show ∀ x ∈ t, TriOk W1 w.heap.size x from fun x hx => (ht4 x hx).below (hb1.mono hbW.size) (Nat.le_refl _))))
      have HNX := Lib.hid hnext
      have HFT := Lib.hid hfit
      have HBK1 := Lib.hid hbk1
      obtain ⟨bx, hbx⟩ : ∃ bx, bx = W.heap.size := ⟨_, rfl⟩
      rw [← hbx] at HBK1 HOL
      have HBX := Lib.hid (show w.heap.size ≤ bx by rw [hbx]; exact hbW.size)
      unfold recV at HC
      have HN12 := Lib.hid (And.intro hn1 hn2)
      clear hn1 hn2 hk hw ht1 ht2 ht3 ht4 hbW hr hnext e0 e1 e2 e3 e4 e5 hfit hb1 hb1' hbk1 hjl
      go_wp2_with fail
      rw [← hW1, ← hbx]
      clear hW1 hbx
      refine HC.out.mono ?_
      rintro e W2 ⟨rv, rfl, ⟨kv', vv', rfl, hk', hw'⟩, hb2⟩
      have hk0 := hk'
      have hw0 := hw'
      obtain ⟨K3, k3, rfl, _, _⟩ := hk0
      obtain ⟨K4, k4, rfl, _, _⟩ := hw0
      obtain ⟨n3, hn3⟩ : ∃ n3, n3 = (cutR r).key.length := ⟨_, rfl⟩
      obtain ⟨n4, hn4⟩ : ∃ n4, n4 = (cutR r).val.length := ⟨_, rfl⟩
      rw [← hn3] at hk' ⊢
      rw [← hn4] at hw' ⊢
      clear hn3 hn4
      rw [show recV (cutR r).seq (cutR r).kind (.slice K3 n3 k3) (.slice K4 n4 k4) (cutR r).seg (cutR r).off = .agg #[.int .u64 r.seq, .int .i64 r.kind, .slice K3 n3 k3, .slice K4 n4 k4, .int .u32 r.seg, .int .u32 r.off] from rfl]
      have hbk2 := (hb2.block bx (Array.getElem?_eq_some_iff.1 HBK1.out).1).trans HBK1.out
      obtain ⟨y0, y1, y2, y3, y4, y5⟩ := box6h hbk2
      obtain ⟨z0, z1, z2, z3, z4, z5⟩ := box6hf hbk2
      obtain ⟨W4, hW4⟩ : ∃ W4, W4 = ((((((W2.setCell ⟨bx, 0, none⟩ (.int .u64 r.seq)).setCell ⟨bx, 1, none⟩ (.int .i64 r.kind)).setCell ⟨bx, 2, none⟩ (.slice K3 n3 k3)).setCell ⟨bx, 3, none⟩ (.slice K4 n4 k4)).setCell ⟨bx, 4, none⟩ (.int .u32 r.seg)).setCell ⟨bx, 5, none⟩ (.int .u32 r.off)).setCell ⟨bx, 0, none⟩ (.int .u64 ((m : Int) + 1)) := ⟨_, rfl⟩
      have hbk4 := Go.Joins.block_setCell (i := 0) (Go.Joins.block_setCell (i := 5) (Go.Joins.block_setCell (i := 4) (Go.Joins.block_setCell (i := 3) (Go.Joins.block_setCell (i := 2) (Go.Joins.block_setCell (i := 1) (Go.Joins.block_setCell (i := 0) hbk2 (.int .u64 r.seq)) (.int .i64 r.kind)) (.slice K3 n3 k3)) (.slice K4 n4 k4)) (.int .u32 r.seg)) (.int .u32 r.off)) (.int .u64 ((m : Int) + 1))
      rw [← hW4] at hbk4
      have hbk4 : W4.heap[bx]? = some (.cells #[.int .u64 ((m + 1 : Nat) : Int), .int .i64 r.kind, .slice K3 n3 k3, .slice K4 n4 k4, .int .u32 r.seg, .int .u32 r.off] 51 (0, 0)) := hbk4
      have hb4 : Below w.heap.size W2 W4 := by
        rw [hW4]
        exact Below.setCell (p := ⟨bx, 0, none⟩) (below6 (B := w.heap.size) (g := bx) (Below.refl w.heap.size W2) HBX.out (.int .u64 r.seq) (.int .i64 r.kind) (.slice K3 n3 k3) (.slice K4 n4 k4) (.int .u32 r.seg) (.int .u32 r.off)) HBX.out _
      have hs4 : W4.heap.size = W2.heap.size := by rw [hW4]; simp
      have hG4 : Chg (fun i => i = bx) W2 W4 := by
        rw [hW4]
        exact (((((((Chg.refl (M := fun i => i = bx) (w := W2)).setCell (p := ⟨bx, 0, none⟩) rfl _).setCell (p := ⟨bx, 1, none⟩) rfl _).setCell (p := ⟨bx, 2, none⟩) rfl _).setCell (p := ⟨bx, 3, none⟩) rfl _).setCell (p := ⟨bx, 4, none⟩) rfl _).setCell (p := ⟨bx, 5, none⟩) rfl _).setCell (p := ⟨bx, 0, none⟩) rfl _
      have hwr1 : IntKind.i64.wrap ((m : Int) + 1) = ((m + 1 : Nat) : Int) := by rw [IntWalk.i64_in _ (by omega)]; push_cast; rfl
      have hwr2 : IntKind.u64.wrap ((m + 1 : Nat) : Int) = ((m + 1 : Nat) : Int) := IntWalk.u64_in _ (by omega)
      have hb24 : Below w.heap.size W1 W4 := (hb2.mono HB1.out.size).trans hb4
      have hX : TriOk W4 w.heap.size ({ cutR r with seq := ((m + 1 : Nat) : Int) }, (.slice K3 n3 k3), (.slice K4 n4 k4)) := ⟨hk'.below hb4 (Nat.le_refl _), hw'.below hb4 (Nat.le_refl _), fit_cut HFT.out (m + 1) (by omega)⟩
      have HX := Lib.hid hX
      have hMy := rmay_b _ _ w.heap.size W4 hX.recv (Nat.le_trans HB1.out.size (by have := hb2.size; omega)) hX.fit
      have HO4 := Lib.hid ((hG4.own (own_below HO.out hb2 (Nat.le_refl _)) (fun g hg e => by have := HOL.out g hg; omega)))
      have HB4 := Lib.hid (HB1.out.trans hb24)
      have HBK4 := Lib.hid hbk4
      have HT4 := Lib.hid (show ∀ x ∈ t, TriOk W4 w.heap.size x from fun x hx => (HT.out.2.2 x hx).below hb24 (Nat.le_refl _))
      obtain ⟨f0, f1, f2, f3, f4, f5⟩ := box6h hbk4
      clear hk' hw' hb2 hbk2 hbk4 hb4 hs4 hG4 hb24 hX
      obtain ⟨mb, hmb⟩ : ∃ mb, mb = Rc.mayB { cutR r with seq := ((m + 1 : Nat) : Int) } := ⟨_, rfl⟩
      have hMy : Calls Tryz.prog 31 #[.agg #[.int .u64 ((m : Int) + 1), .int .i64 r.kind, .slice K3 n3 k3, .slice K4 n4 k4, .int .u32 r.seg, .int .u32 r.off]] W4 fun e w' => e = .returned (.bool mb) ∧ Below W4.heap.size W4 w' := by rw [hmb]; exact hMy
      have HMB := Lib.hid hmb
      clear hmb
      go_wp2_with fail
      rw [← hW4]
      clear hW4
      refine hMy.mono ?_
      rintro e W5 ⟨rfl, hb5⟩
      have HO5 := Lib.hid (own_below HO4.out hb5 (Nat.le_refl _))
      have HB5 := Lib.hid (HB4.out.trans (hb5.mono HB4.out.size))
      have HT5 := Lib.hid (show ∀ x ∈ t, TriOk W5 w.heap.size x from fun x hx => (HT4.out x hx).below (hb5.mono HB4.out.size) (Nat.le_refl _))
      have HX5 := Lib.hid (HX.out.below (hb5.mono HB4.out.size) (Nat.le_refl _))
      have hbk5 := (hb5.block bx (Array.getElem?_eq_some_iff.1 HBK4.out).1).trans HBK4.out
      obtain ⟨f0, f1, f2, f3, f4, f5⟩ := box6h hbk5
      clear hb5 hbk5 y0 y1 y2 y3 y4 y5 z0 z1 z2 z3 z4 z5
      cases mb
      case false =>
        have HN1 : Hid (numL (l.take (j + 1)) = numL (l.take j)) := Lib.hid (by rw [HNX.out]; unfold numG; rw [if_neg]; rw [← HT.out.2.1, List.length_map, HT.out.1]; rw [← HMB.out]; simp)
        go_wp2_with fail
        exact ⟨⟨j + 1, m, (by first | rfl | (congr 1; omega)), by omega, hm, Lib.hid ⟨t, HT.out.1, by rw [HN1.out]; exact HT.out.2.1, HO5.out, HT5.out, HB5.out⟩⟩, by simp [RowKit.intOf]; omega⟩
      case true =>
        by_cases h30 : m < 30
        · have i30 : (m : Int) < 30 := by omega
          obtain ⟨x, hx⟩ : ∃ x : Tri, x = ({ cutR r with seq := ((m + 1 : Nat) : Int) }, .slice K3 n3 k3, .slice K4 n4 k4) := ⟨_, rfl⟩
          have hxc : x.cells = [.int .u64 ((m : Int) + 1), .int .i64 r.kind, .slice K3 n3 k3, .slice K4 n4 k4, .int .u32 r.seg, .int .u32 r.off] := by rw [hx]; rfl
          have HN1 : Hid (numL (l.take (j + 1)) = numL (l.take j) ++ [x.1]) := Lib.hid (by rw [HNX.out]; unfold numG; rw [← HT.out.2.1, List.length_map, HT.out.1, if_pos ⟨by rw [← HMB.out], h30⟩, hx])
          have hrd : Rd (W5.alloc (.cells #[.int .u64 ((m : Int) + 1), .int .i64 r.kind, .slice K3 n3 k3, .slice K4 n4 k4, .int .u32 r.seg, .int .u32 r.off] 51)) (W5.heap.size + 1) (some ⟨W5.heap.size, 0, none⟩) x.cells := fun _ => ⟨W5.heap.size, 0, rfl, by omega, fun q u hu => by
            rw [cell_of_row _ W5.heap.size (0 + q) _ _ _ (heap_alloc_new W5 _)]
            rw [hxc] at hu
            simpa using hu⟩
          have HRD := Lib.hid hrd
          have hone : ∀ u ∈ x.cells, u.oneCell' = true := by rw [hxc]; simp [Value.oneCell']
          have HONE := Lib.hid hone
          have HXC := Lib.hid hxc
          have HX6 : Hid (TriOk W5 w.heap.size x) := Lib.hid (by rw [hx]; exact HX5.out)
          clear hx hxc hrd hone
          go_wp2_with (at_builtin; (refine wpList_append_rd _ rfl _ _ 22 rfl w.heap.size 51 i0 (.agg #[.int .u64 0, .int .i64 0, .slice none 0 0, .slice none 0 0, .int .u32 0, .int .u32 0]) 6 72 Tryz.underlying22 hi0 hz0 hz1 hz2 rfl (by omega) (.slice Av m cv) m (rowT t) rfl (HO5.out.alloc _) (W5.heap.size + 1) (some ⟨W5.heap.size, 0, none⟩) 1 1 x.cells rfl (by rw [HXC.out]; rfl) HRD.out HONE.out (by unfold maxLen; omega) (by omega) (by simp; have := HB5.out.size; omega) ?_); intro v3 w3 hown3 hb3 _ _; (have HO6 := Lib.hid hown3); (have HB6 := Lib.hid hb3); clear hown3 hb3)
          have hb56 : Below w.heap.size W5 w3 := Below.trans ((Below.refl W5.heap.size W5).alloc (Nat.le_refl _) _ |>.mono HB5.out.size) HB6.out
          refine ⟨⟨j + 1, m + 1, (by first | rfl | (congr 1; omega)), by omega, by omega, Lib.hid ⟨t ++ [x], by simp [HT.out.1], by rw [HN1.out, List.map_append, HT.out.2.1]; rfl, by rw [rowT_snoc]; exact HO6.out, fun y hy => ?_, HB5.out.trans hb56⟩⟩, by simp [RowKit.intOf]; omega⟩
          rcases List.mem_append.1 hy with h | h
          · exact (HT5.out y h).below hb56 (Nat.le_refl _)
          · simp at h; subst h; exact HX6.out.below hb56 (Nat.le_refl _)
        · have HN1 : Hid (numL (l.take (j + 1)) = numL (l.take j)) := Lib.hid (by rw [HNX.out]; unfold numG; rw [if_neg]; rw [← HT.out.2.1, List.length_map, HT.out.1]; exact fun e => h30 e.2)
          have i30 : ¬ (m : Int) < 30 := by omega
          go_wp2_with fail
          exact ⟨⟨j + 1, m, (by first | rfl | (congr 1; omega)), by omega, hm, Lib.hid ⟨t, HT.out.1, by rw [HN1.out]; exact HT.out.2.1, HO5.out, HT5.out, HB5.out⟩⟩, by simp [RowKit.intOf]; omega⟩
    · have ejn : j = n := by omega
      subst ejn
      obtain ⟨t, ht1, ht2, ht3, ht4, hbW⟩ := hh.out
      have HF := Lib.hid hh.out
      clear hh ht1 ht2 ht3 ht4 hbW
      go_wp2_with fail
      go_ret
      obtain ⟨t, ht1, ht2, ht3, ht4, hbW⟩ := HF.out
      exact ⟨_, t, rfl, by rw [ht2, HN.out, List.take_length], by omega, by rw [ht1]; exact ht3, ht4, hbW⟩
end Go.Proofs.YtaicibmaogiibaaGreatDoor.Sg

/- SgLone -/

/-
  Layer 11: a file system with one file, whose name is safe: what is done with it, as plain mathematics. A file to which was only appended; behind a crash it holds a beginning.
-/
set_option linter.unusedVariables false
set_option linter.unusedSimpArgs false
namespace Go.Proofs.YtaicibmaogiibaaGreatDoor.Sg
open Go Go.RowKit

/-- a file to which was only appended since it was safe -/
structure Pure (t : FSt) : Prop where
  ok : t.Ok
  len : t.bytes.length = t.safe.length + t.loose
  beh : ∀ k, k ≤ t.loose → t.behind k = t.bytes.take (t.safe.length + k)
theorem Pure.new (b : List UInt8) : Pure (FSt.new b) := ⟨FSt.new_ok b, by rw [FSt.new_bytes]; simp [FSt.new, FSt.loose, unitsL], fun k hk => by
  have h0 : k = 0 := by simp [FSt.new, FSt.loose, unitsL] at hk; exact hk
  subst h0
  rw [FSt.new_bytes]
  simp [FSt.new, FSt.behind, settleL]⟩
theorem app_safe (t : FSt) (r : List UInt8) : (t.app r).safe = t.safe := rfl
theorem Pure.app {t : FSt} (h : Pure t) {r : List UInt8} (hr : r ≠ []) : Pure (t.app r) := by
  refine ⟨FSt.app_ok h.ok hr, ?_, fun k hk => ?_⟩
  · rw [FSt.app_bytes, FSt.app_loose, List.length_append, h.len, app_safe]; omega
  · rw [FSt.app_bytes, app_safe]
    rw [FSt.app_loose] at hk
    rcases Nat.lt_or_ge t.loose k with h1 | h1
    · obtain ⟨m, rfl⟩ : ∃ m, k = t.loose + m := ⟨k - t.loose, by omega⟩
      have e1 : t.bytes.take (t.safe.length + (t.loose + m)) = t.bytes := List.take_of_length_le (by rw [h.len]; omega)
      have e2 : t.safe.length + (t.loose + m) - t.bytes.length = m := by rw [h.len]; omega
      rw [FSt.app_more h.ok r m, List.take_append, e1, e2]
    · rw [FSt.app_behind t r h1, h.beh k h1, List.take_append_of_le_length (by rw [h.len]; omega)]
theorem Pure.settled {t : FSt} (h : Pure t) {k : Nat} (hk : k ≤ t.loose) : t.settled k = FSt.new (t.bytes.take (t.safe.length + k)) := by
  unfold FSt.settled
  rw [h.beh k hk]
theorem Pure.synced {t : FSt} (h : Pure t) : t.settled t.loose = FSt.new t.bytes := by
  rw [h.settled (Nat.le_refl _), ← h.len, List.take_length]

/-- one file -/
structure LoneN (s : FsP) (n : ByteArray) (t : FSt) : Prop where
  on : s.off = false
  fuse : s.fuse = none
  now : s.dir.now = [(n, 1)]
  file : s.file 1 = t
section
variable {s : FsP} {n : ByteArray} {t : FSt}
theorem LoneN.begin (h : LoneN s n t) : beginF s = (0, { s with steps := s.steps + 1, fuse := none }) := beginF_ok h.on h.fuse
theorem LoneN.step (h : LoneN s n t) (k : FsP → Nat × FsP) : stepF s k = k { s with steps := s.steps + 1, fuse := none } := by
  unfold stepF
  rw [h.begin, if_pos rfl]
theorem LoneN.stepped (h : LoneN s n t) : LoneN { s with steps := s.steps + 1, fuse := none } n t := ⟨h.on, rfl, h.now, h.file⟩
theorem find_one (n : ByteArray) (i : Nat) : findL [(n, i)] n = some i := by simp [findL]
theorem LoneN.node (h : LoneN s n t) (hn : mayN n = true) : nodeF s n = (0, 1) := by
  unfold nodeF
  rw [if_neg (by rw [hn]; decide), h.now, find_one]
theorem LoneN.onF (h : LoneN s n t) (hn : mayN n = true) (k : FSt → Nat × FSt) : onF s n k = ((k t).1, { s with file := upd s.file 1 (k t).2 }) := by
  unfold Go.Proofs.YtaicibmaogiibaaGreatDoor.onF
  rw [h.node hn, if_pos rfl, h.file]
theorem LoneN.used (h : LoneN s n t) : s.used = t.bytes.length := by
  unfold FsP.used usedL
  rw [h.now]
  simp [h.file]
theorem LoneN.upd (h : LoneN s n t) (t' : FSt) : LoneN { s with file := upd s.file 1 t' } n t' := ⟨h.on, h.fuse, h.now, by show Go.Proofs.YtaicibmaogiibaaGreatDoor.upd s.file 1 t' 1 = t'; exact upd_same _ _ _⟩
/-- behind a step on its file -/
def StepN (s s' : FsP) (n : ByteArray) (t : FSt) : Prop := LoneN s' n t ∧ s'.dir = s.dir ∧ s'.quota = s.quota ∧ s'.steps = s.steps + 1
theorem LoneN.append (h : LoneN s n t) (hn : mayN n = true) {b : List UInt8} (hb : b ≠ []) (hq : t.bytes.length + b.length ≤ s.quota) :
    (stepF s (appendK n b)).1 = 0 ∧ StepN s (stepF s (appendK n b)).2 n (t.app b) := by
  rw [h.step]
  have h1 := h.stepped
  unfold appendK
  rw [h1.onF hn, h1.used]
  unfold appT
  rw [if_neg (by show ¬ s.quota < _; omega), if_neg hb]
  exact ⟨rfl, h1.upd _, rfl, rfl, rfl⟩
theorem LoneN.sync (h : LoneN s n t) (hn : mayN n = true) : (stepF s (syncK n)).1 = 0 ∧ StepN s (stepF s (syncK n)).2 n (t.settled t.loose) := by
  rw [h.step]
  have h1 := h.stepped
  unfold syncK
  rw [h1.onF hn]
  exact ⟨rfl, h1.upd _, rfl, rfl, rfl⟩
theorem LoneN.trunc (h : LoneN s n t) (hn : mayN n = true) (z : Nat) (hz : z ≤ t.bytes.length) : (stepF s (truncK n (z : Int))).1 = 0 ∧ StepN s (stepF s (truncK n (z : Int))).2 n (if z = t.bytes.length then t else t.cutd z) := by
  rw [h.step]
  have h1 := h.stepped
  unfold truncK
  rw [h1.onF hn]
  unfold cutT
  rw [if_neg (by omega)]
  by_cases e : z = t.bytes.length
  · rw [if_pos (by omega), if_pos e]
    exact ⟨rfl, h1.upd _, rfl, rfl, rfl⟩
  · rw [if_neg (by omega), if_neg e]
    have := h1.upd (t.cutd z)
    exact ⟨rfl, by simpa using this, rfl, rfl, rfl⟩
end
/-- one file, safe as a name -/
structure Lone (s : FsP) (n : ByteArray) (t : FSt) : Prop where
  toN : LoneN s n t
  safe : s.dir.safe = [(n, 1)]
  deeds : s.dir.deeds = []
section
variable {s : FsP} {n : ByteArray} {t : FSt}
theorem Lone.by_step {s' : FsP} {t' : FSt} (h : Lone s n t) (k : StepN s s' n t') : Lone s' n t' := ⟨k.1, by rw [k.2.1]; exact h.safe, by rw [k.2.1]; exact h.deeds⟩
theorem Lone.of_dir {s' : FsP} {t' : FSt} (h1 : s'.off = false) (h2 : s'.fuse = none) (h3 : s'.dir.safe = [(n, 1)]) (h4 : s'.dir.deeds = []) (h5 : s'.file 1 = t') : Lone s' n t' := ⟨⟨h1, h2, by unfold PSt.now; rw [h3, h4]; rfl, h5⟩, h3, h4⟩
theorem Lone.crash (h : Lone s n t) (picks : List Int) (hp : picks.any (· < 0) = false) : (crashK s picks).1 = 0 ∧ ∃ k, k ≤ t.loose ∧ Lone (crashK s picks).2 n (t.settled k) ∧ (crashK s picks).2.quota = s.quota := by
  unfold crashK
  rw [if_neg (by rw [hp]; decide)]
  refine ⟨rfl, pickAt picks 1 % (t.loose + 1), by have := Nat.mod_lt (pickAt picks 1) (show 0 < t.loose + 1 by omega); omega, ?_, rfl⟩
  have hd : (crashD s picks).safe = [(n, 1)] := by
    unfold crashD PSt.settle
    rw [h.deeds, h.safe]
    simp [doAll]
  refine Lone.of_dir rfl rfl hd rfl ?_
  show crashT picks (inosL (crashD s picks).safe) s.file 1 = _
  rw [hd]
  unfold crashT
  have hin : (1 : Nat) ∈ inosL [(n, 1)] := by simp [inosL]
  rw [if_pos hin, h.toN.file]
  have hix : (inosL [(n, 1)]).idxOf 1 = 0 := by simp [inosL]
  rw [hix]
end
theorem mayN_name {id : Nat} (h : 1 ≤ id ∧ id ≤ 16777215) : mayN (nameB id) = true := by
  have hs : (nameB id).size = 10 := by
    show (nameL id).toArray.size = 10
    rw [List.size_toArray, nameL_len h]
  have hok : ∀ k, k < 16 → okB (dg16 k) = true := by
    have : ∀ k : Fin 16, okB (dg16 k.1) = true := by decide +kernel
    exact fun k hk => this ⟨k, hk⟩
  have hall : ∀ (k n : Nat), (hexK k n).all okB = true := by
    intro k n
    induction k with
    | zero => rfl
    | succ k ih => rw [hexK, List.all_cons, hok _ (Nat.mod_lt _ (by omega)), ih]; rfl
  unfold mayN
  rw [hs]
  have hl : (nameB id).data.toList = pre ++ hexK 6 id := by
    show (nameL id).toArray.toList = _
    unfold nameL
    rw [if_pos h]
  rw [hl, List.all_append, hall]
  decide +kernel
/-- a new segment on a new file system -/
theorem createG_new {id q : Nat} (h : 1 ≤ id ∧ id ≤ 16777215) (hq : 16 ≤ q) :
    (createG (FsP.new q) id).1 = 0 ∧ Lone (createG (FsP.new q) id).2 (nameB id) (FSt.new (Hd.headL 1 id)) ∧ (createG (FsP.new q) id).2.quota = q := by
  have hn := mayN_name h
  obtain ⟨n, hnd⟩ : ∃ n, n = nameB id := ⟨_, rfl⟩
  rw [← hnd] at hn ⊢
  have hc : createG (FsP.new q) id = runM n id 0 4 (FsP.new q) := by rw [hnd]; rfl
  rw [hc]
  have hfind : findL (PSt.now (FsP.new q).dir) n = none := rfl
  -- Create
  obtain ⟨s1, hs1⟩ : ∃ s1 : FsP, s1 = { dir := (FsP.new q).dir.made n, file := Go.Proofs.YtaicibmaogiibaaGreatDoor.upd (FsP.new q).file 1 (FSt.new []), quota := q, off := false, steps := 1, fuse := none } := ⟨_, rfl⟩
  have e1 : stepF (FsP.new q) (mkK n id 0) = (0, s1) := by
    unfold stepF
    rw [beginF_ok (s := FsP.new q) rfl rfl, if_pos rfl]
    show createK n _ = _
    unfold createK createP
    rw [if_neg (by rw [hn]; decide), if_neg (by rw [show PSt.now _ = PSt.now (FsP.new q).dir from rfl, hfind]; decide), if_neg (by show ¬ 256 ≤ 0; decide), hs1]
    rfl
  have L1 : LoneN s1 n (FSt.new []) := by
    rw [hs1]
    exact ⟨rfl, rfl, rfl, by show Go.Proofs.YtaicibmaogiibaaGreatDoor.upd (FsP.new q).file 1 (FSt.new []) 1 = _; exact upd_same _ _ _⟩
  have hq1 : s1.quota = q := by rw [hs1]
  have hd1 : s1.dir = (FsP.new q).dir.made n := by rw [hs1]
  clear hs1
  have A2 := L1.append hn (b := Hd.headL 1 id) (fun e => by have := Hd.headL_length 1 id; rw [e] at this; cases this) (by rw [FSt.new_bytes, Hd.headL_length, hq1]; simpa using hq)
  obtain ⟨s2, hs2⟩ : ∃ s2, s2 = (stepF s1 (mkK n id 1)).2 := ⟨_, rfl⟩
  have B2 : StepN s1 s2 n ((FSt.new []).app (Hd.headL 1 id)) := by rw [hs2]; exact A2.2
  have e2 : (stepF s1 (mkK n id 1)).1 = 0 := A2.1
  have A3 := B2.1.sync hn
  obtain ⟨s3, hs3⟩ : ∃ s3, s3 = (stepF s2 (mkK n id 2)).2 := ⟨_, rfl⟩
  have B3 : StepN s2 s3 n (((FSt.new []).app (Hd.headL 1 id)).settled ((FSt.new []).app (Hd.headL 1 id)).loose) := by rw [hs3]; exact A3.2
  have e3 : (stepF s2 (mkK n id 2)).1 = 0 := A3.1
  have hpure : Pure ((FSt.new []).app (Hd.headL 1 id)) := (Pure.new []).app (fun e => by have := Hd.headL_length 1 id; rw [e] at this; cases this)
  rw [hpure.synced, FSt.app_bytes, FSt.new_bytes, List.nil_append] at B3
  have e4 : stepF s3 (mkK n id 3) = (0, { s3 with steps := s3.steps + 1, fuse := none, dir := s3.dir.settle s3.dir.deeds.length }) := by
    rw [B3.1.step]
    rfl
  have hr : runM n id 0 4 (FsP.new q) = (0, { s3 with steps := s3.steps + 1, fuse := none, dir := s3.dir.settle s3.dir.deeds.length }) := by
    rw [runM, e1, if_pos rfl, runM, if_pos e2, ← hs2, runM, if_pos e3, ← hs3, runM, e4, if_pos rfl, runM]
  rw [hr]
  have hd3 : s3.dir = (FsP.new q).dir.made n := by rw [B3.2.1, B2.2.1, hd1]
  refine ⟨rfl, Lone.of_dir B3.1.on rfl ?_ rfl B3.1.file, by show s3.quota = q; rw [B3.2.2.1, B2.2.2.1, hq1]⟩
  show (s3.dir.settle s3.dir.deeds.length).safe = _
  rw [hd3]
  rfl
end Go.Proofs.YtaicibmaogiibaaGreatDoor.Sg

/- SgWakes -/

/-
  Layer 11: what the law's examples make.
-/
set_option linter.unusedVariables false
set_option linter.unusedSimpArgs false
namespace Go.Proofs.YtaicibmaogiibaaGreatDoor.Sg
open Go Go.RowKit

def wk0 : FsP := FsP.new 1000
def wr : Rc.Rec := ⟨1, 1, [97, 98, 99], [], 0, 0⟩
def wk1 : FsP := (createG wk0 1).2
def wx1 : S := ⟨1, 16, 0, 0, 0, 0⟩
theorem wc1 : (createG wk0 1).1 = 0 := by kernel_rfl
theorem wmay : Rc.mayB wr = true := by decide +kernel
theorem wapp : (appG wk1 wx1 wr).1 = 0 ∧ (appG wk1 wx1 wr).2.1 = (1, 16) ∧ (appG wk1 wx1 wr).2.2.2 = ⟨1, 44, 1, 1, 1, 0⟩ := by
  have h : (stepF wk1 (appendK (nameB 1) (Rc.runL wr))).1 = 0 := by kernel_rfl
  unfold appG
  rw [if_neg (by rw [wmay]; decide), if_neg (by decide), show wx1.id = 1 from rfl, if_pos h]
  exact ⟨rfl, rfl, rfl⟩
theorem wid1 : refId [115, 101, 103, 45, 48, 48, 48, 48, 102, 102] = (255, true) := by decide +kernel
theorem wid2 : refId [115, 101, 103, 45, 48, 48, 48, 48, 70, 70] = (0, false) := by decide +kernel
theorem wn1 : nameB 1 = ⟨#[115, 101, 103, 45, 48, 48, 48, 48, 48, 49]⟩ := by decide +kernel
theorem wn2 : nameB 255 = ⟨#[115, 101, 103, 45, 48, 48, 48, 48, 102, 102]⟩ := by decide +kernel
theorem removeK_steps (n : ByteArray) (s : FsP) : (removeK n s).2.steps = s.steps := rfl
theorem runM_inv (n : ByteArray) (id : Nat) : ∀ (k i : Nat) {s : FsP} {q T : Nat}, FInv s q T → q + k ≤ 900 → FInv (runM n id i k s).2 (q + k + 1) (T + 60 * (k + 1)) ∧ (runM n id i k s).2.steps ≤ s.steps + k + 1
  | 0, i, s, q, T, h, hq => ⟨h.mono (by omega) (by omega), by show s.steps ≤ _; omega⟩
  | k + 1, i, s, q, T, h, hq => by
    have h1 := finv_mk h (by omega) n id i
    have h2 := stepF_steps s (mkK n id i) (mkK_steps n id i)
    rw [runM]
    split
    · have := runM_inv n id k (i + 1) h1 (by omega)
      exact ⟨this.1.mono (by omega) (by omega), by omega⟩
    · split
      · exact ⟨h1.mono (by omega) (by omega), by show (stepF s (mkK n id i)).2.steps ≤ _; omega⟩
      · have h3 : FInv (stepF (stepF s (mkK n id i)).2 (removeK n)).2 (q + 1 + 1) (T + 60 + 60) := finv_step h1 (by omega) (fun t ht => (finv_remove ht (by omega) n).mono (Nat.le_refl _) (by omega))
        have h4 := stepF_steps (stepF s (mkK n id i)).2 (removeK n) (removeK_steps n)
        exact ⟨h3.mono (by omega) (by omega), by show (stepF (stepF s (mkK n id i)).2 (removeK n)).2.steps ≤ _; omega⟩
theorem createG_inv {s : FsP} {q T : Nat} (h : FInv s q T) (hq : q ≤ 800) (id : Nat) : FInv (createG s id).2 (q + 5) (T + 300) ∧ (createG s id).2.steps ≤ s.steps + 5 := by
  have := runM_inv (nameB id) id 4 0 h (by omega)
  exact ⟨this.1, this.2⟩
theorem bytes_bs {w : World} {B : Nat} (l : List UInt8) (C : Array Value) (hC : C = (bvs l).toArray) (e : TypeId) (fr : Nat × Nat) (g n : Nat) (hn : n = l.length) (hg : w.heap[g]? = some (.cells C e fr)) (hB : g < B) : Bs w B (.slice (some ⟨g, 0, none⟩) n n) l := by
  subst hC hn
  exact ⟨_, _, rfl, Nat.le_refl _, fun _ => ⟨g, 0, rfl, hB, fun j u hu => by
    rw [Nat.zero_add, cell_of_row w g j _ _ _ hg]
    simpa using hu⟩⟩
set_option maxRecDepth 100000 in
set_option maxHeartbeats 16000000 in
theorem swakes (w : World) (hx : Ctx w.heap.size w) : Calls Tryz.prog 9 #[] w fun e w' => e = .returned (.bool true) ∧ Below w.heap.size w w' := by
  have HI1 := Lib.hid (id_any ⟨#[115, 101, 103, 45, 48, 48, 48, 48, 102, 102]⟩ (by decide) w hx.std)
  rw [show (⟨#[115, 101, 103, 45, 48, 48, 48, 48, 102, 102]⟩ : ByteArray).data.toList = [115, 101, 103, 45, 48, 48, 48, 48, 102, 102] from rfl, wid1] at HI1
  have HX := Lib.hid hx
  clear hx
  go_enter Tryz.func9, Tryz.ntmps9
  go_wp2_with fail
  refine HI1.out.mono ?_
  rintro e w1 ⟨rfl, hb1⟩
  have HB1 := Lib.hid hb1
  have HI2 := Lib.hid (id_any ⟨#[115, 101, 103, 45, 48, 48, 48, 48, 70, 70]⟩ (by decide) w1 (HX.out.below hb1).std)
  rw [show (⟨#[115, 101, 103, 45, 48, 48, 48, 48, 70, 70]⟩ : ByteArray).data.toList = [115, 101, 103, 45, 48, 48, 48, 48, 70, 70] from rfl, wid2] at HI2
  clear hb1
  go_wp2_with fail
  refine HI2.out.mono ?_
  rintro e w2 ⟨rfl, hb2⟩
  have HB2 := Lib.hid (HB1.out.trans (hb2.mono HB1.out.size))
  have HN := Lib.hid (knew w2 1000 (by omega))
  clear hb2
  go_wp2_with fail
  refine HN.out.mono ?_
  rintro e w3 ⟨A, M, rfl, hm, hb3, hM⟩
  have HB3 := Lib.hid (HB2.out.trans (hb3.mono HB2.out.size))
  have HMB := Lib.hid (show ∀ i, M i → w.heap.size ≤ i from fun i hi => Nat.le_trans HB2.out.size (hM i hi))
  have HCr := Lib.hid (screate (id := 1) (HX.out.below HB3.out) HB3.out.size HMB.out (by omega) hm (FInv.new 1000) (by omega) (by omega) (by decide))
  clear hb3 hM hm
  go_wp2_with fail
  refine HCr.out.mono ?_
  rintro e w4 (⟨_, G, rfl, hG, hS⟩ | ⟨hne, _⟩)
  rotate_left
  · exact absurd wc1 hne
  obtain ⟨M2, R2, k1, k2, k3, k4, k5, k6, k7⟩ := hS
  have hb4 : Below w.heap.size w w4 := HB3.out.trans (k2.below HB3.out.size (fun i hi => hi.elim (HMB.out i) (fun e => by rw [e]; exact Nat.le_trans HB3.out.size hG)))
  have HB4 := Lib.hid hb4
  have HS : Hid (SegIn w4 G A M2 R2 wk1 wx1) := Lib.hid ⟨k1, k5, k6, k7⟩
  have HM2 := Lib.hid (show ∀ i, M2 i → w.heap.size ≤ i from fun i hi => (k3 i hi).elim (HMB.out i) (fun e => Nat.le_trans HB3.out.size e))
  have hGw := Lib.hid (show w.heap.size ≤ G from Nat.le_trans HB3.out.size hG)
  have hI := createG_inv (FInv.new 1000) (by omega) 1
  obtain ⟨W5, hW5⟩ : ∃ W5, W5 = w4.alloc (.cells #[.int .u8 97, .int .u8 98, .int .u8 99] 5 (3, 4)) := ⟨_, rfl⟩
  have hb5 : Below w4.heap.size w4 W5 := by rw [hW5]; exact (Below.refl _ _).alloc (Nat.le_refl _) _
  have hbk : W5.heap[w4.heap.size]? = some (.cells #[.int .u8 97, .int .u8 98, .int .u8 99] 5 (3, 4)) := by rw [hW5]; exact heap_alloc_new w4 _
  have h55 := bytes_bs [97, 98, 99] _ rfl 5 (3, 4) w4.heap.size 3 rfl hbk (Nat.lt_succ_self _)
  have hsz5 : W5.heap.size = w4.heap.size + 1 := by rw [hW5]; simp
  have kc := Lib.run_convert_bytes_const (P := Tryz.prog) w4 47 5 #[.int .u8 97, .int .u8 98, .int .u8 99] 3 3 Tryz.underlying47 Tryz.underlying5
  have HA := Lib.hid (sappend (x := wx1) (r := wr) (v := recV 1 1 (.slice (some ⟨w4.heap.size, 0, none⟩) 3 3) (.slice none 0 0) 0 0) (Br := w4.heap.size + 1) (s := wk1) (M := M2) (R := R2) (w := W5) (B := w.heap.size) (q := 5) (T := 300) ⟨HS.out.1.on hb5, HS.out.2.1.on hb5, HS.out.2.2⟩ (HX.out.below (HB4.out.trans (hb5.mono HB4.out.size))) (Nat.le_trans HB4.out.size hb5.size) HM2.out ⟨by decide, by decide, by decide, by decide, by decide, by decide⟩ (by decide) ⟨_, _, rfl, h55, ⟨none, 0, rfl, Nat.le_refl _, fun h => absurd rfl h⟩⟩ (by omega) (Rc.fit_may wmay) (show FInv wk1 5 300 from hI.1.mono (by omega) (by omega)) (by omega) (by have := hI.2; show wk1.steps + 1 ≤ _; have h0 : (FsP.new 1000).steps = 0 := rfl; have e : wk1 = (createG (FsP.new 1000) 1).2 := rfl; rw [e]; omega))
  rw [wapp.1, wapp.2.1, wapp.2.2] at HA
  have HB5 := Lib.hid (HB4.out.trans (hb5.mono HB4.out.size))
  clear k1 k2 k3 k4 k5 k6 k7 hb4 hI hb5 hbk h55
  go_wp2_with fail
  rw [← hW5]
  clear hW5 kc
  refine HA.out.mono ?_
  rintro e w6 ⟨rfl, hS6⟩
  obtain ⟨M3, R3, j1, j2, j3, j4, j5, j6, j7⟩ := hS6
  have HB6 := Lib.hid (HB5.out.trans (j2.below HB5.out.size (fun i hi => hi.elim (HM2.out i) (fun e => by rw [e]; exact hGw.out))))
  have HC6 := Lib.hid j5
  clear j1 j2 j3 j4 j5 j6 j7 HA
  unfold locV
  obtain ⟨W7, hW7⟩ : ∃ W7, W7 = w6.alloc (.cells #[.int .u32 1, .int .u32 16] 49) := ⟨_, rfl⟩
  have hb7 : Below w6.heap.size w6 W7 := by rw [hW7]; exact (Below.refl _ _).alloc (Nat.le_refl _) _
  have hb7' := HB6.out.trans (hb7.mono HB6.out.size)
  have hlk : W7.heap[w6.heap.size]? = some (.cells #[.int .u32 1, .int .u32 16] 49 (0, 0)) := by rw [hW7]; exact heap_alloc_new w6 _
  have HN1 := Lib.hid (name_any 1 (by omega) W7 (HX.out.below hb7').std)
  rw [wn1] at HN1
  have HL := Lib.hid hlk
  have HB7 := Lib.hid hb7'
  have HC7 := Lib.hid (HC6.out.on hb7)
  clear hb7 hb7' hlk
  go_wp2_with fail
  rw [← hW7]
  clear hW7
  refine HN1.out.mono ?_
  rintro e w8 ⟨rfl, hb8⟩
  have HB8 := Lib.hid (HB7.out.trans (hb8.mono HB7.out.size))
  have HC8 := Lib.hid (HC7.out.on hb8)
  have HL8 := Lib.hid ((hb8.block w6.heap.size (Array.getElem?_eq_some_iff.1 HL.out).1).trans HL.out)
  have HN2 := Lib.hid (name_any 255 (by omega) w8 (HX.out.below HB8.out).std)
  rw [wn2] at HN2
  clear hb8
  go_wp2_with fail
  refine HN2.out.mono ?_
  rintro e w9 ⟨rfl, hb9⟩
  have HB9 := Lib.hid (HB8.out.trans (hb9.mono HB8.out.size))
  have HL9 := (hb9.block w6.heap.size (Array.getElem?_eq_some_iff.1 HL8.out).1).trans HL8.out
  have HSe := Lib.hid (sseal (HC8.out.on hb9))
  have c0 : w9.cell? ⟨w6.heap.size, 0, none⟩ = some (.int .u32 1) := cell_of_row w9 _ 0 _ _ _ HL9
  have c1 : w9.cell? ⟨w6.heap.size, 1, none⟩ = some (.int .u32 16) := cell_of_row w9 _ 1 _ _ _ HL9
  clear hb9 HL9
  obtain ⟨gl, hgl⟩ : ∃ gl, gl = w6.heap.size := ⟨_, rfl⟩
  rw [← hgl] at c0 c1 ⊢
  clear hgl
  go_wp2_with fail
  refine HSe.out.mono ?_
  rintro e w10 ⟨rfl, hb10⟩
  have HB10 := Lib.hid (HB9.out.trans (hb10.mono HB9.out.size))
  clear hb10 c0 c1
  unfold S.seal
  have hfd : ∀ w : World, (Instr.field 39 (.agg #[.int .u32 1, .int .u32 44, .int .u32 1, .int .u64 1, .int .u64 1]) 1).run Tryz.prog w = .ok (.int .u32 44) w := fun _ => by kernel_rfl
  go_wp2_with fail
  go_ret
  exact ⟨rfl, HB10.out⟩
end Go.Proofs.YtaicibmaogiibaaGreatDoor.Sg

/- SgFill -/

/-
  Layer 11: the law's segment in which records stand.
-/
set_option linter.unusedVariables false
set_option linter.unusedSimpArgs false
namespace Go.Proofs.YtaicibmaogiibaaGreatDoor.Sg
open Go Go.RowKit

/-- records numbered 1, 2, .., that may be -/
structure Numb (L : List Rc.Rec) : Prop where
  may : ∀ r ∈ L, Rc.mayB r = true
  num : ∀ (i : Nat) r, L[i]? = some r → r.seq = ((i + 1 : Nat) : Int)
  few : L.length ≤ 30
theorem numG_numb {L : List Rc.Rec} (h : Numb L) (r : Rc.Rec) : Numb (numG L r) := by
  unfold numG
  split
  · rename_i hc
    refine ⟨fun x hx => ?_, fun i x hx => ?_, by simp; omega⟩
    · rcases List.mem_append.1 hx with e | e
      · exact h.may x e
      · simp at e; subst e; exact hc.1
    · rw [List.getElem?_append] at hx
      split at hx
      · exact h.num i x hx
      · rename_i hi
        rw [List.getElem?_singleton] at hx
        split at hx
        · injection hx with hx
          subst hx
          have : i = L.length := by omega
          subst this
          rfl
        · cases hx
  · exact h
theorem numL_numb (l : List Rc.Rec) : Numb (numL l) := by
  unfold numL
  suffices h : ∀ (l : List Rc.Rec) (L : List Rc.Rec), Numb L → Numb (l.foldl numG L) from h l [] ⟨by simp, by simp, by simp⟩
  intro l
  induction l with
  | nil => exact fun L h => h
  | cons r l ih => exact fun L h => ih _ (numG_numb h r)
theorem Numb.take {L : List Rc.Rec} (h : Numb L) (n : Nat) : Numb (L.take n) := by
  refine ⟨fun r hr => h.may r (List.mem_of_mem_take hr), fun i r hr => ?_, by rw [List.length_take]; have := h.few; omega⟩
  rw [List.getElem?_take] at hr
  split at hr
  · exact h.num i r hr
  · cases hr
/-- where the j-th record stands -/
def offN (L : List Rc.Rec) (j : Nat) : Nat := 16 + ((L.take j).map Rc.sizeN).sum
theorem offN_zero (L : List Rc.Rec) : offN L 0 = 16 := rfl
theorem offN_next {L : List Rc.Rec} {j : Nat} {r : Rc.Rec} (h : L[j]? = some r) : offN L (j + 1) = offN L j + Rc.sizeN r := by
  unfold offN
  rw [List.take_add_one, h]
  simp
  omega
theorem offN_le {L : List Rc.Rec} (h : Numb L) (j : Nat) : offN L j ≤ 16 + 1113 * j := by
  induction j with
  | zero => rw [offN_zero]; omega
  | succ j ih =>
    cases hr : L[j]? with
    | none =>
      have : L.length ≤ j := by simpa using hr
      have e : offN L (j + 1) = offN L j := by unfold offN; rw [List.take_of_length_le (by omega), List.take_of_length_le (by omega)]
      omega
    | some r =>
      have := (Rc.may_size (h.may r (List.mem_of_getElem? hr))).2
      rw [offN_next hr]
      omega
/-- the segment's file when j records stand -/
def fileN (id : Nat) (L : List Rc.Rec) (j : Nat) : FSt := (L.take j).foldl (fun t r => t.app (Rc.runL r)) (FSt.new (Hd.headL 1 id))
theorem fileN_next {id : Nat} {L : List Rc.Rec} {j : Nat} {r : Rc.Rec} (h : L[j]? = some r) : fileN id L (j + 1) = (fileN id L j).app (Rc.runL r) := by
  unfold fileN
  rw [List.take_add_one, h]
  simp
def bytesN11 (id : Nat) (L : List Rc.Rec) : List UInt8 := Hd.headL 1 id ++ L.flatMap Rc.runL
theorem run_ne {r : Rc.Rec} : Rc.runL r ≠ [] := fun e => by
  have := Rc.runL_length r
  rw [e] at this
  unfold Rc.sizeN at this
  simp at this
  omega
theorem fileN_bytes (id : Nat) (L : List Rc.Rec) (j : Nat) : (fileN id L j).bytes = bytesN11 id (L.take j) ∧ Pure (fileN id L j) ∧ (fileN id L j).safe = Hd.headL 1 id := by
  induction j with
  | zero => exact ⟨by unfold fileN bytesN11; simp [FSt.new_bytes], Pure.new _, rfl⟩
  | succ j ih =>
    cases hr : L[j]? with
    | none =>
      have : L.length ≤ j := by simpa using hr
      have e : L.take (j + 1) = L.take j := by rw [List.take_of_length_le (by omega), List.take_of_length_le (by omega)]
      have e2 : fileN id L (j + 1) = fileN id L j := by unfold fileN; rw [e]
      rw [e, e2]
      exact ih
    | some r =>
      rw [fileN_next hr]
      refine ⟨?_, ih.2.1.app run_ne, by rw [app_safe]; exact ih.2.2⟩
      rw [FSt.app_bytes, ih.1, List.take_add_one, hr]
      unfold bytesN11
      simp
theorem bytesN11_length (id : Nat) (L : List Rc.Rec) : (bytesN11 id L).length = 16 + (L.map Rc.sizeN).sum := by
  unfold bytesN11
  rw [List.length_append, Hd.headL_length, List.length_flatMap]
  congr 2
  exact List.map_congr_left (fun r _ => Rc.runL_length r)
/-- what the segment knows when j records stand -/
def segN (id : Nat) (L : List Rc.Rec) (j : Nat) : S := ⟨id, offN L j, j, if j = 0 then 0 else 1, j, 0⟩
theorem segN_next {id : Nat} {L : List Rc.Rec} (hL : Numb L) {j : Nat} {r : Rc.Rec} (h : L[j]? = some r) : (segN id L j).more r.seq.toNat (Rc.sizeN r) = segN id L (j + 1) := by
  have hs := hL.num j r h
  unfold segN S.more
  rw [hs, offN_next h]
  simp only [Int.toNat_natCast, S.mk.injEq, true_and, and_true]
  cases j with
  | zero => rfl
  | succ j => simp
/-- the locs that are told -/
def locsN (id : Nat) (L : List Rc.Rec) (j : Nat) : List Value := (List.range j).flatMap fun i => [.int .u32 (id : Int), .int .u32 (offN L i : Int)]
theorem locsN_next (id : Nat) (L : List Rc.Rec) (j : Nat) : locsN id L (j + 1) = locsN id L j ++ [.int .u32 (id : Int), .int .u32 (offN L j : Int)] := by
  unfold locsN
  rw [List.range_succ, List.flatMap_append]
  simp
theorem finv_app {s : FsP} {q T : Nat} (h : FInv s q T) (n : ByteArray) (b : List UInt8) : FInv (stepF s (appendK n b)).2 q (T + b.length) :=
  h.step (Nat.le_refl _) (Nat.le_add_right _ _) (fun h0 => h0.onF_ n b.length (fun t ht => appT_ok _ _ _ t ht))
/-- an append to a segment of which j records stand -/
theorem appN {id : Nat} {L : List Rc.Rec} (hi : 1 ≤ id ∧ id ≤ 16777215) (hL : Numb L) {j : Nat} {r : Rc.Rec} (h : L[j]? = some r) {s : FsP} (hl : Lone s (nameB id) (fileN id L j)) (hq : 100000 ≤ s.quota) :
    (appG s (segN id L j) r).1 = 0 ∧ (appG s (segN id L j) r).2.1 = (id, offN L j) ∧ Lone (appG s (segN id L j) r).2.2.1 (nameB id) (fileN id L (j + 1)) ∧ (appG s (segN id L j) r).2.2.1 = (stepF s (appendK (nameB id) (Rc.runL r))).2 ∧ (appG s (segN id L j) r).2.2.2 = segN id L (j + 1) ∧ (appG s (segN id L j) r).2.2.1.quota = s.quota ∧ (appG s (segN id L j) r).2.2.1.steps = s.steps + 1 := by
  have hm := hL.may r (List.mem_of_getElem? h)
  have hs := hL.num j r h
  have hj : j < L.length := (List.getElem?_eq_some_iff.1 h).1
  have hf := hL.few
  have ho := offN_le hL j
  have hz := Rc.may_size hm
  have hlen : (fileN id L j).bytes.length = offN L j := by rw [(fileN_bytes id L j).1, bytesN11_length]; rfl
  have hap := hl.toN.append (mayN_name hi) (b := Rc.runL r) run_ne (by rw [hlen, Rc.runL_length]; omega)
  have e1 : (segN id L j).id = id := rfl
  have e2 : (segN id L j).size = offN L j := rfl
  have e3 : (segN id L j).last = j := rfl
  unfold appG
  rw [if_neg (by rw [hm, hs, e3]; simp; omega), if_neg (by rw [e2]; omega), e1, if_pos hap.1]
  refine ⟨rfl, by rw [e2], ?_, rfl, segN_next hL h, hap.2.2.2.1, hap.2.2.2.2⟩
  rw [fileN_next h]
  exact hl.by_step hap.2
end Go.Proofs.YtaicibmaogiibaaGreatDoor.Sg

/- SgRead -/

/-
  Layer 11: Read.
-/
set_option linter.unusedVariables false
set_option linter.unusedSimpArgs false
namespace Go.Proofs.YtaicibmaogiibaaGreatDoor.Sg
open Go Go.RowKit

section
variable {w : World} {G A u q T B : Nat} {M R : Nat → Prop} {s : FsP} {x : S} {nm : ByteArray}
/-- what is read at a byte of a segment's file -/
def readQ (b : List UInt8) (size off : Nat) : Rc.Rec × Nat × Nat := Rc.getQ ((b.drop off).take (min (size - off) 1113))
end
end Go.Proofs.YtaicibmaogiibaaGreatDoor.Sg

