
/-
  Layer 7: what the document's examples say (the laws' 'wakes').
-/
import Derived.Test.YtboeiadfmknidaaGreatJfLive
import Derived.Lib.SlBytesConst
set_option linter.unusedVariables false
set_option linter.unusedSimpArgs false
namespace Go.Proofs.YtboeiadfmknidaaGreat
open Go.RowKit Go.Maps

theorem bsIn_lit7 {w : World} (l : List UInt8) (n : Nat) (hn : n = l.length) (C : Array Value) (hC : C = (bvs l).toArray) (e : TypeId) (q : Nat × Nat) : BsIn (w.alloc (.cells C e q)) (fun i => i = w.heap.size) (.slice (some ⟨w.heap.size, 0, none⟩) n n) l := by
  subst hn hC
  refine ⟨_, _, rfl, Nat.le_refl _, fun _ => ⟨w.heap.size, 0, rfl, rfl, fun j u hu => ?_⟩⟩
  rw [Nat.zero_add, cell_of_row (w.alloc (.cells (bvs l).toArray e q)) w.heap.size j _ e q (heap_alloc_new w _)]
  simpa using hu
theorem nm7 {n : ByteArray} (h : n.size ≤ 1000) : n.size ≤ maxLen := by unfold maxLen; omega
set_option maxRecDepth 100000 in
set_option maxHeartbeats 16000000 in
theorem kwakes (w : World) : Calls Tryz.prog 7 #[] w fun e w' => e = .returned (.bool true) ∧ Below w.heap.size w w' := by
  have kc := fun (w : World) (C : Array Value) (n c : Nat) => Lib.run_convert_bytes_const (P := Tryz.prog) w 23 5 C n c Tryz.underlying23 Tryz.underlying5
  have hA : nA7.size ≤ maxLen := nm7 (by decide)
  have hB : nB7.size ≤ maxLen := nm7 (by decide)
  have hC : nC7.size ≤ maxLen := nm7 (by decide)
  have HNA := Lib.hid hA
  have HNB := Lib.hid hB
  have HNC := Lib.hid hC
  clear hA hB hC
  go_enter Tryz.func7, Tryz.ntmps7
  go_wp2_with fail
  refine (knew w 10 (by decide)).mono ?_
  rintro e w0 ⟨A, M0, rfl, hm, hb, hM⟩
  have HL0 : Hid (FLive w w0 A M0 (fun _ => False) wk0) := ⟨hm, hb, hM, fun i e => e.elim⟩
  clear hm hb hM
  have HL := Lib.hid HL0.out
  go_wp2_with fail
  have hc := kcreate HNA.out HL.out.fs wi0 (by decide) (by decide) (by have h := wst; omega)
  rw [wc1] at hc
  refine hc.mono ?_
  rintro e w1 ⟨rfl, hm⟩
  obtain ⟨M1, R1, hl⟩ := FLive.step_ (s' := wk1) HL.out hm
  have HL1 := Lib.hid hl
  clear hc hm hl HL HL0
  go_wp2_with fail
  have HX : Hid (Below w1.heap.size w1 (w1.alloc (.cells #[.int .u8 97, .int .u8 98, .int .u8 99, .int .u8 100, .int .u8 101, .int .u8 102] 5 (6, 7)))) := (Below.refl _ _).alloc (Nat.le_refl _) _
  have HL := Lib.hid (HL1.out.on HX.out)
  have hc := kappend HNA.out HL.out.fs wi1 (by decide) (by have h := wst; omega) (bsIn_lit7 (w := w1) [97, 98, 99, 100, 101, 102] 6 rfl _ rfl _ _) (fun x hx e => by have := HL1.out.fs.ml x hx; omega) (by decide)
  rw [wc2] at hc
  refine hc.mono ?_
  rintro e w2 ⟨rfl, hm⟩
  obtain ⟨M2, R2, hl⟩ := FLive.step_ (s' := wk2) HL.out hm
  have HL2 := Lib.hid hl
  clear hc hm hl HL HL1 HX
  go_wp2_with fail
  have HX : Hid (Below w2.heap.size w2 (w2.alloc (.cells #[.int .u8 103, .int .u8 104, .int .u8 105, .int .u8 106, .int .u8 107] 5 (5, 6)))) := (Below.refl _ _).alloc (Nat.le_refl _) _
  have HL := Lib.hid (HL2.out.on HX.out)
  have hc := kappend HNA.out HL.out.fs wi2 (by decide) (by have h := wst; omega) (bsIn_lit7 (w := w2) [103, 104, 105, 106, 107] 5 rfl _ rfl _ _) (fun x hx e => by have := HL2.out.fs.ml x hx; omega) (by decide)
  rw [wc3] at hc
  refine hc.mono ?_
  rintro e w3 ⟨rfl, hm⟩
  obtain ⟨M3, R3, hl⟩ := FLive.step_ (s' := wk3) HL.out hm
  have HL3 := Lib.hid hl
  clear hc hm hl HL HL2 HX
  have HL := Lib.hid HL3.out
  go_wp2_with fail
  have hc := ksync HNA.out HL.out.fs wi3 (by decide) (by have h := wst; omega)
  rw [wc4] at hc
  refine hc.mono ?_
  rintro e w4 ⟨rfl, hm⟩
  obtain ⟨M4, R4, hl⟩ := FLive.step_ (s' := wk4) HL.out hm
  have HL4 := Lib.hid hl
  clear hc hm hl HL HL3
  go_wp2_with fail
  have HX : Hid (Below w4.heap.size w4 (w4.alloc (.cells #[.int .i64 0] 3))) := (Below.refl _ _).alloc (Nat.le_refl _) _
  have HL := Lib.hid (HL4.out.on HX.out)
  refine (kcrash HL.out.fs wi4 (by decide) (by decide) (isR_lit w4 [0] 1 rfl _ rfl _ (by decide)) (fun x hx e => by have := HL4.out.fs.ml x hx; omega) (fun x e => by have e : x = w4.heap.size := e; rw [e]; simp) (by decide)).mono ?_
  rintro e w5 ⟨rfl, hm⟩
  obtain ⟨M5, R5, hl⟩ := FLive.step_ (s' := wk5) HL.out hm
  have HL5 := Lib.hid hl
  clear hm hl HL HL4 HX
  go_wp2_with fail
  have hc := klist HL5.out.fs wo5
  rw [wc5] at hc
  refine hc.mono ?_
  rintro e w6 ⟨v, rfl, ho, hb⟩
  obtain ⟨Av, cv, rfl, _, _, _⟩ := own_slice ho
  have HL6 := Lib.hid (HL5.out.on hb)
  clear hc ho hb HL5
  have HL := Lib.hid HL6.out
  go_wp2_with fail
  refine (kcreate HNA.out HL.out.fs wi5 (by decide) (by decide) (by have h := wst; omega)).mono ?_
  rintro e w7 ⟨rfl, hm⟩
  obtain ⟨M7, R7, hl⟩ := FLive.step_ (s' := wk6) HL.out hm
  have HL7 := Lib.hid hl
  clear hm hl HL HL6
  have HL := Lib.hid HL7.out
  go_wp2_with fail
  refine (ksyncdir HL.out.fs wi6 (by decide) (by decide) (by have h := wst; omega)).mono ?_
  rintro e w8 ⟨rfl, hm⟩
  obtain ⟨M8, R8, hl⟩ := FLive.step_ (s' := wk7) HL.out hm
  have HL8 := Lib.hid hl
  clear hm hl HL HL7
  go_wp2_with fail
  have HX : Hid (Below w8.heap.size w8 (w8.alloc (.cells #[.int .u8 120, .int .u8 121, .int .u8 122] 5 (3, 4)))) := (Below.refl _ _).alloc (Nat.le_refl _) _
  have HL := Lib.hid (HL8.out.on HX.out)
  have hc := kappend HNA.out HL.out.fs wi7 (by decide) (by have h := wst; omega) (bsIn_lit7 (w := w8) [120, 121, 122] 3 rfl _ rfl _ _) (fun x hx e => by have := HL8.out.fs.ml x hx; omega) (by decide)
  rw [wc8] at hc
  refine hc.mono ?_
  rintro e w9 ⟨rfl, hm⟩
  obtain ⟨M9, R9, hl⟩ := FLive.step_ (s' := wk8) HL.out hm
  have HL9 := Lib.hid hl
  clear hc hm hl HL HL8 HX
  go_wp2_with fail
  have HX : Hid (Below w9.heap.size w9 (w9.alloc (.cells #[.int .i64 0, .int .i64 2] 3))) := (Below.refl _ _).alloc (Nat.le_refl _) _
  have HL := Lib.hid (HL9.out.on HX.out)
  refine (kcrash HL.out.fs wi8 (by decide) (by decide) (isR_lit w9 [0, 2] 2 rfl _ rfl _ (by decide)) (fun x hx e => by have := HL9.out.fs.ml x hx; omega) (fun x e => by have e : x = w9.heap.size := e; rw [e]; simp) (by decide)).mono ?_
  rintro e w10 ⟨rfl, hm⟩
  obtain ⟨M10, R10, hl⟩ := FLive.step_ (s' := wk9) HL.out hm
  have HL10 := Lib.hid hl
  clear hm hl HL HL9 HX
  go_wp2_with fail
  have hc := kread (i := 2) (L := 2) HL10.out.fs wi9 (by decide) wo9 HNA.out wc9 (by rw [wf9]; rfl)
  rw [wf9] at hc
  refine hc.mono ?_
  rintro e w11 ⟨r, rfl, ho, hb⟩
  have HL11 := Lib.hid (HL10.out.on hb)
  obtain ⟨Ar, cr, rfl, h91, h92, _⟩ := own_slice ho
  have HR11 : Hid (BsIn w11 (fun i => w10.heap.size ≤ i ∧ i < w11.heap.size) (.slice Ar 2 cr) [120, 121]) := ⟨Ar, cr, rfl, h91, rdR_of_own ho⟩
  have HM10' : Hid (∀ i, M10 i → i < w10.heap.size) := HL10.out.fs.ml
  clear hc ho hb HL10
  go_wp2_with fail
  have hc := kfuseset (z := 1) (by decide) HL11.out.fs
  rw [wc10] at hc
  refine hc.mono ?_
  rintro e w12 ⟨rfl, hm⟩
  obtain ⟨M12, R12, hl, hg, hMM, _⟩ := FLive.step (s' := wk10) HL11.out hm
  have HL12 := Lib.hid hl
  have HM10 := Lib.hid HM10'.out
  have HR12 : Hid (BsIn w12 (fun i => w10.heap.size ≤ i ∧ i < w11.heap.size) (.slice Ar 2 cr) [120, 121]) := HR11.out.chg hg (fun i hi e => by have := HM10.out i hi; omega)
  have HM12 : Hid (∀ i, M12 i → ¬ (w10.heap.size ≤ i ∧ i < w11.heap.size)) := fun i hi e => (hMM i hi).elim (fun h => by have := HM10.out i h; omega) (fun h => by omega)
  have Hs12 := Lib.hid hg.size
  clear hc hm hl hg hMM HL11 HR11
  go_wp2_with fail
  have hc := kcreate HNB.out HL12.out.fs wi10 (by decide) (by decide) (by have h := wst; omega)
  rw [wc11] at hc
  refine hc.mono ?_
  rintro e w13 ⟨rfl, hm⟩
  obtain ⟨M13, R13, hl, hg, hMM, _⟩ := FLive.step (s' := wk11) HL12.out hm
  have HL13 := Lib.hid hl
  have HR13 : Hid (BsIn w13 (fun i => w10.heap.size ≤ i ∧ i < w11.heap.size) (.slice Ar 2 cr) [120, 121]) := HR12.out.chg hg HM12.out
  have HM13 : Hid (∀ i, M13 i → ¬ (w10.heap.size ≤ i ∧ i < w11.heap.size)) := fun i hi e => (hMM i hi).elim (fun h => HM12.out i h e) (fun h => by have := Hs12.out; omega)
  clear hc hm hl hg hMM HL12 HR12
  go_wp2_with fail
  have hc := kcreate HNC.out HL13.out.fs wi11 (by decide) (by decide) (by have h := wst; omega)
  rw [wc12] at hc
  refine hc.mono ?_
  rintro e w14 ⟨rfl, hm⟩
  obtain ⟨M14, R14, hl, hg, hMM, _⟩ := FLive.step (s' := wk12) HL13.out hm
  have HL14 := Lib.hid hl
  have hR14 : BsIn w14 (fun i => w10.heap.size ≤ i ∧ i < w11.heap.size) (.slice Ar 2 cr) [120, 121] := HR13.out.chg hg HM13.out
  obtain ⟨A9, c9, e9, _, hrd⟩ := hR14
  injection e9 with e91 _ e92
  subst e91 e92
  have hcv : (convert 23 9 (.slice Ar 2 cr)).run Tryz.prog w14 = .ok (.string { data := #[120, 121] }) w14 := convert_rd (P := Tryz.prog) hrd.rd cr 23 5 9 Tryz.underlying23 Tryz.underlying5 Tryz.underlying9
  have hon := kon HL14.out.fs
  rw [wo12] at hon
  have HON := Lib.hid hon
  clear hc hm hl hg hMM HL13 HR13 hrd hon
  go_wp2_with fail
  refine HON.out.mono ?_
  rintro e w15 ⟨rfl, hb⟩
  have HF := Lib.hid (HL14.out.below.trans (hb.mono HL14.out.below.size))
  clear hb hcv
  go_wp2_with fail
  go_ret
  exact ⟨rfl, HF.out⟩
end Go.Proofs.YtboeiadfmknidaaGreat
