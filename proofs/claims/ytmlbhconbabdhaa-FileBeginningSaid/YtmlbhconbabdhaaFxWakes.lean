
/-
  Layer 5: what the document's examples say (the laws' 'wakes').
-/
import Derived.Test.YtmlbhconbabdhaaFxDoes
import Derived.Lib.SlBytesConst
set_option linter.unusedVariables false
set_option linter.unusedSimpArgs false
namespace Go.Proofs.Ytmlbhconbabdhaa
open Go.RowKit

/-- a slice literal, whose array a string may share -/
theorem BsIn.lit {w : World} (l : List UInt8) (n : Nat) (hn : n = l.length) (C : Array Value) (hC : C = (bvs l).toArray) (e : TypeId) (q : Nat × Nat) : BsIn (w.alloc (.cells C e q)) (fun i => i = w.heap.size) (.slice (some ⟨w.heap.size, 0, none⟩) n n) l := by
  subst hn hC
  refine ⟨_, _, rfl, Nat.le_refl _, fun _ => ⟨w.heap.size, 0, rfl, rfl, fun j u hu => ?_⟩⟩
  rw [Nat.zero_add, cell_of_row (w.alloc (.cells (bvs l).toArray e q)) w.heap.size j _ e q (heap_alloc_new w _)]
  simpa using hu
/-- a file that a literal is appended to -/
def s0 : FSt := (((FSt.new [97, 98, 99]).app [100, 101]).cutd 4).app [102, 103]
set_option maxRecDepth 100000 in
set_option maxHeartbeats 16000000 in
theorem fwakes (w : World) : Calls Try.prog 17 #[] w fun e w' => e = .returned (.bool true) ∧ Below w.heap.size w w' := by
  have kc := fun (w : World) (C : Array Value) (n c : Nat) => Lib.run_convert_bytes_const (P := Try.prog) w 22 5 C n c Try.underlying22 Try.underlying5
  go_enter Try.func17, Try.ntmps17
  go_wp2_with fail
  refine (fnew_b (b := [97, 98, 99]) (BsIn.lit (w := w) [97, 98, 99] 3 rfl _ rfl _ _).bs (Nat.le_refl _) (by decide)).mono ?_
  rintro e w1 ⟨F, M, rfl, hf, hb, hM⟩
  have HF1 := Lib.hid hf
  have HB1 : Hid (Below w.heap.size w w1) := ((Below.refl _ _).alloc (Nat.le_refl _) _).trans (hb.mono (by simp))
  have HM1 : Hid (∀ i, M i → w.heap.size ≤ i) := fun i hi => by have := hM i hi; simp at this; omega
  clear hf hb hM
  go_wp2_with fail
  have HA1 : Hid (Below w1.heap.size w1 (w1.alloc (.cells #[.int .u8 100, .int .u8 101] 5 (2, 3)))) := (Below.refl _ _).alloc (Nat.le_refl _) _
  refine (fappend_m (r := [100, 101]) (HF1.out.on HA1.out) (BsIn.lit (w := w1) [100, 101] 2 rfl _ rfl _ _) (fun i hi e => by have := HF1.out.2.2.1 i hi; omega) (by decide) (by decide)).mono ?_
  rintro e w2 ⟨rfl, hm⟩
  obtain ⟨M2, R2, hf2, hc2, hM2, hR2⟩ := hm
  have HF2 := Lib.hid hf2
  have HB2 : Hid (Below w.heap.size w w2) := HB1.out.trans ((HA1.out.mono HB1.out.size).trans (hc2.below (Nat.le_trans HB1.out.size HA1.out.size) HM1.out))
  have HM2 : Hid (∀ i, M2 i → w.heap.size ≤ i) := fun i hi => (hM2 i hi).elim (HM1.out i) (fun h => Nat.le_trans (Nat.le_trans HB1.out.size HA1.out.size) h)
  clear hf2 hc2 hM2 hR2
  go_wp2_with fail
  refine (fcut_m HF2.out 4 (by decide) (by decide)).mono ?_
  rintro e w3 ⟨rfl, hm⟩
  obtain ⟨M3, R3, hf3, hc3, hM3, hR3⟩ := hm
  have HF3 := Lib.hid hf3
  have HB3 : Hid (Below w.heap.size w w3) := HB2.out.trans (hc3.below HB2.out.size HM2.out)
  have HM3 : Hid (∀ i, M3 i → w.heap.size ≤ i) := fun i hi => (hM3 i hi).elim (HM2.out i) (fun h => Nat.le_trans HB2.out.size h)
  clear hf3 hc3 hM3 hR3
  go_wp2_with fail
  have HA3 : Hid (Below w3.heap.size w3 (w3.alloc (.cells #[.int .u8 102, .int .u8 103] 5 (2, 3)))) := (Below.refl _ _).alloc (Nat.le_refl _) _
  refine (fappend_m (r := [102, 103]) (HF3.out.on HA3.out) (BsIn.lit (w := w3) [102, 103] 2 rfl _ rfl _ _) (fun i hi e => by have := HF3.out.2.2.1 i hi; omega) (by decide) (by decide)).mono ?_
  rintro e w4 ⟨rfl, hm⟩
  obtain ⟨M4, R4, hf4, hc4, hM4, hR4⟩ := hm
  have HF4 : Hid (FileM w4 F M4 R4 s0) := hf4
  have HB4 : Hid (Below w.heap.size w w4) := HB3.out.trans ((HA3.out.mono HB3.out.size).trans (hc4.below (Nat.le_trans HB3.out.size HA3.out.size) HM3.out))
  have HM4 : Hid (∀ i, M4 i → w.heap.size ≤ i) := fun i hi => (hM4 i hi).elim (HM3.out i) (fun h => Nat.le_trans (Nat.le_trans HB3.out.size HA3.out.size) h)
  clear hf4 hc4 hM4 hR4 HF1 HF2 HF3 HB1 HB2 HB3 HM1 HM2 HM3 HA1 HA3
  go_wp2_with fail
  refine (fsize_m HF4.out (by decide) 6 (by decide)).mono ?_
  rintro e w5 ⟨rfl, hb5⟩
  have HF5 := Lib.hid (HF4.out.on hb5)
  have HB5 := Lib.hid (HB4.out.trans (hb5.mono HB4.out.size))
  clear hb5 HF4 HB4
  go_wp2_with fail
  refine (fsafe_m HF5.out 3 (by decide)).mono ?_
  rintro e w6 ⟨rfl, hb6⟩
  have HF6 := Lib.hid (HF5.out.on hb6)
  have HB6 := Lib.hid (HB5.out.trans (hb6.mono HB5.out.size))
  clear hb6 HF5 HB5
  go_wp2_with fail
  refine (floose_m HF6.out 5 (by decide)).mono ?_
  rintro e w7 ⟨rfl, hb7⟩
  have HF7 := Lib.hid (HF6.out.on hb7)
  have HB7 := Lib.hid (HB6.out.trans (hb7.mono HB6.out.size))
  clear hb7 HF6 HB6
  go_wp2_with fail
  generalize M4 = M at *
  generalize R4 = R at *
  go_loopw [36] (fun i wr => ∃ j : Nat, j ≤ 5 ∧ i = .int .i64 j ∧ FileM wr F M R s0 ∧ Below w.heap.size w wr) (fun i _ => 5 - (intOf i).toNat)
  case atStart => exact ⟨0, by omega, rfl, HF7.out, HB7.out⟩
  case round =>
    obtain ⟨j, hj, rfl, hf, hb⟩ := hrel
    have HF := Lib.hid hf
    have HB := Lib.hid hb
    clear hf hb HF7 HB7
    rcases (show j = 0 ∨ j = 1 ∨ j = 2 ∨ j = 3 ∨ j = 4 ∨ j = 5 by omega) with rfl | rfl | rfl | rfl | rfl | rfl
    · have hix : ∀ w : World, (Instr.index 58 (.agg #[.string { data := #[97, 98, 99] }, .string { data := #[97, 98, 99, 100] }, .string { data := #[] }, .string { data := #[97, 98, 99, 100] }, .string { data := #[97, 98, 99, 100, 102] }]) (.int .i64 0)).run Try.prog w = .ok (.string { data := #[97, 98, 99] }) w := fun _ => by kernel_rfl
      go_wp2_with fail
      refine (fcopy_m HF.out (by decide)).mono ?_
      rintro e w1 ⟨F1, M1, rfl, hc, hb1, hM1⟩
      have HC := Lib.hid hc
      have HB1 := Lib.hid hb1
      have HM1 := Lib.hid hM1
      clear hc hb1 hM1
      go_wp2_with fail
      refine (fcrash_m HC.out (by decide) 0 0 (by decide)).mono ?_
      rintro e w2 ⟨rfl, hm⟩
      obtain ⟨M2, R2, hf2, hc2, hM2, hR2⟩ := hm
      have HF2 := Lib.hid hf2
      have HC2 := Lib.hid hc2
      clear hf2 hc2 hM2 hR2
      have HFa := Lib.hid (HF.out.on HB1.out)
      have HFb : Hid (FileM w2 F M R s0) := HFa.out.chg HC2.out (fun i hi => ⟨fun e => by have h1 := HM1.out i hi; have h2 := HF.out.2.2.1 i e; omega, fun e => by have h1 := HM1.out i hi; have h2 := HF.out.2.2.2.1 i e; omega⟩)
      have HBb : Hid (Below w.heap.size w w2) := HB.out.trans (HB1.out.mono HB.out.size |>.trans (HC2.out.below (Nat.le_trans HB.out.size HB1.out.size) (fun i hi => Nat.le_trans HB.out.size (HM1.out i hi))))
      go_wp2_with fail
      refine (fall_m HF2.out (by decide)).mono ?_
      rintro e w3 ⟨r, rfl, ho3, hb3⟩
      have HB3 := Lib.hid hb3
      have hbs := Bs.of_own (l := [97, 98, 99]) (by exact ho3)
      clear ho3 hb3
      obtain ⟨Ar, cr, rfl, _, hrd⟩ := hbs
      have hcv : (convert 22 9 (.slice Ar 3 cr)).run Try.prog w3 = .ok (.string { data := #[97, 98, 99] }) w3 := convert_rd (P := Try.prog) hrd cr 22 5 9 Try.underlying22 Try.underlying5 Try.underlying9
      clear hrd
      go_wp2_with fail
      go_roundw
      case rel => exact ⟨1, by omega, by go_num, HFb.out.on HB3.out, HBb.out.trans (HB3.out.mono HBb.out.size)⟩
      case measure => simp [intOf]
    · have hix : ∀ w : World, (Instr.index 58 (.agg #[.string { data := #[97, 98, 99] }, .string { data := #[97, 98, 99, 100] }, .string { data := #[] }, .string { data := #[97, 98, 99, 100] }, .string { data := #[97, 98, 99, 100, 102] }]) (.int .i64 1)).run Try.prog w = .ok (.string { data := #[97, 98, 99, 100] }) w := fun _ => by kernel_rfl
      go_wp2_with fail
      refine (fcopy_m HF.out (by decide)).mono ?_
      rintro e w1 ⟨F1, M1, rfl, hc, hb1, hM1⟩
      have HC := Lib.hid hc
      have HB1 := Lib.hid hb1
      have HM1 := Lib.hid hM1
      clear hc hb1 hM1
      go_wp2_with fail
      refine (fcrash_m HC.out (by decide) 1 1 (by decide)).mono ?_
      rintro e w2 ⟨rfl, hm⟩
      obtain ⟨M2, R2, hf2, hc2, hM2, hR2⟩ := hm
      have HF2 := Lib.hid hf2
      have HC2 := Lib.hid hc2
      clear hf2 hc2 hM2 hR2
      have HFa := Lib.hid (HF.out.on HB1.out)
      have HFb : Hid (FileM w2 F M R s0) := HFa.out.chg HC2.out (fun i hi => ⟨fun e => by have h1 := HM1.out i hi; have h2 := HF.out.2.2.1 i e; omega, fun e => by have h1 := HM1.out i hi; have h2 := HF.out.2.2.2.1 i e; omega⟩)
      have HBb : Hid (Below w.heap.size w w2) := HB.out.trans (HB1.out.mono HB.out.size |>.trans (HC2.out.below (Nat.le_trans HB.out.size HB1.out.size) (fun i hi => Nat.le_trans HB.out.size (HM1.out i hi))))
      go_wp2_with fail
      refine (fall_m HF2.out (by decide)).mono ?_
      rintro e w3 ⟨r, rfl, ho3, hb3⟩
      have HB3 := Lib.hid hb3
      have hbs := Bs.of_own (l := [97, 98, 99, 100]) (by exact ho3)
      clear ho3 hb3
      obtain ⟨Ar, cr, rfl, _, hrd⟩ := hbs
      have hcv : (convert 22 9 (.slice Ar 4 cr)).run Try.prog w3 = .ok (.string { data := #[97, 98, 99, 100] }) w3 := convert_rd (P := Try.prog) hrd cr 22 5 9 Try.underlying22 Try.underlying5 Try.underlying9
      clear hrd
      go_wp2_with fail
      go_roundw
      case rel => exact ⟨2, by omega, by go_num, HFb.out.on HB3.out, HBb.out.trans (HB3.out.mono HBb.out.size)⟩
      case measure => simp [intOf]
    · have hix : ∀ w : World, (Instr.index 58 (.agg #[.string { data := #[97, 98, 99] }, .string { data := #[97, 98, 99, 100] }, .string { data := #[] }, .string { data := #[97, 98, 99, 100] }, .string { data := #[97, 98, 99, 100, 102] }]) (.int .i64 2)).run Try.prog w = .ok (.string { data := #[] }) w := fun _ => by kernel_rfl
      go_wp2_with fail
      refine (fcopy_m HF.out (by decide)).mono ?_
      rintro e w1 ⟨F1, M1, rfl, hc, hb1, hM1⟩
      have HC := Lib.hid hc
      have HB1 := Lib.hid hb1
      have HM1 := Lib.hid hM1
      clear hc hb1 hM1
      go_wp2_with fail
      refine (fcrash_m HC.out (by decide) 2 2 (by decide)).mono ?_
      rintro e w2 ⟨rfl, hm⟩
      obtain ⟨M2, R2, hf2, hc2, hM2, hR2⟩ := hm
      have HF2 := Lib.hid hf2
      have HC2 := Lib.hid hc2
      clear hf2 hc2 hM2 hR2
      have HFa := Lib.hid (HF.out.on HB1.out)
      have HFb : Hid (FileM w2 F M R s0) := HFa.out.chg HC2.out (fun i hi => ⟨fun e => by have h1 := HM1.out i hi; have h2 := HF.out.2.2.1 i e; omega, fun e => by have h1 := HM1.out i hi; have h2 := HF.out.2.2.2.1 i e; omega⟩)
      have HBb : Hid (Below w.heap.size w w2) := HB.out.trans (HB1.out.mono HB.out.size |>.trans (HC2.out.below (Nat.le_trans HB.out.size HB1.out.size) (fun i hi => Nat.le_trans HB.out.size (HM1.out i hi))))
      go_wp2_with fail
      go_roundw
      case rel => exact ⟨3, by omega, by go_num, HFb.out, HBb.out⟩
      case measure => simp [intOf]
    · have hix : ∀ w : World, (Instr.index 58 (.agg #[.string { data := #[97, 98, 99] }, .string { data := #[97, 98, 99, 100] }, .string { data := #[] }, .string { data := #[97, 98, 99, 100] }, .string { data := #[97, 98, 99, 100, 102] }]) (.int .i64 3)).run Try.prog w = .ok (.string { data := #[97, 98, 99, 100] }) w := fun _ => by kernel_rfl
      go_wp2_with fail
      refine (fcopy_m HF.out (by decide)).mono ?_
      rintro e w1 ⟨F1, M1, rfl, hc, hb1, hM1⟩
      have HC := Lib.hid hc
      have HB1 := Lib.hid hb1
      have HM1 := Lib.hid hM1
      clear hc hb1 hM1
      go_wp2_with fail
      refine (fcrash_m HC.out (by decide) 3 3 (by decide)).mono ?_
      rintro e w2 ⟨rfl, hm⟩
      obtain ⟨M2, R2, hf2, hc2, hM2, hR2⟩ := hm
      have HF2 := Lib.hid hf2
      have HC2 := Lib.hid hc2
      clear hf2 hc2 hM2 hR2
      have HFa := Lib.hid (HF.out.on HB1.out)
      have HFb : Hid (FileM w2 F M R s0) := HFa.out.chg HC2.out (fun i hi => ⟨fun e => by have h1 := HM1.out i hi; have h2 := HF.out.2.2.1 i e; omega, fun e => by have h1 := HM1.out i hi; have h2 := HF.out.2.2.2.1 i e; omega⟩)
      have HBb : Hid (Below w.heap.size w w2) := HB.out.trans (HB1.out.mono HB.out.size |>.trans (HC2.out.below (Nat.le_trans HB.out.size HB1.out.size) (fun i hi => Nat.le_trans HB.out.size (HM1.out i hi))))
      go_wp2_with fail
      refine (fall_m HF2.out (by decide)).mono ?_
      rintro e w3 ⟨r, rfl, ho3, hb3⟩
      have HB3 := Lib.hid hb3
      have hbs := Bs.of_own (l := [97, 98, 99, 100]) (by exact ho3)
      clear ho3 hb3
      obtain ⟨Ar, cr, rfl, _, hrd⟩ := hbs
      have hcv : (convert 22 9 (.slice Ar 4 cr)).run Try.prog w3 = .ok (.string { data := #[97, 98, 99, 100] }) w3 := convert_rd (P := Try.prog) hrd cr 22 5 9 Try.underlying22 Try.underlying5 Try.underlying9
      clear hrd
      go_wp2_with fail
      go_roundw
      case rel => exact ⟨4, by omega, by go_num, HFb.out.on HB3.out, HBb.out.trans (HB3.out.mono HBb.out.size)⟩
      case measure => simp [intOf]
    · have hix : ∀ w : World, (Instr.index 58 (.agg #[.string { data := #[97, 98, 99] }, .string { data := #[97, 98, 99, 100] }, .string { data := #[] }, .string { data := #[97, 98, 99, 100] }, .string { data := #[97, 98, 99, 100, 102] }]) (.int .i64 4)).run Try.prog w = .ok (.string { data := #[97, 98, 99, 100, 102] }) w := fun _ => by kernel_rfl
      go_wp2_with fail
      refine (fcopy_m HF.out (by decide)).mono ?_
      rintro e w1 ⟨F1, M1, rfl, hc, hb1, hM1⟩
      have HC := Lib.hid hc
      have HB1 := Lib.hid hb1
      have HM1 := Lib.hid hM1
      clear hc hb1 hM1
      go_wp2_with fail
      refine (fcrash_m HC.out (by decide) 4 4 (by decide)).mono ?_
      rintro e w2 ⟨rfl, hm⟩
      obtain ⟨M2, R2, hf2, hc2, hM2, hR2⟩ := hm
      have HF2 := Lib.hid hf2
      have HC2 := Lib.hid hc2
      clear hf2 hc2 hM2 hR2
      have HFa := Lib.hid (HF.out.on HB1.out)
      have HFb : Hid (FileM w2 F M R s0) := HFa.out.chg HC2.out (fun i hi => ⟨fun e => by have h1 := HM1.out i hi; have h2 := HF.out.2.2.1 i e; omega, fun e => by have h1 := HM1.out i hi; have h2 := HF.out.2.2.2.1 i e; omega⟩)
      have HBb : Hid (Below w.heap.size w w2) := HB.out.trans (HB1.out.mono HB.out.size |>.trans (HC2.out.below (Nat.le_trans HB.out.size HB1.out.size) (fun i hi => Nat.le_trans HB.out.size (HM1.out i hi))))
      go_wp2_with fail
      refine (fall_m HF2.out (by decide)).mono ?_
      rintro e w3 ⟨r, rfl, ho3, hb3⟩
      have HB3 := Lib.hid hb3
      have hbs := Bs.of_own (l := [97, 98, 99, 100, 102]) (by exact ho3)
      clear ho3 hb3
      obtain ⟨Ar, cr, rfl, _, hrd⟩ := hbs
      have hcv : (convert 22 9 (.slice Ar 5 cr)).run Try.prog w3 = .ok (.string { data := #[97, 98, 99, 100, 102] }) w3 := convert_rd (P := Try.prog) hrd cr 22 5 9 Try.underlying22 Try.underlying5 Try.underlying9
      clear hrd
      go_wp2_with fail
      go_roundw
      case rel => exact ⟨5, by omega, by go_num, HFb.out.on HB3.out, HBb.out.trans (HB3.out.mono HBb.out.size)⟩
      case measure => simp [intOf]
    · go_wp2_with fail
      refine (fcrash_m HF.out (by decide) 9 5 (by decide)).mono ?_
      rintro e w2 ⟨rfl, hm⟩
      obtain ⟨M2, R2, hf2, hc2, hM2, hR2⟩ := hm
      have HF2 := Lib.hid hf2
      have HBb : Hid (Below w.heap.size w w2) := HB.out.trans (hc2.below HB.out.size HM4.out)
      clear hf2 hc2 hM2 hR2
      go_wp2_with fail
      refine (fall_m HF2.out (by decide)).mono ?_
      rintro e w3 ⟨r, rfl, ho3, hb3⟩
      have HB3 := Lib.hid hb3
      have hbs := Bs.of_own (l := [97, 98, 99, 100, 102, 103]) (by exact ho3)
      clear ho3 hb3
      obtain ⟨Ar, cr, rfl, _, hrd⟩ := hbs
      have hcv : (convert 22 9 (.slice Ar 6 cr)).run Try.prog w3 = .ok (.string { data := #[97, 98, 99, 100, 102, 103] }) w3 := convert_rd (P := Try.prog) hrd cr 22 5 9 Try.underlying22 Try.underlying5 Try.underlying9
      clear hrd
      go_wp2_with fail
      go_ret
      exact ⟨rfl, HBb.out.trans (HB3.out.mono HBb.out.size)⟩
end Go.Proofs.Ytmlbhconbabdhaa
