
/-
  The walk of the law FileKnown: it returns true, and writes nothing that was there.
-/
import Derived.Test.YtmlbhconbabdhaaFxFlip
set_option linter.unusedVariables false
set_option linter.unusedSimpArgs false
namespace Go.Proofs.Ytmlbhconbabdhaa.fileKnown
open Go.RowKit

set_option maxRecDepth 100000 in
set_option maxHeartbeats 16000000 in
theorem walk (w : World) : Calls Try.prog 6 #[] w fun e w' => e = .returned (.bool true) ∧ Below w.heap.size w w' := by
  have HB : Hid (Below w.heap.size w w) := Below.refl _ _
  go_enter Try.func6, Try.ntmps6
  go_wp2_with fail
  refine (fread_nil 0 0 _).mono ?_
  rintro e w1 ⟨rfl, hb⟩
  replace HB := Lib.hid (HB.out.trans (hb.mono HB.out.size))
  clear hb
  go_wp2_with fail
  refine (fcrash_nil 0 _).mono ?_
  rintro e w2 ⟨rfl, hb⟩
  replace HB := Lib.hid (HB.out.trans (hb.mono HB.out.size))
  clear hb
  go_wp2_with fail
  have HL : Hid (Live w (w2.alloc (.cells #[.slice none 0 0, .int .i64 0, .slice none 0 0, .slice none 0 0, .int .i64 0] 51)) w2.heap.size (fun i => i = w2.heap.size) (fun _ => False) (FSt.new [])) := by
    have hf : FileAt (w2.alloc (.cells #[.slice none 0 0, .int .i64 0, .slice none 0 0, .slice none 0 0, .int .i64 0] 51)) w2.heap.size (fun _ => False) (.slice none 0 0) (.slice none 0 0) (.slice none 0 0) [] (FSt.new []) :=
      ⟨FCells.new w2 _ _ _ 0 0 _, World.ownsRow_nil _ _ _ _, World.ownsRow_nil _ _ _ _, World.ownsRow_nil _ _ _ _, DeedsAt.nil_, ⟨by simp [Value.ownBlock], by simp [Value.ownBlock], by simp [Value.ownBlock], by simp [Value.ownBlock], by simp [Value.ownBlock], by simp [Value.ownBlock]⟩, fun _ _ h => h⟩
    refine ⟨HB.out.trans ((Below.refl _ _).alloc HB.out.size _), ⟨FSt.new_ok _, fun _ _ h => h, fun i hi => by simp; omega, fun i h => h.elim, _, _, _, _, hf, ?_⟩, fun i hi => by have := HB.out.size; omega⟩
    rintro i (rfl | hi | hi | hi)
    · rfl
    · simp [Value.ownBlock] at hi
    · simp [Value.ownBlock] at hi
    · simp [Value.ownBlock] at hi
  have hWs : w2.heap.size + 1 = (w2.alloc (.cells #[.slice none 0 0, .int .i64 0, .slice none 0 0, .slice none 0 0, .int .i64 0] 51)).heap.size := by simp
  generalize World.alloc w2 _ = W at *
  replace HL := Lib.hid (HL.out.on (w' := W.alloc (.cells #[.int .u8 1, .int .u8 2] 5)) ((Below.refl _ _).alloc (Nat.le_refl _) _))
  have hlit := BsIn.lit (w := W) [1, 2] 2 rfl #[.int .u8 1, .int .u8 2] rfl 5 (0, 0)
  generalize w2.heap.size = F at *
  rw [← hWs] at hlit
  refine (fappend_m HL.out.file hlit (fun i h1 h2 => by have h1 : i = F := h1; have h2 : i = F + 1 := h2; omega) (by decide) (by decide)).mono ?_
  rintro e w3 ⟨rfl, hm⟩
  obtain ⟨M3, R3, hl, _, _, _⟩ := HL.out.mut hm
  clear hm HL
  have HL : Hid (Live w w3 F M3 R3 ((FSt.new []).app [1, 2])) := hl
  clear hl
  go_wp2_with fail
  refine (fflip_deeds HL.out.file (by decide) (by decide) 0 1).mono ?_
  rintro e w4 ⟨rfl, hb⟩
  replace HL := Lib.hid (HL.out.on hb)
  clear hb
  go_wp2_with fail
  refine (fsync_m HL.out.file (by decide)).mono ?_
  rintro e w5 ⟨rfl, hm⟩
  obtain ⟨M5, R5, hl, _, _, _⟩ := HL.out.mut hm
  clear hm HL
  have HL : Hid (Live w w5 F M5 R5 (((FSt.new []).app [1, 2]).settled 2)) := hl
  clear hl
  go_wp2_with fail
  refine (fflip_at HL.out.file rfl (by decide) 1 2 130 128 rfl (by kernel_rfl)).mono ?_
  rintro e w6 ⟨rfl, hm⟩
  obtain ⟨M6, R6, hl, _, _, _⟩ := HL.out.mut hm
  clear hm HL
  have HL : Hid (Live w w6 F M6 R6 (FSt.new [1, 130])) := hl
  clear hl
  go_wp2_with fail
  refine (fread_m HL.out.file (by decide) 0 2 (by decide)).mono ?_
  rintro e w7 ⟨x, rfl, ho, hb⟩
  replace HL := Lib.hid (HL.out.on hb)
  have HX : Hid (Bs w7 w7.heap.size x [1, 130]) := Bs.of_own (l := [1, 130]) (by exact ho)
  clear ho hb
  go_wp2_with fail
  refine (fcrash_neg F (-1) (by decide) _).mono ?_
  rintro e w8 ⟨rfl, hb⟩
  replace HL := Lib.hid (HL.out.on hb)
  replace HX := Lib.hid ((HX.out.below hb (Nat.le_refl _)).mono hb.size)
  clear hb
  go_wp2_with fail
  refine (fread_neg F (-1) 1 (by decide) _).mono ?_
  rintro e w9 ⟨rfl, hb⟩
  replace HL := Lib.hid (HL.out.on hb)
  replace HX := Lib.hid ((HX.out.below hb (Nat.le_refl _)).mono hb.size)
  clear hb
  go_wp2_with fail
  refine (fread_neg F 1 (-1) (by decide) _).mono ?_
  rintro e w10 ⟨rfl, hb⟩
  replace HL := Lib.hid (HL.out.on hb)
  replace HX := Lib.hid ((HX.out.below hb (Nat.le_refl _)).mono hb.size)
  clear hb
  go_wp2_with fail
  refine (fread_short HL.out.file (by decide) 4611686018427387904 1 (by decide) (by decide) (by decide)).mono ?_
  rintro e w11 ⟨rfl, hb⟩
  replace HL := Lib.hid (HL.out.on hb)
  replace HX := Lib.hid ((HX.out.below hb (Nat.le_refl _)).mono hb.size)
  clear hb
  go_wp2_with fail
  refine (fread_m HL.out.file (by decide) 2 0 (by decide)).mono ?_
  rintro e w12 ⟨y, rfl, ho, hb⟩
  replace HL := Lib.hid (HL.out.on hb)
  replace HX := Lib.hid ((HX.out.below hb (Nat.le_refl _)).mono hb.size)
  clear ho
  clear hb
  go_wp2_with fail
  refine (fappend_nil _ _).mono ?_
  rintro e w13 ⟨rfl, hb⟩
  replace HL := Lib.hid (HL.out.on hb)
  replace HX := Lib.hid ((HX.out.below hb (Nat.le_refl _)).mono hb.size)
  clear hb
  go_wp2_with fail
  refine (fcut_nil 0 _).mono ?_
  rintro e w14 ⟨rfl, hb⟩
  replace HL := Lib.hid (HL.out.on hb)
  replace HX := Lib.hid ((HX.out.below hb (Nat.le_refl _)).mono hb.size)
  clear hb
  go_wp2_with fail
  refine (fsync_nil _).mono ?_
  rintro e w15 ⟨rfl, hb⟩
  replace HL := Lib.hid (HL.out.on hb)
  replace HX := Lib.hid ((HX.out.below hb (Nat.le_refl _)).mono hb.size)
  clear hb
  go_wp2_with fail
  refine (fflip_nil 0 0 _).mono ?_
  rintro e w16 ⟨rfl, hb⟩
  replace HL := Lib.hid (HL.out.on hb)
  replace HX := Lib.hid ((HX.out.below hb (Nat.le_refl _)).mono hb.size)
  clear hb
  go_wp2_with fail
  refine (fsize_nil _).mono ?_
  rintro e w17 ⟨rfl, hb⟩
  replace HL := Lib.hid (HL.out.on hb)
  replace HX := Lib.hid ((HX.out.below hb (Nat.le_refl _)).mono hb.size)
  clear hb
  go_wp2_with fail
  refine (fsafe_nil _).mono ?_
  rintro e w18 ⟨rfl, hb⟩
  replace HL := Lib.hid (HL.out.on hb)
  replace HX := Lib.hid ((HX.out.below hb (Nat.le_refl _)).mono hb.size)
  clear hb
  go_wp2_with fail
  refine (floose_nil _).mono ?_
  rintro e w19 ⟨rfl, hb⟩
  replace HL := Lib.hid (HL.out.on hb)
  replace HX := Lib.hid ((HX.out.below hb (Nat.le_refl _)).mono hb.size)
  clear hb
  go_wp2_with fail
  refine (fcopy_nil _).mono ?_
  rintro e w20 ⟨rfl, hb⟩
  replace HL := Lib.hid (HL.out.on hb)
  replace HX := Lib.hid ((HX.out.below hb (Nat.le_refl _)).mono hb.size)
  clear hb
  go_wp2_with fail
  have hlit := BsIn.lit (w := w20) [1, 130] 2 rfl #[.int .u8 1, .int .u8 130] rfl 5 (0, 0)
  have hb : Below w20.heap.size w20 (w20.alloc (.cells #[.int .u8 1, .int .u8 130] 5)) := (Below.refl _ _).alloc (Nat.le_refl _) _
  replace HL := Lib.hid (HL.out.on hb)
  refine (fequal _ _ _ _ _ _ _ (HX.out.below hb (Nat.le_refl _)) hlit.bs).mono ?_
  rintro e wq ⟨rfl, rfl⟩
  clear hb hlit HX
  go_wp2_with fail
  refine (fcut_long HL.out.file (by decide) 3 (by decide)).mono ?_
  rintro e w21 ⟨rfl, hb⟩
  replace HL := Lib.hid (HL.out.on hb)
  clear hb
  go_wp2_with fail
  refine (fcut_neg HL.out.file (-1) (by decide)).mono ?_
  rintro e w22 ⟨rfl, hb⟩
  replace HL := Lib.hid (HL.out.on hb)
  clear hb
  go_wp2_with fail
  refine (fcut_same HL.out.file (by decide) 2 (by decide)).mono ?_
  rintro e w23 ⟨rfl, hb⟩
  replace HL := Lib.hid (HL.out.on hb)
  clear hb
  go_wp2_with fail
  refine (floose_m HL.out.file 0 (by decide)).mono ?_
  rintro e w24 ⟨rfl, hb⟩
  replace HL := Lib.hid (HL.out.on hb)
  clear hb
  go_wp2_with fail
  refine (fwakes _).mono ?_
  rintro e w25 ⟨rfl, hb⟩
  replace HL := Lib.hid (HL.out.on hb)
  clear hb
  go_wp2_with fail
  go_ret
  exact ⟨rfl, HL.out.below⟩
end Go.Proofs.Ytmlbhconbabdhaa.fileKnown
