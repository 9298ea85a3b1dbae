
/-
  The walk of the law LocKnown: it returns true, and writes nothing that was there.
-/
import Derived.Test.YtikdpldfklbdoaaLxMove
import Derived.Test.YtikdpldfklbdoaaLxWakes
import Derived.Deep.DeepCutAuto
set_option linter.unusedVariables false
set_option linter.unusedSimpArgs false
namespace Go.Proofs.Ytikdpldfklbdoaa.locKnown
open Go.RowKit Go.Maps

/-- the six that may not be -/
def bads : List (Int × Int) := [(0, 16), (1, 0), (1, 15), (1, 16777217), (16777216, 16), (0, 1)]
theorem bad_may : ∀ x ∈ bads, Lx.mayB x.1 x.2 = false := by decide
theorem bad_pk : ∀ x ∈ bads, Lx.pkE x.1 x.2 = 1 := by decide
theorem bad_add (v : Int) : ∀ x ∈ bads, addE (.map []) x.1 x.2 = 1 ∧ addD (.map []) x.1 x.2 v = .map [] := by
  intro x hx
  have hs : Lx.standsB x.1 x.2 = false := by revert x; decide
  unfold addE addD
  rw [hs]
  exact ⟨rfl, rfl⟩

theorem bs_new1 (w : World) (l : List UInt8) (e : TypeId) : Bs (w.alloc (.cells (bvs l).toArray e)) (w.alloc (.cells (bvs l).toArray e)).heap.size (.slice (some ⟨w.heap.size, 0, none⟩) l.length l.length) l := by
  rw [World.size_alloc]
  exact Bs.new w l e
theorem bs_new2 (w : World) (o : Obj) (l : List UInt8) (e : TypeId) : Bs ((w.alloc o).alloc (.cells (bvs l).toArray e)) ((w.alloc o).alloc (.cells (bvs l).toArray e)).heap.size (.slice (some ⟨w.heap.size + 1, 0, none⟩) l.length l.length) l := by
  have h := Bs.new (w.alloc o) l e
  rw [World.size_alloc] at h
  rw [World.size_alloc, World.size_alloc]
  exact h
theorem idx0 (w : World) : (Instr.index 81 (.agg #[.int .u32 0, .int .u32 16, .int .u32 1, .int .u32 0, .int .u32 1, .int .u32 15, .int .u32 1, .int .u32 16777217, .int .u32 16777216, .int .u32 16, .int .u32 0, .int .u32 1]) (.int .i64 0)).run Try.prog w = .ok (.agg #[.int .u32 0, .int .u32 16]) w := by kernel_rfl
theorem idx1 (w : World) : (Instr.index 81 (.agg #[.int .u32 0, .int .u32 16, .int .u32 1, .int .u32 0, .int .u32 1, .int .u32 15, .int .u32 1, .int .u32 16777217, .int .u32 16777216, .int .u32 16, .int .u32 0, .int .u32 1]) (.int .i64 1)).run Try.prog w = .ok (.agg #[.int .u32 1, .int .u32 0]) w := by kernel_rfl
theorem idx2 (w : World) : (Instr.index 81 (.agg #[.int .u32 0, .int .u32 16, .int .u32 1, .int .u32 0, .int .u32 1, .int .u32 15, .int .u32 1, .int .u32 16777217, .int .u32 16777216, .int .u32 16, .int .u32 0, .int .u32 1]) (.int .i64 2)).run Try.prog w = .ok (.agg #[.int .u32 1, .int .u32 15]) w := by kernel_rfl
theorem idx3 (w : World) : (Instr.index 81 (.agg #[.int .u32 0, .int .u32 16, .int .u32 1, .int .u32 0, .int .u32 1, .int .u32 15, .int .u32 1, .int .u32 16777217, .int .u32 16777216, .int .u32 16, .int .u32 0, .int .u32 1]) (.int .i64 3)).run Try.prog w = .ok (.agg #[.int .u32 1, .int .u32 16777217]) w := by kernel_rfl
theorem idx4 (w : World) : (Instr.index 81 (.agg #[.int .u32 0, .int .u32 16, .int .u32 1, .int .u32 0, .int .u32 1, .int .u32 15, .int .u32 1, .int .u32 16777217, .int .u32 16777216, .int .u32 16, .int .u32 0, .int .u32 1]) (.int .i64 4)).run Try.prog w = .ok (.agg #[.int .u32 16777216, .int .u32 16]) w := by kernel_rfl
theorem idx5 (w : World) : (Instr.index 81 (.agg #[.int .u32 0, .int .u32 16, .int .u32 1, .int .u32 0, .int .u32 1, .int .u32 15, .int .u32 1, .int .u32 16777217, .int .u32 16777216, .int .u32 16, .int .u32 0, .int .u32 1]) (.int .i64 5)).run Try.prog w = .ok (.agg #[.int .u32 0, .int .u32 1]) w := by kernel_rfl

set_option maxRecDepth 100000 in
set_option maxHeartbeats 8000000 in
theorem walk (w : World) :
    Calls Try.prog 8 #[] w fun e w' => e = .returned (.bool true) ∧ Below w.heap.size w w' := by
  go_enter Try.func8, Try.ntmps8
  go_wp2_with fail
  have b0 := bnew w (.cells #[.int .u32 0, .int .u32 16, .int .u32 1, .int .u32 0, .int .u32 1, .int .u32 15, .int .u32 1, .int .u32 16777217, .int .u32 16777216, .int .u32 16, .int .u32 0, .int .u32 1] 81)
  refine (new_any _).mono ?_
  rintro e w1 ⟨rfl, hs, hb⟩
  have hcs : ∀ (j : Nat) (v : Value), (#[.int .u32 0, .int .u32 16, .int .u32 1, .int .u32 0, .int .u32 1, .int .u32 15, .int .u32 1, .int .u32 16777217, .int .u32 16777216, .int .u32 16, .int .u32 0, .int .u32 1] : Array Value)[j]? = some v → w1.cell? ⟨w.heap.size, j, none⟩ = some v := fun j v hv => (hb.cell (p := ⟨w.heap.size, j, none⟩) (by simp)).trans ((World.cell?_alloc_new w _ 81 j).trans hv)
  have c0 : w1.cell? ⟨w.heap.size, 0, none⟩ = some (.int .u32 0) := hcs 0 _ rfl
  have c1 : w1.cell? ⟨w.heap.size, 1, none⟩ = some (.int .u32 16) := hcs 1 _ rfl
  have c2 : w1.cell? ⟨w.heap.size, 2, none⟩ = some (.int .u32 1) := hcs 2 _ rfl
  have c3 : w1.cell? ⟨w.heap.size, 3, none⟩ = some (.int .u32 0) := hcs 3 _ rfl
  have c4 : w1.cell? ⟨w.heap.size, 4, none⟩ = some (.int .u32 1) := hcs 4 _ rfl
  have c5 : w1.cell? ⟨w.heap.size, 5, none⟩ = some (.int .u32 15) := hcs 5 _ rfl
  have c6 : w1.cell? ⟨w.heap.size, 6, none⟩ = some (.int .u32 1) := hcs 6 _ rfl
  have c7 : w1.cell? ⟨w.heap.size, 7, none⟩ = some (.int .u32 16777217) := hcs 7 _ rfl
  have c8 : w1.cell? ⟨w.heap.size, 8, none⟩ = some (.int .u32 16777216) := hcs 8 _ rfl
  have c9 : w1.cell? ⟨w.heap.size, 9, none⟩ = some (.int .u32 16) := hcs 9 _ rfl
  have c10 : w1.cell? ⟨w.heap.size, 10, none⟩ = some (.int .u32 0) := hcs 10 _ rfl
  have c11 : w1.cell? ⟨w.heap.size, 11, none⟩ = some (.int .u32 1) := hcs 11 _ rfl
  have bb := Lib.hid (bstep b0 hb)
  rw [World.size_alloc] at hs
  have HS := Lib.hid hs
  clear hcs hs hb b0
  go_wp2_with fail
  clear c0 c1 c2 c3 c4 c5 c6 c7 c8 c9 c10 c11
  go_loopw [34] (fun i wr => ∃ j : Int, (0 ≤ j ∧ j ≤ 6) ∧ i = .int .i64 j ∧ SetAt wr (w.heap.size + 1 + 1) (w.heap.size + 1) j.toNat (.map []) ∧ Below w.heap.size w wr) (fun i _ => 6 - (intOf i).toNat)
  case atStart => exact ⟨0, by omega, rfl, HS.out, bb.out⟩
  case round =>
    clear HS bb
    obtain ⟨j, hj, rfl, hs, hb⟩ := hrel
    have HS := Lib.hid hs
    have bb := Lib.hid hb
    clear hs hb
    by_cases hlt : j < 6
    · have h6 : j = 0 ∨ j = 1 ∨ j = 2 ∨ j = 3 ∨ j = 4 ∨ j = 5 := by omega
      rcases h6 with rfl | rfl | rfl | rfl | rfl | rfl
      · have hix := idx0
        go_wp2_with fail
        clear hix
        have hm := Lib.hid (bad_may (0, 16) (by decide))
        have hp := Lib.hid (bad_pk (0, 16) (by decide))
        have ha := Lib.hid (bad_add 1 (0, 16) (by decide))
        refine (pack_any 0 16 _ (by omega) (by omega) (by omega) (by omega)).mono ?_
        rintro e w2 ⟨rfl, hb⟩
        rw [hp.out]
        have HK := Lib.hid ((LBox.new wr 0 16 24).on hb)
        replace HS := Lib.hid ((HS.out.on (bnew _ (.cells #[.int .u32 0, .int .u32 16] 24))).on hb)
        replace bb := Lib.hid (bstep (balloc bb.out (.cells #[.int .u32 0, .int .u32 16] 24)) hb)
        clear hb
        obtain ⟨c0, c1, f0, f1, hz⟩ := HK.out
        go_wp2_with fail
        refine (lput_any _ [] 0 16 _ Bs.none_ (by omega) (by omega) (by omega) (by omega) (by simp)).mono ?_
        rintro e w3 ⟨r3, rfl, hs3, hb⟩
        rw [hp.out]
        replace HK := Lib.hid (HK.out.on hb)
        replace HS := Lib.hid (HS.out.on hb)
        replace bb := Lib.hid (bstep bb.out hb)
        clear hb hs3 c0 c1 f0 f1 hz
        obtain ⟨c0, c1, f0, f1, hz⟩ := HK.out
        go_wp2_with fail
        refine (may_b 0 16 _ (by omega) (by omega) (by omega) (by omega) false hm.out).mono ?_
        rintro e w4 ⟨rfl, hb⟩
        replace HK := Lib.hid (HK.out.on hb)
        replace HS := Lib.hid (HS.out.on hb)
        replace bb := Lib.hid (bstep bb.out hb)
        clear hb c0 c1 f0 f1 hz
        obtain ⟨c0, c1, f0, f1, hz⟩ := HK.out
        go_wp2_with fail
        refine (add_any (s := 0) (o := 16) (v := 1) HS.out (by decide) (by omega) (by omega) (by omega) (by omega) (by omega) (by omega)).mono ?_
        rintro e w5 ⟨rfl, hs5, hg⟩
        rw [ha.out.1]
        rw [ha.out.2] at hs5
        replace HS := Lib.hid hs5
        replace bb := Lib.hid (bb.out.grown hg bb.out.size (fun k hk => by injection hk with hk; omega))
        clear hg hs5 c0 c1 f0 f1 hz
        go_wp2_with fail
        go_roundw
        case rel => exact ⟨1, by omega, rfl, HS.out, bb.out⟩
        case measure => simp [intOf]
      · have hix := idx1
        go_wp2_with fail
        clear hix
        have hm := Lib.hid (bad_may (1, 0) (by decide))
        have hp := Lib.hid (bad_pk (1, 0) (by decide))
        have ha := Lib.hid (bad_add 1 (1, 0) (by decide))
        refine (pack_any 1 0 _ (by omega) (by omega) (by omega) (by omega)).mono ?_
        rintro e w2 ⟨rfl, hb⟩
        rw [hp.out]
        have HK := Lib.hid ((LBox.new wr 1 0 24).on hb)
        replace HS := Lib.hid ((HS.out.on (bnew _ (.cells #[.int .u32 1, .int .u32 0] 24))).on hb)
        replace bb := Lib.hid (bstep (balloc bb.out (.cells #[.int .u32 1, .int .u32 0] 24)) hb)
        clear hb
        obtain ⟨c0, c1, f0, f1, hz⟩ := HK.out
        go_wp2_with fail
        refine (lput_any _ [] 1 0 _ Bs.none_ (by omega) (by omega) (by omega) (by omega) (by simp)).mono ?_
        rintro e w3 ⟨r3, rfl, hs3, hb⟩
        rw [hp.out]
        replace HK := Lib.hid (HK.out.on hb)
        replace HS := Lib.hid (HS.out.on hb)
        replace bb := Lib.hid (bstep bb.out hb)
        clear hb hs3 c0 c1 f0 f1 hz
        obtain ⟨c0, c1, f0, f1, hz⟩ := HK.out
        go_wp2_with fail
        refine (may_b 1 0 _ (by omega) (by omega) (by omega) (by omega) false hm.out).mono ?_
        rintro e w4 ⟨rfl, hb⟩
        replace HK := Lib.hid (HK.out.on hb)
        replace HS := Lib.hid (HS.out.on hb)
        replace bb := Lib.hid (bstep bb.out hb)
        clear hb c0 c1 f0 f1 hz
        obtain ⟨c0, c1, f0, f1, hz⟩ := HK.out
        go_wp2_with fail
        refine (add_any (s := 1) (o := 0) (v := 1) HS.out (by decide) (by omega) (by omega) (by omega) (by omega) (by omega) (by omega)).mono ?_
        rintro e w5 ⟨rfl, hs5, hg⟩
        rw [ha.out.1]
        rw [ha.out.2] at hs5
        replace HS := Lib.hid hs5
        replace bb := Lib.hid (bb.out.grown hg bb.out.size (fun k hk => by injection hk with hk; omega))
        clear hg hs5 c0 c1 f0 f1 hz
        go_wp2_with fail
        go_roundw
        case rel => exact ⟨2, by omega, rfl, HS.out, bb.out⟩
        case measure => simp [intOf]
      · have hix := idx2
        go_wp2_with fail
        clear hix
        have hm := Lib.hid (bad_may (1, 15) (by decide))
        have hp := Lib.hid (bad_pk (1, 15) (by decide))
        have ha := Lib.hid (bad_add 1 (1, 15) (by decide))
        refine (pack_any 1 15 _ (by omega) (by omega) (by omega) (by omega)).mono ?_
        rintro e w2 ⟨rfl, hb⟩
        rw [hp.out]
        have HK := Lib.hid ((LBox.new wr 1 15 24).on hb)
        replace HS := Lib.hid ((HS.out.on (bnew _ (.cells #[.int .u32 1, .int .u32 15] 24))).on hb)
        replace bb := Lib.hid (bstep (balloc bb.out (.cells #[.int .u32 1, .int .u32 15] 24)) hb)
        clear hb
        obtain ⟨c0, c1, f0, f1, hz⟩ := HK.out
        go_wp2_with fail
        refine (lput_any _ [] 1 15 _ Bs.none_ (by omega) (by omega) (by omega) (by omega) (by simp)).mono ?_
        rintro e w3 ⟨r3, rfl, hs3, hb⟩
        rw [hp.out]
        replace HK := Lib.hid (HK.out.on hb)
        replace HS := Lib.hid (HS.out.on hb)
        replace bb := Lib.hid (bstep bb.out hb)
        clear hb hs3 c0 c1 f0 f1 hz
        obtain ⟨c0, c1, f0, f1, hz⟩ := HK.out
        go_wp2_with fail
        refine (may_b 1 15 _ (by omega) (by omega) (by omega) (by omega) false hm.out).mono ?_
        rintro e w4 ⟨rfl, hb⟩
        replace HK := Lib.hid (HK.out.on hb)
        replace HS := Lib.hid (HS.out.on hb)
        replace bb := Lib.hid (bstep bb.out hb)
        clear hb c0 c1 f0 f1 hz
        obtain ⟨c0, c1, f0, f1, hz⟩ := HK.out
        go_wp2_with fail
        refine (add_any (s := 1) (o := 15) (v := 1) HS.out (by decide) (by omega) (by omega) (by omega) (by omega) (by omega) (by omega)).mono ?_
        rintro e w5 ⟨rfl, hs5, hg⟩
        rw [ha.out.1]
        rw [ha.out.2] at hs5
        replace HS := Lib.hid hs5
        replace bb := Lib.hid (bb.out.grown hg bb.out.size (fun k hk => by injection hk with hk; omega))
        clear hg hs5 c0 c1 f0 f1 hz
        go_wp2_with fail
        go_roundw
        case rel => exact ⟨3, by omega, rfl, HS.out, bb.out⟩
        case measure => simp [intOf]
      · have hix := idx3
        go_wp2_with fail
        clear hix
        have hm := Lib.hid (bad_may (1, 16777217) (by decide))
        have hp := Lib.hid (bad_pk (1, 16777217) (by decide))
        have ha := Lib.hid (bad_add 1 (1, 16777217) (by decide))
        refine (pack_any 1 16777217 _ (by omega) (by omega) (by omega) (by omega)).mono ?_
        rintro e w2 ⟨rfl, hb⟩
        rw [hp.out]
        have HK := Lib.hid ((LBox.new wr 1 16777217 24).on hb)
        replace HS := Lib.hid ((HS.out.on (bnew _ (.cells #[.int .u32 1, .int .u32 16777217] 24))).on hb)
        replace bb := Lib.hid (bstep (balloc bb.out (.cells #[.int .u32 1, .int .u32 16777217] 24)) hb)
        clear hb
        obtain ⟨c0, c1, f0, f1, hz⟩ := HK.out
        go_wp2_with fail
        refine (lput_any _ [] 1 16777217 _ Bs.none_ (by omega) (by omega) (by omega) (by omega) (by simp)).mono ?_
        rintro e w3 ⟨r3, rfl, hs3, hb⟩
        rw [hp.out]
        replace HK := Lib.hid (HK.out.on hb)
        replace HS := Lib.hid (HS.out.on hb)
        replace bb := Lib.hid (bstep bb.out hb)
        clear hb hs3 c0 c1 f0 f1 hz
        obtain ⟨c0, c1, f0, f1, hz⟩ := HK.out
        go_wp2_with fail
        refine (may_b 1 16777217 _ (by omega) (by omega) (by omega) (by omega) false hm.out).mono ?_
        rintro e w4 ⟨rfl, hb⟩
        replace HK := Lib.hid (HK.out.on hb)
        replace HS := Lib.hid (HS.out.on hb)
        replace bb := Lib.hid (bstep bb.out hb)
        clear hb c0 c1 f0 f1 hz
        obtain ⟨c0, c1, f0, f1, hz⟩ := HK.out
        go_wp2_with fail
        refine (add_any (s := 1) (o := 16777217) (v := 1) HS.out (by decide) (by omega) (by omega) (by omega) (by omega) (by omega) (by omega)).mono ?_
        rintro e w5 ⟨rfl, hs5, hg⟩
        rw [ha.out.1]
        rw [ha.out.2] at hs5
        replace HS := Lib.hid hs5
        replace bb := Lib.hid (bb.out.grown hg bb.out.size (fun k hk => by injection hk with hk; omega))
        clear hg hs5 c0 c1 f0 f1 hz
        go_wp2_with fail
        go_roundw
        case rel => exact ⟨4, by omega, rfl, HS.out, bb.out⟩
        case measure => simp [intOf]
      · have hix := idx4
        go_wp2_with fail
        clear hix
        have hm := Lib.hid (bad_may (16777216, 16) (by decide))
        have hp := Lib.hid (bad_pk (16777216, 16) (by decide))
        have ha := Lib.hid (bad_add 1 (16777216, 16) (by decide))
        refine (pack_any 16777216 16 _ (by omega) (by omega) (by omega) (by omega)).mono ?_
        rintro e w2 ⟨rfl, hb⟩
        rw [hp.out]
        have HK := Lib.hid ((LBox.new wr 16777216 16 24).on hb)
        replace HS := Lib.hid ((HS.out.on (bnew _ (.cells #[.int .u32 16777216, .int .u32 16] 24))).on hb)
        replace bb := Lib.hid (bstep (balloc bb.out (.cells #[.int .u32 16777216, .int .u32 16] 24)) hb)
        clear hb
        obtain ⟨c0, c1, f0, f1, hz⟩ := HK.out
        go_wp2_with fail
        refine (lput_any _ [] 16777216 16 _ Bs.none_ (by omega) (by omega) (by omega) (by omega) (by simp)).mono ?_
        rintro e w3 ⟨r3, rfl, hs3, hb⟩
        rw [hp.out]
        replace HK := Lib.hid (HK.out.on hb)
        replace HS := Lib.hid (HS.out.on hb)
        replace bb := Lib.hid (bstep bb.out hb)
        clear hb hs3 c0 c1 f0 f1 hz
        obtain ⟨c0, c1, f0, f1, hz⟩ := HK.out
        go_wp2_with fail
        refine (may_b 16777216 16 _ (by omega) (by omega) (by omega) (by omega) false hm.out).mono ?_
        rintro e w4 ⟨rfl, hb⟩
        replace HK := Lib.hid (HK.out.on hb)
        replace HS := Lib.hid (HS.out.on hb)
        replace bb := Lib.hid (bstep bb.out hb)
        clear hb c0 c1 f0 f1 hz
        obtain ⟨c0, c1, f0, f1, hz⟩ := HK.out
        go_wp2_with fail
        refine (add_any (s := 16777216) (o := 16) (v := 1) HS.out (by decide) (by omega) (by omega) (by omega) (by omega) (by omega) (by omega)).mono ?_
        rintro e w5 ⟨rfl, hs5, hg⟩
        rw [ha.out.1]
        rw [ha.out.2] at hs5
        replace HS := Lib.hid hs5
        replace bb := Lib.hid (bb.out.grown hg bb.out.size (fun k hk => by injection hk with hk; omega))
        clear hg hs5 c0 c1 f0 f1 hz
        go_wp2_with fail
        go_roundw
        case rel => exact ⟨5, by omega, rfl, HS.out, bb.out⟩
        case measure => simp [intOf]
      · have hix := idx5
        go_wp2_with fail
        clear hix
        have hm := Lib.hid (bad_may (0, 1) (by decide))
        have hp := Lib.hid (bad_pk (0, 1) (by decide))
        have ha := Lib.hid (bad_add 1 (0, 1) (by decide))
        refine (pack_any 0 1 _ (by omega) (by omega) (by omega) (by omega)).mono ?_
        rintro e w2 ⟨rfl, hb⟩
        rw [hp.out]
        have HK := Lib.hid ((LBox.new wr 0 1 24).on hb)
        replace HS := Lib.hid ((HS.out.on (bnew _ (.cells #[.int .u32 0, .int .u32 1] 24))).on hb)
        replace bb := Lib.hid (bstep (balloc bb.out (.cells #[.int .u32 0, .int .u32 1] 24)) hb)
        clear hb
        obtain ⟨c0, c1, f0, f1, hz⟩ := HK.out
        go_wp2_with fail
        refine (lput_any _ [] 0 1 _ Bs.none_ (by omega) (by omega) (by omega) (by omega) (by simp)).mono ?_
        rintro e w3 ⟨r3, rfl, hs3, hb⟩
        rw [hp.out]
        replace HK := Lib.hid (HK.out.on hb)
        replace HS := Lib.hid (HS.out.on hb)
        replace bb := Lib.hid (bstep bb.out hb)
        clear hb hs3 c0 c1 f0 f1 hz
        obtain ⟨c0, c1, f0, f1, hz⟩ := HK.out
        go_wp2_with fail
        refine (may_b 0 1 _ (by omega) (by omega) (by omega) (by omega) false hm.out).mono ?_
        rintro e w4 ⟨rfl, hb⟩
        replace HK := Lib.hid (HK.out.on hb)
        replace HS := Lib.hid (HS.out.on hb)
        replace bb := Lib.hid (bstep bb.out hb)
        clear hb c0 c1 f0 f1 hz
        obtain ⟨c0, c1, f0, f1, hz⟩ := HK.out
        go_wp2_with fail
        refine (add_any (s := 0) (o := 1) (v := 1) HS.out (by decide) (by omega) (by omega) (by omega) (by omega) (by omega) (by omega)).mono ?_
        rintro e w5 ⟨rfl, hs5, hg⟩
        rw [ha.out.1]
        rw [ha.out.2] at hs5
        replace HS := Lib.hid hs5
        replace bb := Lib.hid (bb.out.grown hg bb.out.size (fun k hk => by injection hk with hk; omega))
        clear hg hs5 c0 c1 f0 f1 hz
        go_wp2_with fail
        go_roundw
        case rel => exact ⟨6, by omega, rfl, HS.out, bb.out⟩
        case measure => simp [intOf]
    · obtain rfl : j = 6 := by omega
      have bl := Lib.hid HS.out.own.lt
      have HL := Lib.hid (LBox.new wr 16777215 16777216 24)
      go_wp2_with fail
      replace bb := Lib.hid (balloc bb.out (.cells #[.int .u32 16777215, .int .u32 16777216] 24))
      replace HS := Lib.hid (HS.out.on (bnew _ (.cells #[.int .u32 16777215, .int .u32 16777216] 24)))
      refine (at_nil _ ⟨16777215, 16777216, rfl⟩ _).mono ?_
      rintro e w2 ⟨rfl, hb⟩
      replace bb := Lib.hid (bstep bb.out hb)
      replace HS := Lib.hid (HS.out.on hb)
      replace HL := Lib.hid (HL.out.on hb)
      clear hb
      generalize wr.heap.size = gl at *
      go_wp2_with fail
      replace bb := Lib.hid (balloc bb.out (.cells #[.int .u8 1] 5))
      replace HS := Lib.hid (HS.out.on (bnew _ (.cells #[.int .u8 1] 5)))
      replace HL := Lib.hid (HL.out.on (bnew _ (.cells #[.int .u8 1] 5)))
      refine (lget_any _ [1] _ (by exact bs_new1 w2 [1] 5) (by simp)).mono ?_
      rintro e w3 ⟨rfl, hb⟩
      replace bb := Lib.hid (bstep bb.out hb)
      replace HS := Lib.hid (HS.out.on hb)
      replace HL := Lib.hid (HL.out.on hb)
      clear hb
      rw [show Lx.getV [1] = Lx.gV 0 0 0 4 from Lx.getV_eq (by decide)]
      unfold Lx.gV lv
      -- its box
      replace bb := Lib.hid (balloc bb.out (.cells #[.int .u32 0, .int .u32 0] 24))
      replace HS := Lib.hid (HS.out.on (bnew _ (.cells #[.int .u32 0, .int .u32 0] 24)))
      replace HL := Lib.hid (HL.out.on (bnew _ (.cells #[.int .u32 0, .int .u32 0] 24)))
      go_wp2_with fail
      replace bb := Lib.hid (balloc bb.out (.cells #[.int .u8 255, .int .u8 255, .int .u8 255, .int .u8 255, .int .u8 255, .int .u8 255, .int .u8 255, .int .u8 255, .int .u8 255, .int .u8 0] 5))
      replace HS := Lib.hid (HS.out.on (bnew _ (.cells #[.int .u8 255, .int .u8 255, .int .u8 255, .int .u8 255, .int .u8 255, .int .u8 255, .int .u8 255, .int .u8 255, .int .u8 255, .int .u8 0] 5)))
      replace HL := Lib.hid (HL.out.on (bnew _ (.cells #[.int .u8 255, .int .u8 255, .int .u8 255, .int .u8 255, .int .u8 255, .int .u8 255, .int .u8 255, .int .u8 255, .int .u8 255, .int .u8 0] 5)))
      refine (lget_any _ [255, 255, 255, 255, 255, 255, 255, 255, 255, 0] _ (by exact bs_new2 w3 _ [255, 255, 255, 255, 255, 255, 255, 255, 255, 0] 5) (by simp)).mono ?_
      rintro e w4 ⟨rfl, hb⟩
      replace bb := Lib.hid (bstep bb.out hb)
      replace HS := Lib.hid (HS.out.on hb)
      replace HL := Lib.hid (HL.out.on hb)
      clear hb
      rw [show Lx.getV [255, 255, 255, 255, 255, 255, 255, 255, 255, 0] = Lx.gV 0 0 0 5 from Lx.getV_eq (by decide)]
      unfold Lx.gV lv
      -- its box
      replace bb := Lib.hid (balloc bb.out (.cells #[.int .u32 0, .int .u32 0] 24))
      replace HS := Lib.hid (HS.out.on (bnew _ (.cells #[.int .u32 0, .int .u32 0] 24)))
      replace HL := Lib.hid (HL.out.on (bnew _ (.cells #[.int .u32 0, .int .u32 0] 24)))
      go_wp2_with fail
      replace bb := Lib.hid (balloc bb.out (.cells #[.int .u8 1, .int .u8 255, .int .u8 255, .int .u8 255, .int .u8 255, .int .u8 255, .int .u8 255, .int .u8 255, .int .u8 255, .int .u8 255] 5))
      replace HS := Lib.hid (HS.out.on (bnew _ (.cells #[.int .u8 1, .int .u8 255, .int .u8 255, .int .u8 255, .int .u8 255, .int .u8 255, .int .u8 255, .int .u8 255, .int .u8 255, .int .u8 255] 5)))
      replace HL := Lib.hid (HL.out.on (bnew _ (.cells #[.int .u8 1, .int .u8 255, .int .u8 255, .int .u8 255, .int .u8 255, .int .u8 255, .int .u8 255, .int .u8 255, .int .u8 255, .int .u8 255] 5)))
      refine (lget_any _ [1, 255, 255, 255, 255, 255, 255, 255, 255, 255] _ (by exact bs_new2 w4 _ [1, 255, 255, 255, 255, 255, 255, 255, 255, 255] 5) (by simp)).mono ?_
      rintro e w5 ⟨rfl, hb⟩
      replace bb := Lib.hid (bstep bb.out hb)
      replace HS := Lib.hid (HS.out.on hb)
      replace HL := Lib.hid (HL.out.on hb)
      clear hb
      rw [show Lx.getV [1, 255, 255, 255, 255, 255, 255, 255, 255, 255] = Lx.gV 0 0 0 5 from Lx.getV_eq (by decide)]
      unfold Lx.gV lv
      -- its box
      replace bb := Lib.hid (balloc bb.out (.cells #[.int .u32 0, .int .u32 0] 24))
      replace HS := Lib.hid (HS.out.on (bnew _ (.cells #[.int .u32 0, .int .u32 0] 24)))
      replace HL := Lib.hid (HL.out.on (bnew _ (.cells #[.int .u32 0, .int .u32 0] 24)))
      go_wp2_with fail
      replace bb := Lib.hid (balloc bb.out (.cells #[.int .u8 0, .int .u8 9] 5))
      replace HS := Lib.hid (HS.out.on (bnew _ (.cells #[.int .u8 0, .int .u8 9] 5)))
      replace HL := Lib.hid (HL.out.on (bnew _ (.cells #[.int .u8 0, .int .u8 9] 5)))
      refine (lget_any _ [0, 9] _ (by exact bs_new2 w5 _ [0, 9] 5) (by simp)).mono ?_
      rintro e w6 ⟨rfl, hb⟩
      replace bb := Lib.hid (bstep bb.out hb)
      replace HS := Lib.hid (HS.out.on hb)
      replace HL := Lib.hid (HL.out.on hb)
      clear hb
      rw [show Lx.getV [0, 9] = Lx.gV 0 0 1 0 from Lx.getV_eq (by decide)]
      unfold Lx.gV lv
      -- its box
      replace bb := Lib.hid (balloc bb.out (.cells #[.int .u32 0, .int .u32 0] 24))
      have b2 : Hid (w.heap.size + 1 < w6.heap.size) := HS.out.own.lt
      have H2 := Lib.hid (LBox.new w6 0 0 24)
      replace HS := Lib.hid (HS.out.on (bnew _ (.cells #[.int .u32 0, .int .u32 0] 24)))
      replace HL := Lib.hid (HL.out.on (bnew _ (.cells #[.int .u32 0, .int .u32 0] 24)))
      obtain ⟨c0, c1, f0, f1, hz⟩ := HL.out
      go_wp2_with fail
      refine (may_b 16777215 16777216 _ (by omega) (by omega) (by omega) (by omega) true (by decide)).mono ?_
      rintro e y1 ⟨rfl, hb⟩
      replace bb := Lib.hid (bstep bb.out hb)
      replace HS := Lib.hid (HS.out.on hb)
      replace HL := Lib.hid (HL.out.on hb)
      replace H2 := Lib.hid (H2.out.on hb)
      clear hb
      clear c0 c1 f0 f1 hz
      generalize w6.heap.size = g2 at *
      go_wp2_with fail
      refine (may_b 0 0 _ (by omega) (by omega) (by omega) (by omega) true (by decide)).mono ?_
      rintro e y2 ⟨rfl, hb⟩
      replace bb := Lib.hid (bstep bb.out hb)
      replace HS := Lib.hid (HS.out.on hb)
      replace HL := Lib.hid (HL.out.on hb)
      replace H2 := Lib.hid (H2.out.on hb)
      clear hb
      obtain ⟨c0, c1, f0, f1, hz⟩ := HL.out
      go_wp2_with fail
      refine (add_any (s := 0) (o := 0) (v := 1) HS.out (by decide) (by omega) (by omega) (by omega) (by omega) (by omega) (by omega)).mono ?_
      rintro e y3 ⟨rfl, hs, hg⟩
      rw [show addE (.map []) 0 0 = 1 from rfl]
      rw [show addD (.map []) 0 0 1 = .map [] from rfl] at hs
      replace bb := Lib.hid (bb.out.grown hg bb.out.size (fun k hk => by injection hk with hk; omega))
      replace HL := Lib.hid (HL.out.grown hg (fun k hk => by injection hk with hk; have := bl.out; omega))
      replace H2 := Lib.hid (H2.out.grown hg (fun k hk => by injection hk with hk; have := b2.out; omega))
      replace HS := Lib.hid hs
      clear hs hg c0 c1 f0 f1 hz
      obtain ⟨c0, c1, f0, f1, hz⟩ := HL.out
      go_wp2_with fail
      refine (move_any (s := 16777215) (o := 16777216) (t := 0) (p := 0) HS.out (by decide) (by omega) (by omega) (by omega) (by omega) (by omega) (by omega) (by omega) (by omega)).mono ?_
      rintro e y4 ⟨rfl, hs, hg⟩
      rw [show moveE (.map []) 16777215 16777216 0 0 = 1 from rfl]
      rw [show moveD (.map []) 16777215 16777216 0 0 = .map [] from rfl] at hs
      replace bb := Lib.hid (bb.out.grown hg bb.out.size (fun k hk => by injection hk with hk; omega))
      replace HL := Lib.hid (HL.out.grown hg (fun k hk => by injection hk with hk; have := bl.out; omega))
      replace H2 := Lib.hid (H2.out.grown hg (fun k hk => by injection hk with hk; have := b2.out; omega))
      replace HS := Lib.hid hs
      clear hs hg c0 c1 f0 f1 hz
      obtain ⟨c0, c1, f0, f1, hz⟩ := HL.out
      go_wp2_with fail
      refine (move_any (s := 16777215) (o := 16777216) (t := 16777215) (p := 16777216) HS.out (by decide) (by omega) (by omega) (by omega) (by omega) (by omega) (by omega) (by omega) (by omega)).mono ?_
      rintro e y5 ⟨rfl, hs, hg⟩
      rw [show moveE (.map []) 16777215 16777216 16777215 16777216 = 6 from rfl]
      rw [show moveD (.map []) 16777215 16777216 16777215 16777216 = .map [] from rfl] at hs
      replace bb := Lib.hid (bb.out.grown hg bb.out.size (fun k hk => by injection hk with hk; omega))
      replace HL := Lib.hid (HL.out.grown hg (fun k hk => by injection hk with hk; have := bl.out; omega))
      replace H2 := Lib.hid (H2.out.grown hg (fun k hk => by injection hk with hk; have := b2.out; omega))
      replace HS := Lib.hid hs
      clear hs hg c0 c1 f0 f1 hz
      obtain ⟨c0, c1, f0, f1, hz⟩ := HL.out
      go_wp2_with fail
      refine (drop_any (s := 16777215) (o := 16777216) HS.out (by omega) (by omega) (by omega) (by omega)).mono ?_
      rintro e y6 ⟨rfl, hs, hg⟩
      rw [show dropE (.map []) 16777215 16777216 = 6 from rfl]
      rw [show dropD (.map []) 16777215 16777216 = .map [] from rfl] at hs
      replace bb := Lib.hid (bb.out.grown hg bb.out.size (fun k hk => by injection hk with hk; omega))
      replace HL := Lib.hid (HL.out.grown hg (fun k hk => by injection hk with hk; have := bl.out; omega))
      replace H2 := Lib.hid (H2.out.grown hg (fun k hk => by injection hk with hk; have := b2.out; omega))
      replace HS := Lib.hid hs
      clear hs hg c0 c1 f0 f1 hz
      obtain ⟨c0, c1, f0, f1, hz⟩ := HL.out
      go_wp2_with fail
      refine (add_nil 16777215 16777216 1 _).mono ?_
      rintro e y7 ⟨rfl, hb⟩
      replace bb := Lib.hid (bstep bb.out hb)
      replace HS := Lib.hid (HS.out.on hb)
      replace HL := Lib.hid (HL.out.on hb)
      replace H2 := Lib.hid (H2.out.on hb)
      clear hb
      clear c0 c1 f0 f1 hz
      obtain ⟨c0, c1, f0, f1, hz⟩ := HL.out
      go_wp2_with fail
      refine (move_nil 16777215 16777216 16777215 16777216 _).mono ?_
      rintro e y8 ⟨rfl, hb⟩
      replace bb := Lib.hid (bstep bb.out hb)
      replace HS := Lib.hid (HS.out.on hb)
      replace HL := Lib.hid (HL.out.on hb)
      replace H2 := Lib.hid (H2.out.on hb)
      clear hb
      clear c0 c1 f0 f1 hz
      obtain ⟨c0, c1, f0, f1, hz⟩ := HL.out
      go_wp2_with fail
      refine (drop_nil 16777215 16777216 _).mono ?_
      rintro e y9 ⟨rfl, hb⟩
      replace bb := Lib.hid (bstep bb.out hb)
      replace HS := Lib.hid (HS.out.on hb)
      replace HL := Lib.hid (HL.out.on hb)
      replace H2 := Lib.hid (H2.out.on hb)
      clear hb
      clear c0 c1 f0 f1 hz
      go_wp2_with fail
      refine (of_nil 1 _).mono ?_
      rintro e y10 ⟨rfl, hb⟩
      replace bb := Lib.hid (bstep bb.out hb)
      replace HS := Lib.hid (HS.out.on hb)
      replace HL := Lib.hid (HL.out.on hb)
      replace H2 := Lib.hid (H2.out.on hb)
      clear hb
      go_wp2_with fail
      refine (len_nil _).mono ?_
      rintro e y11 ⟨rfl, rfl⟩
      go_wp2_with fail
      refine (copy_nil _).mono ?_
      rintro e y12 ⟨rfl, hb⟩
      replace bb := Lib.hid (bstep bb.out hb)
      replace HS := Lib.hid (HS.out.on hb)
      replace HL := Lib.hid (HL.out.on hb)
      replace H2 := Lib.hid (H2.out.on hb)
      clear hb
      have he := run_eql_loc
      have hg := guard_loc
      obtain ⟨c0, c1, f0, f1, hz⟩ := H2.out
      go_wp2_with fail
      refine (wakes3_any _).mono ?_
      rintro e y13 ⟨rfl, hb⟩
      replace bb := Lib.hid (bstep bb.out hb)
      replace HS := Lib.hid (HS.out.on hb)
      replace HL := Lib.hid (HL.out.on hb)
      replace H2 := Lib.hid (H2.out.on hb)
      clear hb
      go_wp2_with fail
      go_ret
      exact ⟨rfl, bb.out⟩
end Go.Proofs.Ytikdpldfklbdoaa.locKnown
