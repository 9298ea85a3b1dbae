
/-
  Layer 9: the document's answer: Parts and May, kind by kind. (printed by tools/gen/ed_rmay.py)
-/
import Derived.Test.YtggijjknfcofoaaDoorEdSame
import Derived.Test.YtggijjknfcofoaaDoorRegion
import Derived.Deep.RegionHeld3
import Derived.OpenShut
import Derived.Deep.Cut
set_option linter.unusedVariables false
set_option linter.unusedSimpArgs false
namespace Go.Proofs.YtggijjknfcofoaaDoor
open Go.RowKit

theorem results_tmp4 {fn : Func} {t u v x : Tmp} (h : fn.results = #[.tmp t, .tmp u, .tmp v, .tmp x]) (tmps : Array Value) (P : Program) (w : World) :
    (results fn tmps).run P w = .ok (.tuple #[tmps.getD t undef, tmps.getD u undef, tmps.getD v undef, tmps.getD x undef]) w := by
  simp [results, h]
theorem below_drew1 {b : Nat} {w w' : World} (h : Below b w w') : Below b w w'.drew := below_drewN h 1
theorem ed_prev {l : List Ed.Sl} {j a : Nat} {s : Ed.Sl} (hs : l[j]? = some s) : Ed.upS a (l.drop j) = (Ed.mayS s && decide (a < s.id) && Ed.upS s.id (l.drop (j + 1))) := by
  obtain ⟨hj, rfl⟩ := List.getElem?_eq_some_iff.1 hs
  rw [List.drop_eq_getElem_cons hj]
  rfl

theorem rparts_1 (w : World) : Calls Tryd.prog 32 #[.int .i64 1] w fun e w' => e = .returned (.tuple #[.bool true, .bool false, .bool false, .bool false]) ∧ w' = w := by
  go_enter Tryd.func32, Tryd.ntmps32
  go_wp2_with fail
  ((try simp only [Exit.inBlock, Exit.then]); refine bodyPost_ret (results_tmp4 rfl _ _ _) rfl ?_)
  exact ⟨rfl, rfl⟩
theorem rparts_2 (w : World) : Calls Tryd.prog 32 #[.int .i64 2] w fun e w' => e = .returned (.tuple #[.bool true, .bool true, .bool false, .bool false]) ∧ w' = w := by
  go_enter Tryd.func32, Tryd.ntmps32
  go_wp2_with fail
  ((try simp only [Exit.inBlock, Exit.then]); refine bodyPost_ret (results_tmp4 rfl _ _ _) rfl ?_)
  exact ⟨rfl, rfl⟩
theorem rparts_3 (w : World) : Calls Tryd.prog 32 #[.int .i64 3] w fun e w' => e = .returned (.tuple #[.bool false, .bool true, .bool false, .bool false]) ∧ w' = w := by
  go_enter Tryd.func32, Tryd.ntmps32
  go_wp2_with fail
  ((try simp only [Exit.inBlock, Exit.then]); refine bodyPost_ret (results_tmp4 rfl _ _ _) rfl ?_)
  exact ⟨rfl, rfl⟩
theorem rparts_4 (w : World) : Calls Tryd.prog 32 #[.int .i64 4] w fun e w' => e = .returned (.tuple #[.bool false, .bool false, .bool true, .bool false]) ∧ w' = w := by
  go_enter Tryd.func32, Tryd.ntmps32
  go_wp2_with fail
  ((try simp only [Exit.inBlock, Exit.then]); refine bodyPost_ret (results_tmp4 rfl _ _ _) rfl ?_)
  exact ⟨rfl, rfl⟩
theorem rparts_5 (w : World) : Calls Tryd.prog 32 #[.int .i64 5] w fun e w' => e = .returned (.tuple #[.bool false, .bool false, .bool false, .bool true]) ∧ w' = w := by
  go_enter Tryd.func32, Tryd.ntmps32
  go_wp2_with fail
  ((try simp only [Exit.inBlock, Exit.then]); refine bodyPost_ret (results_tmp4 rfl _ _ _) rfl ?_)
  exact ⟨rfl, rfl⟩
theorem rparts_6 (w : World) : Calls Tryd.prog 32 #[.int .i64 6] w fun e w' => e = .returned (.tuple #[.bool true, .bool false, .bool false, .bool true]) ∧ w' = w := by
  go_enter Tryd.func32, Tryd.ntmps32
  go_wp2_with fail
  ((try simp only [Exit.inBlock, Exit.then]); refine bodyPost_ret (results_tmp4 rfl _ _ _) rfl ?_)
  exact ⟨rfl, rfl⟩
theorem rmay_plain_1 (nm : ByteArray) (q i : Nat) (ss : List Ed.Sl) : Ed.mayE ⟨1, nm, q, i, ss⟩ = (decide (q ≤ 1099511627776 ∧ nm.size = 0 ∧ i = 0 ∧ ss.length = 0) && Ed.upS 0 ss) := by
  show (decide ((1 : Int) ≤ 1 ∧ (1 : Int) ≤ 6) && Ed.inB (Ed.seqB 1) q && Ed.nameOk 1 nm.size && Ed.inB (Ed.idB 1) i && Ed.inB (Ed.manyB 1) ss.length && Ed.upS 0 ss) = _
  rw [show decide ((1 : Int) ≤ 1 ∧ (1 : Int) ≤ 6) = true from rfl, show Ed.seqB 1 = (0, 1099511627776) from rfl, show Ed.nameOk 1 nm.size = decide (nm.size = 0) from rfl, show Ed.idB 1 = (0, 0) from rfl, show Ed.manyB 1 = (0, 0) from rfl]
  simp only [Ed.inB, Bool.true_and]
  cases hu : Ed.upS 0 ss
  · simp only [Bool.and_false]
  · simp only [Bool.and_true]
    rw [Bool.eq_iff_iff]
    simp only [Bool.and_eq_true, decide_eq_true_eq]
    constructor <;> intro h <;> omega
set_option maxRecDepth 100000 in
set_option maxHeartbeats 8000000 in
theorem rmay_1 (nm : ByteArray) (q i : Nat) (ss : List Ed.Sl) (sv : Value) (w : World) (hs : Sls w w.heap.size sv ss) (f : Ed.Fit ⟨1, nm, q, i, ss⟩) :
    Calls Tryd.prog 13 #[edV 1 nm q i sv] w fun e w' => e = .returned (.bool (Ed.mayE ⟨1, nm, q, i, ss⟩)) ∧ Below w.heap.size w w' := by
  obtain ⟨A, c, rfl, hc, hr⟩ := id hs
  rw [rmay_plain_1]
  obtain ⟨r, hr⟩ : ∃ r, (decide (q ≤ 1099511627776 ∧ nm.size = 0 ∧ i = 0 ∧ ss.length = 0) && Ed.upS 0 ss) = r := ⟨_, rfl⟩
  rw [hr]
  have HQ := Lib.hid hr
  have HF := Lib.hid f
  have Hs := Lib.hid hs
  have hn0 := f.many
  simp only at hn0
  generalize hn : ss.length = n at *
  have Hn := Lib.hid hn
  clear hr hs f hc hn
  by_cases hz : n = 0
  · subst hz
    have B0 := Bx.new w #[.int .i64 1, .string nm, .int .u64 q, .int .u32 i, .slice A 0 c] 36 _ rfl
    have b0 := bnew w (.cells #[.int .i64 1, .string nm, .int .u64 q, .int .u32 i, .slice A 0 c] 36)
    obtain ⟨x0, x1, x2, x3, x4⟩ : _ ∧ _ ∧ _ ∧ _ ∧ _ := ⟨B0.cell 0 _ rfl, B0.cell 1 _ rfl, B0.cell 2 _ rfl, B0.cell 3 _ rfl, B0.cell 4 _ rfl⟩
    have HB := Lib.hid b0
    have HX := Lib.hid B0
    have HS := Lib.hid (Hs.out.below b0 (Nat.le_refl _))
    clear B0 b0
    unfold edV
    go_enter Tryd.func13, Tryd.ntmps13
    go_wp2_with fail
    refine (rparts_1 _).mono ?_
    rintro en w1 ⟨rfl, rfl⟩
    by_cases h0 : (1099511627776 : Int) < (q : Int)
    · have H := Lib.hid (show r = false by rw [← HQ.out, decide_eq_false (by omega), Bool.false_and])
      go_wp2_with fail
      go_ret
      exact ⟨ret_bool H.out.symm, HB.out⟩
    by_cases h1 : 0 < nm.size
    · have H := Lib.hid (show r = false by rw [← HQ.out, decide_eq_false (by omega), Bool.false_and])
      go_wp2_with fail
      go_ret
      exact ⟨ret_bool H.out.symm, HB.out⟩
    by_cases h2 : 0 < i
    · have H := Lib.hid (show r = false by rw [← HQ.out, decide_eq_false (by omega), Bool.false_and])
      go_wp2_with fail
      go_ret
      exact ⟨ret_bool H.out.symm, HB.out⟩
    have H := Lib.hid (show r = true by rw [← HQ.out, decide_eq_true (by (repeat' apply And.intro) <;> first | rfl | trivial | omega), Bool.true_and, List.eq_nil_of_length_eq_zero (show ss.length = 0 from Hn.out)]; rfl)
    clear hn0
    go_wp2_with fail
    generalize hwy : w.alloc _ = wy at *
    clear hwy
    go_loopg [7] 0 (fun g iv wr => iv = .int .i64 0 ∧ wr = wy)
    case atStart => exact ⟨rfl, rfl⟩
    case round =>
      obtain ⟨rfl, rfl⟩ := hrel
      go_wp2_with fail
      go_ret
      exact ⟨ret_bool H.out.symm, HB.out⟩
  · skip
    have B0 := Bx.new w #[.int .i64 1, .string nm, .int .u64 q, .int .u32 i, .slice A n c] 36 _ rfl
    have b0 := bnew w (.cells #[.int .i64 1, .string nm, .int .u64 q, .int .u32 i, .slice A n c] 36)
    obtain ⟨x0, x1, x2, x3, x4⟩ : _ ∧ _ ∧ _ ∧ _ ∧ _ := ⟨B0.cell 0 _ rfl, B0.cell 1 _ rfl, B0.cell 2 _ rfl, B0.cell 3 _ rfl, B0.cell 4 _ rfl⟩
    have HB := Lib.hid b0
    have HX := Lib.hid B0
    have HS := Lib.hid (Hs.out.below b0 (Nat.le_refl _))
    clear B0 b0
    unfold edV
    go_enter Tryd.func13, Tryd.ntmps13
    go_wp2_with fail
    refine (rparts_1 _).mono ?_
    rintro en w1 ⟨rfl, rfl⟩
    by_cases h0 : (1099511627776 : Int) < (q : Int)
    · have H := Lib.hid (show r = false by rw [← HQ.out, decide_eq_false (by omega), Bool.false_and])
      go_wp2_with fail
      go_ret
      exact ⟨ret_bool H.out.symm, HB.out⟩
    by_cases h1 : 0 < nm.size
    · have H := Lib.hid (show r = false by rw [← HQ.out, decide_eq_false (by omega), Bool.false_and])
      go_wp2_with fail
      go_ret
      exact ⟨ret_bool H.out.symm, HB.out⟩
    by_cases h2 : 0 < i
    · have H := Lib.hid (show r = false by rw [← HQ.out, decide_eq_false (by omega), Bool.false_and])
      go_wp2_with fail
      go_ret
      exact ⟨ret_bool H.out.symm, HB.out⟩
    have e1 : 0 < n := by omega
    have H := Lib.hid (show r = false by rw [← HQ.out, decide_eq_false (by omega), Bool.false_and])
    clear hz
    go_wp2_with fail
    go_ret
    exact ⟨ret_bool H.out.symm, HB.out⟩
theorem rmay_plain_2 (nm : ByteArray) (q i : Nat) (ss : List Ed.Sl) : Ed.mayE ⟨2, nm, q, i, ss⟩ = (decide (q ≤ 1099511627776 ∧ 1 ≤ nm.size ∧ nm.size ≤ 32 ∧ i = 0 ∧ ss.length = 0) && Ed.upS 0 ss) := by
  show (decide ((1 : Int) ≤ 2 ∧ (2 : Int) ≤ 6) && Ed.inB (Ed.seqB 2) q && Ed.nameOk 2 nm.size && Ed.inB (Ed.idB 2) i && Ed.inB (Ed.manyB 2) ss.length && Ed.upS 0 ss) = _
  rw [show decide ((1 : Int) ≤ 2 ∧ (2 : Int) ≤ 6) = true from rfl, show Ed.seqB 2 = (0, 1099511627776) from rfl, show Ed.nameOk 2 nm.size = decide (1 ≤ nm.size ∧ nm.size ≤ 32) from rfl, show Ed.idB 2 = (0, 0) from rfl, show Ed.manyB 2 = (0, 0) from rfl]
  simp only [Ed.inB, Bool.true_and]
  cases hu : Ed.upS 0 ss
  · simp only [Bool.and_false]
  · simp only [Bool.and_true]
    rw [Bool.eq_iff_iff]
    simp only [Bool.and_eq_true, decide_eq_true_eq]
    constructor <;> intro h <;> omega
set_option maxRecDepth 100000 in
set_option maxHeartbeats 8000000 in
theorem rmay_2 (nm : ByteArray) (q i : Nat) (ss : List Ed.Sl) (sv : Value) (w : World) (hs : Sls w w.heap.size sv ss) (f : Ed.Fit ⟨2, nm, q, i, ss⟩) :
    Calls Tryd.prog 13 #[edV 2 nm q i sv] w fun e w' => e = .returned (.bool (Ed.mayE ⟨2, nm, q, i, ss⟩)) ∧ Below w.heap.size w w' := by
  obtain ⟨A, c, rfl, hc, hr⟩ := id hs
  rw [rmay_plain_2]
  obtain ⟨r, hr⟩ : ∃ r, (decide (q ≤ 1099511627776 ∧ 1 ≤ nm.size ∧ nm.size ≤ 32 ∧ i = 0 ∧ ss.length = 0) && Ed.upS 0 ss) = r := ⟨_, rfl⟩
  rw [hr]
  have HQ := Lib.hid hr
  have HF := Lib.hid f
  have Hs := Lib.hid hs
  have hn0 := f.many
  simp only at hn0
  generalize hn : ss.length = n at *
  have Hn := Lib.hid hn
  clear hr hs f hc hn
  by_cases hz : n = 0
  · subst hz
    have B0 := Bx.new w #[.int .i64 2, .string nm, .int .u64 q, .int .u32 i, .slice A 0 c] 36 _ rfl
    have b0 := bnew w (.cells #[.int .i64 2, .string nm, .int .u64 q, .int .u32 i, .slice A 0 c] 36)
    obtain ⟨x0, x1, x2, x3, x4⟩ : _ ∧ _ ∧ _ ∧ _ ∧ _ := ⟨B0.cell 0 _ rfl, B0.cell 1 _ rfl, B0.cell 2 _ rfl, B0.cell 3 _ rfl, B0.cell 4 _ rfl⟩
    have HB := Lib.hid b0
    have HX := Lib.hid B0
    have HS := Lib.hid (Hs.out.below b0 (Nat.le_refl _))
    clear B0 b0
    unfold edV
    go_enter Tryd.func13, Tryd.ntmps13
    go_wp2_with fail
    refine (rparts_2 _).mono ?_
    rintro en w1 ⟨rfl, rfl⟩
    by_cases h0 : (1099511627776 : Int) < (q : Int)
    · have H := Lib.hid (show r = false by rw [← HQ.out, decide_eq_false (by omega), Bool.false_and])
      go_wp2_with fail
      go_ret
      exact ⟨ret_bool H.out.symm, HB.out⟩
    by_cases h1 : nm.size = 0
    · have H := Lib.hid (show r = false by rw [← HQ.out, decide_eq_false (by omega), Bool.false_and])
      go_wp2_with fail
      go_ret
      exact ⟨ret_bool H.out.symm, HB.out⟩
    by_cases h2 : (32 : Int) < (nm.size : Int)
    · have H := Lib.hid (show r = false by rw [← HQ.out, decide_eq_false (by omega), Bool.false_and])
      go_wp2_with fail
      go_ret
      exact ⟨ret_bool H.out.symm, HB.out⟩
    by_cases h3 : 0 < i
    · have H := Lib.hid (show r = false by rw [← HQ.out, decide_eq_false (by omega), Bool.false_and])
      go_wp2_with fail
      go_ret
      exact ⟨ret_bool H.out.symm, HB.out⟩
    have H := Lib.hid (show r = true by rw [← HQ.out, decide_eq_true (by (repeat' apply And.intro) <;> first | rfl | trivial | omega), Bool.true_and, List.eq_nil_of_length_eq_zero (show ss.length = 0 from Hn.out)]; rfl)
    clear hn0
    go_wp2_with fail
    generalize hwy : w.alloc _ = wy at *
    clear hwy
    go_loopg [7] 0 (fun g iv wr => iv = .int .i64 0 ∧ wr = wy)
    case atStart => exact ⟨rfl, rfl⟩
    case round =>
      obtain ⟨rfl, rfl⟩ := hrel
      go_wp2_with fail
      go_ret
      exact ⟨ret_bool H.out.symm, HB.out⟩
  · skip
    have B0 := Bx.new w #[.int .i64 2, .string nm, .int .u64 q, .int .u32 i, .slice A n c] 36 _ rfl
    have b0 := bnew w (.cells #[.int .i64 2, .string nm, .int .u64 q, .int .u32 i, .slice A n c] 36)
    obtain ⟨x0, x1, x2, x3, x4⟩ : _ ∧ _ ∧ _ ∧ _ ∧ _ := ⟨B0.cell 0 _ rfl, B0.cell 1 _ rfl, B0.cell 2 _ rfl, B0.cell 3 _ rfl, B0.cell 4 _ rfl⟩
    have HB := Lib.hid b0
    have HX := Lib.hid B0
    have HS := Lib.hid (Hs.out.below b0 (Nat.le_refl _))
    clear B0 b0
    unfold edV
    go_enter Tryd.func13, Tryd.ntmps13
    go_wp2_with fail
    refine (rparts_2 _).mono ?_
    rintro en w1 ⟨rfl, rfl⟩
    by_cases h0 : (1099511627776 : Int) < (q : Int)
    · have H := Lib.hid (show r = false by rw [← HQ.out, decide_eq_false (by omega), Bool.false_and])
      go_wp2_with fail
      go_ret
      exact ⟨ret_bool H.out.symm, HB.out⟩
    by_cases h1 : nm.size = 0
    · have H := Lib.hid (show r = false by rw [← HQ.out, decide_eq_false (by omega), Bool.false_and])
      go_wp2_with fail
      go_ret
      exact ⟨ret_bool H.out.symm, HB.out⟩
    by_cases h2 : (32 : Int) < (nm.size : Int)
    · have H := Lib.hid (show r = false by rw [← HQ.out, decide_eq_false (by omega), Bool.false_and])
      go_wp2_with fail
      go_ret
      exact ⟨ret_bool H.out.symm, HB.out⟩
    by_cases h3 : 0 < i
    · have H := Lib.hid (show r = false by rw [← HQ.out, decide_eq_false (by omega), Bool.false_and])
      go_wp2_with fail
      go_ret
      exact ⟨ret_bool H.out.symm, HB.out⟩
    have e1 : 0 < n := by omega
    have H := Lib.hid (show r = false by rw [← HQ.out, decide_eq_false (by omega), Bool.false_and])
    clear hz
    go_wp2_with fail
    go_ret
    exact ⟨ret_bool H.out.symm, HB.out⟩
theorem rmay_plain_3 (nm : ByteArray) (q i : Nat) (ss : List Ed.Sl) : Ed.mayE ⟨3, nm, q, i, ss⟩ = (decide (q = 0 ∧ 1 ≤ nm.size ∧ nm.size ≤ 32 ∧ i = 0 ∧ ss.length = 0) && Ed.upS 0 ss) := by
  show (decide ((1 : Int) ≤ 3 ∧ (3 : Int) ≤ 6) && Ed.inB (Ed.seqB 3) q && Ed.nameOk 3 nm.size && Ed.inB (Ed.idB 3) i && Ed.inB (Ed.manyB 3) ss.length && Ed.upS 0 ss) = _
  rw [show decide ((1 : Int) ≤ 3 ∧ (3 : Int) ≤ 6) = true from rfl, show Ed.seqB 3 = (0, 0) from rfl, show Ed.nameOk 3 nm.size = decide (1 ≤ nm.size ∧ nm.size ≤ 32) from rfl, show Ed.idB 3 = (0, 0) from rfl, show Ed.manyB 3 = (0, 0) from rfl]
  simp only [Ed.inB, Bool.true_and]
  cases hu : Ed.upS 0 ss
  · simp only [Bool.and_false]
  · simp only [Bool.and_true]
    rw [Bool.eq_iff_iff]
    simp only [Bool.and_eq_true, decide_eq_true_eq]
    constructor <;> intro h <;> omega
set_option maxRecDepth 100000 in
set_option maxHeartbeats 8000000 in
theorem rmay_3 (nm : ByteArray) (q i : Nat) (ss : List Ed.Sl) (sv : Value) (w : World) (hs : Sls w w.heap.size sv ss) (f : Ed.Fit ⟨3, nm, q, i, ss⟩) :
    Calls Tryd.prog 13 #[edV 3 nm q i sv] w fun e w' => e = .returned (.bool (Ed.mayE ⟨3, nm, q, i, ss⟩)) ∧ Below w.heap.size w w' := by
  obtain ⟨A, c, rfl, hc, hr⟩ := id hs
  rw [rmay_plain_3]
  obtain ⟨r, hr⟩ : ∃ r, (decide (q = 0 ∧ 1 ≤ nm.size ∧ nm.size ≤ 32 ∧ i = 0 ∧ ss.length = 0) && Ed.upS 0 ss) = r := ⟨_, rfl⟩
  rw [hr]
  have HQ := Lib.hid hr
  have HF := Lib.hid f
  have Hs := Lib.hid hs
  have hn0 := f.many
  simp only at hn0
  generalize hn : ss.length = n at *
  have Hn := Lib.hid hn
  clear hr hs f hc hn
  by_cases hz : n = 0
  · subst hz
    have B0 := Bx.new w #[.int .i64 3, .string nm, .int .u64 q, .int .u32 i, .slice A 0 c] 36 _ rfl
    have b0 := bnew w (.cells #[.int .i64 3, .string nm, .int .u64 q, .int .u32 i, .slice A 0 c] 36)
    obtain ⟨x0, x1, x2, x3, x4⟩ : _ ∧ _ ∧ _ ∧ _ ∧ _ := ⟨B0.cell 0 _ rfl, B0.cell 1 _ rfl, B0.cell 2 _ rfl, B0.cell 3 _ rfl, B0.cell 4 _ rfl⟩
    have HB := Lib.hid b0
    have HX := Lib.hid B0
    have HS := Lib.hid (Hs.out.below b0 (Nat.le_refl _))
    clear B0 b0
    unfold edV
    go_enter Tryd.func13, Tryd.ntmps13
    go_wp2_with fail
    refine (rparts_3 _).mono ?_
    rintro en w1 ⟨rfl, rfl⟩
    by_cases h0 : (1099511627776 : Int) < (q : Int)
    · have H := Lib.hid (show r = false by rw [← HQ.out, decide_eq_false (by omega), Bool.false_and])
      go_wp2_with fail
      go_ret
      exact ⟨ret_bool H.out.symm, HB.out⟩
    by_cases h1 : 0 < q
    · have H := Lib.hid (show r = false by rw [← HQ.out, decide_eq_false (by omega), Bool.false_and])
      go_wp2_with fail
      go_ret
      exact ⟨ret_bool H.out.symm, HB.out⟩
    by_cases h2 : nm.size = 0
    · have H := Lib.hid (show r = false by rw [← HQ.out, decide_eq_false (by omega), Bool.false_and])
      go_wp2_with fail
      go_ret
      exact ⟨ret_bool H.out.symm, HB.out⟩
    by_cases h3 : (32 : Int) < (nm.size : Int)
    · have H := Lib.hid (show r = false by rw [← HQ.out, decide_eq_false (by omega), Bool.false_and])
      go_wp2_with fail
      go_ret
      exact ⟨ret_bool H.out.symm, HB.out⟩
    by_cases h4 : 0 < i
    · have H := Lib.hid (show r = false by rw [← HQ.out, decide_eq_false (by omega), Bool.false_and])
      go_wp2_with fail
      go_ret
      exact ⟨ret_bool H.out.symm, HB.out⟩
    have H := Lib.hid (show r = true by rw [← HQ.out, decide_eq_true (by (repeat' apply And.intro) <;> first | rfl | trivial | omega), Bool.true_and, List.eq_nil_of_length_eq_zero (show ss.length = 0 from Hn.out)]; rfl)
    clear hn0
    go_wp2_with fail
    generalize hwy : w.alloc _ = wy at *
    clear hwy
    go_loopg [7] 0 (fun g iv wr => iv = .int .i64 0 ∧ wr = wy)
    case atStart => exact ⟨rfl, rfl⟩
    case round =>
      obtain ⟨rfl, rfl⟩ := hrel
      go_wp2_with fail
      go_ret
      exact ⟨ret_bool H.out.symm, HB.out⟩
  · skip
    have B0 := Bx.new w #[.int .i64 3, .string nm, .int .u64 q, .int .u32 i, .slice A n c] 36 _ rfl
    have b0 := bnew w (.cells #[.int .i64 3, .string nm, .int .u64 q, .int .u32 i, .slice A n c] 36)
    obtain ⟨x0, x1, x2, x3, x4⟩ : _ ∧ _ ∧ _ ∧ _ ∧ _ := ⟨B0.cell 0 _ rfl, B0.cell 1 _ rfl, B0.cell 2 _ rfl, B0.cell 3 _ rfl, B0.cell 4 _ rfl⟩
    have HB := Lib.hid b0
    have HX := Lib.hid B0
    have HS := Lib.hid (Hs.out.below b0 (Nat.le_refl _))
    clear B0 b0
    unfold edV
    go_enter Tryd.func13, Tryd.ntmps13
    go_wp2_with fail
    refine (rparts_3 _).mono ?_
    rintro en w1 ⟨rfl, rfl⟩
    by_cases h0 : (1099511627776 : Int) < (q : Int)
    · have H := Lib.hid (show r = false by rw [← HQ.out, decide_eq_false (by omega), Bool.false_and])
      go_wp2_with fail
      go_ret
      exact ⟨ret_bool H.out.symm, HB.out⟩
    by_cases h1 : 0 < q
    · have H := Lib.hid (show r = false by rw [← HQ.out, decide_eq_false (by omega), Bool.false_and])
      go_wp2_with fail
      go_ret
      exact ⟨ret_bool H.out.symm, HB.out⟩
    by_cases h2 : nm.size = 0
    · have H := Lib.hid (show r = false by rw [← HQ.out, decide_eq_false (by omega), Bool.false_and])
      go_wp2_with fail
      go_ret
      exact ⟨ret_bool H.out.symm, HB.out⟩
    by_cases h3 : (32 : Int) < (nm.size : Int)
    · have H := Lib.hid (show r = false by rw [← HQ.out, decide_eq_false (by omega), Bool.false_and])
      go_wp2_with fail
      go_ret
      exact ⟨ret_bool H.out.symm, HB.out⟩
    by_cases h4 : 0 < i
    · have H := Lib.hid (show r = false by rw [← HQ.out, decide_eq_false (by omega), Bool.false_and])
      go_wp2_with fail
      go_ret
      exact ⟨ret_bool H.out.symm, HB.out⟩
    have e1 : 0 < n := by omega
    have H := Lib.hid (show r = false by rw [← HQ.out, decide_eq_false (by omega), Bool.false_and])
    clear hz
    go_wp2_with fail
    go_ret
    exact ⟨ret_bool H.out.symm, HB.out⟩
theorem rmay_plain_4 (nm : ByteArray) (q i : Nat) (ss : List Ed.Sl) : Ed.mayE ⟨4, nm, q, i, ss⟩ = (decide (q = 0 ∧ nm.size = 0 ∧ 1 ≤ i ∧ i ≤ 16777215 ∧ ss.length = 0) && Ed.upS 0 ss) := by
  show (decide ((1 : Int) ≤ 4 ∧ (4 : Int) ≤ 6) && Ed.inB (Ed.seqB 4) q && Ed.nameOk 4 nm.size && Ed.inB (Ed.idB 4) i && Ed.inB (Ed.manyB 4) ss.length && Ed.upS 0 ss) = _
  rw [show decide ((1 : Int) ≤ 4 ∧ (4 : Int) ≤ 6) = true from rfl, show Ed.seqB 4 = (0, 0) from rfl, show Ed.nameOk 4 nm.size = decide (nm.size = 0) from rfl, show Ed.idB 4 = (1, 16777215) from rfl, show Ed.manyB 4 = (0, 0) from rfl]
  simp only [Ed.inB, Bool.true_and]
  cases hu : Ed.upS 0 ss
  · simp only [Bool.and_false]
  · simp only [Bool.and_true]
    rw [Bool.eq_iff_iff]
    simp only [Bool.and_eq_true, decide_eq_true_eq]
    constructor <;> intro h <;> omega
set_option maxRecDepth 100000 in
set_option maxHeartbeats 8000000 in
theorem rmay_4 (nm : ByteArray) (q i : Nat) (ss : List Ed.Sl) (sv : Value) (w : World) (hs : Sls w w.heap.size sv ss) (f : Ed.Fit ⟨4, nm, q, i, ss⟩) :
    Calls Tryd.prog 13 #[edV 4 nm q i sv] w fun e w' => e = .returned (.bool (Ed.mayE ⟨4, nm, q, i, ss⟩)) ∧ Below w.heap.size w w' := by
  obtain ⟨A, c, rfl, hc, hr⟩ := id hs
  rw [rmay_plain_4]
  obtain ⟨r, hr⟩ : ∃ r, (decide (q = 0 ∧ nm.size = 0 ∧ 1 ≤ i ∧ i ≤ 16777215 ∧ ss.length = 0) && Ed.upS 0 ss) = r := ⟨_, rfl⟩
  rw [hr]
  have HQ := Lib.hid hr
  have HF := Lib.hid f
  have Hs := Lib.hid hs
  have hn0 := f.many
  simp only at hn0
  generalize hn : ss.length = n at *
  have Hn := Lib.hid hn
  clear hr hs f hc hn
  by_cases hz : n = 0
  · subst hz
    have B0 := Bx.new w #[.int .i64 4, .string nm, .int .u64 q, .int .u32 i, .slice A 0 c] 36 _ rfl
    have b0 := bnew w (.cells #[.int .i64 4, .string nm, .int .u64 q, .int .u32 i, .slice A 0 c] 36)
    obtain ⟨x0, x1, x2, x3, x4⟩ : _ ∧ _ ∧ _ ∧ _ ∧ _ := ⟨B0.cell 0 _ rfl, B0.cell 1 _ rfl, B0.cell 2 _ rfl, B0.cell 3 _ rfl, B0.cell 4 _ rfl⟩
    have HB := Lib.hid b0
    have HX := Lib.hid B0
    have HS := Lib.hid (Hs.out.below b0 (Nat.le_refl _))
    clear B0 b0
    unfold edV
    go_enter Tryd.func13, Tryd.ntmps13
    go_wp2_with fail
    refine (rparts_4 _).mono ?_
    rintro en w1 ⟨rfl, rfl⟩
    by_cases h0 : (1099511627776 : Int) < (q : Int)
    · have H := Lib.hid (show r = false by rw [← HQ.out, decide_eq_false (by omega), Bool.false_and])
      go_wp2_with fail
      go_ret
      exact ⟨ret_bool H.out.symm, HB.out⟩
    by_cases h1 : 0 < q
    · have H := Lib.hid (show r = false by rw [← HQ.out, decide_eq_false (by omega), Bool.false_and])
      go_wp2_with fail
      go_ret
      exact ⟨ret_bool H.out.symm, HB.out⟩
    by_cases h2 : 0 < nm.size
    · have H := Lib.hid (show r = false by rw [← HQ.out, decide_eq_false (by omega), Bool.false_and])
      go_wp2_with fail
      go_ret
      exact ⟨ret_bool H.out.symm, HB.out⟩
    by_cases h3 : i = 0
    · have H := Lib.hid (show r = false by rw [← HQ.out, decide_eq_false (by omega), Bool.false_and])
      go_wp2_with fail
      go_ret
      exact ⟨ret_bool H.out.symm, by subst h3; exact HB.out⟩
    by_cases h4 : (16777215 : Int) < (i : Int)
    · have H := Lib.hid (show r = false by rw [← HQ.out, decide_eq_false (by omega), Bool.false_and])
      go_wp2_with fail
      go_ret
      exact ⟨ret_bool H.out.symm, HB.out⟩
    have H := Lib.hid (show r = true by rw [← HQ.out, decide_eq_true (by (repeat' apply And.intro) <;> first | rfl | trivial | omega), Bool.true_and, List.eq_nil_of_length_eq_zero (show ss.length = 0 from Hn.out)]; rfl)
    clear hn0
    go_wp2_with fail
    generalize hwy : w.alloc _ = wy at *
    clear hwy
    go_loopg [7] 0 (fun g iv wr => iv = .int .i64 0 ∧ wr = wy)
    case atStart => exact ⟨rfl, rfl⟩
    case round =>
      obtain ⟨rfl, rfl⟩ := hrel
      go_wp2_with fail
      go_ret
      exact ⟨ret_bool H.out.symm, HB.out⟩
  · skip
    have B0 := Bx.new w #[.int .i64 4, .string nm, .int .u64 q, .int .u32 i, .slice A n c] 36 _ rfl
    have b0 := bnew w (.cells #[.int .i64 4, .string nm, .int .u64 q, .int .u32 i, .slice A n c] 36)
    obtain ⟨x0, x1, x2, x3, x4⟩ : _ ∧ _ ∧ _ ∧ _ ∧ _ := ⟨B0.cell 0 _ rfl, B0.cell 1 _ rfl, B0.cell 2 _ rfl, B0.cell 3 _ rfl, B0.cell 4 _ rfl⟩
    have HB := Lib.hid b0
    have HX := Lib.hid B0
    have HS := Lib.hid (Hs.out.below b0 (Nat.le_refl _))
    clear B0 b0
    unfold edV
    go_enter Tryd.func13, Tryd.ntmps13
    go_wp2_with fail
    refine (rparts_4 _).mono ?_
    rintro en w1 ⟨rfl, rfl⟩
    by_cases h0 : (1099511627776 : Int) < (q : Int)
    · have H := Lib.hid (show r = false by rw [← HQ.out, decide_eq_false (by omega), Bool.false_and])
      go_wp2_with fail
      go_ret
      exact ⟨ret_bool H.out.symm, HB.out⟩
    by_cases h1 : 0 < q
    · have H := Lib.hid (show r = false by rw [← HQ.out, decide_eq_false (by omega), Bool.false_and])
      go_wp2_with fail
      go_ret
      exact ⟨ret_bool H.out.symm, HB.out⟩
    by_cases h2 : 0 < nm.size
    · have H := Lib.hid (show r = false by rw [← HQ.out, decide_eq_false (by omega), Bool.false_and])
      go_wp2_with fail
      go_ret
      exact ⟨ret_bool H.out.symm, HB.out⟩
    by_cases h3 : i = 0
    · have H := Lib.hid (show r = false by rw [← HQ.out, decide_eq_false (by omega), Bool.false_and])
      go_wp2_with fail
      go_ret
      exact ⟨ret_bool H.out.symm, by subst h3; exact HB.out⟩
    by_cases h4 : (16777215 : Int) < (i : Int)
    · have H := Lib.hid (show r = false by rw [← HQ.out, decide_eq_false (by omega), Bool.false_and])
      go_wp2_with fail
      go_ret
      exact ⟨ret_bool H.out.symm, HB.out⟩
    have e1 : 0 < n := by omega
    have H := Lib.hid (show r = false by rw [← HQ.out, decide_eq_false (by omega), Bool.false_and])
    clear hz
    go_wp2_with fail
    go_ret
    exact ⟨ret_bool H.out.symm, HB.out⟩
theorem rmay_plain_5 (nm : ByteArray) (q i : Nat) (ss : List Ed.Sl) : Ed.mayE ⟨5, nm, q, i, ss⟩ = (decide (q = 0 ∧ nm.size = 0 ∧ i = 0 ∧ ss.length = 1) && Ed.upS 0 ss) := by
  show (decide ((1 : Int) ≤ 5 ∧ (5 : Int) ≤ 6) && Ed.inB (Ed.seqB 5) q && Ed.nameOk 5 nm.size && Ed.inB (Ed.idB 5) i && Ed.inB (Ed.manyB 5) ss.length && Ed.upS 0 ss) = _
  rw [show decide ((1 : Int) ≤ 5 ∧ (5 : Int) ≤ 6) = true from rfl, show Ed.seqB 5 = (0, 0) from rfl, show Ed.nameOk 5 nm.size = decide (nm.size = 0) from rfl, show Ed.idB 5 = (0, 0) from rfl, show Ed.manyB 5 = (1, 1) from rfl]
  simp only [Ed.inB, Bool.true_and]
  cases hu : Ed.upS 0 ss
  · simp only [Bool.and_false]
  · simp only [Bool.and_true]
    rw [Bool.eq_iff_iff]
    simp only [Bool.and_eq_true, decide_eq_true_eq]
    constructor <;> intro h <;> omega
set_option maxRecDepth 100000 in
set_option maxHeartbeats 8000000 in
theorem rmay_5 (nm : ByteArray) (q i : Nat) (ss : List Ed.Sl) (sv : Value) (w : World) (hs : Sls w w.heap.size sv ss) (f : Ed.Fit ⟨5, nm, q, i, ss⟩) :
    Calls Tryd.prog 13 #[edV 5 nm q i sv] w fun e w' => e = .returned (.bool (Ed.mayE ⟨5, nm, q, i, ss⟩)) ∧ Below w.heap.size w w' := by
  obtain ⟨A, c, rfl, hc, hr⟩ := id hs
  rw [rmay_plain_5]
  obtain ⟨r, hr⟩ : ∃ r, (decide (q = 0 ∧ nm.size = 0 ∧ i = 0 ∧ ss.length = 1) && Ed.upS 0 ss) = r := ⟨_, rfl⟩
  rw [hr]
  have HQ := Lib.hid hr
  have HF := Lib.hid f
  have Hs := Lib.hid hs
  have hn0 := f.many
  simp only at hn0
  generalize hn : ss.length = n at *
  have Hn := Lib.hid hn
  clear hr hs f hc hn
  by_cases hz : n = 1
  · subst hz
    have B0 := Bx.new w #[.int .i64 5, .string nm, .int .u64 q, .int .u32 i, .slice A 1 c] 36 _ rfl
    have b0 := bnew w (.cells #[.int .i64 5, .string nm, .int .u64 q, .int .u32 i, .slice A 1 c] 36)
    obtain ⟨x0, x1, x2, x3, x4⟩ : _ ∧ _ ∧ _ ∧ _ ∧ _ := ⟨B0.cell 0 _ rfl, B0.cell 1 _ rfl, B0.cell 2 _ rfl, B0.cell 3 _ rfl, B0.cell 4 _ rfl⟩
    have HB := Lib.hid b0
    have HX := Lib.hid B0
    have HS := Lib.hid (Hs.out.below b0 (Nat.le_refl _))
    clear B0 b0
    unfold edV
    go_enter Tryd.func13, Tryd.ntmps13
    go_wp2_with fail
    refine (rparts_5 _).mono ?_
    rintro en w1 ⟨rfl, rfl⟩
    by_cases h0 : (1099511627776 : Int) < (q : Int)
    · have H := Lib.hid (show r = false by rw [← HQ.out, decide_eq_false (by omega), Bool.false_and])
      go_wp2_with fail
      go_ret
      exact ⟨ret_bool H.out.symm, HB.out⟩
    by_cases h1 : 0 < q
    · have H := Lib.hid (show r = false by rw [← HQ.out, decide_eq_false (by omega), Bool.false_and])
      go_wp2_with fail
      go_ret
      exact ⟨ret_bool H.out.symm, HB.out⟩
    by_cases h2 : 0 < nm.size
    · have H := Lib.hid (show r = false by rw [← HQ.out, decide_eq_false (by omega), Bool.false_and])
      go_wp2_with fail
      go_ret
      exact ⟨ret_bool H.out.symm, HB.out⟩
    by_cases h3 : 0 < i
    · have H := Lib.hid (show r = false by rw [← HQ.out, decide_eq_false (by omega), Bool.false_and])
      go_wp2_with fail
      go_ret
      exact ⟨ret_bool H.out.symm, HB.out⟩
    have HU := Lib.hid (show Ed.upS 0 ss = r by rw [← HQ.out, decide_eq_true (by (repeat' apply And.intro) <;> first | rfl | trivial | omega), Bool.true_and])
    have Hn2 := Lib.hid (show 1 ≤ 200 by omega)
    go_wp2_with fail
    clear h0 h1 h2 h3
    generalize hwy : w.alloc _ = wy at *
    clear hwy
    go_loopg [7] 1 (fun g iv wr => ∃ (j a : Nat), j + g = 1 ∧ iv = .int .i64 j ∧ (j = 0 ∧ a = 0 ∨ ∃ (m : Nat) (p : Ed.Sl), j = m + 1 ∧ ss[m]? = some p ∧ a = p.id) ∧ Ed.upS a (ss.drop j) = r ∧ Below wy.heap.size wy wr)
    case atStart => exact ⟨0, 0, by omega, rfl, Or.inl ⟨rfl, rfl⟩, HU.out, Below.refl _ _⟩
    case round =>
      obtain ⟨j, a, hj, rfl, hpr, hup, hb⟩ := hrel
      have Hup := Lib.hid hup
      have Hpr := Lib.hid hpr
      have Hb := Lib.hid hb
      have y4 := (HX.out.on hb).cell 4 _ rfl
      have HS1 := Lib.hid (HS.out.keep fun p hp => hb.cell (Nat.lt_of_lt_of_le hp HB.out.size))
      clear hpr hup hb x0 x1 x2 x3 x4
      by_cases hlt : j < 1
      · have hlt' : (j : Int) < (1 : Int) := by omega
        obtain ⟨s, hs⟩ : ∃ s, ss[j]? = some s := ⟨_, List.getElem?_eq_getElem (by rw [Hn.out]; exact hlt)⟩
        have Hfs := Lib.hid (HF.out.seals s (List.mem_of_getElem? hs))
        obtain ⟨gb, go, cc, hA, hgb, a0, a1, a2, a3, a4⟩ := HS1.out.at hs
        injection hA with hA1 hA2 hA3
        subst hA1
        clear hA2 hA3 hgb
        have Hst := Lib.hid hs
        clear hs
        go_wp2_with fail
        have hsl := rmaySeal_b s wr Hfs.out
        unfold slV at hsl
        cases hms : Ed.mayS s
        · refine (hsl false hms).mono ?_
          rintro en w2 ⟨rfl, h2⟩
          have H := Lib.hid (show r = false by rw [← Hup.out, ed_prev Hst.out, hms]; rfl)
          have Hb2 := Lib.hid (bstep (bstep HB.out Hb.out) h2)
          clear h2 hms hsl
          go_wp2_with fail
          go_ret
          exact ⟨ret_bool H.out.symm, Hb2.out⟩
        · refine (hsl true hms).mono ?_
          rintro en w2 ⟨rfl, h2⟩
          have Hup2 := Lib.hid (show (decide (a < s.id) && Ed.upS s.id (ss.drop (j + 1))) = r by rw [← Hup.out, ed_prev Hst.out, hms, Bool.true_and])
          have Hpos := Lib.hid (show 0 < s.id by simp only [Ed.mayS, decide_eq_true_eq] at hms; omega)
          have Hb2 := Lib.hid (bstep Hb.out h2)
          have y4 := (HX.out.on Hb2.out).cell 4 _ rfl
          have HS2 := Lib.hid (HS.out.keep fun p hp => Hb2.out.cell (Nat.lt_of_lt_of_le hp HB.out.size))
          obtain ⟨gb', go', cc', hA, hgb', a0, a1, a2, a3, a4⟩ := HS2.out.at Hst.out
          injection hA with hA1 hA2 hA3
          injection hA1 with hA1
          injection hA1 with hA4 hA5
          subst hA4 hA5
          clear hA2 hA3 hgb' h2 hms hsl a1 a2 a3 a4
          have zj : IntKind.i64.wrap ((j : Int) + 1) = (j : Int) + 1 := IntWalk.i64_in _ (by have := Hn2.out; omega)
          rcases Hpr.out with ⟨hj0, ha0⟩ | ⟨m, p, hjm, hp, hap⟩
          · subst hj0
            subst ha0
            have Hup3 := Lib.hid (show Ed.upS s.id (ss.drop (0 + 1)) = r by rw [← Hup2.out, decide_eq_true Hpos.out, Bool.true_and])
            go_upto_region 17 with fail
            refine wp_region_noPanic ?_
            refine wp_region_held_drew (S := fun w' : World => True) (by kernel_rfl) (trivial) (fun hHeld => ?_)
            refine wpAnyH_take (i := 0) (v := ?_) opAt_0 (by kernel_rfl) (by kernel_rfl) (by kernel_rfl) (fun _ _ _ h => h) (Or.inl ⟨by rfl, ?_⟩) (by assumption) ?_
            rotate_left
            · (intro w hSw; (try dsimp only at hSw); go_simp; try with_reducible rfl)
            try simp only [Act.put, List.setIfInBounds_toArray, List.set_cons_zero, List.set_cons_succ]
            refine wpAnyH_take (i := 1) (v := ?_) opAt_1 (by kernel_rfl) (by kernel_rfl) (by kernel_rfl) (fun _ _ _ h => h) (Or.inl ⟨by rfl, ?_⟩) (by assumption) ?_
            rotate_left
            · (intro w hSw; (try dsimp only at hSw); go_simp; try with_reducible rfl)
            try simp only [Act.put, List.setIfInBounds_toArray, List.set_cons_zero, List.set_cons_succ]
            refine wpAnyH_take (i := 2) (v := ?_) opAt_2 (by kernel_rfl) (by kernel_rfl) (by kernel_rfl) (fun _ _ _ h => h) (Or.inl ⟨by rfl, ?_⟩) (by assumption) ?_
            rotate_left
            · (intro w hSw; (try dsimp only at hSw); go_simp; try with_reducible rfl)
            try simp only [Act.put, List.setIfInBounds_toArray, List.set_cons_zero, List.set_cons_succ]
            refine wpAnyH_take (i := 3) (v := undef) opAt_3 (by kernel_rfl) (by kernel_rfl) (by kernel_rfl) (fun _ _ _ h => h) (Or.inr ⟨by rfl, rfl⟩) (by assumption) ?_
            try simp only [Act.put, List.setIfInBounds_toArray, List.set_cons_zero, List.set_cons_succ]
            refine wpAnyH_take (i := 4) (v := undef) opAt_4 (by kernel_rfl) (by kernel_rfl) (by kernel_rfl) (fun _ _ _ h => h) (Or.inr ⟨by rfl, rfl⟩) (by assumption) ?_
            try simp only [Act.put, List.setIfInBounds_toArray, List.set_cons_zero, List.set_cons_succ]
            refine wpAnyH_take (i := 5) (v := undef) opAt_5 (by kernel_rfl) (by kernel_rfl) (by kernel_rfl) (fun _ _ _ h => h) (Or.inr ⟨by rfl, rfl⟩) (by assumption) ?_
            try simp only [Act.put, List.setIfInBounds_toArray, List.set_cons_zero, List.set_cons_succ]
            refine wpAnyH_take (i := 6) (v := undef) opAt_6 (by kernel_rfl) (by kernel_rfl) (by kernel_rfl) (fun _ _ _ h => h) (Or.inr ⟨by rfl, rfl⟩) (by assumption) ?_
            try simp only [Act.put, List.setIfInBounds_toArray, List.set_cons_zero, List.set_cons_succ]
            refine wpAnyH_take (i := 7) (v := undef) opAt_7 (by kernel_rfl) (by kernel_rfl) (by kernel_rfl) (fun _ _ _ h => h) (Or.inr ⟨by rfl, rfl⟩) (by assumption) ?_
            try simp only [Act.put, List.setIfInBounds_toArray, List.set_cons_zero, List.set_cons_succ]
            refine wpAnyH_take (i := 8) (v := undef) opAt_8 (by kernel_rfl) (by kernel_rfl) (by kernel_rfl) (fun _ _ _ h => h) (Or.inr ⟨by rfl, rfl⟩) (by assumption) ?_
            try simp only [Act.put, List.setIfInBounds_toArray, List.set_cons_zero, List.set_cons_succ]
            refine wpAnyH_take (i := 9) (v := undef) opAt_9 (by kernel_rfl) (by kernel_rfl) (by kernel_rfl) (fun _ _ _ h => h) (Or.inr ⟨by rfl, rfl⟩) (by assumption) ?_
            try simp only [Act.put, List.setIfInBounds_toArray, List.set_cons_zero, List.set_cons_succ]
            refine wpAnyH_take (i := 10) (v := undef) opAt_10 (by kernel_rfl) (by kernel_rfl) (by kernel_rfl) (fun _ _ _ h => h) (Or.inr ⟨by rfl, rfl⟩) (by assumption) ?_
            try simp only [Act.put, List.setIfInBounds_toArray, List.set_cons_zero, List.set_cons_succ]
            refine wpAnyH_take (i := 11) (v := undef) opAt_11 (by kernel_rfl) (by kernel_rfl) (by kernel_rfl) (fun _ _ _ h => h) (Or.inr ⟨by rfl, rfl⟩) (by assumption) ?_
            try simp only [Act.put, List.setIfInBounds_toArray, List.set_cons_zero, List.set_cons_succ]
            refine wpAnyH_take (i := 12) (v := undef) opAt_12 (by kernel_rfl) (by kernel_rfl) (by kernel_rfl) (fun _ _ _ h => h) (Or.inr ⟨by rfl, rfl⟩) (by assumption) ?_
            try simp only [Act.put, List.setIfInBounds_toArray, List.set_cons_zero, List.set_cons_succ]
            refine wpAnyH_take (i := 13) (v := undef) opAt_13 (by kernel_rfl) (by kernel_rfl) (by kernel_rfl) (fun _ _ _ h => h) (Or.inr ⟨by rfl, rfl⟩) (by assumption) ?_
            try simp only [Act.put, List.setIfInBounds_toArray, List.set_cons_zero, List.set_cons_succ]
            refine wpAnyH_take (i := 14) (v := undef) opAt_14 (by kernel_rfl) (by kernel_rfl) (by kernel_rfl) (fun _ _ _ h => h) (Or.inr ⟨by rfl, rfl⟩) (by assumption) ?_
            try simp only [Act.put, List.setIfInBounds_toArray, List.set_cons_zero, List.set_cons_succ]
            refine wpAnyH_take (i := 15) (v := undef) opAt_15 (by kernel_rfl) (by kernel_rfl) (by kernel_rfl) (fun _ _ _ h => h) (Or.inr ⟨by rfl, rfl⟩) (by assumption) ?_
            try simp only [Act.put, List.setIfInBounds_toArray, List.set_cons_zero, List.set_cons_succ]
            refine wpAnyH_take (i := 16) (v := undef) opAt_16 (by kernel_rfl) (by kernel_rfl) (by kernel_rfl) (fun _ _ _ h => h) (Or.inr ⟨by rfl, rfl⟩) (by assumption) ?_
            try simp only [Act.put, List.setIfInBounds_toArray, List.set_cons_zero, List.set_cons_succ]
            refine wpAnyH_take (i := 17) (v := ?_) opAt_17 (by kernel_rfl) (by kernel_rfl) (by kernel_rfl) (fun _ _ _ h => h) (Or.inl ⟨by rfl, ?_⟩) (by assumption) ?_
            rotate_left
            · (intro w hSw; (try dsimp only at hSw); go_simp; try with_reducible rfl)
            try simp only [Act.put, List.setIfInBounds_toArray, List.set_cons_zero, List.set_cons_succ]
            refine wpAnyH_done (by kernel_rfl) ?_ _
            refine NoPanic.normal ?_
            clear hHeld
            go_wp2_with fail
            go_roundg (gk - 1)
            case measure => omega
            case rel => exact ⟨0 + 1, s.id, by omega, by go_num, Or.inr ⟨0, s, rfl, Hst.out, rfl⟩, Hup3.out, below_drew1 Hb2.out⟩
          · exfalso; omega
      · obtain rfl : j = 1 := by omega
        have H := Lib.hid (show r = true by rw [← Hup.out, List.drop_eq_nil_of_le (by rw [Hn.out]; exact Nat.le_refl _)]; rfl)
        go_wp2_with fail
        go_ret
        exact ⟨ret_bool H.out.symm, bstep HB.out Hb.out⟩
  · skip
    have B0 := Bx.new w #[.int .i64 5, .string nm, .int .u64 q, .int .u32 i, .slice A n c] 36 _ rfl
    have b0 := bnew w (.cells #[.int .i64 5, .string nm, .int .u64 q, .int .u32 i, .slice A n c] 36)
    obtain ⟨x0, x1, x2, x3, x4⟩ : _ ∧ _ ∧ _ ∧ _ ∧ _ := ⟨B0.cell 0 _ rfl, B0.cell 1 _ rfl, B0.cell 2 _ rfl, B0.cell 3 _ rfl, B0.cell 4 _ rfl⟩
    have HB := Lib.hid b0
    have HX := Lib.hid B0
    have HS := Lib.hid (Hs.out.below b0 (Nat.le_refl _))
    clear B0 b0
    unfold edV
    go_enter Tryd.func13, Tryd.ntmps13
    go_wp2_with fail
    refine (rparts_5 _).mono ?_
    rintro en w1 ⟨rfl, rfl⟩
    by_cases h0 : (1099511627776 : Int) < (q : Int)
    · have H := Lib.hid (show r = false by rw [← HQ.out, decide_eq_false (by omega), Bool.false_and])
      go_wp2_with fail
      go_ret
      exact ⟨ret_bool H.out.symm, HB.out⟩
    by_cases h1 : 0 < q
    · have H := Lib.hid (show r = false by rw [← HQ.out, decide_eq_false (by omega), Bool.false_and])
      go_wp2_with fail
      go_ret
      exact ⟨ret_bool H.out.symm, HB.out⟩
    by_cases h2 : 0 < nm.size
    · have H := Lib.hid (show r = false by rw [← HQ.out, decide_eq_false (by omega), Bool.false_and])
      go_wp2_with fail
      go_ret
      exact ⟨ret_bool H.out.symm, HB.out⟩
    by_cases h3 : 0 < i
    · have H := Lib.hid (show r = false by rw [← HQ.out, decide_eq_false (by omega), Bool.false_and])
      go_wp2_with fail
      go_ret
      exact ⟨ret_bool H.out.symm, HB.out⟩
    have H := Lib.hid (show r = false by rw [← HQ.out, decide_eq_false (by omega), Bool.false_and])
    go_wp2_with fail
    go_ret
    exact ⟨ret_bool H.out.symm, HB.out⟩
theorem rmay_plain_6 (nm : ByteArray) (q i : Nat) (ss : List Ed.Sl) : Ed.mayE ⟨6, nm, q, i, ss⟩ = (decide (q ≤ 1099511627776 ∧ nm.size = 0 ∧ i = 0 ∧ ss.length ≤ 200) && Ed.upS 0 ss) := by
  show (decide ((1 : Int) ≤ 6 ∧ (6 : Int) ≤ 6) && Ed.inB (Ed.seqB 6) q && Ed.nameOk 6 nm.size && Ed.inB (Ed.idB 6) i && Ed.inB (Ed.manyB 6) ss.length && Ed.upS 0 ss) = _
  rw [show decide ((1 : Int) ≤ 6 ∧ (6 : Int) ≤ 6) = true from rfl, show Ed.seqB 6 = (0, 1099511627776) from rfl, show Ed.nameOk 6 nm.size = decide (nm.size = 0) from rfl, show Ed.idB 6 = (0, 0) from rfl, show Ed.manyB 6 = (0, 200) from rfl]
  simp only [Ed.inB, Bool.true_and]
  cases hu : Ed.upS 0 ss
  · simp only [Bool.and_false]
  · simp only [Bool.and_true]
    rw [Bool.eq_iff_iff]
    simp only [Bool.and_eq_true, decide_eq_true_eq]
    constructor <;> intro h <;> omega
set_option maxRecDepth 100000 in
set_option maxHeartbeats 8000000 in
theorem rmay_6 (nm : ByteArray) (q i : Nat) (ss : List Ed.Sl) (sv : Value) (w : World) (hs : Sls w w.heap.size sv ss) (f : Ed.Fit ⟨6, nm, q, i, ss⟩) :
    Calls Tryd.prog 13 #[edV 6 nm q i sv] w fun e w' => e = .returned (.bool (Ed.mayE ⟨6, nm, q, i, ss⟩)) ∧ Below w.heap.size w w' := by
  obtain ⟨A, c, rfl, hc, hr⟩ := id hs
  rw [rmay_plain_6]
  obtain ⟨r, hr⟩ : ∃ r, (decide (q ≤ 1099511627776 ∧ nm.size = 0 ∧ i = 0 ∧ ss.length ≤ 200) && Ed.upS 0 ss) = r := ⟨_, rfl⟩
  rw [hr]
  have HQ := Lib.hid hr
  have HF := Lib.hid f
  have Hs := Lib.hid hs
  have hn0 := f.many
  simp only at hn0
  generalize hn : ss.length = n at *
  have Hn := Lib.hid hn
  clear hr hs f hc hn
  have B0 := Bx.new w #[.int .i64 6, .string nm, .int .u64 q, .int .u32 i, .slice A n c] 36 _ rfl
  have b0 := bnew w (.cells #[.int .i64 6, .string nm, .int .u64 q, .int .u32 i, .slice A n c] 36)
  obtain ⟨x0, x1, x2, x3, x4⟩ : _ ∧ _ ∧ _ ∧ _ ∧ _ := ⟨B0.cell 0 _ rfl, B0.cell 1 _ rfl, B0.cell 2 _ rfl, B0.cell 3 _ rfl, B0.cell 4 _ rfl⟩
  have HB := Lib.hid b0
  have HX := Lib.hid B0
  have HS := Lib.hid (Hs.out.below b0 (Nat.le_refl _))
  clear B0 b0
  unfold edV
  go_enter Tryd.func13, Tryd.ntmps13
  go_wp2_with fail
  refine (rparts_6 _).mono ?_
  rintro en w1 ⟨rfl, rfl⟩
  by_cases h0 : (1099511627776 : Int) < (q : Int)
  · have H := Lib.hid (show r = false by rw [← HQ.out, decide_eq_false (by omega), Bool.false_and])
    go_wp2_with fail
    go_ret
    exact ⟨ret_bool H.out.symm, HB.out⟩
  by_cases h1 : 0 < nm.size
  · have H := Lib.hid (show r = false by rw [← HQ.out, decide_eq_false (by omega), Bool.false_and])
    go_wp2_with fail
    go_ret
    exact ⟨ret_bool H.out.symm, HB.out⟩
  by_cases h2 : 0 < i
  · have H := Lib.hid (show r = false by rw [← HQ.out, decide_eq_false (by omega), Bool.false_and])
    go_wp2_with fail
    go_ret
    exact ⟨ret_bool H.out.symm, HB.out⟩
  by_cases h3 : (200 : Int) < (n : Int)
  · have H := Lib.hid (show r = false by rw [← HQ.out, decide_eq_false (by omega), Bool.false_and])
    go_wp2_with fail
    go_ret
    exact ⟨ret_bool H.out.symm, HB.out⟩
  have HU := Lib.hid (show Ed.upS 0 ss = r by rw [← HQ.out, decide_eq_true (by (repeat' apply And.intro) <;> first | rfl | trivial | omega), Bool.true_and])
  have Hn2 := Lib.hid (show n ≤ 200 by omega)
  go_wp2_with fail
  clear h0 h1 h2 h3
  generalize hwy : w.alloc _ = wy at *
  clear hwy
  go_loopg [7] n (fun g iv wr => ∃ (j a : Nat), j + g = n ∧ iv = .int .i64 j ∧ (j = 0 ∧ a = 0 ∨ ∃ (m : Nat) (p : Ed.Sl), j = m + 1 ∧ ss[m]? = some p ∧ a = p.id) ∧ Ed.upS a (ss.drop j) = r ∧ Below wy.heap.size wy wr)
  case atStart => exact ⟨0, 0, by omega, rfl, Or.inl ⟨rfl, rfl⟩, HU.out, Below.refl _ _⟩
  case round =>
    obtain ⟨j, a, hj, rfl, hpr, hup, hb⟩ := hrel
    have Hup := Lib.hid hup
    have Hpr := Lib.hid hpr
    have Hb := Lib.hid hb
    have y4 := (HX.out.on hb).cell 4 _ rfl
    have HS1 := Lib.hid (HS.out.keep fun p hp => hb.cell (Nat.lt_of_lt_of_le hp HB.out.size))
    clear hpr hup hb x0 x1 x2 x3 x4
    by_cases hlt : j < n
    · have hlt' : (j : Int) < (n : Int) := by omega
      obtain ⟨s, hs⟩ : ∃ s, ss[j]? = some s := ⟨_, List.getElem?_eq_getElem (by rw [Hn.out]; exact hlt)⟩
      have Hfs := Lib.hid (HF.out.seals s (List.mem_of_getElem? hs))
      obtain ⟨gb, go, cc, hA, hgb, a0, a1, a2, a3, a4⟩ := HS1.out.at hs
      injection hA with hA1 hA2 hA3
      subst hA1
      clear hA2 hA3 hgb
      have Hst := Lib.hid hs
      clear hs
      go_wp2_with fail
      have hsl := rmaySeal_b s wr Hfs.out
      unfold slV at hsl
      cases hms : Ed.mayS s
      · refine (hsl false hms).mono ?_
        rintro en w2 ⟨rfl, h2⟩
        have H := Lib.hid (show r = false by rw [← Hup.out, ed_prev Hst.out, hms]; rfl)
        have Hb2 := Lib.hid (bstep (bstep HB.out Hb.out) h2)
        clear h2 hms hsl
        go_wp2_with fail
        go_ret
        exact ⟨ret_bool H.out.symm, Hb2.out⟩
      · refine (hsl true hms).mono ?_
        rintro en w2 ⟨rfl, h2⟩
        have Hup2 := Lib.hid (show (decide (a < s.id) && Ed.upS s.id (ss.drop (j + 1))) = r by rw [← Hup.out, ed_prev Hst.out, hms, Bool.true_and])
        have Hpos := Lib.hid (show 0 < s.id by simp only [Ed.mayS, decide_eq_true_eq] at hms; omega)
        have Hb2 := Lib.hid (bstep Hb.out h2)
        have y4 := (HX.out.on Hb2.out).cell 4 _ rfl
        have HS2 := Lib.hid (HS.out.keep fun p hp => Hb2.out.cell (Nat.lt_of_lt_of_le hp HB.out.size))
        obtain ⟨gb', go', cc', hA, hgb', a0, a1, a2, a3, a4⟩ := HS2.out.at Hst.out
        injection hA with hA1 hA2 hA3
        injection hA1 with hA1
        injection hA1 with hA4 hA5
        subst hA4 hA5
        clear hA2 hA3 hgb' h2 hms hsl a1 a2 a3 a4
        have zj : IntKind.i64.wrap ((j : Int) + 1) = (j : Int) + 1 := IntWalk.i64_in _ (by have := Hn2.out; omega)
        rcases Hpr.out with ⟨hj0, ha0⟩ | ⟨m, p, hjm, hp, hap⟩
        · subst hj0
          subst ha0
          have Hup3 := Lib.hid (show Ed.upS s.id (ss.drop (0 + 1)) = r by rw [← Hup2.out, decide_eq_true Hpos.out, Bool.true_and])
          go_upto_region 17 with fail
          refine wp_region_noPanic ?_
          refine wp_region_held_drew (S := fun w' : World => True) (by kernel_rfl) (trivial) (fun hHeld => ?_)
          refine wpAnyH_take (i := 0) (v := ?_) opAt_0 (by kernel_rfl) (by kernel_rfl) (by kernel_rfl) (fun _ _ _ h => h) (Or.inl ⟨by rfl, ?_⟩) (by assumption) ?_
          rotate_left
          · (intro w hSw; (try dsimp only at hSw); go_simp; try with_reducible rfl)
          try simp only [Act.put, List.setIfInBounds_toArray, List.set_cons_zero, List.set_cons_succ]
          refine wpAnyH_take (i := 1) (v := ?_) opAt_1 (by kernel_rfl) (by kernel_rfl) (by kernel_rfl) (fun _ _ _ h => h) (Or.inl ⟨by rfl, ?_⟩) (by assumption) ?_
          rotate_left
          · (intro w hSw; (try dsimp only at hSw); go_simp; try with_reducible rfl)
          try simp only [Act.put, List.setIfInBounds_toArray, List.set_cons_zero, List.set_cons_succ]
          refine wpAnyH_take (i := 2) (v := ?_) opAt_2 (by kernel_rfl) (by kernel_rfl) (by kernel_rfl) (fun _ _ _ h => h) (Or.inl ⟨by rfl, ?_⟩) (by assumption) ?_
          rotate_left
          · (intro w hSw; (try dsimp only at hSw); go_simp; try with_reducible rfl)
          try simp only [Act.put, List.setIfInBounds_toArray, List.set_cons_zero, List.set_cons_succ]
          refine wpAnyH_take (i := 3) (v := undef) opAt_3 (by kernel_rfl) (by kernel_rfl) (by kernel_rfl) (fun _ _ _ h => h) (Or.inr ⟨by rfl, rfl⟩) (by assumption) ?_
          try simp only [Act.put, List.setIfInBounds_toArray, List.set_cons_zero, List.set_cons_succ]
          refine wpAnyH_take (i := 4) (v := undef) opAt_4 (by kernel_rfl) (by kernel_rfl) (by kernel_rfl) (fun _ _ _ h => h) (Or.inr ⟨by rfl, rfl⟩) (by assumption) ?_
          try simp only [Act.put, List.setIfInBounds_toArray, List.set_cons_zero, List.set_cons_succ]
          refine wpAnyH_take (i := 5) (v := undef) opAt_5 (by kernel_rfl) (by kernel_rfl) (by kernel_rfl) (fun _ _ _ h => h) (Or.inr ⟨by rfl, rfl⟩) (by assumption) ?_
          try simp only [Act.put, List.setIfInBounds_toArray, List.set_cons_zero, List.set_cons_succ]
          refine wpAnyH_take (i := 6) (v := undef) opAt_6 (by kernel_rfl) (by kernel_rfl) (by kernel_rfl) (fun _ _ _ h => h) (Or.inr ⟨by rfl, rfl⟩) (by assumption) ?_
          try simp only [Act.put, List.setIfInBounds_toArray, List.set_cons_zero, List.set_cons_succ]
          refine wpAnyH_take (i := 7) (v := undef) opAt_7 (by kernel_rfl) (by kernel_rfl) (by kernel_rfl) (fun _ _ _ h => h) (Or.inr ⟨by rfl, rfl⟩) (by assumption) ?_
          try simp only [Act.put, List.setIfInBounds_toArray, List.set_cons_zero, List.set_cons_succ]
          refine wpAnyH_take (i := 8) (v := undef) opAt_8 (by kernel_rfl) (by kernel_rfl) (by kernel_rfl) (fun _ _ _ h => h) (Or.inr ⟨by rfl, rfl⟩) (by assumption) ?_
          try simp only [Act.put, List.setIfInBounds_toArray, List.set_cons_zero, List.set_cons_succ]
          refine wpAnyH_take (i := 9) (v := undef) opAt_9 (by kernel_rfl) (by kernel_rfl) (by kernel_rfl) (fun _ _ _ h => h) (Or.inr ⟨by rfl, rfl⟩) (by assumption) ?_
          try simp only [Act.put, List.setIfInBounds_toArray, List.set_cons_zero, List.set_cons_succ]
          refine wpAnyH_take (i := 10) (v := undef) opAt_10 (by kernel_rfl) (by kernel_rfl) (by kernel_rfl) (fun _ _ _ h => h) (Or.inr ⟨by rfl, rfl⟩) (by assumption) ?_
          try simp only [Act.put, List.setIfInBounds_toArray, List.set_cons_zero, List.set_cons_succ]
          refine wpAnyH_take (i := 11) (v := undef) opAt_11 (by kernel_rfl) (by kernel_rfl) (by kernel_rfl) (fun _ _ _ h => h) (Or.inr ⟨by rfl, rfl⟩) (by assumption) ?_
          try simp only [Act.put, List.setIfInBounds_toArray, List.set_cons_zero, List.set_cons_succ]
          refine wpAnyH_take (i := 12) (v := undef) opAt_12 (by kernel_rfl) (by kernel_rfl) (by kernel_rfl) (fun _ _ _ h => h) (Or.inr ⟨by rfl, rfl⟩) (by assumption) ?_
          try simp only [Act.put, List.setIfInBounds_toArray, List.set_cons_zero, List.set_cons_succ]
          refine wpAnyH_take (i := 13) (v := undef) opAt_13 (by kernel_rfl) (by kernel_rfl) (by kernel_rfl) (fun _ _ _ h => h) (Or.inr ⟨by rfl, rfl⟩) (by assumption) ?_
          try simp only [Act.put, List.setIfInBounds_toArray, List.set_cons_zero, List.set_cons_succ]
          refine wpAnyH_take (i := 14) (v := undef) opAt_14 (by kernel_rfl) (by kernel_rfl) (by kernel_rfl) (fun _ _ _ h => h) (Or.inr ⟨by rfl, rfl⟩) (by assumption) ?_
          try simp only [Act.put, List.setIfInBounds_toArray, List.set_cons_zero, List.set_cons_succ]
          refine wpAnyH_take (i := 15) (v := undef) opAt_15 (by kernel_rfl) (by kernel_rfl) (by kernel_rfl) (fun _ _ _ h => h) (Or.inr ⟨by rfl, rfl⟩) (by assumption) ?_
          try simp only [Act.put, List.setIfInBounds_toArray, List.set_cons_zero, List.set_cons_succ]
          refine wpAnyH_take (i := 16) (v := undef) opAt_16 (by kernel_rfl) (by kernel_rfl) (by kernel_rfl) (fun _ _ _ h => h) (Or.inr ⟨by rfl, rfl⟩) (by assumption) ?_
          try simp only [Act.put, List.setIfInBounds_toArray, List.set_cons_zero, List.set_cons_succ]
          refine wpAnyH_take (i := 17) (v := ?_) opAt_17 (by kernel_rfl) (by kernel_rfl) (by kernel_rfl) (fun _ _ _ h => h) (Or.inl ⟨by rfl, ?_⟩) (by assumption) ?_
          rotate_left
          · (intro w hSw; (try dsimp only at hSw); go_simp; try with_reducible rfl)
          try simp only [Act.put, List.setIfInBounds_toArray, List.set_cons_zero, List.set_cons_succ]
          refine wpAnyH_done (by kernel_rfl) ?_ _
          refine NoPanic.normal ?_
          clear hHeld
          go_wp2_with fail
          go_roundg (gk - 1)
          case measure => omega
          case rel => exact ⟨0 + 1, s.id, by omega, by go_num, Or.inr ⟨0, s, rfl, Hst.out, rfl⟩, Hup3.out, below_drew1 Hb2.out⟩
        · subst hap
          obtain ⟨gb', go', cc', hA, hgb', d0, d1, d2, d3, d4⟩ := HS2.out.at hp
          injection hA with hA1 hA2 hA3
          injection hA1 with hA1
          injection hA1 with hA4 hA5
          subst hA4 hA5
          clear hA2 hA3 hgb' d1 d2 d3 d4 hp
          have zm1 : (j : Int) - 1 = (m : Int) := by omega
          have zm : IntKind.i64.wrap ((j : Int) - 1) = (m : Int) := by rw [zm1]; exact IntWalk.i64_in _ (by have := Hn2.out; omega)
          have hm0 : 0 < j := by omega
          have Hjm := Lib.hid hjm
          have hmn : (m : Int) < (n : Int) := by omega
          by_cases hle : (s.id : Int) ≤ (p.id : Int)
          · have H := Lib.hid (show r = false by rw [← Hup2.out, decide_eq_false (by omega), Bool.false_and])
            clear hjm zm1
            go_upto_region 17 with fail
            refine wp_region_noPanic ?_
            refine wp_region_held_drew (S := fun w' : World => w'.cell? ⟨w.heap.size, 4, none⟩ = some (.slice (some ⟨gb, go, none⟩) n c) ∧ w'.cell? ⟨gb, go + j * 5, none⟩ = some (.int .u32 s.id) ∧ w'.cell? ⟨gb, go + m * 5, none⟩ = some (.int .u32 p.id)) (by kernel_rfl) (⟨y4, a0, d0⟩) (fun hHeld => ?_)
            refine wpAnyH_take (i := 0) (v := ?_) opAt_0 (by kernel_rfl) (by kernel_rfl) (by kernel_rfl) (fun _ _ _ h => h) (Or.inl ⟨by rfl, ?_⟩) (by assumption) ?_
            rotate_left
            · (intro w hSw; (try dsimp only at hSw); go_simp; try with_reducible rfl)
            try simp only [Act.put, List.setIfInBounds_toArray, List.set_cons_zero, List.set_cons_succ]
            refine wpAnyH_take (i := 1) (v := ?_) opAt_1 (by kernel_rfl) (by kernel_rfl) (by kernel_rfl) (fun _ _ _ h => h) (Or.inl ⟨by rfl, ?_⟩) (by assumption) ?_
            rotate_left
            · (intro w hSw; (try dsimp only at hSw); go_simp; try with_reducible rfl)
            try simp only [Act.put, List.setIfInBounds_toArray, List.set_cons_zero, List.set_cons_succ]
            refine wpAnyH_take (i := 2) (v := ?_) opAt_2 (by kernel_rfl) (by kernel_rfl) (by kernel_rfl) (fun _ _ _ h => h) (Or.inl ⟨by rfl, ?_⟩) (by assumption) ?_
            rotate_left
            · (intro w hSw; (try dsimp only at hSw); go_simp; try with_reducible rfl)
            try simp only [Act.put, List.setIfInBounds_toArray, List.set_cons_zero, List.set_cons_succ]
            refine wpAnyH_take (i := 3) (v := ?_) opAt_3 (by kernel_rfl) (by kernel_rfl) (by kernel_rfl) (fun _ _ _ h => h) (Or.inl ⟨by rfl, ?_⟩) (by assumption) ?_
            rotate_left
            · (intro w hSw; (try dsimp only at hSw); go_simp; try with_reducible rfl)
            try simp only [Act.put, List.setIfInBounds_toArray, List.set_cons_zero, List.set_cons_succ]
            refine wpAnyH_take (i := 4) (v := ?_) opAt_4 (by kernel_rfl) (by kernel_rfl) (by kernel_rfl) (fun _ _ _ h => h) (Or.inl ⟨by rfl, ?_⟩) (by assumption) ?_
            rotate_left
            · (intro w hSw; (try dsimp only at hSw); go_simp; try with_reducible rfl)
            try simp only [Act.put, List.setIfInBounds_toArray, List.set_cons_zero, List.set_cons_succ]
            refine wpAnyH_take (i := 5) (v := ?_) opAt_5 (by kernel_rfl) (by kernel_rfl) (by kernel_rfl) (fun _ _ _ h => h) (Or.inl ⟨by rfl, ?_⟩) (by assumption) ?_
            rotate_left
            · (intro w hSw; (try dsimp only at hSw); go_simp; try with_reducible rfl)
            try simp only [Act.put, List.setIfInBounds_toArray, List.set_cons_zero, List.set_cons_succ]
            refine wpAnyH_take (i := 6) (v := ?_) opAt_6 (by kernel_rfl) (by kernel_rfl) (by kernel_rfl) (fun _ _ _ h => h) (Or.inl ⟨by rfl, ?_⟩) (by assumption) ?_
            rotate_left
            · (intro w hSw; (try dsimp only at hSw); go_simp; try with_reducible rfl)
            try simp only [Act.put, List.setIfInBounds_toArray, List.set_cons_zero, List.set_cons_succ]
            refine wpAnyH_take (i := 7) (v := ?_) opAt_7 (by kernel_rfl) (by kernel_rfl) (by kernel_rfl) (fun _ _ _ h => h) (Or.inl ⟨by rfl, ?_⟩) (by assumption) ?_
            rotate_left
            · (intro w hSw; (try dsimp only at hSw); go_simp; try with_reducible rfl)
            try simp only [Act.put, List.setIfInBounds_toArray, List.set_cons_zero, List.set_cons_succ]
            refine wpAnyH_take (i := 8) (v := ?_) opAt_8 (by kernel_rfl) (by kernel_rfl) (by kernel_rfl) (fun _ _ _ h => h) (Or.inl ⟨by rfl, ?_⟩) (by assumption) ?_
            rotate_left
            · (intro w hSw; (try dsimp only at hSw); go_simp; try with_reducible rfl)
            try simp only [Act.put, List.setIfInBounds_toArray, List.set_cons_zero, List.set_cons_succ]
            refine wpAnyH_take (i := 9) (v := ?_) opAt_9 (by kernel_rfl) (by kernel_rfl) (by kernel_rfl) (fun _ _ _ h => h) (Or.inl ⟨by rfl, ?_⟩) (by assumption) ?_
            rotate_left
            · (intro w hSw; (try dsimp only at hSw); go_simp; try with_reducible rfl)
            try simp only [Act.put, List.setIfInBounds_toArray, List.set_cons_zero, List.set_cons_succ]
            refine wpAnyH_take (i := 10) (v := ?_) opAt_10 (by kernel_rfl) (by kernel_rfl) (by kernel_rfl) (fun _ _ _ h => h) (Or.inl ⟨by rfl, ?_⟩) (by assumption) ?_
            rotate_left
            · (intro w hSw; (try dsimp only at hSw); go_simp; try with_reducible rfl)
            try simp only [Act.put, List.setIfInBounds_toArray, List.set_cons_zero, List.set_cons_succ]
            refine wpAnyH_take (i := 11) (v := ?_) opAt_11 (by kernel_rfl) (by kernel_rfl) (by kernel_rfl) (fun _ _ _ h => h) (Or.inl ⟨by rfl, ?_⟩) (by assumption) ?_
            rotate_left
            · (intro w hSw; (try dsimp only at hSw); go_simp; try with_reducible rfl)
            try simp only [Act.put, List.setIfInBounds_toArray, List.set_cons_zero, List.set_cons_succ]
            refine wpAnyH_take (i := 12) (v := ?_) opAt_12 (by kernel_rfl) (by kernel_rfl) (by kernel_rfl) (fun _ _ _ h => h) (Or.inl ⟨by rfl, ?_⟩) (by assumption) ?_
            rotate_left
            · (intro w hSw; (try dsimp only at hSw); go_simp; try with_reducible rfl)
            try simp only [Act.put, List.setIfInBounds_toArray, List.set_cons_zero, List.set_cons_succ]
            refine wpAnyH_take (i := 13) (v := ?_) opAt_13 (by kernel_rfl) (by kernel_rfl) (by kernel_rfl) (fun _ _ _ h => h) (Or.inl ⟨by rfl, ?_⟩) (by assumption) ?_
            rotate_left
            · (intro w hSw; (try dsimp only at hSw); go_simp; try with_reducible rfl)
            try simp only [Act.put, List.setIfInBounds_toArray, List.set_cons_zero, List.set_cons_succ]
            refine wpAnyH_take (i := 14) (v := ?_) opAt_14 (by kernel_rfl) (by kernel_rfl) (by kernel_rfl) (fun _ _ _ h => h) (Or.inl ⟨by rfl, ?_⟩) (by assumption) ?_
            rotate_left
            · (intro w hSw; (try dsimp only at hSw); go_simp; try with_reducible rfl)
            try simp only [Act.put, List.setIfInBounds_toArray, List.set_cons_zero, List.set_cons_succ]
            refine wpAnyH_take (i := 15) (v := ?_) opAt_15 (by kernel_rfl) (by kernel_rfl) (by kernel_rfl) (fun _ _ _ h => h) (Or.inl ⟨by rfl, ?_⟩) (by assumption) ?_
            rotate_left
            · (intro w hSw; (try dsimp only at hSw); go_simp; try with_reducible rfl)
            try simp only [Act.put, List.setIfInBounds_toArray, List.set_cons_zero, List.set_cons_succ]
            refine wpAnyH_take (i := 16) (v := ?_) opAt_16 (by kernel_rfl) (by kernel_rfl) (by kernel_rfl) (fun _ _ _ h => h) (Or.inl ⟨by rfl, ?_⟩) (by assumption) ?_
            rotate_left
            · (intro w hSw; (try dsimp only at hSw); go_simp; try with_reducible rfl)
            try simp only [Act.put, List.setIfInBounds_toArray, List.set_cons_zero, List.set_cons_succ]
            refine wpAnyH_take (i := 17) (v := ?_) opAt_17 (by kernel_rfl) (by kernel_rfl) (by kernel_rfl) (fun _ _ _ h => h) (Or.inl ⟨by rfl, ?_⟩) (by assumption) ?_
            rotate_left
            · (intro w hSw; (try dsimp only at hSw); go_simp; try with_reducible rfl)
            try simp only [Act.put, List.setIfInBounds_toArray, List.set_cons_zero, List.set_cons_succ]
            refine wpAnyH_done (by kernel_rfl) ?_ _
            refine NoPanic.normal ?_
            clear hHeld
            go_wp2_with fail
            go_ret
            exact ⟨ret_bool H.out.symm, (below_drew1 (bstep HB.out Hb2.out))⟩
          · have Hup3 := Lib.hid (show Ed.upS s.id (ss.drop (j + 1)) = r by rw [← Hup2.out, decide_eq_true (by omega), Bool.true_and])
            clear hjm zm1
            go_upto_region 17 with fail
            refine wp_region_noPanic ?_
            refine wp_region_held_drew (S := fun w' : World => w'.cell? ⟨w.heap.size, 4, none⟩ = some (.slice (some ⟨gb, go, none⟩) n c) ∧ w'.cell? ⟨gb, go + j * 5, none⟩ = some (.int .u32 s.id) ∧ w'.cell? ⟨gb, go + m * 5, none⟩ = some (.int .u32 p.id)) (by kernel_rfl) (⟨y4, a0, d0⟩) (fun hHeld => ?_)
            refine wpAnyH_take (i := 0) (v := ?_) opAt_0 (by kernel_rfl) (by kernel_rfl) (by kernel_rfl) (fun _ _ _ h => h) (Or.inl ⟨by rfl, ?_⟩) (by assumption) ?_
            rotate_left
            · (intro w hSw; (try dsimp only at hSw); go_simp; try with_reducible rfl)
            try simp only [Act.put, List.setIfInBounds_toArray, List.set_cons_zero, List.set_cons_succ]
            refine wpAnyH_take (i := 1) (v := ?_) opAt_1 (by kernel_rfl) (by kernel_rfl) (by kernel_rfl) (fun _ _ _ h => h) (Or.inl ⟨by rfl, ?_⟩) (by assumption) ?_
            rotate_left
            · (intro w hSw; (try dsimp only at hSw); go_simp; try with_reducible rfl)
            try simp only [Act.put, List.setIfInBounds_toArray, List.set_cons_zero, List.set_cons_succ]
            refine wpAnyH_take (i := 2) (v := ?_) opAt_2 (by kernel_rfl) (by kernel_rfl) (by kernel_rfl) (fun _ _ _ h => h) (Or.inl ⟨by rfl, ?_⟩) (by assumption) ?_
            rotate_left
            · (intro w hSw; (try dsimp only at hSw); go_simp; try with_reducible rfl)
            try simp only [Act.put, List.setIfInBounds_toArray, List.set_cons_zero, List.set_cons_succ]
            refine wpAnyH_take (i := 3) (v := ?_) opAt_3 (by kernel_rfl) (by kernel_rfl) (by kernel_rfl) (fun _ _ _ h => h) (Or.inl ⟨by rfl, ?_⟩) (by assumption) ?_
            rotate_left
            · (intro w hSw; (try dsimp only at hSw); go_simp; try with_reducible rfl)
            try simp only [Act.put, List.setIfInBounds_toArray, List.set_cons_zero, List.set_cons_succ]
            refine wpAnyH_take (i := 4) (v := ?_) opAt_4 (by kernel_rfl) (by kernel_rfl) (by kernel_rfl) (fun _ _ _ h => h) (Or.inl ⟨by rfl, ?_⟩) (by assumption) ?_
            rotate_left
            · (intro w hSw; (try dsimp only at hSw); go_simp; try with_reducible rfl)
            try simp only [Act.put, List.setIfInBounds_toArray, List.set_cons_zero, List.set_cons_succ]
            refine wpAnyH_take (i := 5) (v := ?_) opAt_5 (by kernel_rfl) (by kernel_rfl) (by kernel_rfl) (fun _ _ _ h => h) (Or.inl ⟨by rfl, ?_⟩) (by assumption) ?_
            rotate_left
            · (intro w hSw; (try dsimp only at hSw); go_simp; try with_reducible rfl)
            try simp only [Act.put, List.setIfInBounds_toArray, List.set_cons_zero, List.set_cons_succ]
            refine wpAnyH_take (i := 6) (v := ?_) opAt_6 (by kernel_rfl) (by kernel_rfl) (by kernel_rfl) (fun _ _ _ h => h) (Or.inl ⟨by rfl, ?_⟩) (by assumption) ?_
            rotate_left
            · (intro w hSw; (try dsimp only at hSw); go_simp; try with_reducible rfl)
            try simp only [Act.put, List.setIfInBounds_toArray, List.set_cons_zero, List.set_cons_succ]
            refine wpAnyH_take (i := 7) (v := ?_) opAt_7 (by kernel_rfl) (by kernel_rfl) (by kernel_rfl) (fun _ _ _ h => h) (Or.inl ⟨by rfl, ?_⟩) (by assumption) ?_
            rotate_left
            · (intro w hSw; (try dsimp only at hSw); go_simp; try with_reducible rfl)
            try simp only [Act.put, List.setIfInBounds_toArray, List.set_cons_zero, List.set_cons_succ]
            refine wpAnyH_take (i := 8) (v := ?_) opAt_8 (by kernel_rfl) (by kernel_rfl) (by kernel_rfl) (fun _ _ _ h => h) (Or.inl ⟨by rfl, ?_⟩) (by assumption) ?_
            rotate_left
            · (intro w hSw; (try dsimp only at hSw); go_simp; try with_reducible rfl)
            try simp only [Act.put, List.setIfInBounds_toArray, List.set_cons_zero, List.set_cons_succ]
            refine wpAnyH_take (i := 9) (v := ?_) opAt_9 (by kernel_rfl) (by kernel_rfl) (by kernel_rfl) (fun _ _ _ h => h) (Or.inl ⟨by rfl, ?_⟩) (by assumption) ?_
            rotate_left
            · (intro w hSw; (try dsimp only at hSw); go_simp; try with_reducible rfl)
            try simp only [Act.put, List.setIfInBounds_toArray, List.set_cons_zero, List.set_cons_succ]
            refine wpAnyH_take (i := 10) (v := ?_) opAt_10 (by kernel_rfl) (by kernel_rfl) (by kernel_rfl) (fun _ _ _ h => h) (Or.inl ⟨by rfl, ?_⟩) (by assumption) ?_
            rotate_left
            · (intro w hSw; (try dsimp only at hSw); go_simp; try with_reducible rfl)
            try simp only [Act.put, List.setIfInBounds_toArray, List.set_cons_zero, List.set_cons_succ]
            refine wpAnyH_take (i := 11) (v := ?_) opAt_11 (by kernel_rfl) (by kernel_rfl) (by kernel_rfl) (fun _ _ _ h => h) (Or.inl ⟨by rfl, ?_⟩) (by assumption) ?_
            rotate_left
            · (intro w hSw; (try dsimp only at hSw); go_simp; try with_reducible rfl)
            try simp only [Act.put, List.setIfInBounds_toArray, List.set_cons_zero, List.set_cons_succ]
            refine wpAnyH_take (i := 12) (v := ?_) opAt_12 (by kernel_rfl) (by kernel_rfl) (by kernel_rfl) (fun _ _ _ h => h) (Or.inl ⟨by rfl, ?_⟩) (by assumption) ?_
            rotate_left
            · (intro w hSw; (try dsimp only at hSw); go_simp; try with_reducible rfl)
            try simp only [Act.put, List.setIfInBounds_toArray, List.set_cons_zero, List.set_cons_succ]
            refine wpAnyH_take (i := 13) (v := ?_) opAt_13 (by kernel_rfl) (by kernel_rfl) (by kernel_rfl) (fun _ _ _ h => h) (Or.inl ⟨by rfl, ?_⟩) (by assumption) ?_
            rotate_left
            · (intro w hSw; (try dsimp only at hSw); go_simp; try with_reducible rfl)
            try simp only [Act.put, List.setIfInBounds_toArray, List.set_cons_zero, List.set_cons_succ]
            refine wpAnyH_take (i := 14) (v := ?_) opAt_14 (by kernel_rfl) (by kernel_rfl) (by kernel_rfl) (fun _ _ _ h => h) (Or.inl ⟨by rfl, ?_⟩) (by assumption) ?_
            rotate_left
            · (intro w hSw; (try dsimp only at hSw); go_simp; try with_reducible rfl)
            try simp only [Act.put, List.setIfInBounds_toArray, List.set_cons_zero, List.set_cons_succ]
            refine wpAnyH_take (i := 15) (v := ?_) opAt_15 (by kernel_rfl) (by kernel_rfl) (by kernel_rfl) (fun _ _ _ h => h) (Or.inl ⟨by rfl, ?_⟩) (by assumption) ?_
            rotate_left
            · (intro w hSw; (try dsimp only at hSw); go_simp; try with_reducible rfl)
            try simp only [Act.put, List.setIfInBounds_toArray, List.set_cons_zero, List.set_cons_succ]
            refine wpAnyH_take (i := 16) (v := ?_) opAt_16 (by kernel_rfl) (by kernel_rfl) (by kernel_rfl) (fun _ _ _ h => h) (Or.inl ⟨by rfl, ?_⟩) (by assumption) ?_
            rotate_left
            · (intro w hSw; (try dsimp only at hSw); go_simp; try with_reducible rfl)
            try simp only [Act.put, List.setIfInBounds_toArray, List.set_cons_zero, List.set_cons_succ]
            refine wpAnyH_take (i := 17) (v := ?_) opAt_17 (by kernel_rfl) (by kernel_rfl) (by kernel_rfl) (fun _ _ _ h => h) (Or.inl ⟨by rfl, ?_⟩) (by assumption) ?_
            rotate_left
            · (intro w hSw; (try dsimp only at hSw); go_simp; try with_reducible rfl)
            try simp only [Act.put, List.setIfInBounds_toArray, List.set_cons_zero, List.set_cons_succ]
            refine wpAnyH_done (by kernel_rfl) ?_ _
            refine NoPanic.normal ?_
            clear hHeld
            go_wp2_with fail
            go_roundg (gk - 1)
            case measure => omega
            case rel => exact ⟨j + 1, s.id, by omega, by go_num, Or.inr ⟨j, s, rfl, Hst.out, rfl⟩, Hup3.out, (below_drew1 Hb2.out)⟩
    · obtain rfl : j = n := by omega
      have H := Lib.hid (show r = true by rw [← Hup.out, List.drop_eq_nil_of_le (by rw [Hn.out]; exact Nat.le_refl _)]; rfl)
      go_wp2_with fail
      go_ret
      exact ⟨ret_bool H.out.symm, bstep HB.out Hb.out⟩
theorem rmay_lo (k : Int) (nm : ByteArray) (q i : Nat) (ss : List Ed.Sl) (sv : Value) (w : World) (hk : k < 1) :
    Calls Tryd.prog 13 #[edV k nm q i sv] w fun e w' => e = .returned (.bool (Ed.mayE ⟨k, nm, q, i, ss⟩)) ∧ Below w.heap.size w w' := by
  have H := Lib.hid (show Ed.mayE ⟨k, nm, q, i, ss⟩ = false from Bool.eq_false_iff.2 fun h => by have h1 := (Ed.may_iff.1 h).k1; have h6 := (Ed.may_iff.1 h).k6; simp only at h1 h6; omega)
  have x0 := (Bx.new w #[.int .i64 k, .string nm, .int .u64 q, .int .u32 i, sv] 36 _ rfl).cell 0 _ rfl
  have HB := Lib.hid (bnew w (.cells #[.int .i64 k, .string nm, .int .u64 q, .int .u32 i, sv] 36))
  unfold edV
  go_enter Tryd.func13, Tryd.ntmps13
  go_wp2_with fail
  go_ret
  exact ⟨ret_bool H.out.symm, HB.out⟩
theorem rmay_hi (k : Int) (nm : ByteArray) (q i : Nat) (ss : List Ed.Sl) (sv : Value) (w : World) (hk : 6 < k) :
    Calls Tryd.prog 13 #[edV k nm q i sv] w fun e w' => e = .returned (.bool (Ed.mayE ⟨k, nm, q, i, ss⟩)) ∧ Below w.heap.size w w' := by
  have H := Lib.hid (show Ed.mayE ⟨k, nm, q, i, ss⟩ = false from Bool.eq_false_iff.2 fun h => by have h1 := (Ed.may_iff.1 h).k1; have h6 := (Ed.may_iff.1 h).k6; simp only at h1 h6; omega)
  have x0 := (Bx.new w #[.int .i64 k, .string nm, .int .u64 q, .int .u32 i, sv] 36 _ rfl).cell 0 _ rfl
  have HB := Lib.hid (bnew w (.cells #[.int .i64 k, .string nm, .int .u64 q, .int .u32 i, sv] 36))
  have hk1 : ¬ k < 1 := by omega
  unfold edV
  go_enter Tryd.func13, Tryd.ntmps13
  go_wp2_with fail
  go_ret
  exact ⟨ret_bool H.out.symm, HB.out⟩
theorem rmay_any (v : Value) (e : Ed.E) (w : World) (h : EdV w w.heap.size v e) (f : Ed.Fit e) : Calls Tryd.prog 13 #[v] w fun en w' => en = .returned (.bool (Ed.mayE e)) ∧ Below w.heap.size w w' := by
  obtain ⟨sv, rfl, hs⟩ := h
  obtain ⟨k, nm, q, i, ss⟩ := e
  simp only at hs ⊢
  by_cases h1 : k < 1
  · exact rmay_lo k nm q i ss sv w h1
  by_cases h6 : 6 < k
  · exact rmay_hi k nm q i ss sv w h6
  rcases kinds (k := k) (by omega) (by omega) with rfl | rfl | rfl | rfl | rfl | rfl
  · exact rmay_1 nm q i ss sv w hs f
  · exact rmay_2 nm q i ss sv w hs f
  · exact rmay_3 nm q i ss sv w hs f
  · exact rmay_4 nm q i ss sv w hs f
  · exact rmay_5 nm q i ss sv w hs f
  · exact rmay_6 nm q i ss sv w hs f
end Go.Proofs.YtggijjknfcofoaaDoor
