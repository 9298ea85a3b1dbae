
/-
  Layer 6: a call of the laws on the document's folder ('wants').
-/
import Derived.Test.YtpjmjcjikaekiaaGxAny
import Derived.Test.YtpjmjcjikaekiaaArgsC
set_option linter.unusedVariables false
set_option linter.unusedSimpArgs false
namespace Go.Proofs.Ytpjmjcjikaekiaa
open Go.RowKit

/-- what a call tells and makes of the document's folder -/
def wantF (sts : List (List Ent)) (last : Nat) (c : Call6) : Nat × Nat × List (List Ent) × Nat :=
  if c.what = 0 ∨ c.what = 1 ∨ c.what = 2 then createF sts last c.name
  else if c.what = 3 then (0, (renameF sts c.name c.to).1, (renameF sts c.name c.to).2, last)
  else if c.what = 4 then (0, (removeF sts c.name).1, (removeF sts c.name).2, last)
  else if c.what = 5 then (0, 0, crashF sts sts.length, last)
  else if c.what = 6 then (0, 0, crashF sts c.keep, last)
  else (0, 0, sts, last)
section
variable {w : World} {X : Nat} {N : Nat → Prop} {vs : Value} {vals : List Value} {sts : List (List Ent)} {last : Nat}
theorem RMut.after_b {w1 w' : World} (hb : Below w.heap.size w w1) (h : RMut w1 w' X N vs sts last) : RMut w w' X N vs sts last := RMut.after (Chg.of_below (M := fun i => i = X) hb) h
theorem RMut.drop {w1 w' : World} (h : RMut w w1 X N vs sts last) (hb : Below w1.heap.size w1 w') : RMut w w' X N vs sts last := by
  obtain ⟨vs', vals', N', h1, h2, h3, h4⟩ := h
  exact ⟨vs', vals', N', h1.on hb, h2.trans (Chg.of_below (M := fun _ => False) hb) (fun _ e => e.elim), h3, h4⟩
set_option maxRecDepth 100000 in
theorem rwants_0 (h : RFol w X N vs vals sts last) (hl : sts.length ≤ 100000) (hk : (curL sts).length ≤ 100000) (hla : last ≤ 1000000) (hin : ∀ x ∈ curL sts, x.2 < 18446744073709551616) (c : Call6) (hc : c.ok) (hw : c.what = 0) :
    Calls Try.prog 14 #[.pointer (some ⟨X, 0, none⟩), .agg #[.int .i64 c.what, .string c.name, .string c.to, .int .i64 c.keep]] w fun e w' => e = .returned (.tuple #[.int .u64 ((wantF sts last c).1 : Int), .int .i64 ((wantF sts last c).2.1 : Int)]) ∧ RMut w w' X N vs (wantF sts last c).2.2.1 (wantF sts last c).2.2.2 := by
  have hb0 : Below w.heap.size w (w.alloc (.cells #[.int .i64 c.what, .string c.name, .string c.to, .int .i64 c.keep] 28)) := (Below.refl _ _).alloc (Nat.le_refl _) _
  have HB0 := Lib.hid hb0
  have H := Lib.hid (h.on hb0)
  have Hk := Lib.hid hk
  have Hin := Lib.hid hin
  have Hc := Lib.hid hc
  clear h hb0 hk hin hc
  have HW : Hid (wantF sts last c = createF sts last c.name) := Lib.hid (by unfold wantF; rw [if_pos (by omega)])
  have e0 : (c.what == 0) = true := by rw [hw]; rfl
  have e1 : (c.what == 1) = false := by rw [hw]; rfl
  have e2 : (c.what == 2) = false := by rw [hw]; rfl
  have e3 : (c.what == 3) = false := by rw [hw]; rfl
  have e4 : (c.what == 4) = false := by rw [hw]; rfl
  have e5 : (c.what == 5) = false := by rw [hw]; rfl
  have e6 : (c.what == 6) = false := by rw [hw]; rfl
  have Hw := Lib.hid hw
  clear hw
  go_enter Try.func14, Try.ntmps14
  go_wp2_with fail
  refine (rcreate_any H.out hl Hk.out hla c.name Hc.out.1).mono ?_
  rintro e w1 ⟨rfl, hm⟩
  have HX := Lib.hid hm
  clear hm
  go_wp2_with fail
  go_ret2
  exact ⟨by rw [HW.out]; rfl, by rw [HW.out]; exact HX.out.after_b HB0.out⟩
set_option maxRecDepth 100000 in
theorem rwants_1 (h : RFol w X N vs vals sts last) (hl : sts.length ≤ 100000) (hk : (curL sts).length ≤ 100000) (hla : last ≤ 1000000) (hin : ∀ x ∈ curL sts, x.2 < 18446744073709551616) (c : Call6) (hc : c.ok) (hw : c.what = 1) :
    Calls Try.prog 14 #[.pointer (some ⟨X, 0, none⟩), .agg #[.int .i64 c.what, .string c.name, .string c.to, .int .i64 c.keep]] w fun e w' => e = .returned (.tuple #[.int .u64 ((wantF sts last c).1 : Int), .int .i64 ((wantF sts last c).2.1 : Int)]) ∧ RMut w w' X N vs (wantF sts last c).2.2.1 (wantF sts last c).2.2.2 := by
  have hb0 : Below w.heap.size w (w.alloc (.cells #[.int .i64 c.what, .string c.name, .string c.to, .int .i64 c.keep] 28)) := (Below.refl _ _).alloc (Nat.le_refl _) _
  have HB0 := Lib.hid hb0
  have H := Lib.hid (h.on hb0)
  have Hk := Lib.hid hk
  have Hin := Lib.hid hin
  have Hc := Lib.hid hc
  clear h hb0 hk hin hc
  have HW : Hid (wantF sts last c = createF sts last c.name) := Lib.hid (by unfold wantF; rw [if_pos (by omega)])
  have e0 : (c.what == 0) = false := by rw [hw]; rfl
  have e1 : (c.what == 1) = true := by rw [hw]; rfl
  have e2 : (c.what == 2) = false := by rw [hw]; rfl
  have e3 : (c.what == 3) = false := by rw [hw]; rfl
  have e4 : (c.what == 4) = false := by rw [hw]; rfl
  have e5 : (c.what == 5) = false := by rw [hw]; rfl
  have e6 : (c.what == 6) = false := by rw [hw]; rfl
  have Hw := Lib.hid hw
  clear hw
  go_enter Try.func14, Try.ntmps14
  go_wp2_with fail
  refine (rcreate_any H.out hl Hk.out hla c.name Hc.out.1).mono ?_
  rintro e w1 ⟨rfl, hm⟩
  have HX := Lib.hid hm
  clear hm
  go_wp2_with fail
  go_ret2
  exact ⟨by rw [HW.out]; rfl, by rw [HW.out]; exact HX.out.after_b HB0.out⟩
set_option maxRecDepth 100000 in
theorem rwants_2 (h : RFol w X N vs vals sts last) (hl : sts.length ≤ 100000) (hk : (curL sts).length ≤ 100000) (hla : last ≤ 1000000) (hin : ∀ x ∈ curL sts, x.2 < 18446744073709551616) (c : Call6) (hc : c.ok) (hw : c.what = 2) :
    Calls Try.prog 14 #[.pointer (some ⟨X, 0, none⟩), .agg #[.int .i64 c.what, .string c.name, .string c.to, .int .i64 c.keep]] w fun e w' => e = .returned (.tuple #[.int .u64 ((wantF sts last c).1 : Int), .int .i64 ((wantF sts last c).2.1 : Int)]) ∧ RMut w w' X N vs (wantF sts last c).2.2.1 (wantF sts last c).2.2.2 := by
  have hb0 : Below w.heap.size w (w.alloc (.cells #[.int .i64 c.what, .string c.name, .string c.to, .int .i64 c.keep] 28)) := (Below.refl _ _).alloc (Nat.le_refl _) _
  have HB0 := Lib.hid hb0
  have H := Lib.hid (h.on hb0)
  have Hk := Lib.hid hk
  have Hin := Lib.hid hin
  have Hc := Lib.hid hc
  clear h hb0 hk hin hc
  have HW : Hid (wantF sts last c = createF sts last c.name) := Lib.hid (by unfold wantF; rw [if_pos (by omega)])
  have e0 : (c.what == 0) = false := by rw [hw]; rfl
  have e1 : (c.what == 1) = false := by rw [hw]; rfl
  have e2 : (c.what == 2) = true := by rw [hw]; rfl
  have e3 : (c.what == 3) = false := by rw [hw]; rfl
  have e4 : (c.what == 4) = false := by rw [hw]; rfl
  have e5 : (c.what == 5) = false := by rw [hw]; rfl
  have e6 : (c.what == 6) = false := by rw [hw]; rfl
  have Hw := Lib.hid hw
  clear hw
  go_enter Try.func14, Try.ntmps14
  go_wp2_with fail
  refine (rcreate_any H.out hl Hk.out hla c.name Hc.out.1).mono ?_
  rintro e w1 ⟨rfl, hm⟩
  have HX := Lib.hid hm
  clear hm
  go_wp2_with fail
  go_ret2
  exact ⟨by rw [HW.out]; rfl, by rw [HW.out]; exact HX.out.after_b HB0.out⟩
set_option maxRecDepth 100000 in
theorem rwants_3 (h : RFol w X N vs vals sts last) (hl : sts.length ≤ 100000) (hk : (curL sts).length ≤ 100000) (hla : last ≤ 1000000) (hin : ∀ x ∈ curL sts, x.2 < 18446744073709551616) (c : Call6) (hc : c.ok) (hw : c.what = 3) :
    Calls Try.prog 14 #[.pointer (some ⟨X, 0, none⟩), .agg #[.int .i64 c.what, .string c.name, .string c.to, .int .i64 c.keep]] w fun e w' => e = .returned (.tuple #[.int .u64 ((wantF sts last c).1 : Int), .int .i64 ((wantF sts last c).2.1 : Int)]) ∧ RMut w w' X N vs (wantF sts last c).2.2.1 (wantF sts last c).2.2.2 := by
  have hb0 : Below w.heap.size w (w.alloc (.cells #[.int .i64 c.what, .string c.name, .string c.to, .int .i64 c.keep] 28)) := (Below.refl _ _).alloc (Nat.le_refl _) _
  have HB0 := Lib.hid hb0
  have H := Lib.hid (h.on hb0)
  have Hk := Lib.hid hk
  have Hin := Lib.hid hin
  have Hc := Lib.hid hc
  clear h hb0 hk hin hc
  have HW : Hid (wantF sts last c = (0, (renameF sts c.name c.to).1, (renameF sts c.name c.to).2, last)) := Lib.hid (by unfold wantF; rw [if_neg (by omega), if_pos hw])
  have e0 : (c.what == 0) = false := by rw [hw]; rfl
  have e1 : (c.what == 1) = false := by rw [hw]; rfl
  have e2 : (c.what == 2) = false := by rw [hw]; rfl
  have e3 : (c.what == 3) = true := by rw [hw]; rfl
  have e4 : (c.what == 4) = false := by rw [hw]; rfl
  have e5 : (c.what == 5) = false := by rw [hw]; rfl
  have e6 : (c.what == 6) = false := by rw [hw]; rfl
  have Hw := Lib.hid hw
  clear hw
  go_enter Try.func14, Try.ntmps14
  go_wp2_with fail
  refine (rrename_any H.out hl Hk.out Hin.out c.name c.to Hc.out.1 Hc.out.2).mono ?_
  rintro e w1 ⟨rfl, hm⟩
  have HX := Lib.hid hm
  clear hm
  go_wp2_with fail
  go_ret2
  exact ⟨by rw [HW.out]; rfl, by rw [HW.out]; exact HX.out.after_b HB0.out⟩
set_option maxRecDepth 100000 in
theorem rwants_4 (h : RFol w X N vs vals sts last) (hl : sts.length ≤ 100000) (hk : (curL sts).length ≤ 100000) (hla : last ≤ 1000000) (hin : ∀ x ∈ curL sts, x.2 < 18446744073709551616) (c : Call6) (hc : c.ok) (hw : c.what = 4) :
    Calls Try.prog 14 #[.pointer (some ⟨X, 0, none⟩), .agg #[.int .i64 c.what, .string c.name, .string c.to, .int .i64 c.keep]] w fun e w' => e = .returned (.tuple #[.int .u64 ((wantF sts last c).1 : Int), .int .i64 ((wantF sts last c).2.1 : Int)]) ∧ RMut w w' X N vs (wantF sts last c).2.2.1 (wantF sts last c).2.2.2 := by
  have hb0 : Below w.heap.size w (w.alloc (.cells #[.int .i64 c.what, .string c.name, .string c.to, .int .i64 c.keep] 28)) := (Below.refl _ _).alloc (Nat.le_refl _) _
  have HB0 := Lib.hid hb0
  have H := Lib.hid (h.on hb0)
  have Hk := Lib.hid hk
  have Hin := Lib.hid hin
  have Hc := Lib.hid hc
  clear h hb0 hk hin hc
  have HW : Hid (wantF sts last c = (0, (removeF sts c.name).1, (removeF sts c.name).2, last)) := Lib.hid (by unfold wantF; rw [if_neg (by omega), if_neg (by omega), if_pos hw])
  have e0 : (c.what == 0) = false := by rw [hw]; rfl
  have e1 : (c.what == 1) = false := by rw [hw]; rfl
  have e2 : (c.what == 2) = false := by rw [hw]; rfl
  have e3 : (c.what == 3) = false := by rw [hw]; rfl
  have e4 : (c.what == 4) = true := by rw [hw]; rfl
  have e5 : (c.what == 5) = false := by rw [hw]; rfl
  have e6 : (c.what == 6) = false := by rw [hw]; rfl
  have Hw := Lib.hid hw
  clear hw
  go_enter Try.func14, Try.ntmps14
  go_wp2_with fail
  refine (rremove_any H.out hl Hk.out c.name Hc.out.1).mono ?_
  rintro e w1 ⟨rfl, hm⟩
  have HX := Lib.hid hm
  clear hm
  go_wp2_with fail
  go_ret2
  exact ⟨by rw [HW.out]; rfl, by rw [HW.out]; exact HX.out.after_b HB0.out⟩
set_option maxRecDepth 100000 in
theorem rwants_5 (h : RFol w X N vs vals sts last) (hl : sts.length ≤ 100000) (hk : (curL sts).length ≤ 100000) (hla : last ≤ 1000000) (hin : ∀ x ∈ curL sts, x.2 < 18446744073709551616) (c : Call6) (hc : c.ok) (hw : c.what = 5) :
    Calls Try.prog 14 #[.pointer (some ⟨X, 0, none⟩), .agg #[.int .i64 c.what, .string c.name, .string c.to, .int .i64 c.keep]] w fun e w' => e = .returned (.tuple #[.int .u64 ((wantF sts last c).1 : Int), .int .i64 ((wantF sts last c).2.1 : Int)]) ∧ RMut w w' X N vs (wantF sts last c).2.2.1 (wantF sts last c).2.2.2 := by
  have hb0 : Below w.heap.size w (w.alloc (.cells #[.int .i64 c.what, .string c.name, .string c.to, .int .i64 c.keep] 28)) := (Below.refl _ _).alloc (Nat.le_refl _) _
  have HB0 := Lib.hid hb0
  have H := Lib.hid (h.on hb0)
  have Hk := Lib.hid hk
  have Hin := Lib.hid hin
  have Hc := Lib.hid hc
  clear h hb0 hk hin hc
  have HW : Hid (wantF sts last c = (0, 0, crashF sts sts.length, last)) := Lib.hid (by unfold wantF; rw [if_neg (by omega), if_neg (by omega), if_neg (by omega), if_pos hw])
  have e0 : (c.what == 0) = false := by rw [hw]; rfl
  have e1 : (c.what == 1) = false := by rw [hw]; rfl
  have e2 : (c.what == 2) = false := by rw [hw]; rfl
  have e3 : (c.what == 3) = false := by rw [hw]; rfl
  have e4 : (c.what == 4) = false := by rw [hw]; rfl
  have e5 : (c.what == 5) = true := by rw [hw]; rfl
  have e6 : (c.what == 6) = false := by rw [hw]; rfl
  have Hw := Lib.hid hw
  clear hw
  obtain ⟨g, cap, hvs, _, _⟩ := H.out.own.form H.out.pos
  obtain ⟨n, hn⟩ : ∃ n, n = sts.length := ⟨_, rfl⟩
  have c0 := H.out.c0
  rw [hvs, ← hn] at c0
  have Hn := Lib.hid hn
  clear hn hvs
  go_enter Try.func14, Try.ntmps14
  go_wp2_with fail
  refine (rcrash_any H.out hl (n : Int)).mono ?_
  rw [Hn.out]
  rintro e w1 ⟨rfl, hm⟩
  have HX := Lib.hid hm
  clear hm
  go_wp2_with fail
  go_ret2
  exact ⟨by rw [HW.out]; rfl, by rw [HW.out]; exact HX.out.after_b HB0.out⟩
set_option maxRecDepth 100000 in
theorem rwants_6 (h : RFol w X N vs vals sts last) (hl : sts.length ≤ 100000) (hk : (curL sts).length ≤ 100000) (hla : last ≤ 1000000) (hin : ∀ x ∈ curL sts, x.2 < 18446744073709551616) (c : Call6) (hc : c.ok) (hw : c.what = 6) :
    Calls Try.prog 14 #[.pointer (some ⟨X, 0, none⟩), .agg #[.int .i64 c.what, .string c.name, .string c.to, .int .i64 c.keep]] w fun e w' => e = .returned (.tuple #[.int .u64 ((wantF sts last c).1 : Int), .int .i64 ((wantF sts last c).2.1 : Int)]) ∧ RMut w w' X N vs (wantF sts last c).2.2.1 (wantF sts last c).2.2.2 := by
  have hb0 : Below w.heap.size w (w.alloc (.cells #[.int .i64 c.what, .string c.name, .string c.to, .int .i64 c.keep] 28)) := (Below.refl _ _).alloc (Nat.le_refl _) _
  have HB0 := Lib.hid hb0
  have H := Lib.hid (h.on hb0)
  have Hk := Lib.hid hk
  have Hin := Lib.hid hin
  have Hc := Lib.hid hc
  clear h hb0 hk hin hc
  have HW : Hid (wantF sts last c = (0, 0, crashF sts c.keep, last)) := Lib.hid (by unfold wantF; rw [if_neg (by omega), if_neg (by omega), if_neg (by omega), if_neg (by omega), if_pos hw])
  have e0 : (c.what == 0) = false := by rw [hw]; rfl
  have e1 : (c.what == 1) = false := by rw [hw]; rfl
  have e2 : (c.what == 2) = false := by rw [hw]; rfl
  have e3 : (c.what == 3) = false := by rw [hw]; rfl
  have e4 : (c.what == 4) = false := by rw [hw]; rfl
  have e5 : (c.what == 5) = false := by rw [hw]; rfl
  have e6 : (c.what == 6) = true := by rw [hw]; rfl
  have Hw := Lib.hid hw
  clear hw
  go_enter Try.func14, Try.ntmps14
  go_wp2_with fail
  refine (rcrash_any H.out hl c.keep).mono ?_
  rintro e w1 ⟨rfl, hm⟩
  have HX := Lib.hid hm
  clear hm
  go_wp2_with fail
  go_ret2
  exact ⟨by rw [HW.out]; rfl, by rw [HW.out]; exact HX.out.after_b HB0.out⟩
set_option maxRecDepth 100000 in
theorem rwants_no (h : RFol w X N vs vals sts last) (hl : sts.length ≤ 100000) (hk : (curL sts).length ≤ 100000) (hla : last ≤ 1000000) (hin : ∀ x ∈ curL sts, x.2 < 18446744073709551616) (c : Call6) (hc : c.ok) (hw : c.what ≠ 0 ∧ c.what ≠ 1 ∧ c.what ≠ 2 ∧ c.what ≠ 3 ∧ c.what ≠ 4 ∧ c.what ≠ 5 ∧ c.what ≠ 6) :
    Calls Try.prog 14 #[.pointer (some ⟨X, 0, none⟩), .agg #[.int .i64 c.what, .string c.name, .string c.to, .int .i64 c.keep]] w fun e w' => e = .returned (.tuple #[.int .u64 ((wantF sts last c).1 : Int), .int .i64 ((wantF sts last c).2.1 : Int)]) ∧ RMut w w' X N vs (wantF sts last c).2.2.1 (wantF sts last c).2.2.2 := by
  have hb0 : Below w.heap.size w (w.alloc (.cells #[.int .i64 c.what, .string c.name, .string c.to, .int .i64 c.keep] 28)) := (Below.refl _ _).alloc (Nat.le_refl _) _
  have HB0 := Lib.hid hb0
  have H := Lib.hid (h.on hb0)
  have Hk := Lib.hid hk
  have Hin := Lib.hid hin
  have Hc := Lib.hid hc
  clear h hb0 hk hin hc
  have HW : Hid (wantF sts last c = (0, 0, sts, last)) := Lib.hid (by unfold wantF; rw [if_neg (by omega), if_neg (by omega), if_neg (by omega), if_neg (by omega), if_neg (by omega)])
  have e0 : (c.what == 0) = false := by simp; omega
  have e1 : (c.what == 1) = false := by simp; omega
  have e2 : (c.what == 2) = false := by simp; omega
  have e3 : (c.what == 3) = false := by simp; omega
  have e4 : (c.what == 4) = false := by simp; omega
  have e5 : (c.what == 5) = false := by simp; omega
  have e6 : (c.what == 6) = false := by simp; omega
  have Hw := Lib.hid hw
  clear hw
  go_enter Try.func14, Try.ntmps14
  go_wp2_with fail
  go_ret2
  exact ⟨by rw [HW.out]; rfl, by rw [HW.out]; exact (RMut.of_below H.out (Below.refl _ _)).after_b HB0.out⟩
theorem rwants (h : RFol w X N vs vals sts last) (hl : sts.length ≤ 100000) (hk : (curL sts).length ≤ 100000) (hla : last ≤ 1000000) (hin : ∀ x ∈ curL sts, x.2 < 18446744073709551616) (c : Call6) (hc : c.ok) :
    Calls Try.prog 14 #[.pointer (some ⟨X, 0, none⟩), .agg #[.int .i64 c.what, .string c.name, .string c.to, .int .i64 c.keep]] w fun e w' => e = .returned (.tuple #[.int .u64 ((wantF sts last c).1 : Int), .int .i64 ((wantF sts last c).2.1 : Int)]) ∧ RMut w w' X N vs (wantF sts last c).2.2.1 (wantF sts last c).2.2.2 := by
  rcases (show c.what = 0 ∨ c.what = 1 ∨ c.what = 2 ∨ c.what = 3 ∨ c.what = 4 ∨ c.what = 5 ∨ c.what = 6 ∨ (c.what ≠ 0 ∧ c.what ≠ 1 ∧ c.what ≠ 2 ∧ c.what ≠ 3 ∧ c.what ≠ 4 ∧ c.what ≠ 5 ∧ c.what ≠ 6) by omega) with hw | hw | hw | hw | hw | hw | hw | hw
  · exact rwants_0 h hl hk hla hin c hc hw
  · exact rwants_1 h hl hk hla hin c hc hw
  · exact rwants_2 h hl hk hla hin c hc hw
  · exact rwants_3 h hl hk hla hin c hc hw
  · exact rwants_4 h hl hk hla hin c hc hw
  · exact rwants_5 h hl hk hla hin c hc hw
  · exact rwants_6 h hl hk hla hin c hc hw
  · exact rwants_no h hl hk hla hin c hc hw
end
end Go.Proofs.Ytpjmjcjikaekiaa
