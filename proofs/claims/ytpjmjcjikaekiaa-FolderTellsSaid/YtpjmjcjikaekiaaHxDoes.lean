
/-
  Layer 6: a call of the laws on the program's folder ('does').
-/
import Derived.Test.YtpjmjcjikaekiaaHxKnows
import Derived.Test.YtpjmjcjikaekiaaArgsC
set_option linter.unusedVariables false
set_option linter.unusedSimpArgs false
namespace Go.Proofs.Ytpjmjcjikaekiaa
open Go.RowKit Go.Maps

/-- what a call tells and makes of the program's folder -/
def doP (s : PSt) (c : Call6) : Nat × Nat × PSt :=
  if c.what = 0 ∨ c.what = 1 ∨ c.what = 2 then createP s c.name
  else if c.what = 3 then (0, (renameP s c.name c.to).1, (renameP s c.name c.to).2)
  else if c.what = 4 then (0, (removeP s c.name).1, (removeP s c.name).2)
  else if c.what = 5 then (0, 0, s.settle s.deeds.length)
  else if c.what = 6 then (0, 0, s.settle (keepN c.keep s.deeds.length))
  else (0, 0, s)
theorem HMut.after_b {w w1 w' : World} {X : Nat} {M R : Nat → Prop} {s : PSt} (hb : Below w.heap.size w w1) (h : HMut w1 w' X M R s) : HMut w w' X M R s := by
  obtain ⟨M', R', h1, h2, h3, h4⟩ := h
  have hs := hb.size
  exact ⟨M', R', h1, (Chg.of_below (M := M) hb).trans h2 (fun i hi => .inl hi), fun i hi => (h3 i hi).imp id (fun e => by omega), fun i hi => (h4 i hi).imp id (fun e => by omega)⟩
section
variable {w : World} {X : Nat} {M R : Nat → Prop} {s : PSt}
set_option maxRecDepth 100000 in
theorem hdoes_0 (h : HFolM w X M R s) (hf : s.safe.length + s.deeds.length < 100000) (hla : s.last + 1 < 100000000) (c : Call6) (hc : c.ok) (hw : c.what = 0) :
    Calls Try.prog 13 #[.pointer (some ⟨X, 0, none⟩), .agg #[.int .i64 c.what, .string c.name, .string c.to, .int .i64 c.keep]] w fun e w' => e = .returned (.tuple #[.int .u64 ((doP s c).1 : Int), .int .i64 ((doP s c).2.1 : Int)]) ∧ HMut w w' X M R (doP s c).2.2 := by
  have hb0 : Below w.heap.size w (w.alloc (.cells #[.int .i64 c.what, .string c.name, .string c.to, .int .i64 c.keep] 28)) := (Below.refl _ _).alloc (Nat.le_refl _) _
  have HB0 := Lib.hid hb0
  have H := Lib.hid (h.on hb0)
  have Hf := Lib.hid hf
  have Hc := Lib.hid hc
  have Hla := Lib.hid hla
  clear h hb0 hf hc hla
  have HW : Hid (doP s c = createP s c.name) := Lib.hid (by unfold doP; rw [if_pos (by omega)])
  have e0 : (c.what == 0) = true := by rw [hw]; rfl
  have e1 : (c.what == 1) = false := by rw [hw]; rfl
  have e2 : (c.what == 2) = false := by rw [hw]; rfl
  have e3 : (c.what == 3) = false := by rw [hw]; rfl
  have e4 : (c.what == 4) = false := by rw [hw]; rfl
  have e5 : (c.what == 5) = false := by rw [hw]; rfl
  have e6 : (c.what == 6) = false := by rw [hw]; rfl
  have Hw := Lib.hid hw
  clear hw
  go_enter Try.func13, Try.ntmps13
  go_wp2_with fail
  refine (hcreate H.out Hf.out Hla.out c.name Hc.out.1).mono ?_
  rintro e w1 ⟨rfl, hm⟩
  have HX := Lib.hid hm
  clear hm
  go_wp2_with fail
  go_ret2
  exact ⟨by rw [HW.out]; rfl, by rw [HW.out]; exact HX.out.after_b HB0.out⟩
set_option maxRecDepth 100000 in
theorem hdoes_1 (h : HFolM w X M R s) (hf : s.safe.length + s.deeds.length < 100000) (hla : s.last + 1 < 100000000) (c : Call6) (hc : c.ok) (hw : c.what = 1) :
    Calls Try.prog 13 #[.pointer (some ⟨X, 0, none⟩), .agg #[.int .i64 c.what, .string c.name, .string c.to, .int .i64 c.keep]] w fun e w' => e = .returned (.tuple #[.int .u64 ((doP s c).1 : Int), .int .i64 ((doP s c).2.1 : Int)]) ∧ HMut w w' X M R (doP s c).2.2 := by
  have hb0 : Below w.heap.size w (w.alloc (.cells #[.int .i64 c.what, .string c.name, .string c.to, .int .i64 c.keep] 28)) := (Below.refl _ _).alloc (Nat.le_refl _) _
  have HB0 := Lib.hid hb0
  have H := Lib.hid (h.on hb0)
  have Hf := Lib.hid hf
  have Hc := Lib.hid hc
  have Hla := Lib.hid hla
  clear h hb0 hf hc hla
  have HW : Hid (doP s c = createP s c.name) := Lib.hid (by unfold doP; rw [if_pos (by omega)])
  have e0 : (c.what == 0) = false := by rw [hw]; rfl
  have e1 : (c.what == 1) = true := by rw [hw]; rfl
  have e2 : (c.what == 2) = false := by rw [hw]; rfl
  have e3 : (c.what == 3) = false := by rw [hw]; rfl
  have e4 : (c.what == 4) = false := by rw [hw]; rfl
  have e5 : (c.what == 5) = false := by rw [hw]; rfl
  have e6 : (c.what == 6) = false := by rw [hw]; rfl
  have Hw := Lib.hid hw
  clear hw
  go_enter Try.func13, Try.ntmps13
  go_wp2_with fail
  refine (hcreate H.out Hf.out Hla.out c.name Hc.out.1).mono ?_
  rintro e w1 ⟨rfl, hm⟩
  have HX := Lib.hid hm
  clear hm
  go_wp2_with fail
  go_ret2
  exact ⟨by rw [HW.out]; rfl, by rw [HW.out]; exact HX.out.after_b HB0.out⟩
set_option maxRecDepth 100000 in
theorem hdoes_2 (h : HFolM w X M R s) (hf : s.safe.length + s.deeds.length < 100000) (hla : s.last + 1 < 100000000) (c : Call6) (hc : c.ok) (hw : c.what = 2) :
    Calls Try.prog 13 #[.pointer (some ⟨X, 0, none⟩), .agg #[.int .i64 c.what, .string c.name, .string c.to, .int .i64 c.keep]] w fun e w' => e = .returned (.tuple #[.int .u64 ((doP s c).1 : Int), .int .i64 ((doP s c).2.1 : Int)]) ∧ HMut w w' X M R (doP s c).2.2 := by
  have hb0 : Below w.heap.size w (w.alloc (.cells #[.int .i64 c.what, .string c.name, .string c.to, .int .i64 c.keep] 28)) := (Below.refl _ _).alloc (Nat.le_refl _) _
  have HB0 := Lib.hid hb0
  have H := Lib.hid (h.on hb0)
  have Hf := Lib.hid hf
  have Hc := Lib.hid hc
  have Hla := Lib.hid hla
  clear h hb0 hf hc hla
  have HW : Hid (doP s c = createP s c.name) := Lib.hid (by unfold doP; rw [if_pos (by omega)])
  have e0 : (c.what == 0) = false := by rw [hw]; rfl
  have e1 : (c.what == 1) = false := by rw [hw]; rfl
  have e2 : (c.what == 2) = true := by rw [hw]; rfl
  have e3 : (c.what == 3) = false := by rw [hw]; rfl
  have e4 : (c.what == 4) = false := by rw [hw]; rfl
  have e5 : (c.what == 5) = false := by rw [hw]; rfl
  have e6 : (c.what == 6) = false := by rw [hw]; rfl
  have Hw := Lib.hid hw
  clear hw
  go_enter Try.func13, Try.ntmps13
  go_wp2_with fail
  refine (hcreate H.out Hf.out Hla.out c.name Hc.out.1).mono ?_
  rintro e w1 ⟨rfl, hm⟩
  have HX := Lib.hid hm
  clear hm
  go_wp2_with fail
  go_ret2
  exact ⟨by rw [HW.out]; rfl, by rw [HW.out]; exact HX.out.after_b HB0.out⟩
set_option maxRecDepth 100000 in
theorem hdoes_3 (h : HFolM w X M R s) (hf : s.safe.length + s.deeds.length < 100000) (hla : s.last + 1 < 100000000) (c : Call6) (hc : c.ok) (hw : c.what = 3) :
    Calls Try.prog 13 #[.pointer (some ⟨X, 0, none⟩), .agg #[.int .i64 c.what, .string c.name, .string c.to, .int .i64 c.keep]] w fun e w' => e = .returned (.tuple #[.int .u64 ((doP s c).1 : Int), .int .i64 ((doP s c).2.1 : Int)]) ∧ HMut w w' X M R (doP s c).2.2 := by
  have hb0 : Below w.heap.size w (w.alloc (.cells #[.int .i64 c.what, .string c.name, .string c.to, .int .i64 c.keep] 28)) := (Below.refl _ _).alloc (Nat.le_refl _) _
  have HB0 := Lib.hid hb0
  have H := Lib.hid (h.on hb0)
  have Hf := Lib.hid hf
  have Hc := Lib.hid hc
  have Hla := Lib.hid hla
  clear h hb0 hf hc hla
  have HW : Hid (doP s c = (0, (renameP s c.name c.to).1, (renameP s c.name c.to).2)) := Lib.hid (by unfold doP; rw [if_neg (by omega), if_pos hw])
  have e0 : (c.what == 0) = false := by rw [hw]; rfl
  have e1 : (c.what == 1) = false := by rw [hw]; rfl
  have e2 : (c.what == 2) = false := by rw [hw]; rfl
  have e3 : (c.what == 3) = true := by rw [hw]; rfl
  have e4 : (c.what == 4) = false := by rw [hw]; rfl
  have e5 : (c.what == 5) = false := by rw [hw]; rfl
  have e6 : (c.what == 6) = false := by rw [hw]; rfl
  have Hw := Lib.hid hw
  clear hw
  go_enter Try.func13, Try.ntmps13
  go_wp2_with fail
  refine (hrename H.out Hf.out c.name c.to Hc.out.1 Hc.out.2).mono ?_
  rintro e w1 ⟨rfl, hm⟩
  have HX := Lib.hid hm
  clear hm
  go_wp2_with fail
  go_ret2
  exact ⟨by rw [HW.out]; rfl, by rw [HW.out]; exact HX.out.after_b HB0.out⟩
set_option maxRecDepth 100000 in
theorem hdoes_4 (h : HFolM w X M R s) (hf : s.safe.length + s.deeds.length < 100000) (hla : s.last + 1 < 100000000) (c : Call6) (hc : c.ok) (hw : c.what = 4) :
    Calls Try.prog 13 #[.pointer (some ⟨X, 0, none⟩), .agg #[.int .i64 c.what, .string c.name, .string c.to, .int .i64 c.keep]] w fun e w' => e = .returned (.tuple #[.int .u64 ((doP s c).1 : Int), .int .i64 ((doP s c).2.1 : Int)]) ∧ HMut w w' X M R (doP s c).2.2 := by
  have hb0 : Below w.heap.size w (w.alloc (.cells #[.int .i64 c.what, .string c.name, .string c.to, .int .i64 c.keep] 28)) := (Below.refl _ _).alloc (Nat.le_refl _) _
  have HB0 := Lib.hid hb0
  have H := Lib.hid (h.on hb0)
  have Hf := Lib.hid hf
  have Hc := Lib.hid hc
  have Hla := Lib.hid hla
  clear h hb0 hf hc hla
  have HW : Hid (doP s c = (0, (removeP s c.name).1, (removeP s c.name).2)) := Lib.hid (by unfold doP; rw [if_neg (by omega), if_neg (by omega), if_pos hw])
  have e0 : (c.what == 0) = false := by rw [hw]; rfl
  have e1 : (c.what == 1) = false := by rw [hw]; rfl
  have e2 : (c.what == 2) = false := by rw [hw]; rfl
  have e3 : (c.what == 3) = false := by rw [hw]; rfl
  have e4 : (c.what == 4) = true := by rw [hw]; rfl
  have e5 : (c.what == 5) = false := by rw [hw]; rfl
  have e6 : (c.what == 6) = false := by rw [hw]; rfl
  have Hw := Lib.hid hw
  clear hw
  go_enter Try.func13, Try.ntmps13
  go_wp2_with fail
  refine (hremove H.out Hf.out c.name Hc.out.1).mono ?_
  rintro e w1 ⟨rfl, hm⟩
  have HX := Lib.hid hm
  clear hm
  go_wp2_with fail
  go_ret2
  exact ⟨by rw [HW.out]; rfl, by rw [HW.out]; exact HX.out.after_b HB0.out⟩
set_option maxRecDepth 100000 in
theorem hdoes_5 (h : HFolM w X M R s) (hf : s.safe.length + s.deeds.length < 100000) (hla : s.last + 1 < 100000000) (c : Call6) (hc : c.ok) (hw : c.what = 5) :
    Calls Try.prog 13 #[.pointer (some ⟨X, 0, none⟩), .agg #[.int .i64 c.what, .string c.name, .string c.to, .int .i64 c.keep]] w fun e w' => e = .returned (.tuple #[.int .u64 ((doP s c).1 : Int), .int .i64 ((doP s c).2.1 : Int)]) ∧ HMut w w' X M R (doP s c).2.2 := by
  have hb0 : Below w.heap.size w (w.alloc (.cells #[.int .i64 c.what, .string c.name, .string c.to, .int .i64 c.keep] 28)) := (Below.refl _ _).alloc (Nat.le_refl _) _
  have HB0 := Lib.hid hb0
  have H := Lib.hid (h.on hb0)
  have Hf := Lib.hid hf
  have Hc := Lib.hid hc
  have Hla := Lib.hid hla
  clear h hb0 hf hc hla
  have HW : Hid (doP s c = (0, 0, s.settle s.deeds.length)) := Lib.hid (by unfold doP; rw [if_neg (by omega), if_neg (by omega), if_neg (by omega), if_pos hw])
  have e0 : (c.what == 0) = false := by rw [hw]; rfl
  have e1 : (c.what == 1) = false := by rw [hw]; rfl
  have e2 : (c.what == 2) = false := by rw [hw]; rfl
  have e3 : (c.what == 3) = false := by rw [hw]; rfl
  have e4 : (c.what == 4) = false := by rw [hw]; rfl
  have e5 : (c.what == 5) = true := by rw [hw]; rfl
  have e6 : (c.what == 6) = false := by rw [hw]; rfl
  have Hw := Lib.hid hw
  clear hw
  go_enter Try.func13, Try.ntmps13
  go_wp2_with fail
  refine (hsync H.out).mono ?_
  rintro e w1 ⟨rfl, hm⟩
  have HX := Lib.hid hm
  clear hm
  go_wp2_with fail
  go_ret2
  exact ⟨by rw [HW.out]; rfl, by rw [HW.out]; exact HX.out.after_b HB0.out⟩
set_option maxRecDepth 100000 in
theorem hdoes_6 (h : HFolM w X M R s) (hf : s.safe.length + s.deeds.length < 100000) (hla : s.last + 1 < 100000000) (c : Call6) (hc : c.ok) (hw : c.what = 6) :
    Calls Try.prog 13 #[.pointer (some ⟨X, 0, none⟩), .agg #[.int .i64 c.what, .string c.name, .string c.to, .int .i64 c.keep]] w fun e w' => e = .returned (.tuple #[.int .u64 ((doP s c).1 : Int), .int .i64 ((doP s c).2.1 : Int)]) ∧ HMut w w' X M R (doP s c).2.2 := by
  have hb0 : Below w.heap.size w (w.alloc (.cells #[.int .i64 c.what, .string c.name, .string c.to, .int .i64 c.keep] 28)) := (Below.refl _ _).alloc (Nat.le_refl _) _
  have HB0 := Lib.hid hb0
  have H := Lib.hid (h.on hb0)
  have Hf := Lib.hid hf
  have Hc := Lib.hid hc
  have Hla := Lib.hid hla
  clear h hb0 hf hc hla
  have HW : Hid (doP s c = (0, 0, s.settle (keepN c.keep s.deeds.length))) := Lib.hid (by unfold doP; rw [if_neg (by omega), if_neg (by omega), if_neg (by omega), if_neg (by omega), if_pos hw])
  have e0 : (c.what == 0) = false := by rw [hw]; rfl
  have e1 : (c.what == 1) = false := by rw [hw]; rfl
  have e2 : (c.what == 2) = false := by rw [hw]; rfl
  have e3 : (c.what == 3) = false := by rw [hw]; rfl
  have e4 : (c.what == 4) = false := by rw [hw]; rfl
  have e5 : (c.what == 5) = false := by rw [hw]; rfl
  have e6 : (c.what == 6) = true := by rw [hw]; rfl
  have Hw := Lib.hid hw
  clear hw
  go_enter Try.func13, Try.ntmps13
  go_wp2_with fail
  refine (hcrash H.out c.keep).mono ?_
  rintro e w1 ⟨rfl, hm⟩
  have HX := Lib.hid hm
  clear hm
  go_wp2_with fail
  go_ret2
  exact ⟨by rw [HW.out]; rfl, by rw [HW.out]; exact HX.out.after_b HB0.out⟩
set_option maxRecDepth 100000 in
theorem hdoes_n (h : HFolM w X M R s) (hf : s.safe.length + s.deeds.length < 100000) (hla : s.last + 1 < 100000000) (c : Call6) (hc : c.ok) (hw : ¬ (0 ≤ c.what ∧ c.what ≤ 6)) :
    Calls Try.prog 13 #[.pointer (some ⟨X, 0, none⟩), .agg #[.int .i64 c.what, .string c.name, .string c.to, .int .i64 c.keep]] w fun e w' => e = .returned (.tuple #[.int .u64 ((doP s c).1 : Int), .int .i64 ((doP s c).2.1 : Int)]) ∧ HMut w w' X M R (doP s c).2.2 := by
  have hb0 : Below w.heap.size w (w.alloc (.cells #[.int .i64 c.what, .string c.name, .string c.to, .int .i64 c.keep] 28)) := (Below.refl _ _).alloc (Nat.le_refl _) _
  have HB0 := Lib.hid hb0
  have H := Lib.hid (h.on hb0)
  have Hf := Lib.hid hf
  have Hc := Lib.hid hc
  have Hla := Lib.hid hla
  clear h hb0 hf hc hla
  have HW : Hid (doP s c = (0, 0, s)) := Lib.hid (by unfold doP; rw [if_neg (by omega), if_neg (by omega), if_neg (by omega), if_neg (by omega), if_neg (by omega)])
  have e0 : (c.what == 0) = false := by simp; omega
  have e1 : (c.what == 1) = false := by simp; omega
  have e2 : (c.what == 2) = false := by simp; omega
  have e3 : (c.what == 3) = false := by simp; omega
  have e4 : (c.what == 4) = false := by simp; omega
  have e5 : (c.what == 5) = false := by simp; omega
  have e6 : (c.what == 6) = false := by simp; omega
  have Hw := Lib.hid hw
  clear hw
  go_enter Try.func13, Try.ntmps13
  go_wp2_with fail
  go_ret2
  exact ⟨by rw [HW.out]; rfl, by rw [HW.out]; exact (HMut.of_below H.out (Below.refl _ _)).after_b HB0.out⟩
theorem hdoes (h : HFolM w X M R s) (hf : s.safe.length + s.deeds.length < 100000) (hla : s.last + 1 < 100000000) (c : Call6) (hc : c.ok) :
    Calls Try.prog 13 #[.pointer (some ⟨X, 0, none⟩), .agg #[.int .i64 c.what, .string c.name, .string c.to, .int .i64 c.keep]] w fun e w' => e = .returned (.tuple #[.int .u64 ((doP s c).1 : Int), .int .i64 ((doP s c).2.1 : Int)]) ∧ HMut w w' X M R (doP s c).2.2 := by
  rcases (show c.what = 0 ∨ c.what = 1 ∨ c.what = 2 ∨ c.what = 3 ∨ c.what = 4 ∨ c.what = 5 ∨ c.what = 6 ∨ ¬ (0 ≤ c.what ∧ c.what ≤ 6) by omega) with e | e | e | e | e | e | e | e
  · exact hdoes_0 h hf hla c hc e
  · exact hdoes_1 h hf hla c hc e
  · exact hdoes_2 h hf hla c hc e
  · exact hdoes_3 h hf hla c hc e
  · exact hdoes_4 h hf hla c hc e
  · exact hdoes_5 h hf hla c hc e
  · exact hdoes_6 h hf hla c hc e
  · exact hdoes_n h hf hla c hc e
end
end Go.Proofs.Ytpjmjcjikaekiaa
