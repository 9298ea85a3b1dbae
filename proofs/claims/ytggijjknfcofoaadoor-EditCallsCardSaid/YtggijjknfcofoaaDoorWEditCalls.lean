
/-
  The walk of the law EditCalls: it returns true, and writes nothing that was there. (printed by tools/gen/ed_calls.py)
-/
import Derived.Test.YtggijjknfcofoaaDoorEdWakes
import Derived.Test.YtggijjknfcofoaaDoorEdRPut
import Derived.Test.YtggijjknfcofoaaDoorOrdL
import Derived.Test.YtggijjknfcofoaaDoorRegion
import Derived.OpenShut
set_option linter.unusedVariables false
set_option linter.unusedSimpArgs false
namespace Go.Proofs.YtggijjknfcofoaaDoor.editCalls
open Go.RowKit

/-- what Put tells: the bytes, the error -/
def putQ (e : Ed.E) : List UInt8 × Nat := if Ed.mayE e = true then (Ed.bytesE e, 0) else ([], 1)
theorem eput_q (v : Value) (e : Ed.E) (w : World) (h : EdV w w.heap.size v e) (f : Ed.Fit e) (ht : ETab w) (q : List UInt8 × Nat) (hq : putQ e = q) :
    Calls Tryd.prog 9 #[v] w fun en w' => (∃ A n c, en = .returned (.tuple #[.slice A n c, .int .i64 q.2]) ∧ Bs w' w'.heap.size (.slice A n c) q.1) ∧ Below w.heap.size w w' := by
  unfold putQ at hq
  by_cases hm : Ed.mayE e = true
  · rw [if_pos hm] at hq
    subst hq
    refine (eput_yes v e w h f ht hm).mono ?_
    rintro en w' ⟨⟨r, rfl, A, c, rfl, h1, h2⟩, hb⟩
    exact ⟨⟨_, _, _, rfl, A, c, rfl, h1, h2⟩, hb⟩
  · rw [if_neg hm] at hq
    subst hq
    refine (eput_no v e w h f ht (by simpa using hm)).mono ?_
    rintro en w' ⟨rfl, hb⟩
    exact ⟨⟨_, _, _, rfl, Bs.none_⟩, hb⟩
theorem rput_q (v : Value) (e : Ed.E) (w : World) (h : EdV w w.heap.size v e) (f : Ed.Fit e) (q : List UInt8 × Nat) (hq : putQ e = q) :
    Calls Tryd.prog 10 #[v] w fun en w' => (∃ A n c, en = .returned (.tuple #[.slice A n c, .int .i64 q.2]) ∧ Bs w' w'.heap.size (.slice A n c) q.1) ∧ Below w.heap.size w w' := by
  unfold putQ at hq
  by_cases hm : Ed.mayE e = true
  · rw [if_pos hm] at hq
    subst hq
    refine (rput9_yes v e w h f hm).mono ?_
    rintro en w' ⟨r, rfl, ⟨A, c, rfl, h1, h2⟩, hb⟩
    exact ⟨⟨_, _, _, rfl, A, c, rfl, h1, h2⟩, hb⟩
  · rw [if_neg hm] at hq
    subst hq
    refine (rput9_no v e w h f (by simpa using hm)).mono ?_
    rintro en w' ⟨rfl, hb⟩
    exact ⟨⟨_, _, _, rfl, Bs.none_⟩, hb⟩

set_option maxRecDepth 100000 in
set_option maxHeartbeats 16000000 in
theorem walk (v0 : Value) (x0 : Ed.E) (v1 : Value) (x1 : Ed.E) (s : Ed.Sl) (w : World) (h0 : EdV w w.heap.size v0 x0) (f0 : Ed.Fit x0) (h1 : EdV w w.heap.size v1 x1) (f1 : Ed.Fit x1) (f2 : Ed.FitS s) (ht : ETab w) :
    Calls Tryd.prog 3 #[v0, v1, slV s] w fun e w' => e = .returned (.bool true) ∧ Below w.heap.size w w' := by
  obtain ⟨sv0, rfl, hs0⟩ := id h0
  obtain ⟨P0, p0, rfl, _, _⟩ := id hs0
  obtain ⟨sv1, rfl, hs1⟩ := id h1
  obtain ⟨P1, p1, rfl, _, _⟩ := id hs1
  have b1 := balloc (balloc (bnew w (.cells #[.int .i64 x0.kind, .string x0.name, .int .u64 x0.seq, .int .u32 x0.id, .slice P0 x0.seals.length p0] 26)) (.cells #[.int .i64 x1.kind, .string x1.name, .int .u64 x1.seq, .int .u32 x1.id, .slice P1 x1.seals.length p1] 26)) (.cells #[.int .u32 s.id, .int .u32 s.size, .int .u32 s.many, .int .u64 s.first, .int .u64 s.last] 28)
  have hx0 := ((Bx.new w #[.int .i64 x0.kind, .string x0.name, .int .u64 x0.seq, .int .u32 x0.id, .slice P0 x0.seals.length p0] 26 _ rfl).alloc (.cells #[.int .i64 x1.kind, .string x1.name, .int .u64 x1.seq, .int .u32 x1.id, .slice P1 x1.seals.length p1] 26)).alloc (.cells #[.int .u32 s.id, .int .u32 s.size, .int .u32 s.many, .int .u64 s.first, .int .u64 s.last] 28)
  have hy0 := (Bx.new (w.alloc (.cells #[.int .i64 x0.kind, .string x0.name, .int .u64 x0.seq, .int .u32 x0.id, .slice P0 x0.seals.length p0] 26)) #[.int .i64 x1.kind, .string x1.name, .int .u64 x1.seq, .int .u32 x1.id, .slice P1 x1.seals.length p1] 26 _ rfl).alloc (.cells #[.int .u32 s.id, .int .u32 s.size, .int .u32 s.many, .int .u64 s.first, .int .u64 s.last] 28)
  rw [show (w.alloc (.cells #[.int .i64 x0.kind, .string x0.name, .int .u64 x0.seq, .int .u32 x0.id, .slice P0 x0.seals.length p0] 26)).heap.size = w.heap.size + 1 by simp] at hy0
  have hz0 := Bx.new ((w.alloc (.cells #[.int .i64 x0.kind, .string x0.name, .int .u64 x0.seq, .int .u32 x0.id, .slice P0 x0.seals.length p0] 26)).alloc (.cells #[.int .i64 x1.kind, .string x1.name, .int .u64 x1.seq, .int .u32 x1.id, .slice P1 x1.seals.length p1] 26)) #[.int .u32 s.id, .int .u32 s.size, .int .u32 s.many, .int .u64 s.first, .int .u64 s.last] 28 _ rfl
  rw [show ((w.alloc (.cells #[.int .i64 x0.kind, .string x0.name, .int .u64 x0.seq, .int .u32 x0.id, .slice P0 x0.seals.length p0] 26)).alloc (.cells #[.int .i64 x1.kind, .string x1.name, .int .u64 x1.seq, .int .u32 x1.id, .slice P1 x1.seals.length p1] 26)).heap.size = w.heap.size + 1 + 1 by simp] at hz0
  have Hf0 := Lib.hid (fun w' (hb : Below w.heap.size w w') => few_e _ x0 w.heap.size w' (h0.below hb (Nat.le_refl _)) hb.size f0)
  have Hf1 := Lib.hid (fun w' (hb : Below w.heap.size w w') => few_e _ x1 w.heap.size w' (h1.below hb (Nat.le_refl _)) hb.size f1)
  have FR := Lib.hid (Ed.few_fit f0)
  have FQ := Lib.hid (Ed.few_fit f1)
  have FSL := Lib.hid f2
  generalize Ed.few x0 = r at *
  generalize Ed.few x1 = q at *
  have HT := Lib.hid ht
  have HX0 := Lib.hid hx0
  have HY0 := Lib.hid hy0
  have HZ0 := Lib.hid hz0
  have B1 := Lib.hid b1
  try unfold edV
  unfold slV
  clear h0 h1 hs0 hs1 f0 f1 f2 ht hx0 hy0 hz0 b1
  go_enter Tryd.func3, Tryd.ntmps3
  go_wp2_with fail
  refine OrdL.wpL_region (fun w' => Bx w' w.heap.size [.int .i64 x0.kind, .string x0.name, .int .u64 x0.seq, .int .u32 x0.id, .slice P0 x0.seals.length p0] ∧ Bx w' (w.heap.size + 1) [.int .i64 x1.kind, .string x1.name, .int .u64 x1.seq, .int .u32 x1.id, .slice P1 x1.seals.length p1]) 4 (by kernel_rfl) ?_
  have HW0 := Lib.hid (And.intro HX0.out.drew HY0.out.drew)
  have HZ := Lib.hid HZ0.out.drew
  have HbW := Lib.hid (B1.out.drew)
  clear HX0 HY0 HZ0 B1
  generalize hWW : World.drew _ = W at *
  clear hWW
  have hHeld := HW0.out
  refine OrdL.wpL_take (i := 0) (v := ?_) opAt_0 [] (by kernel_rfl) (by kernel_rfl) (by kernel_rfl) (by kernel_rfl) (by kernel_rfl) (by kernel_rfl) (fun _ _ _ h => h) (Or.inl ⟨by rfl, ?_⟩) hHeld ?_
  rotate_left
  · (intro w' hSw; obtain ⟨k0, k1, k2, k3, k4⟩ := hSw.1.at5; obtain ⟨m0, m1, m2, m3, m4⟩ := hSw.2.at5; go_simp; try with_reducible rfl)
  try simp only [Act.put, List.setIfInBounds_toArray, List.set_cons_zero, List.set_cons_succ]
  refine OrdL.wpL_take (i := 2) (v := ?_) opAt_2 [3] (by kernel_rfl) (by kernel_rfl) (by kernel_rfl) (by kernel_rfl) (by kernel_rfl) (by kernel_rfl) (fun _ _ _ h => h) (Or.inl ⟨by rfl, ?_⟩) hHeld ?_
  rotate_left
  · (intro w' hSw; obtain ⟨k0, k1, k2, k3, k4⟩ := hSw.1.at5; obtain ⟨m0, m1, m2, m3, m4⟩ := hSw.2.at5; go_simp; try with_reducible rfl)
  try simp only [Act.put, List.setIfInBounds_toArray, List.set_cons_zero, List.set_cons_succ]
  refine OrdL.wpL_ready (rs := [1]) (by kernel_rfl) (by simp) ?_
  refine OrdL.AllL.cons rfl (fun K hK => ?_) OrdL.AllL.nil
  go_simp
  refine (Hf0.out W HbW.out).mono ?_
  rintro e wa ⟨va, rfl, ⟨sa, rfl, hra⟩, ba⟩
  obtain ⟨P2, p2, rfl, _, _⟩ := id hra
  have HbA := Lib.hid (HbW.out.trans (ba.mono HbW.out.size))
  have HRa := Lib.hid hra
  have HWa := Lib.hid (And.intro (HW0.out.1.on ba) (HW0.out.2.on ba))
  have HZ := Lib.hid (HZ.out.on ba)
  clear ba hra hHeld
  have hHeld := HWa.out
  refine hK.out _ _ (fun _ => hHeld) ?_
  clear hK K
  try simp only [Act.put, List.setIfInBounds_toArray, List.set_cons_zero, List.set_cons_succ]
  refine OrdL.wpL_ready (rs := [3]) (by kernel_rfl) (by simp) ?_
  refine OrdL.AllL.cons rfl (fun K hK => ?_) OrdL.AllL.nil
  go_simp
  refine (Hf1.out wa HbA.out).mono ?_
  rintro e wb ⟨vb, rfl, ⟨sb, rfl, hrb⟩, bb⟩
  obtain ⟨P3, p3, rfl, _, _⟩ := id hrb
  have HbB := Lib.hid (HbA.out.trans (bb.mono HbA.out.size))
  have HRb := Lib.hid hrb
  have HRa' := Lib.hid (HRa.out.below bb HbA.out.size)
  have HWb := Lib.hid (And.intro (HWa.out.1.on bb) (HWa.out.2.on bb))
  have HZ := Lib.hid (HZ.out.on bb)
  clear bb hrb hHeld
  have hHeld := HWb.out
  refine hK.out _ _ (fun _ => hHeld) ?_
  clear hK K
  try simp only [Act.put, List.setIfInBounds_toArray, List.set_cons_zero, List.set_cons_succ]
  refine OrdL.wpL_ready (rs := [4]) (by kernel_rfl) (by simp) ?_
  refine OrdL.AllL.cons rfl (fun K hK => ?_) OrdL.AllL.nil
  have hx1 := HWb.out.1
  have hy1 := HWb.out.2
  obtain ⟨k0, k1, k2, k3, k4⟩ := hx1.at5
  obtain ⟨z0, z1, z2, z3, z4⟩ := hx1.free5
  try unfold edV
  go_simp
  have n4 := (((((hx1.set 0 (.int .i64 r.kind) (by simp)).set 1 (.string r.name) (by simp)).set 2 (.int .u64 r.seq) (by simp)).set 3 (.int .u32 r.id) (by simp)).set 4 (.slice P2 r.seals.length p2) (by simp))
  have m4 := (((((hy1.other ⟨w.heap.size, 0, none⟩ (.int .i64 r.kind) (by simp)).other ⟨w.heap.size, 1, none⟩ (.string r.name) (by simp)).other ⟨w.heap.size, 2, none⟩ (.int .u64 r.seq) (by simp)).other ⟨w.heap.size, 3, none⟩ (.int .u32 r.id) (by simp)).other ⟨w.heap.size, 4, none⟩ (.slice P2 r.seals.length p2) (by simp))
  have q4 := ((((((Below.refl w.heap.size wb).setCell (p := ⟨w.heap.size, 0, none⟩) (by simp) (.int .i64 r.kind)).setCell (p := ⟨w.heap.size, 1, none⟩) (by simp) (.string r.name)).setCell (p := ⟨w.heap.size, 2, none⟩) (by simp) (.int .u64 r.seq)).setCell (p := ⟨w.heap.size, 3, none⟩) (by simp) (.int .u32 r.id)).setCell (p := ⟨w.heap.size, 4, none⟩) (by simp) (.slice P2 r.seals.length p2))
  have HZ := Lib.hid (((((HZ.out.other ⟨w.heap.size, 0, none⟩ (.int .i64 r.kind) (by show w.heap.size ≠ w.heap.size + 1 + 1; omega)).other ⟨w.heap.size, 1, none⟩ (.string r.name) (by show w.heap.size ≠ w.heap.size + 1 + 1; omega)).other ⟨w.heap.size, 2, none⟩ (.int .u64 r.seq) (by show w.heap.size ≠ w.heap.size + 1 + 1; omega)).other ⟨w.heap.size, 3, none⟩ (.int .u32 r.id) (by show w.heap.size ≠ w.heap.size + 1 + 1; omega)).other ⟨w.heap.size, 4, none⟩ (.slice P2 r.seals.length p2) (by show w.heap.size ≠ w.heap.size + 1 + 1; omega))
  simp only [List.set_cons_zero, List.set_cons_succ] at n4
  have N4 := Lib.hid n4
  have M4 := Lib.hid m4
  have Q4 := Lib.hid q4
  clear n4 m4 q4 k0 k1 k2 k3 k4 z0 z1 z2 z3 z4 hx1 hy1
  generalize World.setCell (World.setCell (World.setCell (World.setCell (World.setCell wb _ _) _ _) _ _) _ _) _ _ = wc at *
  refine hK.out _ _ (fun h => absurd h (by decide)) ?_
  clear hK K
  try simp only [Act.put, List.setIfInBounds_toArray, List.set_cons_zero, List.set_cons_succ]
  clear hHeld
  refine OrdL.wpL_ready (rs := [5]) (by kernel_rfl) (by simp) ?_
  refine OrdL.AllL.cons rfl (fun K hK => ?_) OrdL.AllL.nil
  have hx1 := N4.out
  have hy1 := M4.out
  obtain ⟨k0, k1, k2, k3, k4⟩ := hy1.at5
  obtain ⟨z0, z1, z2, z3, z4⟩ := hy1.free5
  try unfold edV
  go_simp
  have n5 := (((((hy1.set 0 (.int .i64 q.kind) (by simp)).set 1 (.string q.name) (by simp)).set 2 (.int .u64 q.seq) (by simp)).set 3 (.int .u32 q.id) (by simp)).set 4 (.slice P3 q.seals.length p3) (by simp))
  have m5 := (((((hx1.other ⟨w.heap.size + 1, 0, none⟩ (.int .i64 q.kind) (by simp)).other ⟨w.heap.size + 1, 1, none⟩ (.string q.name) (by simp)).other ⟨w.heap.size + 1, 2, none⟩ (.int .u64 q.seq) (by simp)).other ⟨w.heap.size + 1, 3, none⟩ (.int .u32 q.id) (by simp)).other ⟨w.heap.size + 1, 4, none⟩ (.slice P3 q.seals.length p3) (by simp))
  have q5 := ((((((Below.refl w.heap.size wc).setCell (p := ⟨w.heap.size + 1, 0, none⟩) (by simp) (.int .i64 q.kind)).setCell (p := ⟨w.heap.size + 1, 1, none⟩) (by simp) (.string q.name)).setCell (p := ⟨w.heap.size + 1, 2, none⟩) (by simp) (.int .u64 q.seq)).setCell (p := ⟨w.heap.size + 1, 3, none⟩) (by simp) (.int .u32 q.id)).setCell (p := ⟨w.heap.size + 1, 4, none⟩) (by simp) (.slice P3 q.seals.length p3))
  have HZ := Lib.hid (((((HZ.out.other ⟨w.heap.size + 1, 0, none⟩ (.int .i64 q.kind) (by show w.heap.size + 1 ≠ w.heap.size + 1 + 1; omega)).other ⟨w.heap.size + 1, 1, none⟩ (.string q.name) (by show w.heap.size + 1 ≠ w.heap.size + 1 + 1; omega)).other ⟨w.heap.size + 1, 2, none⟩ (.int .u64 q.seq) (by show w.heap.size + 1 ≠ w.heap.size + 1 + 1; omega)).other ⟨w.heap.size + 1, 3, none⟩ (.int .u32 q.id) (by show w.heap.size + 1 ≠ w.heap.size + 1 + 1; omega)).other ⟨w.heap.size + 1, 4, none⟩ (.slice P3 q.seals.length p3) (by show w.heap.size + 1 ≠ w.heap.size + 1 + 1; omega))
  simp only [List.set_cons_zero, List.set_cons_succ] at n5
  have N5 := Lib.hid n5
  have M5 := Lib.hid m5
  have Q5 := Lib.hid q5
  clear n5 m5 q5 k0 k1 k2 k3 k4 z0 z1 z2 z3 z4 hx1 hy1
  generalize World.setCell (World.setCell (World.setCell (World.setCell (World.setCell wc _ _) _ _) _ _) _ _) _ _ = wd at *
  refine hK.out _ _ (fun h => absurd h (by decide)) ?_
  clear hK K
  try simp only [Act.put, List.setIfInBounds_toArray, List.set_cons_zero, List.set_cons_succ]
  refine OrdL.wpL_done (by kernel_rfl) ?_ _
  have hbb := Q4.out.trans Q5.out
  have HS : Hid (Bx wd w.heap.size [.int .i64 r.kind, .string r.name, .int .u64 r.seq, .int .u32 r.id, .slice P2 r.seals.length p2] ∧ Bx wd (w.heap.size + 1) [.int .i64 q.kind, .string q.name, .int .u64 q.seq, .int .u32 q.id, .slice P3 q.seals.length p3] ∧ Bx wd (w.heap.size + 1 + 1) [.int .u32 s.id, .int .u32 s.size, .int .u32 s.many, .int .u64 s.first, .int .u64 s.last]) := Lib.hid ⟨M5.out, N5.out, HZ.out⟩
  have RD : Hid (EdV wd w.heap.size (edV r.kind r.name r.seq r.id (.slice P2 r.seals.length p2)) r) := Lib.hid ⟨_, rfl, HRa'.out.below hbb (Nat.le_refl _)⟩
  have QD : Hid (EdV wd w.heap.size (edV q.kind q.name q.seq q.id (.slice P3 q.seals.length p3)) q) := Lib.hid ⟨_, rfl, HRb.out.below hbb (Nat.le_refl _)⟩
  have HBD := Lib.hid (HbB.out.trans hbb)
  have HT := Lib.hid (HT.out.on HBD.out)
  unfold edV at RD QD
  clear hbb HZ M5 N5 M4 N4 Q4 Q5 HRa HRa' HRb HWa HWb HW0 HbA HbB HbW Hf0 Hf1
  obtain ⟨⟨l, ec⟩, hl⟩ : ∃ p, putQ r = p := ⟨_, rfl⟩
  have HL := Lib.hid hl
  clear hl
  obtain ⟨k0, k1, k2, k3, k4⟩ := HS.out.1.at5
  go_wp2_with fail
  refine (eput_q _ r _ (RD.out.mono HBD.out.size) FR.out HT.out (l, ec) HL.out).mono ?_
  rintro e we ⟨⟨Aa, na, ca, rfl, hka⟩, hb⟩
  have KR := Lib.hid hka
  clear hka k0 k1 k2 k3 k4
  have HS := Lib.hid (And.intro (HS.out.1.on hb) (And.intro (HS.out.2.1.on hb) (HS.out.2.2.on hb)))
  have RD := Lib.hid (RD.out.below hb HBD.out.size)
  have QD := Lib.hid (QD.out.below hb HBD.out.size)
  have HBD := Lib.hid (bstep HBD.out hb)
  have HT := Lib.hid (HT.out.on hb)
  clear hb
  obtain ⟨k0, k1, k2, k3, k4⟩ := HS.out.1.at5
  go_wp2_with fail
  refine (rput_q _ r _ (RD.out.mono HBD.out.size) FR.out (l, ec) HL.out).mono ?_
  rintro e wf ⟨⟨Ab, nb, cb, rfl, hkb⟩, hb⟩
  have KQ := Lib.hid hkb
  clear hkb k0 k1 k2 k3 k4
  have HS := Lib.hid (And.intro (HS.out.1.on hb) (And.intro (HS.out.2.1.on hb) (HS.out.2.2.on hb)))
  have RD := Lib.hid (RD.out.below hb HBD.out.size)
  have QD := Lib.hid (QD.out.below hb HBD.out.size)
  have KR := Lib.hid (KR.out.on hb)
  have HBD := Lib.hid (bstep HBD.out hb)
  have HT := Lib.hid (HT.out.on hb)
  clear hb
  obtain ⟨m, hm⟩ : ∃ m, Ed.mayE r = m := ⟨_, rfl⟩
  have HM := Lib.hid hm
  obtain ⟨d, hd⟩ : ∃ d, decide (r = q) = d := ⟨_, rfl⟩
  have HD := Lib.hid hd
  obtain ⟨ms, hms⟩ : ∃ m, Ed.mayS s = m := ⟨_, rfl⟩
  have HMS := Lib.hid hms
  clear hm hd hms
  go_wp2_with fail
  refine wp_region_noPanic ?_
  refine wp_region_held_drew (S := fun w' : World => Bx w' w.heap.size [.int .i64 r.kind, .string r.name, .int .u64 r.seq, .int .u32 r.id, .slice P2 r.seals.length p2] ∧ Bx w' (w.heap.size + 1) [.int .i64 q.kind, .string q.name, .int .u64 q.seq, .int .u32 q.id, .slice P3 q.seals.length p3] ∧ Bx w' (w.heap.size + 1 + 1) [.int .u32 s.id, .int .u32 s.size, .int .u32 s.many, .int .u64 s.first, .int .u64 s.last]) (by kernel_rfl) ⟨HS.out.1.drew, HS.out.2.1.drew, HS.out.2.2.drew⟩ (fun hHeld => ?_)
  have HS := Lib.hid (And.intro HS.out.1.drew (And.intro HS.out.2.1.drew HS.out.2.2.drew))
  have KR := Lib.hid (KR.out.drew')
  have KQ := Lib.hid (KQ.out.drew')
  have HT := Lib.hid (show ETab wf.drew from HT.out.on (below_drewN (Below.refl _ _) 1))
  have RD := Lib.hid (RD.out.below (below_drewN (Below.refl wf.heap.size wf) 1) HBD.out.size)
  have QD := Lib.hid (QD.out.below (below_drewN (Below.refl wf.heap.size wf) 1) HBD.out.size)
  have HBD := Lib.hid (show Below w.heap.size w wf.drew from HBD.out.drew)
  change Hid (EdV wf.drew _ _ _) at RD QD
  generalize hWW : World.drew _ = W0 at *
  clear hWW
  refine wpAnyH_take (i := 0) (v := ?_) opAt_0 (by kernel_rfl) (by kernel_rfl) (by kernel_rfl) (fun _ _ _ h => h) (Or.inl ⟨by rfl, ?_⟩) hHeld ?_
  rotate_left
  · (intro w' hSw; obtain ⟨k0, k1, k2, k3, k4⟩ := hSw.1.at5; obtain ⟨m0, m1, m2, m3, m4⟩ := hSw.2.1.at5; obtain ⟨n0, n1, n2, n3, n4⟩ := hSw.2.2.at5; go_simp; try with_reducible rfl)
  try simp only [Act.put, List.setIfInBounds_toArray, List.set_cons_zero, List.set_cons_succ]
  refine wpAnyH_take (i := 1) (v := ?_) opAt_1 (by kernel_rfl) (by kernel_rfl) (by kernel_rfl) (fun _ _ _ h => h) (Or.inl ⟨by rfl, ?_⟩) hHeld ?_
  rotate_left
  · (intro w' hSw; obtain ⟨k0, k1, k2, k3, k4⟩ := hSw.1.at5; obtain ⟨m0, m1, m2, m3, m4⟩ := hSw.2.1.at5; obtain ⟨n0, n1, n2, n3, n4⟩ := hSw.2.2.at5; go_simp; try with_reducible rfl)
  try simp only [Act.put, List.setIfInBounds_toArray, List.set_cons_zero, List.set_cons_succ]
  refine wpAnyH_ready (rs := [2]) (by kernel_rfl) (by simp) ?_
  refine AllReadyH.cons rfl (fun K hK => ?_) AllReadyH.nil
  go_simp
  refine (equal_b _ _ l l _ _ _ KR.out KQ.out).mono ?_
  rw [show (l == l) = true by simp]
  rintro e w9 ⟨rfl, hw9⟩
  subst hw9
  try go_wp2_with fail
  refine hK.out _ _ HS.out (fun hHeld => ?_)
  clear hK K
  try simp only [Act.put, List.setIfInBounds_toArray, List.set_cons_zero, List.set_cons_succ]
  refine wpAnyH_take (i := 3) (v := ?_) opAt_3 (by kernel_rfl) (by kernel_rfl) (by kernel_rfl) (fun _ _ _ h => h) (Or.inl ⟨by rfl, ?_⟩) hHeld ?_
  rotate_left
  · (intro w' hSw; obtain ⟨k0, k1, k2, k3, k4⟩ := hSw.1.at5; obtain ⟨m0, m1, m2, m3, m4⟩ := hSw.2.1.at5; obtain ⟨n0, n1, n2, n3, n4⟩ := hSw.2.2.at5; go_simp; try with_reducible rfl)
  try simp only [Act.put, List.setIfInBounds_toArray, List.set_cons_zero, List.set_cons_succ]
  refine wpAnyH_take (i := 4) (v := ?_) opAt_4 (by kernel_rfl) (by kernel_rfl) (by kernel_rfl) (fun _ _ _ h => h) (Or.inl ⟨by rfl, ?_⟩) hHeld ?_
  rotate_left
  · (intro w' hSw; obtain ⟨k0, k1, k2, k3, k4⟩ := hSw.1.at5; obtain ⟨m0, m1, m2, m3, m4⟩ := hSw.2.1.at5; obtain ⟨n0, n1, n2, n3, n4⟩ := hSw.2.2.at5; go_simp; try with_reducible rfl)
  try simp only [Act.put, List.setIfInBounds_toArray, List.set_cons_zero, List.set_cons_succ]
  refine wpAnyH_take (i := 5) (v := ?_) opAt_5 (by kernel_rfl) (by kernel_rfl) (by kernel_rfl) (fun _ _ _ h => h) (Or.inl ⟨by rfl, ?_⟩) hHeld ?_
  rotate_left
  · (intro w' hSw; obtain ⟨k0, k1, k2, k3, k4⟩ := hSw.1.at5; obtain ⟨m0, m1, m2, m3, m4⟩ := hSw.2.1.at5; obtain ⟨n0, n1, n2, n3, n4⟩ := hSw.2.2.at5; go_simp; try with_reducible rfl)
  try simp only [Act.put, List.setIfInBounds_toArray, List.set_cons_zero, List.set_cons_succ]
  refine wpAnyH_take (i := 6) (v := ?_) opAt_6 (by kernel_rfl) (by kernel_rfl) (by kernel_rfl) (fun _ _ _ h => h) (Or.inl ⟨by rfl, ?_⟩) hHeld ?_
  rotate_left
  · (intro w' hSw; obtain ⟨k0, k1, k2, k3, k4⟩ := hSw.1.at5; obtain ⟨m0, m1, m2, m3, m4⟩ := hSw.2.1.at5; obtain ⟨n0, n1, n2, n3, n4⟩ := hSw.2.2.at5; go_simp; try with_reducible rfl)
  try simp only [Act.put, List.setIfInBounds_toArray, List.set_cons_zero, List.set_cons_succ]
  refine wpAnyH_take (i := 7) (v := ?_) opAt_7 (by kernel_rfl) (by kernel_rfl) (by kernel_rfl) (fun _ _ _ h => h) (Or.inl ⟨by rfl, ?_⟩) hHeld ?_
  rotate_left
  · (intro w' hSw; obtain ⟨k0, k1, k2, k3, k4⟩ := hSw.1.at5; obtain ⟨m0, m1, m2, m3, m4⟩ := hSw.2.1.at5; obtain ⟨n0, n1, n2, n3, n4⟩ := hSw.2.2.at5; go_simp; try with_reducible rfl)
  try simp only [Act.put, List.setIfInBounds_toArray, List.set_cons_zero, List.set_cons_succ]
  refine wpAnyH_take (i := 8) (v := ?_) opAt_8 (by kernel_rfl) (by kernel_rfl) (by kernel_rfl) (fun _ _ _ h => h) (Or.inl ⟨by rfl, ?_⟩) hHeld ?_
  rotate_left
  · (intro w' hSw; obtain ⟨k0, k1, k2, k3, k4⟩ := hSw.1.at5; obtain ⟨m0, m1, m2, m3, m4⟩ := hSw.2.1.at5; obtain ⟨n0, n1, n2, n3, n4⟩ := hSw.2.2.at5; go_simp; try with_reducible rfl)
  try simp only [Act.put, List.setIfInBounds_toArray, List.set_cons_zero, List.set_cons_succ]
  refine wpAnyH_take (i := 9) (v := ?_) opAt_9 (by kernel_rfl) (by kernel_rfl) (by kernel_rfl) (fun _ _ _ h => h) (Or.inl ⟨by rfl, ?_⟩) hHeld ?_
  rotate_left
  · (intro w' hSw; obtain ⟨k0, k1, k2, k3, k4⟩ := hSw.1.at5; obtain ⟨m0, m1, m2, m3, m4⟩ := hSw.2.1.at5; obtain ⟨n0, n1, n2, n3, n4⟩ := hSw.2.2.at5; go_simp; try with_reducible rfl)
  try simp only [Act.put, List.setIfInBounds_toArray, List.set_cons_zero, List.set_cons_succ]
  refine wpAnyH_take (i := 11) (v := ?_) opAt_11 (by kernel_rfl) (by kernel_rfl) (by kernel_rfl) (fun _ _ _ h => h) (Or.inl ⟨by rfl, ?_⟩) hHeld ?_
  rotate_left
  · (intro w' hSw; obtain ⟨k0, k1, k2, k3, k4⟩ := hSw.1.at5; obtain ⟨m0, m1, m2, m3, m4⟩ := hSw.2.1.at5; obtain ⟨n0, n1, n2, n3, n4⟩ := hSw.2.2.at5; go_simp; try with_reducible rfl)
  try simp only [Act.put, List.setIfInBounds_toArray, List.set_cons_zero, List.set_cons_succ]
  refine wpAnyH_ready (rs := [10]) (by kernel_rfl) (by simp) ?_
  refine AllReadyH.cons rfl (fun K hK => ?_) AllReadyH.nil
  go_simp
  refine (may_edit _ r _ (RD.out.mono HBD.out.size) FR.out HT.out).mono ?_
  rw [HM.out]
  rintro e w10 ⟨rfl, hb⟩
  clear hHeld
  have HS := Lib.hid (And.intro (HS.out.1.on hb) (And.intro (HS.out.2.1.on hb) (HS.out.2.2.on hb)))
  have RD := Lib.hid (RD.out.below hb HBD.out.size)
  have QD := Lib.hid (QD.out.below hb HBD.out.size)
  have HBD := Lib.hid (bstep HBD.out hb)
  have HT := Lib.hid (HT.out.on hb)
  clear hb
  have hHeld := HS.out
  try go_wp2_with fail
  refine hK.out _ _ HS.out (fun hHeld => ?_)
  clear hK K
  try simp only [Act.put, List.setIfInBounds_toArray, List.set_cons_zero, List.set_cons_succ]
  refine wpAnyH_ready (rs := [12]) (by kernel_rfl) (by simp) ?_
  refine AllReadyH.cons rfl (fun K hK => ?_) AllReadyH.nil
  go_simp
  refine (rmay_any _ r _ (RD.out.mono HBD.out.size) FR.out).mono ?_
  rw [HM.out]
  rintro e w12 ⟨rfl, hb⟩
  clear hHeld
  have HS := Lib.hid (And.intro (HS.out.1.on hb) (And.intro (HS.out.2.1.on hb) (HS.out.2.2.on hb)))
  have RD := Lib.hid (RD.out.below hb HBD.out.size)
  have QD := Lib.hid (QD.out.below hb HBD.out.size)
  have HBD := Lib.hid (bstep HBD.out hb)
  have HT := Lib.hid (HT.out.on hb)
  clear hb
  have hHeld := HS.out
  try go_wp2_with fail
  refine hK.out _ _ HS.out (fun hHeld => ?_)
  clear hK K
  try simp only [Act.put, List.setIfInBounds_toArray, List.set_cons_zero, List.set_cons_succ]
  refine wpAnyH_take (i := 13) (v := ?_) opAt_13 (by kernel_rfl) (by kernel_rfl) (by kernel_rfl) (fun _ _ _ h => h) (Or.inl ⟨by rfl, ?_⟩) hHeld ?_
  rotate_left
  · (intro w' hSw; obtain ⟨k0, k1, k2, k3, k4⟩ := hSw.1.at5; obtain ⟨m0, m1, m2, m3, m4⟩ := hSw.2.1.at5; obtain ⟨n0, n1, n2, n3, n4⟩ := hSw.2.2.at5; go_simp; try with_reducible rfl)
  try simp only [Act.put, List.setIfInBounds_toArray, List.set_cons_zero, List.set_cons_succ]
  refine wpAnyH_take (i := 14) (v := ?_) opAt_14 (by kernel_rfl) (by kernel_rfl) (by kernel_rfl) (fun _ _ _ h => h) (Or.inl ⟨by rfl, ?_⟩) hHeld ?_
  rotate_left
  · (intro w' hSw; obtain ⟨k0, k1, k2, k3, k4⟩ := hSw.1.at5; obtain ⟨m0, m1, m2, m3, m4⟩ := hSw.2.1.at5; obtain ⟨n0, n1, n2, n3, n4⟩ := hSw.2.2.at5; go_simp; try with_reducible rfl)
  try simp only [Act.put, List.setIfInBounds_toArray, List.set_cons_zero, List.set_cons_succ]
  refine wpAnyH_take (i := 15) (v := ?_) opAt_15 (by kernel_rfl) (by kernel_rfl) (by kernel_rfl) (fun _ _ _ h => h) (Or.inl ⟨by rfl, ?_⟩) hHeld ?_
  rotate_left
  · (intro w' hSw; obtain ⟨k0, k1, k2, k3, k4⟩ := hSw.1.at5; obtain ⟨m0, m1, m2, m3, m4⟩ := hSw.2.1.at5; obtain ⟨n0, n1, n2, n3, n4⟩ := hSw.2.2.at5; go_simp; try with_reducible rfl)
  try simp only [Act.put, List.setIfInBounds_toArray, List.set_cons_zero, List.set_cons_succ]
  refine wpAnyH_take (i := 16) (v := ?_) opAt_16 (by kernel_rfl) (by kernel_rfl) (by kernel_rfl) (fun _ _ _ h => h) (Or.inl ⟨by rfl, ?_⟩) hHeld ?_
  rotate_left
  · (intro w' hSw; obtain ⟨k0, k1, k2, k3, k4⟩ := hSw.1.at5; obtain ⟨m0, m1, m2, m3, m4⟩ := hSw.2.1.at5; obtain ⟨n0, n1, n2, n3, n4⟩ := hSw.2.2.at5; go_simp; try with_reducible rfl)
  try simp only [Act.put, List.setIfInBounds_toArray, List.set_cons_zero, List.set_cons_succ]
  refine wpAnyH_take (i := 17) (v := ?_) opAt_17 (by kernel_rfl) (by kernel_rfl) (by kernel_rfl) (fun _ _ _ h => h) (Or.inl ⟨by rfl, ?_⟩) hHeld ?_
  rotate_left
  · (intro w' hSw; obtain ⟨k0, k1, k2, k3, k4⟩ := hSw.1.at5; obtain ⟨m0, m1, m2, m3, m4⟩ := hSw.2.1.at5; obtain ⟨n0, n1, n2, n3, n4⟩ := hSw.2.2.at5; go_simp; try with_reducible rfl)
  try simp only [Act.put, List.setIfInBounds_toArray, List.set_cons_zero, List.set_cons_succ]
  refine wpAnyH_take (i := 19) (v := ?_) opAt_19 (by kernel_rfl) (by kernel_rfl) (by kernel_rfl) (fun _ _ _ h => h) (Or.inl ⟨by rfl, ?_⟩) hHeld ?_
  rotate_left
  · (intro w' hSw; obtain ⟨k0, k1, k2, k3, k4⟩ := hSw.1.at5; obtain ⟨m0, m1, m2, m3, m4⟩ := hSw.2.1.at5; obtain ⟨n0, n1, n2, n3, n4⟩ := hSw.2.2.at5; go_simp; try with_reducible rfl)
  try simp only [Act.put, List.setIfInBounds_toArray, List.set_cons_zero, List.set_cons_succ]
  refine wpAnyH_take (i := 20) (v := ?_) opAt_20 (by kernel_rfl) (by kernel_rfl) (by kernel_rfl) (fun _ _ _ h => h) (Or.inl ⟨by rfl, ?_⟩) hHeld ?_
  rotate_left
  · (intro w' hSw; obtain ⟨k0, k1, k2, k3, k4⟩ := hSw.1.at5; obtain ⟨m0, m1, m2, m3, m4⟩ := hSw.2.1.at5; obtain ⟨n0, n1, n2, n3, n4⟩ := hSw.2.2.at5; go_simp; try with_reducible rfl)
  try simp only [Act.put, List.setIfInBounds_toArray, List.set_cons_zero, List.set_cons_succ]
  refine wpAnyH_ready (rs := [18]) (by kernel_rfl) (by simp) ?_
  refine AllReadyH.cons rfl (fun K hK => ?_) AllReadyH.nil
  go_simp
  refine (same_any _ _ r q _ (RD.out.mono HBD.out.size) (QD.out.mono HBD.out.size) FR.out FQ.out).mono ?_
  rw [HD.out]
  rintro e w18 ⟨rfl, hb⟩
  clear hHeld
  have HS := Lib.hid (And.intro (HS.out.1.on hb) (And.intro (HS.out.2.1.on hb) (HS.out.2.2.on hb)))
  have RD := Lib.hid (RD.out.below hb HBD.out.size)
  have QD := Lib.hid (QD.out.below hb HBD.out.size)
  have HBD := Lib.hid (bstep HBD.out hb)
  have HT := Lib.hid (HT.out.on hb)
  clear hb
  have hHeld := HS.out
  try go_wp2_with fail
  refine hK.out _ _ HS.out (fun hHeld => ?_)
  clear hK K
  try simp only [Act.put, List.setIfInBounds_toArray, List.set_cons_zero, List.set_cons_succ]
  refine wpAnyH_ready (rs := [21]) (by kernel_rfl) (by simp) ?_
  refine AllReadyH.cons rfl (fun K hK => ?_) AllReadyH.nil
  go_simp
  refine (rsame_any _ _ r q _ (RD.out.mono HBD.out.size) (QD.out.mono HBD.out.size) FR.out FQ.out).mono ?_
  rw [HD.out]
  rintro e w21 ⟨rfl, hb⟩
  clear hHeld
  have HS := Lib.hid (And.intro (HS.out.1.on hb) (And.intro (HS.out.2.1.on hb) (HS.out.2.2.on hb)))
  have RD := Lib.hid (RD.out.below hb HBD.out.size)
  have QD := Lib.hid (QD.out.below hb HBD.out.size)
  have HBD := Lib.hid (bstep HBD.out hb)
  have HT := Lib.hid (HT.out.on hb)
  clear hb
  have hHeld := HS.out
  try go_wp2_with fail
  refine hK.out _ _ HS.out (fun hHeld => ?_)
  clear hK K
  try simp only [Act.put, List.setIfInBounds_toArray, List.set_cons_zero, List.set_cons_succ]
  refine wpAnyH_take (i := 22) (v := ?_) opAt_22 (by kernel_rfl) (by kernel_rfl) (by kernel_rfl) (fun _ _ _ h => h) (Or.inl ⟨by rfl, ?_⟩) hHeld ?_
  rotate_left
  · (intro w' hSw; obtain ⟨k0, k1, k2, k3, k4⟩ := hSw.1.at5; obtain ⟨m0, m1, m2, m3, m4⟩ := hSw.2.1.at5; obtain ⟨n0, n1, n2, n3, n4⟩ := hSw.2.2.at5; go_simp; try with_reducible rfl)
  try simp only [Act.put, List.setIfInBounds_toArray, List.set_cons_zero, List.set_cons_succ]
  refine wpAnyH_take (i := 23) (v := ?_) opAt_23 (by kernel_rfl) (by kernel_rfl) (by kernel_rfl) (fun _ _ _ h => h) (Or.inl ⟨by rfl, ?_⟩) hHeld ?_
  rotate_left
  · (intro w' hSw; obtain ⟨k0, k1, k2, k3, k4⟩ := hSw.1.at5; obtain ⟨m0, m1, m2, m3, m4⟩ := hSw.2.1.at5; obtain ⟨n0, n1, n2, n3, n4⟩ := hSw.2.2.at5; go_simp; try with_reducible rfl)
  try simp only [Act.put, List.setIfInBounds_toArray, List.set_cons_zero, List.set_cons_succ]
  refine wpAnyH_take (i := 24) (v := ?_) opAt_24 (by kernel_rfl) (by kernel_rfl) (by kernel_rfl) (fun _ _ _ h => h) (Or.inl ⟨by rfl, ?_⟩) hHeld ?_
  rotate_left
  · (intro w' hSw; obtain ⟨k0, k1, k2, k3, k4⟩ := hSw.1.at5; obtain ⟨m0, m1, m2, m3, m4⟩ := hSw.2.1.at5; obtain ⟨n0, n1, n2, n3, n4⟩ := hSw.2.2.at5; go_simp; try with_reducible rfl)
  try simp only [Act.put, List.setIfInBounds_toArray, List.set_cons_zero, List.set_cons_succ]
  refine wpAnyH_take (i := 25) (v := ?_) opAt_25 (by kernel_rfl) (by kernel_rfl) (by kernel_rfl) (fun _ _ _ h => h) (Or.inl ⟨by rfl, ?_⟩) hHeld ?_
  rotate_left
  · (intro w' hSw; obtain ⟨k0, k1, k2, k3, k4⟩ := hSw.1.at5; obtain ⟨m0, m1, m2, m3, m4⟩ := hSw.2.1.at5; obtain ⟨n0, n1, n2, n3, n4⟩ := hSw.2.2.at5; go_simp; try with_reducible rfl)
  try simp only [Act.put, List.setIfInBounds_toArray, List.set_cons_zero, List.set_cons_succ]
  refine wpAnyH_take (i := 26) (v := ?_) opAt_26 (by kernel_rfl) (by kernel_rfl) (by kernel_rfl) (fun _ _ _ h => h) (Or.inl ⟨by rfl, ?_⟩) hHeld ?_
  rotate_left
  · (intro w' hSw; obtain ⟨k0, k1, k2, k3, k4⟩ := hSw.1.at5; obtain ⟨m0, m1, m2, m3, m4⟩ := hSw.2.1.at5; obtain ⟨n0, n1, n2, n3, n4⟩ := hSw.2.2.at5; go_simp; try with_reducible rfl)
  try simp only [Act.put, List.setIfInBounds_toArray, List.set_cons_zero, List.set_cons_succ]
  refine wpAnyH_ready (rs := [27]) (by kernel_rfl) (by simp) ?_
  refine AllReadyH.cons rfl (fun K hK => ?_) AllReadyH.nil
  go_simp
  refine (same_any _ _ r r _ (RD.out.mono HBD.out.size) (RD.out.mono HBD.out.size) FR.out FR.out).mono ?_
  rw [show decide (r = r) = true by simp]
  rintro e w27 ⟨rfl, hb⟩
  clear hHeld
  have HS := Lib.hid (And.intro (HS.out.1.on hb) (And.intro (HS.out.2.1.on hb) (HS.out.2.2.on hb)))
  have RD := Lib.hid (RD.out.below hb HBD.out.size)
  have QD := Lib.hid (QD.out.below hb HBD.out.size)
  have HBD := Lib.hid (bstep HBD.out hb)
  have HT := Lib.hid (HT.out.on hb)
  clear hb
  have hHeld := HS.out
  try go_wp2_with fail
  refine hK.out _ _ HS.out (fun hHeld => ?_)
  clear hK K
  try simp only [Act.put, List.setIfInBounds_toArray, List.set_cons_zero, List.set_cons_succ]
  refine wpAnyH_take (i := 28) (v := ?_) opAt_28 (by kernel_rfl) (by kernel_rfl) (by kernel_rfl) (fun _ _ _ h => h) (Or.inl ⟨by rfl, ?_⟩) hHeld ?_
  rotate_left
  · (intro w' hSw; obtain ⟨k0, k1, k2, k3, k4⟩ := hSw.1.at5; obtain ⟨m0, m1, m2, m3, m4⟩ := hSw.2.1.at5; obtain ⟨n0, n1, n2, n3, n4⟩ := hSw.2.2.at5; go_simp; try with_reducible rfl)
  try simp only [Act.put, List.setIfInBounds_toArray, List.set_cons_zero, List.set_cons_succ]
  refine wpAnyH_take (i := 29) (v := ?_) opAt_29 (by kernel_rfl) (by kernel_rfl) (by kernel_rfl) (fun _ _ _ h => h) (Or.inl ⟨by rfl, ?_⟩) hHeld ?_
  rotate_left
  · (intro w' hSw; obtain ⟨k0, k1, k2, k3, k4⟩ := hSw.1.at5; obtain ⟨m0, m1, m2, m3, m4⟩ := hSw.2.1.at5; obtain ⟨n0, n1, n2, n3, n4⟩ := hSw.2.2.at5; go_simp; try with_reducible rfl)
  try simp only [Act.put, List.setIfInBounds_toArray, List.set_cons_zero, List.set_cons_succ]
  refine wpAnyH_take (i := 30) (v := ?_) opAt_30 (by kernel_rfl) (by kernel_rfl) (by kernel_rfl) (fun _ _ _ h => h) (Or.inl ⟨by rfl, ?_⟩) hHeld ?_
  rotate_left
  · (intro w' hSw; obtain ⟨k0, k1, k2, k3, k4⟩ := hSw.1.at5; obtain ⟨m0, m1, m2, m3, m4⟩ := hSw.2.1.at5; obtain ⟨n0, n1, n2, n3, n4⟩ := hSw.2.2.at5; go_simp; try with_reducible rfl)
  try simp only [Act.put, List.setIfInBounds_toArray, List.set_cons_zero, List.set_cons_succ]
  refine wpAnyH_take (i := 32) (v := ?_) opAt_32 (by kernel_rfl) (by kernel_rfl) (by kernel_rfl) (fun _ _ _ h => h) (Or.inl ⟨by rfl, ?_⟩) hHeld ?_
  rotate_left
  · (intro w' hSw; obtain ⟨k0, k1, k2, k3, k4⟩ := hSw.1.at5; obtain ⟨m0, m1, m2, m3, m4⟩ := hSw.2.1.at5; obtain ⟨n0, n1, n2, n3, n4⟩ := hSw.2.2.at5; go_simp; try with_reducible rfl)
  try simp only [Act.put, List.setIfInBounds_toArray, List.set_cons_zero, List.set_cons_succ]
  refine wpAnyH_ready (rs := [31]) (by kernel_rfl) (by simp) ?_
  refine AllReadyH.cons rfl (fun K hK => ?_) AllReadyH.nil
  go_simp
  have hsl := maySeal_b s w27 FSL.out ms HMS.out
  unfold slV at hsl
  refine hsl.mono ?_
  clear hsl
  rintro e w31 ⟨rfl, hb⟩
  clear hHeld
  have HS := Lib.hid (And.intro (HS.out.1.on hb) (And.intro (HS.out.2.1.on hb) (HS.out.2.2.on hb)))
  have RD := Lib.hid (RD.out.below hb HBD.out.size)
  have QD := Lib.hid (QD.out.below hb HBD.out.size)
  have HBD := Lib.hid (bstep HBD.out hb)
  have HT := Lib.hid (HT.out.on hb)
  clear hb
  have hHeld := HS.out
  try go_wp2_with fail
  refine hK.out _ _ HS.out (fun hHeld => ?_)
  clear hK K
  try simp only [Act.put, List.setIfInBounds_toArray, List.set_cons_zero, List.set_cons_succ]
  refine wpAnyH_ready (rs := [33]) (by kernel_rfl) (by simp) ?_
  refine AllReadyH.cons rfl (fun K hK => ?_) AllReadyH.nil
  go_simp
  have hsl := rmaySeal_b s w31 FSL.out ms HMS.out
  unfold slV at hsl
  refine hsl.mono ?_
  clear hsl
  rintro e w33 ⟨rfl, hb⟩
  clear hHeld
  have HS := Lib.hid (And.intro (HS.out.1.on hb) (And.intro (HS.out.2.1.on hb) (HS.out.2.2.on hb)))
  have RD := Lib.hid (RD.out.below hb HBD.out.size)
  have QD := Lib.hid (QD.out.below hb HBD.out.size)
  have HBD := Lib.hid (bstep HBD.out hb)
  have HT := Lib.hid (HT.out.on hb)
  clear hb
  have hHeld := HS.out
  try go_wp2_with fail
  refine hK.out _ _ HS.out (fun hHeld => ?_)
  clear hK K
  try simp only [Act.put, List.setIfInBounds_toArray, List.set_cons_zero, List.set_cons_succ]
  refine wpAnyH_take (i := 34) (v := ?_) opAt_34 (by kernel_rfl) (by kernel_rfl) (by kernel_rfl) (fun _ _ _ h => h) (Or.inl ⟨by rfl, ?_⟩) hHeld ?_
  rotate_left
  · (intro w' hSw; obtain ⟨k0, k1, k2, k3, k4⟩ := hSw.1.at5; obtain ⟨m0, m1, m2, m3, m4⟩ := hSw.2.1.at5; obtain ⟨n0, n1, n2, n3, n4⟩ := hSw.2.2.at5; go_simp; try with_reducible rfl)
  try simp only [Act.put, List.setIfInBounds_toArray, List.set_cons_zero, List.set_cons_succ]
  refine wpAnyH_take (i := 35) (v := ?_) opAt_35 (by kernel_rfl) (by kernel_rfl) (by kernel_rfl) (fun _ _ _ h => h) (Or.inl ⟨by rfl, ?_⟩) hHeld ?_
  rotate_left
  · (intro w' hSw; obtain ⟨k0, k1, k2, k3, k4⟩ := hSw.1.at5; obtain ⟨m0, m1, m2, m3, m4⟩ := hSw.2.1.at5; obtain ⟨n0, n1, n2, n3, n4⟩ := hSw.2.2.at5; go_simp; try with_reducible rfl)
  try simp only [Act.put, List.setIfInBounds_toArray, List.set_cons_zero, List.set_cons_succ]
  refine wpAnyH_take (i := 36) (v := ?_) opAt_36 (by kernel_rfl) (by kernel_rfl) (by kernel_rfl) (fun _ _ _ h => h) (Or.inl ⟨by rfl, ?_⟩) hHeld ?_
  rotate_left
  · (intro w' hSw; obtain ⟨k0, k1, k2, k3, k4⟩ := hSw.1.at5; obtain ⟨m0, m1, m2, m3, m4⟩ := hSw.2.1.at5; obtain ⟨n0, n1, n2, n3, n4⟩ := hSw.2.2.at5; go_simp; try with_reducible rfl)
  try simp only [Act.put, List.setIfInBounds_toArray, List.set_cons_zero, List.set_cons_succ]
  refine wpAnyH_ready (rs := [37]) (by kernel_rfl) (by simp) ?_
  refine AllReadyH.cons rfl (fun K hK => ?_) AllReadyH.nil
  go_simp
  refine (wakes9 _ HT.out).mono ?_
  rintro e w37 ⟨rfl, hb⟩
  clear hHeld
  have HS := Lib.hid (And.intro (HS.out.1.on hb) (And.intro (HS.out.2.1.on hb) (HS.out.2.2.on hb)))
  have RD := Lib.hid (RD.out.below hb HBD.out.size)
  have QD := Lib.hid (QD.out.below hb HBD.out.size)
  have HBD := Lib.hid (bstep HBD.out hb)
  have HT := Lib.hid (HT.out.on hb)
  clear hb
  have hHeld := HS.out
  try go_wp2_with fail
  refine hK.out _ _ HS.out (fun hHeld => ?_)
  clear hK K
  try simp only [Act.put, List.setIfInBounds_toArray, List.set_cons_zero, List.set_cons_succ]
  refine wpAnyH_take (i := 38) (v := ?_) opAt_38 (by kernel_rfl) (by kernel_rfl) (by kernel_rfl) (fun _ _ _ h => h) (Or.inl ⟨by rfl, ?_⟩) hHeld ?_
  rotate_left
  · (intro w' hSw; obtain ⟨k0, k1, k2, k3, k4⟩ := hSw.1.at5; obtain ⟨m0, m1, m2, m3, m4⟩ := hSw.2.1.at5; obtain ⟨n0, n1, n2, n3, n4⟩ := hSw.2.2.at5; go_simp; try with_reducible rfl)
  try simp only [Act.put, List.setIfInBounds_toArray, List.set_cons_zero, List.set_cons_succ]
  refine wpAnyH_take (i := 39) (v := ?_) opAt_39 (by kernel_rfl) (by kernel_rfl) (by kernel_rfl) (fun _ _ _ h => h) (Or.inl ⟨by rfl, ?_⟩) hHeld ?_
  rotate_left
  · (intro w' hSw; obtain ⟨k0, k1, k2, k3, k4⟩ := hSw.1.at5; obtain ⟨m0, m1, m2, m3, m4⟩ := hSw.2.1.at5; obtain ⟨n0, n1, n2, n3, n4⟩ := hSw.2.2.at5; go_simp; try with_reducible rfl)
  try simp only [Act.put, List.setIfInBounds_toArray, List.set_cons_zero, List.set_cons_succ]
  refine wpAnyH_done (by kernel_rfl) ?_ _
  refine NoPanic.normal ?_
  go_wp2_with fail
  go_ret
  exact ⟨rfl, HBD.out⟩
end Go.Proofs.YtggijjknfcofoaaDoor.editCalls
