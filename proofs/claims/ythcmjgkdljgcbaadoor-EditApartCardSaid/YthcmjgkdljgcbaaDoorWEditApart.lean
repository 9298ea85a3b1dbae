
/-
  The walk of the law EditApart: it returns true, and writes nothing that was there.
-/
import Derived.Test.YthcmjgkdljgcbaaDoorEdWakes
import Derived.Test.YthcmjgkdljgcbaaDoorOrdL
import Derived.Test.YthcmjgkdljgcbaaDoorRegion
import Derived.OpenShut
set_option linter.unusedVariables false
set_option linter.unusedSimpArgs false
namespace Go.Proofs.YthcmjgkdljgcbaaDoor.editApart
open Go.RowKit

set_option maxRecDepth 100000 in
set_option maxHeartbeats 16000000 in
theorem walk (v0 : Value) (x0 : Ed.E) (v1 : Value) (x1 : Ed.E) (w : World) (h0 : EdV w w.heap.size v0 x0) (f0 : Ed.Fit x0) (h1 : EdV w w.heap.size v1 x1) (f1 : Ed.Fit x1) (ht : ETab w) :
    Calls Tryd.prog 6 #[v0, v1] w fun e w' => e = .returned (.bool true) ∧ Below w.heap.size w w' := by
  obtain ⟨sv0, rfl, hs0⟩ := id h0
  obtain ⟨P0, p0, rfl, _, _⟩ := id hs0
  obtain ⟨sv1, rfl, hs1⟩ := id h1
  obtain ⟨P1, p1, rfl, _, _⟩ := id hs1
  have b1 := balloc (bnew w (.cells #[.int .i64 x0.kind, .string x0.name, .int .u64 x0.seq, .int .u32 x0.id, .slice P0 x0.seals.length p0] 26)) (.cells #[.int .i64 x1.kind, .string x1.name, .int .u64 x1.seq, .int .u32 x1.id, .slice P1 x1.seals.length p1] 26)
  have hx0 := (Bx.new w #[.int .i64 x0.kind, .string x0.name, .int .u64 x0.seq, .int .u32 x0.id, .slice P0 x0.seals.length p0] 26 _ rfl).alloc (.cells #[.int .i64 x1.kind, .string x1.name, .int .u64 x1.seq, .int .u32 x1.id, .slice P1 x1.seals.length p1] 26)
  have hy0 := Bx.new (w.alloc (.cells #[.int .i64 x0.kind, .string x0.name, .int .u64 x0.seq, .int .u32 x0.id, .slice P0 x0.seals.length p0] 26)) #[.int .i64 x1.kind, .string x1.name, .int .u64 x1.seq, .int .u32 x1.id, .slice P1 x1.seals.length p1] 26 _ rfl
  rw [show (w.alloc (.cells #[.int .i64 x0.kind, .string x0.name, .int .u64 x0.seq, .int .u32 x0.id, .slice P0 x0.seals.length p0] 26)).heap.size = w.heap.size + 1 by simp] at hy0
  have Hf0 := Lib.hid (fun w' (hb : Below w.heap.size w w') => few_e _ x0 w.heap.size w' (h0.below hb (Nat.le_refl _)) hb.size f0)
  have Hf1 := Lib.hid (fun w' (hb : Below w.heap.size w w') => few_e _ x1 w.heap.size w' (h1.below hb (Nat.le_refl _)) hb.size f1)
  have FR := Lib.hid (Ed.few_fit f0)
  have FQ := Lib.hid (Ed.few_fit f1)
  have HF0 := Lib.hid (Ed.few_few x0)
  have HF1 := Lib.hid (Ed.few_few x1)
  generalize Ed.few x0 = r at *
  generalize Ed.few x1 = q at *
  have HT := Lib.hid ht
  have HX0 := Lib.hid hx0
  have HY0 := Lib.hid hy0
  have B1 := Lib.hid b1
  try unfold edV
  clear h0 h1 hs0 hs1 f0 f1 ht hx0 hy0 b1
  go_enter Tryd.func6, Tryd.ntmps6
  go_wp2_with fail
  refine OrdL.wpL_region (fun w' => Bx w' w.heap.size [.int .i64 x0.kind, .string x0.name, .int .u64 x0.seq, .int .u32 x0.id, .slice P0 x0.seals.length p0] ∧ Bx w' (w.heap.size + 1) [.int .i64 x1.kind, .string x1.name, .int .u64 x1.seq, .int .u32 x1.id, .slice P1 x1.seals.length p1]) 4 (by kernel_rfl) ?_
  have HW0 := Lib.hid (And.intro HX0.out.drew HY0.out.drew)
  have HbW := Lib.hid (B1.out.drew)
  clear HX0 HY0 B1
  generalize hWW : World.drew _ = W at *
  clear hWW
  have hHeld := HW0.out
  refine OrdL.wpL_take (i := 0) (v := ?_) opAt_0 [] (by kernel_rfl) (by kernel_rfl) (by kernel_rfl) (by kernel_rfl) (by kernel_rfl) (by kernel_rfl) (fun _ _ _ h => h) (Or.inl ⟨by rfl, ?_⟩) hHeld ?_
  rotate_left
  · (intro w' hSw; obtain ⟨k0, k1, k2, k3, k4⟩ := hSw.1.at5; obtain ⟨m0, m1, m2, m3, m4⟩ := hSw.2.at5; go_simp; try with_reducible rfl)
  try simp only [Act.put, List.setIfInBounds_toArray, List.set_cons_zero, List.set_cons_succ]
  refine OrdL.wpL_take (i := 2) (v := ?_) opAt_2 [3] (by kernel_rfl) (by kernel_rfl) (by kernel_rfl) (by kernel_rfl) (by kernel_rfl) (by kernel_rfl) (fun _ _ _ h => h) (Or.inl ⟨by rfl, ?_⟩) hHeld ?_
  rotate_left
  · (intro w' hSw; obtain ⟨k0, k1, k2, k3, k4⟩ := hSw.1.at5; obtain ⟨m0, m1, m2, m3, m4⟩ := hSw.2.at5; go_simp; try with_reducible rfl)
  try simp only [Act.put, List.setIfInBounds_toArray, List.set_cons_zero, List.set_cons_succ]
  refine OrdL.wpL_ready (rs := [1]) (by kernel_rfl) (by simp) ?_
  refine OrdL.AllL.cons rfl (fun K hK => ?_) OrdL.AllL.nil
  go_simp
  refine (Hf0.out W HbW.out).mono ?_
  rintro e wa ⟨va, rfl, ⟨sa, rfl, hra⟩, ba⟩
  obtain ⟨P2, p2, rfl, _, _⟩ := id hra
  have HbA := Lib.hid (HbW.out.trans (ba.mono HbW.out.size))
  have HRa := Lib.hid hra
  have HWa := Lib.hid (And.intro (HW0.out.1.on ba) (HW0.out.2.on ba))
  clear ba hra hHeld
  have hHeld := HWa.out
  refine hK.out _ _ (fun _ => hHeld) ?_
  clear hK K
  try simp only [Act.put, List.setIfInBounds_toArray, List.set_cons_zero, List.set_cons_succ]
  refine OrdL.wpL_ready (rs := [3]) (by kernel_rfl) (by simp) ?_
  refine OrdL.AllL.cons rfl (fun K hK => ?_) OrdL.AllL.nil
  go_simp
  refine (Hf1.out wa HbA.out).mono ?_
  rintro e wb ⟨vb, rfl, ⟨sb, rfl, hrb⟩, bb⟩
  obtain ⟨P3, p3, rfl, _, _⟩ := id hrb
  have HbB := Lib.hid (HbA.out.trans (bb.mono HbA.out.size))
  have HRb := Lib.hid hrb
  have HRa' := Lib.hid (HRa.out.below bb HbA.out.size)
  have HWb := Lib.hid (And.intro (HWa.out.1.on bb) (HWa.out.2.on bb))
  clear bb hrb hHeld
  have hHeld := HWb.out
  refine hK.out _ _ (fun _ => hHeld) ?_
  clear hK K
  try simp only [Act.put, List.setIfInBounds_toArray, List.set_cons_zero, List.set_cons_succ]
  refine OrdL.wpL_ready (rs := [4]) (by kernel_rfl) (by simp) ?_
  refine OrdL.AllL.cons rfl (fun K hK => ?_) OrdL.AllL.nil
  have hx1 := HWb.out.1
  have hy1 := HWb.out.2
  obtain ⟨k0, k1, k2, k3, k4⟩ := hx1.at5
  obtain ⟨z0, z1, z2, z3, z4⟩ := hx1.free5
  try unfold edV
  go_simp
  have n4 := (((((hx1.set 0 (.int .i64 r.kind) (by simp)).set 1 (.string r.name) (by simp)).set 2 (.int .u64 r.seq) (by simp)).set 3 (.int .u32 r.id) (by simp)).set 4 (.slice P2 r.seals.length p2) (by simp))
  have m4 := (((((hy1.other ⟨w.heap.size, 0, none⟩ (.int .i64 r.kind) (by simp)).other ⟨w.heap.size, 1, none⟩ (.string r.name) (by simp)).other ⟨w.heap.size, 2, none⟩ (.int .u64 r.seq) (by simp)).other ⟨w.heap.size, 3, none⟩ (.int .u32 r.id) (by simp)).other ⟨w.heap.size, 4, none⟩ (.slice P2 r.seals.length p2) (by simp))
  have q4 := ((((((Below.refl w.heap.size wb).setCell (p := ⟨w.heap.size, 0, none⟩) (by simp) (.int .i64 r.kind)).setCell (p := ⟨w.heap.size, 1, none⟩) (by simp) (.string r.name)).setCell (p := ⟨w.heap.size, 2, none⟩) (by simp) (.int .u64 r.seq)).setCell (p := ⟨w.heap.size, 3, none⟩) (by simp) (.int .u32 r.id)).setCell (p := ⟨w.heap.size, 4, none⟩) (by simp) (.slice P2 r.seals.length p2))
  simp only [List.set_cons_zero, List.set_cons_succ] at n4
  have N4 := Lib.hid n4
  have M4 := Lib.hid m4
  have Q4 := Lib.hid q4
  clear n4 m4 q4 k0 k1 k2 k3 k4 z0 z1 z2 z3 z4 hx1 hy1
  generalize World.setCell (World.setCell (World.setCell (World.setCell (World.setCell wb _ _) _ _) _ _) _ _) _ _ = wc at *
  refine hK.out _ _ (fun h => absurd h (by decide)) ?_
  clear hK K
  try simp only [Act.put, List.setIfInBounds_toArray, List.set_cons_zero, List.set_cons_succ]
  clear hHeld
  refine OrdL.wpL_ready (rs := [5]) (by kernel_rfl) (by simp) ?_
  refine OrdL.AllL.cons rfl (fun K hK => ?_) OrdL.AllL.nil
  have hx1 := N4.out
  have hy1 := M4.out
  obtain ⟨k0, k1, k2, k3, k4⟩ := hy1.at5
  obtain ⟨z0, z1, z2, z3, z4⟩ := hy1.free5
  try unfold edV
  go_simp
  have n5 := (((((hy1.set 0 (.int .i64 q.kind) (by simp)).set 1 (.string q.name) (by simp)).set 2 (.int .u64 q.seq) (by simp)).set 3 (.int .u32 q.id) (by simp)).set 4 (.slice P3 q.seals.length p3) (by simp))
  have m5 := (((((hx1.other ⟨w.heap.size + 1, 0, none⟩ (.int .i64 q.kind) (by simp)).other ⟨w.heap.size + 1, 1, none⟩ (.string q.name) (by simp)).other ⟨w.heap.size + 1, 2, none⟩ (.int .u64 q.seq) (by simp)).other ⟨w.heap.size + 1, 3, none⟩ (.int .u32 q.id) (by simp)).other ⟨w.heap.size + 1, 4, none⟩ (.slice P3 q.seals.length p3) (by simp))
  have q5 := ((((((Below.refl w.heap.size wc).setCell (p := ⟨w.heap.size + 1, 0, none⟩) (by simp) (.int .i64 q.kind)).setCell (p := ⟨w.heap.size + 1, 1, none⟩) (by simp) (.string q.name)).setCell (p := ⟨w.heap.size + 1, 2, none⟩) (by simp) (.int .u64 q.seq)).setCell (p := ⟨w.heap.size + 1, 3, none⟩) (by simp) (.int .u32 q.id)).setCell (p := ⟨w.heap.size + 1, 4, none⟩) (by simp) (.slice P3 q.seals.length p3))
  simp only [List.set_cons_zero, List.set_cons_succ] at n5
  have N5 := Lib.hid n5
  have M5 := Lib.hid m5
  have Q5 := Lib.hid q5
  clear n5 m5 q5 k0 k1 k2 k3 k4 z0 z1 z2 z3 z4 hx1 hy1
  generalize World.setCell (World.setCell (World.setCell (World.setCell (World.setCell wc _ _) _ _) _ _) _ _) _ _ = wd at *
  refine hK.out _ _ (fun h => absurd h (by decide)) ?_
  clear hK K
  try simp only [Act.put, List.setIfInBounds_toArray, List.set_cons_zero, List.set_cons_succ]
  refine OrdL.wpL_done (by kernel_rfl) ?_ _
  have hbb := Q4.out.trans Q5.out
  have XD := Lib.hid M5.out
  have YD := Lib.hid N5.out
  have RD : Hid (EdV wd w.heap.size (edV r.kind r.name r.seq r.id (.slice P2 r.seals.length p2)) r) := Lib.hid ⟨_, rfl, HRa'.out.below hbb (Nat.le_refl _)⟩
  have QD : Hid (EdV wd w.heap.size (edV q.kind q.name q.seq q.id (.slice P3 q.seals.length p3)) q) := Lib.hid ⟨_, rfl, HRb.out.below hbb (Nat.le_refl _)⟩
  have HBD := Lib.hid (HbB.out.trans hbb)
  have HT := Lib.hid (HT.out.on HBD.out)
  unfold edV at RD QD
  clear hbb M5 N5 M4 N4 Q4 Q5 HRa HRa' HRb HWa HWb HW0 HbA HbB HbW Hf0 Hf1
  obtain ⟨k0, k1, k2, k3, k4⟩ := XD.out.at5
  go_wp2_with fail
  cases hmr : Ed.mayE r
  · skip
    refine (eput_no _ r _ (RD.out.mono HBD.out.size) FR.out HT.out hmr).mono ?_
    rintro e wr ⟨rfl, hb⟩
    have XD := Lib.hid (XD.out.on hb)
    have YD := Lib.hid (YD.out.on hb)
    have RD := Lib.hid (RD.out.below hb HBD.out.size)
    have QD := Lib.hid (QD.out.below hb HBD.out.size)
    have HBD := Lib.hid (bstep HBD.out hb)
    have HT := Lib.hid (HT.out.on hb)
    clear hb k0 k1 k2 k3 k4
    obtain ⟨k0, k1, k2, k3, k4⟩ := YD.out.at5
    go_wp2_with fail
    cases hmq : Ed.mayE q
    · skip
      refine (eput_no _ q _ (QD.out.mono HBD.out.size) FQ.out HT.out hmq).mono ?_
      rintro e wq ⟨rfl, hb⟩
      have XD := Lib.hid (XD.out.on hb)
      have YD := Lib.hid (YD.out.on hb)
      have RD := Lib.hid (RD.out.below hb HBD.out.size)
      have QD := Lib.hid (QD.out.below hb HBD.out.size)
      have HBD := Lib.hid (bstep HBD.out hb)
      have HT := Lib.hid (HT.out.on hb)
      clear hb k0 k1 k2 k3 k4
      obtain ⟨k0, k1, k2, k3, k4⟩ := XD.out.at5
      obtain ⟨m0, m1, m2, m3, m4⟩ := YD.out.at5
      go_wp2_with fail
      refine (wakes9 _ HT.out).mono ?_
      rintro e wf ⟨rfl, hb⟩
      go_wp2_with fail
      go_ret
      exact ⟨rfl, bstep HBD.out hb⟩
    · skip
      refine (eput_yes _ q _ (QD.out.mono HBD.out.size) FQ.out HT.out hmq).mono ?_
      rintro e wq ⟨⟨rrq, rfl, kkq⟩, hb⟩
      have XD := Lib.hid (XD.out.on hb)
      have YD := Lib.hid (YD.out.on hb)
      have RD := Lib.hid (RD.out.below hb HBD.out.size)
      have QD := Lib.hid (QD.out.below hb HBD.out.size)
      have HBD := Lib.hid (bstep HBD.out hb)
      have HT := Lib.hid (HT.out.on hb)
      obtain ⟨Ab, cb, rfl, hcb, hrb⟩ := id kkq
      have KQ := Lib.hid kkq
      clear kkq hcb hrb
      clear hb k0 k1 k2 k3 k4
      obtain ⟨k0, k1, k2, k3, k4⟩ := XD.out.at5
      obtain ⟨m0, m1, m2, m3, m4⟩ := YD.out.at5
      go_wp2_with fail
      refine (wakes9 _ HT.out).mono ?_
      rintro e wf ⟨rfl, hb⟩
      go_wp2_with fail
      go_ret
      exact ⟨rfl, bstep HBD.out hb⟩
  · skip
    refine (eput_yes _ r _ (RD.out.mono HBD.out.size) FR.out HT.out hmr).mono ?_
    rintro e wr ⟨⟨rrr, rfl, kkr⟩, hb⟩
    have XD := Lib.hid (XD.out.on hb)
    have YD := Lib.hid (YD.out.on hb)
    have RD := Lib.hid (RD.out.below hb HBD.out.size)
    have QD := Lib.hid (QD.out.below hb HBD.out.size)
    have HBD := Lib.hid (bstep HBD.out hb)
    have HT := Lib.hid (HT.out.on hb)
    obtain ⟨Aa, ca, rfl, hca, hra⟩ := id kkr
    have KR := Lib.hid kkr
    clear kkr hca hra
    clear hb k0 k1 k2 k3 k4
    obtain ⟨k0, k1, k2, k3, k4⟩ := YD.out.at5
    go_wp2_with fail
    cases hmq : Ed.mayE q
    · skip
      refine (eput_no _ q _ (QD.out.mono HBD.out.size) FQ.out HT.out hmq).mono ?_
      rintro e wq ⟨rfl, hb⟩
      have KR := Lib.hid (KR.out.on hb)
      have XD := Lib.hid (XD.out.on hb)
      have YD := Lib.hid (YD.out.on hb)
      have RD := Lib.hid (RD.out.below hb HBD.out.size)
      have QD := Lib.hid (QD.out.below hb HBD.out.size)
      have HBD := Lib.hid (bstep HBD.out hb)
      have HT := Lib.hid (HT.out.on hb)
      clear hb k0 k1 k2 k3 k4
      obtain ⟨k0, k1, k2, k3, k4⟩ := XD.out.at5
      obtain ⟨m0, m1, m2, m3, m4⟩ := YD.out.at5
      go_wp2_with fail
      refine (wakes9 _ HT.out).mono ?_
      rintro e wf ⟨rfl, hb⟩
      go_wp2_with fail
      go_ret
      exact ⟨rfl, bstep HBD.out hb⟩
    · skip
      refine (eput_yes _ q _ (QD.out.mono HBD.out.size) FQ.out HT.out hmq).mono ?_
      rintro e wq ⟨⟨rrq, rfl, kkq⟩, hb⟩
      have KR := Lib.hid (KR.out.on hb)
      have XD := Lib.hid (XD.out.on hb)
      have YD := Lib.hid (YD.out.on hb)
      have RD := Lib.hid (RD.out.below hb HBD.out.size)
      have QD := Lib.hid (QD.out.below hb HBD.out.size)
      have HBD := Lib.hid (bstep HBD.out hb)
      have HT := Lib.hid (HT.out.on hb)
      obtain ⟨Ab, cb, rfl, hcb, hrb⟩ := id kkq
      have KQ := Lib.hid kkq
      clear kkq hcb hrb
      clear hb k0 k1 k2 k3 k4
      obtain ⟨k0, k1, k2, k3, k4⟩ := XD.out.at5
      obtain ⟨m0, m1, m2, m3, m4⟩ := YD.out.at5
      go_wp2_with fail
      refine (same_any _ _ r q _ (RD.out.mono HBD.out.size) (QD.out.mono HBD.out.size) FR.out FQ.out).mono ?_
      rintro e ws ⟨rfl, hb⟩
      have KR := Lib.hid (KR.out.on hb)
      have KQ := Lib.hid (KQ.out.on hb)
      have XD := Lib.hid (XD.out.on hb)
      have YD := Lib.hid (YD.out.on hb)
      have RD := Lib.hid (RD.out.below hb HBD.out.size)
      have QD := Lib.hid (QD.out.below hb HBD.out.size)
      have HBD := Lib.hid (bstep HBD.out hb)
      have HT := Lib.hid (HT.out.on hb)
      have hpos : ((Ed.bytesE r).length : Int) ≠ 0 := by simp [Ed.bytesE]; omega
      have hne : (((Ed.bytesE r).length : Int) == 0) = false := by simpa using hpos
      have hkr : (Ed.bytesE r)[0]? = some (UInt8.ofNat r.kind.toNat) := rfl
      have hk := Ed.may_iff.1 hmr
      obtain ⟨kn, hkn⟩ : ∃ kn : Nat, r.kind = (kn : Int) := ⟨r.kind.toNat, by have := hk.k1; omega⟩
      have hk6 : kn ≤ 6 := by have := hk.k6; omega
      obtain ⟨A', c', e1, hc', hr'⟩ := KR.out
      injection e1 with e1 e2 e3
      subst e1
      obtain ⟨ab, ao, rfl, _, hcell⟩ := hr' (by simp [Ed.bytesE, bvs])
      have ac0 : ws.cell? ⟨ab, ao, none⟩ = some (.int .u8 (kn : Int)) := by
        have := hcell 0 (bv (UInt8.ofNat r.kind.toNat)) rfl
        rw [hkn, Int.toNat_natCast, ← bv_lit kn (by omega)] at this
        exact this
      have HEQ := Lib.hid (Ed.bytes_eq hmr hmq)
      have HNP := Lib.hid (fun h => Ed.no_prefix hmr hmq h : ¬ r = q → Px.hpB (Ed.bytesE r) (Ed.bytesE q) = false)
      have HNQ := Lib.hid (fun h => Ed.no_prefix hmq hmr (fun e => h e.symm) : ¬ r = q → Px.hpB (Ed.bytesE q) (Ed.bytesE r) = false)
      have HLr := Lib.hid (show (Ed.bytesE r).length ≤ 9223372036854775807 from Ed.bytesE_len hmr)
      have HLq := Lib.hid (show (Ed.bytesE q).length ≤ 9223372036854775807 from Ed.bytesE_len hmq)
      have XD0 := Lib.hid (show ws.cell? ⟨w.heap.size, 0, none⟩ = some (.int .i64 (kn : Int)) by have := XD.out.cell 0 _ rfl; rw [hkn] at this; exact this)
      have AC := Lib.hid ac0
      have e63 : IntKind.i64.wrap (kn : Int) = (kn : Int) := IntWalk.i64_in _ (by omega)
      clear hb k0 k1 k2 k3 k4 m0 m1 m2 m3 m4 hcell hr' hc' e2 e3 hkr hk hkn hpos ac0
      have hrpos : 0 < (Ed.bytesE r).length := by simp [Ed.bytesE]
      generalize hlr : (Ed.bytesE r).length = lr at *
      generalize hlq : (Ed.bytesE q).length = lq at *
      have HLr2 := Lib.hid hlr
      have HLq2 := Lib.hid hlq
      clear hlr hlq
      by_cases hs : r = q
      · rw [decide_eq_true hs]
        have HEQ2 := Lib.hid (HEQ.out.trans (decide_eq_true hs))
        clear hs
        go_wp2_with fail
        refine wp_region_noPanic ?_
        refine wp_region_held_drew (S := fun w' : World => w'.cell? ⟨ab, ao, none⟩ = some (.int .u8 (kn : Int)) ∧ w'.cell? ⟨w.heap.size, 0, none⟩ = some (.int .i64 (kn : Int))) (by kernel_rfl) (⟨AC.out, XD0.out⟩) (fun hHeld => ?_)
        have KRW := Lib.hid (KR.out.drew')
        have KQW := Lib.hid (KQ.out.drew')
        have HTW := Lib.hid (show ETab ws.drew from HT.out.on (below_drewN (Below.refl _ _) 1))
        have HBW := Lib.hid (show Below w.heap.size w ws.drew from HBD.out.drew)
        generalize hWW : World.drew _ = W at *
        clear hWW
        refine wpAnyH_take (i := 0) (v := ?_) opAt_0 (by kernel_rfl) (by kernel_rfl) (by kernel_rfl) (fun _ _ _ h => h) (Or.inl ⟨by rfl, ?_⟩) (by assumption) ?_
        rotate_left
        · (intro w hSw; (try dsimp only at hSw); go_simp; try with_reducible rfl)
        try simp only [Act.put, List.setIfInBounds_toArray, List.set_cons_zero, List.set_cons_succ]
        refine wpAnyH_take (i := 1) (v := ?_) opAt_1 (by kernel_rfl) (by kernel_rfl) (by kernel_rfl) (fun _ _ _ h => h) (Or.inl ⟨by rfl, ?_⟩) (by assumption) ?_
        rotate_left
        · (intro w hSw; (try dsimp only at hSw); go_simp; try with_reducible rfl)
        try simp only [Act.put, List.setIfInBounds_toArray, List.set_cons_zero, List.set_cons_succ]
        refine wpAnyH_take (i := 3) (v := ?_) opAt_3 (by kernel_rfl) (by kernel_rfl) (by kernel_rfl) (fun _ _ _ h => h) (Or.inl ⟨by rfl, ?_⟩) (by assumption) ?_
        rotate_left
        · (intro w hSw; (try dsimp only at hSw); go_simp; try with_reducible rfl)
        try simp only [Act.put, List.setIfInBounds_toArray, List.set_cons_zero, List.set_cons_succ]
        refine wpAnyH_ready (rs := [2]) (by kernel_rfl) (by simp) ?_
        refine AllReadyH.cons rfl (fun K hK => ?_) AllReadyH.nil
        go_simp
        refine (equal_b _ _ (Ed.bytesE r) (Ed.bytesE q) _ _ _ KRW.out KQW.out).mono ?_
        rw [HEQ2.out]
        rintro e w9 ⟨rfl, hw9⟩
        subst hw9
        try go_wp2_with fail
        refine hK.out _ _ (by assumption) (fun hHeld => ?_)
        clear hK K
        try simp only [Act.put, List.setIfInBounds_toArray, List.set_cons_zero, List.set_cons_succ]
        refine wpAnyH_take (i := 4) (v := ?_) opAt_4 (by kernel_rfl) (by kernel_rfl) (by kernel_rfl) (fun _ _ _ h => h) (Or.inl ⟨by rfl, ?_⟩) (by assumption) ?_
        rotate_left
        · (intro w hSw; (try dsimp only at hSw); go_simp; try with_reducible rfl)
        try simp only [Act.put, List.setIfInBounds_toArray, List.set_cons_zero, List.set_cons_succ]
        refine wpAnyH_take (i := 5) (v := ?_) opAt_5 (by kernel_rfl) (by kernel_rfl) (by kernel_rfl) (fun _ _ _ h => h) (Or.inl ⟨by rfl, ?_⟩) (by assumption) ?_
        rotate_left
        · (intro w hSw; (try dsimp only at hSw); go_simp; try with_reducible rfl)
        try simp only [Act.put, List.setIfInBounds_toArray, List.set_cons_zero, List.set_cons_succ]
        refine wpAnyH_take (i := 6) (v := ?_) opAt_6 (by kernel_rfl) (by kernel_rfl) (by kernel_rfl) (fun _ _ _ h => h) (Or.inl ⟨by rfl, ?_⟩) (by assumption) ?_
        rotate_left
        · (intro w hSw; (try dsimp only at hSw); go_simp; try with_reducible rfl)
        try simp only [Act.put, List.setIfInBounds_toArray, List.set_cons_zero, List.set_cons_succ]
        refine wpAnyH_take (i := 7) (v := ?_) opAt_7 (by kernel_rfl) (by kernel_rfl) (by kernel_rfl) (fun _ _ _ h => h) (Or.inl ⟨by rfl, ?_⟩) (by assumption) ?_
        rotate_left
        · (intro w hSw; (try dsimp only at hSw); go_simp; try with_reducible rfl)
        try simp only [Act.put, List.setIfInBounds_toArray, List.set_cons_zero, List.set_cons_succ]
        refine wpAnyH_take (i := 8) (v := undef) opAt_8 (by kernel_rfl) (by kernel_rfl) (by kernel_rfl) (fun _ _ _ h => h) (Or.inr ⟨by rfl, rfl⟩) (by assumption) ?_
        try simp only [Act.put, List.setIfInBounds_toArray, List.set_cons_zero, List.set_cons_succ]
        refine wpAnyH_take (i := 9) (v := undef) opAt_9 (by kernel_rfl) (by kernel_rfl) (by kernel_rfl) (fun _ _ _ h => h) (Or.inr ⟨by rfl, rfl⟩) (by assumption) ?_
        try simp only [Act.put, List.setIfInBounds_toArray, List.set_cons_zero, List.set_cons_succ]
        refine wpAnyH_ready (rs := [10]) (by kernel_rfl) (by simp) ?_
        refine AllReadyH.cons rfl (fun K hK => ?_) AllReadyH.nil
        go_simp
        refine hK.out _ _ (by assumption) (fun hHeld => ?_)
        clear hK K
        try simp only [Act.put, List.setIfInBounds_toArray, List.set_cons_zero, List.set_cons_succ]
        refine wpAnyH_take (i := 11) (v := undef) opAt_11 (by kernel_rfl) (by kernel_rfl) (by kernel_rfl) (fun _ _ _ h => h) (Or.inr ⟨by rfl, rfl⟩) (by assumption) ?_
        try simp only [Act.put, List.setIfInBounds_toArray, List.set_cons_zero, List.set_cons_succ]
        refine wpAnyH_take (i := 12) (v := undef) opAt_12 (by kernel_rfl) (by kernel_rfl) (by kernel_rfl) (fun _ _ _ h => h) (Or.inr ⟨by rfl, rfl⟩) (by assumption) ?_
        try simp only [Act.put, List.setIfInBounds_toArray, List.set_cons_zero, List.set_cons_succ]
        refine wpAnyH_take (i := 13) (v := undef) opAt_13 (by kernel_rfl) (by kernel_rfl) (by kernel_rfl) (fun _ _ _ h => h) (Or.inr ⟨by rfl, rfl⟩) (by assumption) ?_
        try simp only [Act.put, List.setIfInBounds_toArray, List.set_cons_zero, List.set_cons_succ]
        refine wpAnyH_take (i := 14) (v := undef) opAt_14 (by kernel_rfl) (by kernel_rfl) (by kernel_rfl) (fun _ _ _ h => h) (Or.inr ⟨by rfl, rfl⟩) (by assumption) ?_
        try simp only [Act.put, List.setIfInBounds_toArray, List.set_cons_zero, List.set_cons_succ]
        refine wpAnyH_ready (rs := [15]) (by kernel_rfl) (by simp) ?_
        refine AllReadyH.cons rfl (fun K hK => ?_) AllReadyH.nil
        go_simp
        refine hK.out _ _ (by assumption) (fun hHeld => ?_)
        clear hK K
        try simp only [Act.put, List.setIfInBounds_toArray, List.set_cons_zero, List.set_cons_succ]
        refine wpAnyH_take (i := 16) (v := undef) opAt_16 (by kernel_rfl) (by kernel_rfl) (by kernel_rfl) (fun _ _ _ h => h) (Or.inr ⟨by rfl, rfl⟩) (by assumption) ?_
        try simp only [Act.put, List.setIfInBounds_toArray, List.set_cons_zero, List.set_cons_succ]
        refine wpAnyH_take (i := 17) (v := undef) opAt_17 (by kernel_rfl) (by kernel_rfl) (by kernel_rfl) (fun _ _ _ h => h) (Or.inr ⟨by rfl, rfl⟩) (by assumption) ?_
        try simp only [Act.put, List.setIfInBounds_toArray, List.set_cons_zero, List.set_cons_succ]
        refine wpAnyH_take (i := 18) (v := ?_) opAt_18 (by kernel_rfl) (by kernel_rfl) (by kernel_rfl) (fun _ _ _ h => h) (Or.inl ⟨by rfl, ?_⟩) (by assumption) ?_
        rotate_left
        · (intro w hSw; (try dsimp only at hSw); go_simp; try with_reducible rfl)
        try simp only [Act.put, List.setIfInBounds_toArray, List.set_cons_zero, List.set_cons_succ]
        refine wpAnyH_take (i := 19) (v := ?_) opAt_19 (by kernel_rfl) (by kernel_rfl) (by kernel_rfl) (fun _ _ _ h => h) (Or.inl ⟨by rfl, ?_⟩) (by assumption) ?_
        rotate_left
        · (intro w hSw; (try dsimp only at hSw); go_simp; try with_reducible rfl)
        try simp only [Act.put, List.setIfInBounds_toArray, List.set_cons_zero, List.set_cons_succ]
        refine wpAnyH_take (i := 20) (v := ?_) opAt_20 (by kernel_rfl) (by kernel_rfl) (by kernel_rfl) (fun _ _ _ h => h) (Or.inl ⟨by rfl, ?_⟩) (by assumption) ?_
        rotate_left
        · (intro w hSw; (try dsimp only at hSw); go_simp; try with_reducible rfl)
        try simp only [Act.put, List.setIfInBounds_toArray, List.set_cons_zero, List.set_cons_succ]
        refine wpAnyH_take (i := 21) (v := ?_) opAt_21 (by kernel_rfl) (by kernel_rfl) (by kernel_rfl) (fun _ _ _ h => h) (Or.inl ⟨by rfl, ?_⟩) (by assumption) ?_
        rotate_left
        · (intro w hSw; (try dsimp only at hSw); go_simp; try with_reducible rfl)
        try simp only [Act.put, List.setIfInBounds_toArray, List.set_cons_zero, List.set_cons_succ]
        refine wpAnyH_take (i := 22) (v := ?_) opAt_22 (by kernel_rfl) (by kernel_rfl) (by kernel_rfl) (fun _ _ _ h => h) (Or.inl ⟨by rfl, ?_⟩) (by assumption) ?_
        rotate_left
        · (intro w hSw; (try dsimp only at hSw); go_simp; try with_reducible rfl)
        try simp only [Act.put, List.setIfInBounds_toArray, List.set_cons_zero, List.set_cons_succ]
        refine wpAnyH_take (i := 23) (v := ?_) opAt_23 (by kernel_rfl) (by kernel_rfl) (by kernel_rfl) (fun _ _ _ h => h) (Or.inl ⟨by rfl, ?_⟩) (by assumption) ?_
        rotate_left
        · (intro w hSw; (try dsimp only at hSw); go_simp; try with_reducible rfl)
        try simp only [Act.put, List.setIfInBounds_toArray, List.set_cons_zero, List.set_cons_succ]
        refine wpAnyH_take (i := 24) (v := ?_) opAt_24 (by kernel_rfl) (by kernel_rfl) (by kernel_rfl) (fun _ _ _ h => h) (Or.inl ⟨by rfl, ?_⟩) (by assumption) ?_
        rotate_left
        · (intro w hSw; (try dsimp only at hSw); go_simp; try with_reducible rfl)
        try simp only [Act.put, List.setIfInBounds_toArray, List.set_cons_zero, List.set_cons_succ]
        refine wpAnyH_take (i := 25) (v := ?_) opAt_25 (by kernel_rfl) (by kernel_rfl) (by kernel_rfl) (fun _ _ _ h => h) (Or.inl ⟨by rfl, ?_⟩) (by assumption) ?_
        rotate_left
        · (intro w hSw; (try dsimp only at hSw); go_simp; try with_reducible rfl)
        try simp only [Act.put, List.setIfInBounds_toArray, List.set_cons_zero, List.set_cons_succ]
        refine wpAnyH_take (i := 26) (v := ?_) opAt_26 (by kernel_rfl) (by kernel_rfl) (by kernel_rfl) (fun _ _ _ h => h) (Or.inl ⟨by rfl, ?_⟩) (by assumption) ?_
        rotate_left
        · (intro w hSw; (try dsimp only at hSw); go_simp; try with_reducible rfl)
        try simp only [Act.put, List.setIfInBounds_toArray, List.set_cons_zero, List.set_cons_succ]
        refine wpAnyH_take (i := 27) (v := ?_) opAt_27 (by kernel_rfl) (by kernel_rfl) (by kernel_rfl) (fun _ _ _ h => h) (Or.inl ⟨by rfl, ?_⟩) (by assumption) ?_
        rotate_left
        · (intro w hSw; (try dsimp only at hSw); go_simp; try with_reducible rfl)
        try simp only [Act.put, List.setIfInBounds_toArray, List.set_cons_zero, List.set_cons_succ]
        refine wpAnyH_take (i := 28) (v := ?_) opAt_28 (by kernel_rfl) (by kernel_rfl) (by kernel_rfl) (fun _ _ _ h => h) (Or.inl ⟨by rfl, ?_⟩) (by assumption) ?_
        rotate_left
        · (intro w hSw; (try dsimp only at hSw); go_simp; try with_reducible rfl)
        try simp only [Act.put, List.setIfInBounds_toArray, List.set_cons_zero, List.set_cons_succ]
        refine wpAnyH_take (i := 29) (v := ?_) opAt_29 (by kernel_rfl) (by kernel_rfl) (by kernel_rfl) (fun _ _ _ h => h) (Or.inl ⟨by rfl, ?_⟩) (by assumption) ?_
        rotate_left
        · (intro w hSw; (try dsimp only at hSw); go_simp; try with_reducible rfl)
        try simp only [Act.put, List.setIfInBounds_toArray, List.set_cons_zero, List.set_cons_succ]
        refine wpAnyH_ready (rs := [30]) (by kernel_rfl) (by simp) ?_
        refine AllReadyH.cons rfl (fun K hK => ?_) AllReadyH.nil
        go_simp
        refine (wakes9 _ HTW.out).mono ?_
        rintro e wf ⟨rfl, hb⟩
        have HF := Lib.hid hb
        have hk : wf.cell? ⟨ab, ao, none⟩ = some (.int .u8 (kn : Int)) ∧ wf.cell? ⟨w.heap.size, 0, none⟩ = some (.int .i64 (kn : Int)) := ⟨(hb.cell (p := ⟨ab, ao, none⟩) (block_lt_of_cell hHeld.1)).trans hHeld.1, (hb.cell (p := ⟨w.heap.size, 0, none⟩) (block_lt_of_cell hHeld.2)).trans hHeld.2⟩
        clear hb
        try go_wp2_with fail
        refine hK.out _ _ (hk) (fun hHeld => ?_)
        clear hK K
        try simp only [Act.put, List.setIfInBounds_toArray, List.set_cons_zero, List.set_cons_succ]
        refine wpAnyH_take (i := 31) (v := ?_) opAt_31 (by kernel_rfl) (by kernel_rfl) (by kernel_rfl) (fun _ _ _ h => h) (Or.inl ⟨by rfl, ?_⟩) (by assumption) ?_
        rotate_left
        · (intro w hSw; (try dsimp only at hSw); go_simp; try with_reducible rfl)
        try simp only [Act.put, List.setIfInBounds_toArray, List.set_cons_zero, List.set_cons_succ]
        refine wpAnyH_take (i := 32) (v := ?_) opAt_32 (by kernel_rfl) (by kernel_rfl) (by kernel_rfl) (fun _ _ _ h => h) (Or.inl ⟨by rfl, ?_⟩) (by assumption) ?_
        rotate_left
        · (intro w hSw; (try dsimp only at hSw); go_simp; try with_reducible rfl)
        try simp only [Act.put, List.setIfInBounds_toArray, List.set_cons_zero, List.set_cons_succ]
        refine wpAnyH_done (by kernel_rfl) ?_ _
        refine NoPanic.normal ?_
        go_wp2_with fail
        go_ret
        exact ⟨rfl, bstep HBW.out HF.out⟩
      · rw [decide_eq_false hs]
        have HEQ2 := Lib.hid (HEQ.out.trans (decide_eq_false hs))
        have HN1 := Lib.hid (HNP.out hs)
        have HN2 := Lib.hid (HNQ.out hs)
        clear hs
        go_wp2_with fail
        refine wp_region_noPanic ?_
        refine wp_region_held_drew (S := fun w' : World => w'.cell? ⟨ab, ao, none⟩ = some (.int .u8 (kn : Int)) ∧ w'.cell? ⟨w.heap.size, 0, none⟩ = some (.int .i64 (kn : Int))) (by kernel_rfl) (⟨AC.out, XD0.out⟩) (fun hHeld => ?_)
        have KRW := Lib.hid (KR.out.drew')
        have KQW := Lib.hid (KQ.out.drew')
        have HTW := Lib.hid (show ETab ws.drew from HT.out.on (below_drewN (Below.refl _ _) 1))
        have HBW := Lib.hid (show Below w.heap.size w ws.drew from HBD.out.drew)
        generalize hWW : World.drew _ = W at *
        clear hWW
        refine wpAnyH_take (i := 0) (v := ?_) opAt_0 (by kernel_rfl) (by kernel_rfl) (by kernel_rfl) (fun _ _ _ h => h) (Or.inl ⟨by rfl, ?_⟩) (by assumption) ?_
        rotate_left
        · (intro w hSw; (try dsimp only at hSw); go_simp; try with_reducible rfl)
        try simp only [Act.put, List.setIfInBounds_toArray, List.set_cons_zero, List.set_cons_succ]
        refine wpAnyH_take (i := 1) (v := ?_) opAt_1 (by kernel_rfl) (by kernel_rfl) (by kernel_rfl) (fun _ _ _ h => h) (Or.inl ⟨by rfl, ?_⟩) (by assumption) ?_
        rotate_left
        · (intro w hSw; (try dsimp only at hSw); go_simp; try with_reducible rfl)
        try simp only [Act.put, List.setIfInBounds_toArray, List.set_cons_zero, List.set_cons_succ]
        refine wpAnyH_take (i := 3) (v := ?_) opAt_3 (by kernel_rfl) (by kernel_rfl) (by kernel_rfl) (fun _ _ _ h => h) (Or.inl ⟨by rfl, ?_⟩) (by assumption) ?_
        rotate_left
        · (intro w hSw; (try dsimp only at hSw); go_simp; try with_reducible rfl)
        try simp only [Act.put, List.setIfInBounds_toArray, List.set_cons_zero, List.set_cons_succ]
        refine wpAnyH_ready (rs := [2]) (by kernel_rfl) (by simp) ?_
        refine AllReadyH.cons rfl (fun K hK => ?_) AllReadyH.nil
        go_simp
        refine (equal_b _ _ (Ed.bytesE r) (Ed.bytesE q) _ _ _ KRW.out KQW.out).mono ?_
        rw [HEQ2.out]
        rintro e w9 ⟨rfl, hw9⟩
        subst hw9
        try go_wp2_with fail
        refine hK.out _ _ (by assumption) (fun hHeld => ?_)
        clear hK K
        try simp only [Act.put, List.setIfInBounds_toArray, List.set_cons_zero, List.set_cons_succ]
        refine wpAnyH_take (i := 4) (v := ?_) opAt_4 (by kernel_rfl) (by kernel_rfl) (by kernel_rfl) (fun _ _ _ h => h) (Or.inl ⟨by rfl, ?_⟩) (by assumption) ?_
        rotate_left
        · (intro w hSw; (try dsimp only at hSw); go_simp; try with_reducible rfl)
        try simp only [Act.put, List.setIfInBounds_toArray, List.set_cons_zero, List.set_cons_succ]
        refine wpAnyH_take (i := 5) (v := ?_) opAt_5 (by kernel_rfl) (by kernel_rfl) (by kernel_rfl) (fun _ _ _ h => h) (Or.inl ⟨by rfl, ?_⟩) (by assumption) ?_
        rotate_left
        · (intro w hSw; (try dsimp only at hSw); go_simp; try with_reducible rfl)
        try simp only [Act.put, List.setIfInBounds_toArray, List.set_cons_zero, List.set_cons_succ]
        refine wpAnyH_take (i := 6) (v := ?_) opAt_6 (by kernel_rfl) (by kernel_rfl) (by kernel_rfl) (fun _ _ _ h => h) (Or.inl ⟨by rfl, ?_⟩) (by assumption) ?_
        rotate_left
        · (intro w hSw; (try dsimp only at hSw); go_simp; try with_reducible rfl)
        try simp only [Act.put, List.setIfInBounds_toArray, List.set_cons_zero, List.set_cons_succ]
        refine wpAnyH_take (i := 7) (v := ?_) opAt_7 (by kernel_rfl) (by kernel_rfl) (by kernel_rfl) (fun _ _ _ h => h) (Or.inl ⟨by rfl, ?_⟩) (by assumption) ?_
        rotate_left
        · (intro w hSw; (try dsimp only at hSw); go_simp; try with_reducible rfl)
        try simp only [Act.put, List.setIfInBounds_toArray, List.set_cons_zero, List.set_cons_succ]
        refine wpAnyH_take (i := 8) (v := ?_) opAt_8 (by kernel_rfl) (by kernel_rfl) (by kernel_rfl) (fun _ _ _ h => h) (Or.inl ⟨by rfl, ?_⟩) (by assumption) ?_
        rotate_left
        · (intro w hSw; (try dsimp only at hSw); go_simp; try with_reducible rfl)
        try simp only [Act.put, List.setIfInBounds_toArray, List.set_cons_zero, List.set_cons_succ]
        refine wpAnyH_take (i := 9) (v := ?_) opAt_9 (by kernel_rfl) (by kernel_rfl) (by kernel_rfl) (fun _ _ _ h => h) (Or.inl ⟨by rfl, ?_⟩) (by assumption) ?_
        rotate_left
        · (intro w hSw; (try dsimp only at hSw); go_simp; try with_reducible rfl)
        try simp only [Act.put, List.setIfInBounds_toArray, List.set_cons_zero, List.set_cons_succ]
        refine wpAnyH_ready (rs := [10]) (by kernel_rfl) (by simp) ?_
        refine AllReadyH.cons rfl (fun K hK => ?_) AllReadyH.nil
        go_simp
        refine (hasPrefix_b _ _ (Ed.bytesE r) (Ed.bytesE q) _ _ _ KRW.out KQW.out (by rw [HLr2.out]; exact HLr.out) (by rw [HLq2.out]; exact HLq.out)).mono ?_
        rw [HN1.out]
        rintro e w9 ⟨rfl, hw9⟩
        subst hw9
        try go_wp2_with fail
        refine hK.out _ _ (by assumption) (fun hHeld => ?_)
        clear hK K
        try simp only [Act.put, List.setIfInBounds_toArray, List.set_cons_zero, List.set_cons_succ]
        refine wpAnyH_take (i := 11) (v := ?_) opAt_11 (by kernel_rfl) (by kernel_rfl) (by kernel_rfl) (fun _ _ _ h => h) (Or.inl ⟨by rfl, ?_⟩) (by assumption) ?_
        rotate_left
        · (intro w hSw; (try dsimp only at hSw); go_simp; try with_reducible rfl)
        try simp only [Act.put, List.setIfInBounds_toArray, List.set_cons_zero, List.set_cons_succ]
        refine wpAnyH_take (i := 12) (v := ?_) opAt_12 (by kernel_rfl) (by kernel_rfl) (by kernel_rfl) (fun _ _ _ h => h) (Or.inl ⟨by rfl, ?_⟩) (by assumption) ?_
        rotate_left
        · (intro w hSw; (try dsimp only at hSw); go_simp; try with_reducible rfl)
        try simp only [Act.put, List.setIfInBounds_toArray, List.set_cons_zero, List.set_cons_succ]
        refine wpAnyH_take (i := 13) (v := ?_) opAt_13 (by kernel_rfl) (by kernel_rfl) (by kernel_rfl) (fun _ _ _ h => h) (Or.inl ⟨by rfl, ?_⟩) (by assumption) ?_
        rotate_left
        · (intro w hSw; (try dsimp only at hSw); go_simp; try with_reducible rfl)
        try simp only [Act.put, List.setIfInBounds_toArray, List.set_cons_zero, List.set_cons_succ]
        refine wpAnyH_take (i := 14) (v := ?_) opAt_14 (by kernel_rfl) (by kernel_rfl) (by kernel_rfl) (fun _ _ _ h => h) (Or.inl ⟨by rfl, ?_⟩) (by assumption) ?_
        rotate_left
        · (intro w hSw; (try dsimp only at hSw); go_simp; try with_reducible rfl)
        try simp only [Act.put, List.setIfInBounds_toArray, List.set_cons_zero, List.set_cons_succ]
        refine wpAnyH_ready (rs := [15]) (by kernel_rfl) (by simp) ?_
        refine AllReadyH.cons rfl (fun K hK => ?_) AllReadyH.nil
        go_simp
        refine (hasPrefix_b _ _ (Ed.bytesE q) (Ed.bytesE r) _ _ _ KQW.out KRW.out (by rw [HLq2.out]; exact HLq.out) (by rw [HLr2.out]; exact HLr.out)).mono ?_
        rw [HN2.out]
        rintro e w9 ⟨rfl, hw9⟩
        subst hw9
        try go_wp2_with fail
        refine hK.out _ _ (by assumption) (fun hHeld => ?_)
        clear hK K
        try simp only [Act.put, List.setIfInBounds_toArray, List.set_cons_zero, List.set_cons_succ]
        refine wpAnyH_take (i := 16) (v := ?_) opAt_16 (by kernel_rfl) (by kernel_rfl) (by kernel_rfl) (fun _ _ _ h => h) (Or.inl ⟨by rfl, ?_⟩) (by assumption) ?_
        rotate_left
        · (intro w hSw; (try dsimp only at hSw); go_simp; try with_reducible rfl)
        try simp only [Act.put, List.setIfInBounds_toArray, List.set_cons_zero, List.set_cons_succ]
        refine wpAnyH_take (i := 17) (v := ?_) opAt_17 (by kernel_rfl) (by kernel_rfl) (by kernel_rfl) (fun _ _ _ h => h) (Or.inl ⟨by rfl, ?_⟩) (by assumption) ?_
        rotate_left
        · (intro w hSw; (try dsimp only at hSw); go_simp; try with_reducible rfl)
        try simp only [Act.put, List.setIfInBounds_toArray, List.set_cons_zero, List.set_cons_succ]
        refine wpAnyH_take (i := 18) (v := ?_) opAt_18 (by kernel_rfl) (by kernel_rfl) (by kernel_rfl) (fun _ _ _ h => h) (Or.inl ⟨by rfl, ?_⟩) (by assumption) ?_
        rotate_left
        · (intro w hSw; (try dsimp only at hSw); go_simp; try with_reducible rfl)
        try simp only [Act.put, List.setIfInBounds_toArray, List.set_cons_zero, List.set_cons_succ]
        refine wpAnyH_take (i := 19) (v := ?_) opAt_19 (by kernel_rfl) (by kernel_rfl) (by kernel_rfl) (fun _ _ _ h => h) (Or.inl ⟨by rfl, ?_⟩) (by assumption) ?_
        rotate_left
        · (intro w hSw; (try dsimp only at hSw); go_simp; try with_reducible rfl)
        try simp only [Act.put, List.setIfInBounds_toArray, List.set_cons_zero, List.set_cons_succ]
        refine wpAnyH_take (i := 20) (v := ?_) opAt_20 (by kernel_rfl) (by kernel_rfl) (by kernel_rfl) (fun _ _ _ h => h) (Or.inl ⟨by rfl, ?_⟩) (by assumption) ?_
        rotate_left
        · (intro w hSw; (try dsimp only at hSw); go_simp; try with_reducible rfl)
        try simp only [Act.put, List.setIfInBounds_toArray, List.set_cons_zero, List.set_cons_succ]
        refine wpAnyH_take (i := 21) (v := ?_) opAt_21 (by kernel_rfl) (by kernel_rfl) (by kernel_rfl) (fun _ _ _ h => h) (Or.inl ⟨by rfl, ?_⟩) (by assumption) ?_
        rotate_left
        · (intro w hSw; (try dsimp only at hSw); go_simp; try with_reducible rfl)
        try simp only [Act.put, List.setIfInBounds_toArray, List.set_cons_zero, List.set_cons_succ]
        refine wpAnyH_take (i := 22) (v := ?_) opAt_22 (by kernel_rfl) (by kernel_rfl) (by kernel_rfl) (fun _ _ _ h => h) (Or.inl ⟨by rfl, ?_⟩) (by assumption) ?_
        rotate_left
        · (intro w hSw; (try dsimp only at hSw); go_simp; try with_reducible rfl)
        try simp only [Act.put, List.setIfInBounds_toArray, List.set_cons_zero, List.set_cons_succ]
        refine wpAnyH_take (i := 23) (v := ?_) opAt_23 (by kernel_rfl) (by kernel_rfl) (by kernel_rfl) (fun _ _ _ h => h) (Or.inl ⟨by rfl, ?_⟩) (by assumption) ?_
        rotate_left
        · (intro w hSw; (try dsimp only at hSw); go_simp; try with_reducible rfl)
        try simp only [Act.put, List.setIfInBounds_toArray, List.set_cons_zero, List.set_cons_succ]
        refine wpAnyH_take (i := 24) (v := ?_) opAt_24 (by kernel_rfl) (by kernel_rfl) (by kernel_rfl) (fun _ _ _ h => h) (Or.inl ⟨by rfl, ?_⟩) (by assumption) ?_
        rotate_left
        · (intro w hSw; (try dsimp only at hSw); go_simp; try with_reducible rfl)
        try simp only [Act.put, List.setIfInBounds_toArray, List.set_cons_zero, List.set_cons_succ]
        refine wpAnyH_take (i := 25) (v := ?_) opAt_25 (by kernel_rfl) (by kernel_rfl) (by kernel_rfl) (fun _ _ _ h => h) (Or.inl ⟨by rfl, ?_⟩) (by assumption) ?_
        rotate_left
        · (intro w hSw; (try dsimp only at hSw); go_simp; try with_reducible rfl)
        try simp only [Act.put, List.setIfInBounds_toArray, List.set_cons_zero, List.set_cons_succ]
        refine wpAnyH_take (i := 26) (v := ?_) opAt_26 (by kernel_rfl) (by kernel_rfl) (by kernel_rfl) (fun _ _ _ h => h) (Or.inl ⟨by rfl, ?_⟩) (by assumption) ?_
        rotate_left
        · (intro w hSw; (try dsimp only at hSw); go_simp; try with_reducible rfl)
        try simp only [Act.put, List.setIfInBounds_toArray, List.set_cons_zero, List.set_cons_succ]
        refine wpAnyH_take (i := 27) (v := ?_) opAt_27 (by kernel_rfl) (by kernel_rfl) (by kernel_rfl) (fun _ _ _ h => h) (Or.inl ⟨by rfl, ?_⟩) (by assumption) ?_
        rotate_left
        · (intro w hSw; (try dsimp only at hSw); go_simp; try with_reducible rfl)
        try simp only [Act.put, List.setIfInBounds_toArray, List.set_cons_zero, List.set_cons_succ]
        refine wpAnyH_take (i := 28) (v := ?_) opAt_28 (by kernel_rfl) (by kernel_rfl) (by kernel_rfl) (fun _ _ _ h => h) (Or.inl ⟨by rfl, ?_⟩) (by assumption) ?_
        rotate_left
        · (intro w hSw; (try dsimp only at hSw); go_simp; try with_reducible rfl)
        try simp only [Act.put, List.setIfInBounds_toArray, List.set_cons_zero, List.set_cons_succ]
        refine wpAnyH_take (i := 29) (v := ?_) opAt_29 (by kernel_rfl) (by kernel_rfl) (by kernel_rfl) (fun _ _ _ h => h) (Or.inl ⟨by rfl, ?_⟩) (by assumption) ?_
        rotate_left
        · (intro w hSw; (try dsimp only at hSw); go_simp; try with_reducible rfl)
        try simp only [Act.put, List.setIfInBounds_toArray, List.set_cons_zero, List.set_cons_succ]
        refine wpAnyH_ready (rs := [30]) (by kernel_rfl) (by simp) ?_
        refine AllReadyH.cons rfl (fun K hK => ?_) AllReadyH.nil
        go_simp
        refine (wakes9 _ HTW.out).mono ?_
        rintro e wf ⟨rfl, hb⟩
        have HF := Lib.hid hb
        have hk : wf.cell? ⟨ab, ao, none⟩ = some (.int .u8 (kn : Int)) ∧ wf.cell? ⟨w.heap.size, 0, none⟩ = some (.int .i64 (kn : Int)) := ⟨(hb.cell (p := ⟨ab, ao, none⟩) (block_lt_of_cell hHeld.1)).trans hHeld.1, (hb.cell (p := ⟨w.heap.size, 0, none⟩) (block_lt_of_cell hHeld.2)).trans hHeld.2⟩
        clear hb
        try go_wp2_with fail
        refine hK.out _ _ (hk) (fun hHeld => ?_)
        clear hK K
        try simp only [Act.put, List.setIfInBounds_toArray, List.set_cons_zero, List.set_cons_succ]
        refine wpAnyH_take (i := 31) (v := ?_) opAt_31 (by kernel_rfl) (by kernel_rfl) (by kernel_rfl) (fun _ _ _ h => h) (Or.inl ⟨by rfl, ?_⟩) (by assumption) ?_
        rotate_left
        · (intro w hSw; (try dsimp only at hSw); go_simp; try with_reducible rfl)
        try simp only [Act.put, List.setIfInBounds_toArray, List.set_cons_zero, List.set_cons_succ]
        refine wpAnyH_take (i := 32) (v := ?_) opAt_32 (by kernel_rfl) (by kernel_rfl) (by kernel_rfl) (fun _ _ _ h => h) (Or.inl ⟨by rfl, ?_⟩) (by assumption) ?_
        rotate_left
        · (intro w hSw; (try dsimp only at hSw); go_simp; try with_reducible rfl)
        try simp only [Act.put, List.setIfInBounds_toArray, List.set_cons_zero, List.set_cons_succ]
        refine wpAnyH_done (by kernel_rfl) ?_ _
        refine NoPanic.normal ?_
        go_wp2_with fail
        go_ret
        exact ⟨rfl, bstep HBW.out HF.out⟩
end Go.Proofs.YthcmjgkdljgcbaaDoor.editApart
