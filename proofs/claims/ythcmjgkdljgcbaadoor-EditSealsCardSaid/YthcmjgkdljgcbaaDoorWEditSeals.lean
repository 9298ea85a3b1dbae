
/-
  The walk of the law EditSeals: it returns true, and writes nothing that was there.
-/
import Derived.Test.YthcmjgkdljgcbaaDoorEdSl
import Derived.Test.YthcmjgkdljgcbaaDoorRegion
import Derived.Deep.RegionHeld3
import Derived.OpenShut
set_option linter.unusedVariables false
set_option linter.unusedSimpArgs false
namespace Go.Proofs.YthcmjgkdljgcbaaDoor.editSeals
open Go.RowKit

theorem edit_form {w : World} {B : Nat} {v : Value} {e : Ed.E} (h : EdV w B v e) : ∃ A c, v = .agg #[.int .i64 e.kind, .string e.name, .int .u64 e.seq, .int .u32 e.id, .slice A e.seals.length c] ∧ Sls w B (.slice A e.seals.length c) e.seals := by
  obtain ⟨sv, rfl, A, c, rfl, h1, h2⟩ := h
  exact ⟨A, c, rfl, A, c, rfl, h1, h2⟩
theorem edit_form6 {w : World} {B : Nat} {v : Value} {k : Int} {nm : ByteArray} {q i n : Nat} {l : List Ed.Sl} (h : EdV w B v ⟨k, nm, q, i, l⟩) (hn : n = l.length) : ∃ A c, v = .agg #[.int .i64 k, .string nm, .int .u64 q, .int .u32 i, .slice A n c] ∧ Sls w B (.slice A n c) l := by
  subst hn
  obtain ⟨sv, rfl, A, c, rfl, h1, h2⟩ := h
  exact ⟨A, c, rfl, A, c, rfl, h1, h2⟩
theorem fit5 (s : Ed.Sl) (f : Ed.FitS s) (k : Int) (h0 : -9223372036854775808 ≤ k) (h1 : k < 9223372036854775808) : Ed.Fit ⟨k, ⟨#[]⟩, 0, 0, [s]⟩ := Ed.fit1 k _ 0 0 s h0 h1 (by decide) (by decide) (by decide) f

set_option maxRecDepth 100000 in
set_option maxHeartbeats 16000000 in
theorem walk (s : Ed.Sl) (a1 : Int) (a2 : Int) (w : World) (f0 : Ed.FitS s) (w1 : (Lit.int .u8 a1).wf = true) (w2 : (Lit.int .u8 a2).wf = true) (ht : ETab w) :
    Calls Tryd.prog 7 #[slV s, .int .u8 a1, .int .u8 a2] w fun e w' => e = .returned (.bool true) ∧ Below w.heap.size w w' := by
  obtain ⟨n1, hn1⟩ : ∃ n : Nat, a1 = (n : Int) := ⟨a1.toNat, by simp only [Lit.wf, Bool.and_eq_true, decide_eq_true_eq] at w1; have h1 : IntKind.u8.min = 0 := rfl; omega⟩
  have n1255 : n1 ≤ 255 := by simp only [Lit.wf, Bool.and_eq_true, decide_eq_true_eq] at w1; have h1 : IntKind.u8.max = 255 := rfl; omega
  subst hn1
  obtain ⟨n2, hn2⟩ : ∃ n : Nat, a2 = (n : Int) := ⟨a2.toNat, by simp only [Lit.wf, Bool.and_eq_true, decide_eq_true_eq] at w2; have h1 : IntKind.u8.min = 0 := rfl; omega⟩
  have n2255 : n2 ≤ 255 := by simp only [Lit.wf, Bool.and_eq_true, decide_eq_true_eq] at w2; have h1 : IntKind.u8.max = 255 := rfl; omega
  subst hn2
  have b0 := bnew w (.cells #[.int .u32 s.id, .int .u32 s.size, .int .u32 s.many, .int .u64 s.first, .int .u64 s.last] 28)
  have hS := Bx.new w #[.int .u32 s.id, .int .u32 s.size, .int .u32 s.many, .int .u64 s.first, .int .u64 s.last] 28 _ rfl
  have HS := Lib.hid hS
  have HB := Lib.hid b0
  have HT := Lib.hid (ht.on b0)
  have HF := Lib.hid f0
  clear b0 hS ht f0 w1 w2
  unfold slV
  go_enter Tryd.func7, Tryd.ntmps7
  go_wp2_with fail
  have hb := bnew (w.alloc (.cells #[.int .u32 s.id, .int .u32 s.size, .int .u32 s.many, .int .u64 s.first, .int .u64 s.last] 28)) (.cells #[.int .u32 s.id, .int .u32 s.size, .int .u32 s.many, .int .u64 s.first, .int .u64 s.last] 28)
  have S1 := Sls.one (w.alloc (.cells #[.int .u32 s.id, .int .u32 s.size, .int .u32 s.many, .int .u64 s.first, .int .u64 s.last] 28)) s 28
  rw [show (w.alloc (.cells #[.int .u32 s.id, .int .u32 s.size, .int .u32 s.many, .int .u64 s.first, .int .u64 s.last] 28)).heap.size = w.heap.size + 1 by simp] at S1
  have HS1 := Lib.hid (S1.mono (B' := ((w.alloc (.cells #[.int .u32 s.id, .int .u32 s.size, .int .u32 s.many, .int .u64 s.first, .int .u64 s.last] 28)).alloc (.cells #[.int .u32 s.id, .int .u32 s.size, .int .u32 s.many, .int .u64 s.first, .int .u64 s.last] 28)).heap.size) (by simp))
  have HS := Lib.hid (HS.out.on hb)
  have HT := Lib.hid (HT.out.on hb)
  have HB := Lib.hid (bstep HB.out hb)
  clear hb S1
  cases hm : Ed.mayS s
  · refine (eput_no _ ⟨5, ⟨#[]⟩, 0, 0, [s]⟩ _ ⟨_, rfl, HS1.out⟩ (fit5 s HF.out 5 (by decide) (by decide)) HT.out (by rw [may_one]; exact hm)).mono ?_
    rintro e wa ⟨rfl, hb⟩
    have HS := Lib.hid (HS.out.on hb)
    have HT := Lib.hid (HT.out.on hb)
    have HB := Lib.hid (bstep HB.out hb)
    clear hb HS1
    obtain ⟨x0, x1, x2, x3, x4⟩ := HS.out.at5
    have Hm := Lib.hid hm
    clear hm
    go_wp2_with fail
    refine (maySeal_b s _ HF.out false Hm.out).mono ?_
    rintro e wb ⟨rfl, hb⟩
    have HS := Lib.hid (HS.out.on hb)
    have HT := Lib.hid (HT.out.on hb)
    have HB := Lib.hid (bstep HB.out hb)
    clear hb x0 x1 x2 x3 x4
    obtain ⟨x0, x1, x2, x3, x4⟩ := HS.out.at5
    go_wp2_with fail
    have hb := bnew wb (.cells #[.int .u32 s.id, .int .u32 s.size, .int .u32 s.many, .int .u64 s.first, .int .u64 s.last] 28)
    have S1 := Sls.one wb s 28
    have HS := Lib.hid (HS.out.on hb)
    have HT := Lib.hid (HT.out.on hb)
    have HB := Lib.hid (bstep HB.out hb)
    refine (eput_no _ ⟨6, ⟨#[]⟩, 0, 0, [s]⟩ _ ⟨_, rfl, S1.mono (by simp)⟩ (fit5 s HF.out 6 (by decide) (by decide)) HT.out (no_full (one_no s Hm.out))).mono ?_
    clear hb S1
    rintro e wc ⟨rfl, hb⟩
    have HS := Lib.hid (HS.out.on hb)
    have HT := Lib.hid (HT.out.on hb)
    have HB := Lib.hid (bstep HB.out hb)
    clear hb x0 x1 x2 x3 x4
    go_wp2_with fail
    refine (wakes9 _ HT.out).mono ?_
    rintro e wf ⟨rfl, hb⟩
    have HB := Lib.hid (bstep HB.out hb)
    clear hb
    go_wp2_with fail
    go_ret
    exact ⟨rfl, HB.out⟩
  have hm5 : Ed.mayE ⟨5, ⟨#[]⟩, 0, 0, [s]⟩ = true := by rw [may_one]; exact hm
  refine (eput_yes _ ⟨5, ⟨#[]⟩, 0, 0, [s]⟩ _ ⟨_, rfl, HS1.out⟩ (fit5 s HF.out 5 (by decide) (by decide)) HT.out hm5).mono ?_
  rintro e wa ⟨⟨ra, rfl, hra⟩, hb⟩
  have HS := Lib.hid (HS.out.on hb)
  have HT := Lib.hid (HT.out.on hb)
  have HB := Lib.hid (bstep HB.out hb)
  have KA := Lib.hid hra
  clear hb HS1 hra
  obtain ⟨x0, x1, x2, x3, x4⟩ := HS.out.at5
  have Hm := Lib.hid hm
  have H5 := Lib.hid hm5
  clear hm hm5
  go_wp2_with fail
  refine (maySeal_b s _ HF.out true Hm.out).mono ?_
  rintro e wb ⟨rfl, hb⟩
  have HS := Lib.hid (HS.out.on hb)
  have HT := Lib.hid (HT.out.on hb)
  have HB := Lib.hid (bstep HB.out hb)
  have KA := Lib.hid (KA.out.on hb)
  clear hb x0 x1 x2 x3 x4
  go_wp2_with fail
  refine (eget_b _ (Ed.bytesE ⟨5, ⟨#[]⟩, 0, 0, [s]⟩) _ KA.out (Ed.bytesE_len H5.out) HT.out).mono ?_
  rw [Ed.getR_ok (Ed.get_bytes H5.out)]
  rintro e wc ⟨⟨ev, rfl, hev⟩, hb⟩
  obtain ⟨A5, c5, rfl, hs5⟩ := edit_form hev
  have HS := Lib.hid (HS.out.on hb)
  have HT := Lib.hid (HT.out.on hb)
  have HB := Lib.hid (bstep HB.out hb)
  have hb2 := bnew wc (.cells #[.int .i64 5, .string ⟨#[]⟩, .int .u64 0, .int .u32 0, .slice A5 1 c5] 26)
  have XD := Lib.hid (Bx.new wc #[.int .i64 5, .string ⟨#[]⟩, .int .u64 0, .int .u32 0, .slice A5 1 c5] 26 _ rfl)
  have hs5' : Sls (wc.alloc (.cells #[.int .i64 5, .string ⟨#[]⟩, .int .u64 0, .int .u32 0, .slice A5 1 c5] 26)) (wc.alloc (.cells #[.int .i64 5, .string ⟨#[]⟩, .int .u64 0, .int .u32 0, .slice A5 1 c5] 26)).heap.size (.slice A5 1 c5) [s] := (hs5.on hb2)
  have HS := Lib.hid (HS.out.on hb2)
  have HT := Lib.hid (HT.out.on hb2)
  have HB := Lib.hid (bstep HB.out hb2)
  obtain ⟨g5, o5, cc5, e5, hg5, y0, y1, y2, y3, y4⟩ := hs5'.at (i := 0) rfl
  injection e5 with e51 e52 e53
  subst e51
  rw [Nat.zero_mul, Nat.add_zero] at y0 y1 y2 y3 y4
  have HY := Lib.hid (And.intro y0 (And.intro y1 (And.intro y2 (And.intro y3 y4))))
  clear hb hb2 hev hs5 hs5' y0 y1 y2 y3 y4 e52 e53 hg5 KA
  have hne := neq_seals s s
  rw [decide_eq_true rfl] at hne
  unfold slV at hne
  have hgs := guard_seal
  have z6 : IntKind.u64.wrap (s.many : Int) = (s.many : Int) := IntWalk.u64_in _ (by have := HF.out.many; omega)
  go_wp2_with fail
  obtain ⟨x0, x1, x2, x3, x4⟩ := HS.out.at5
  have hxd := XD.out.cell 4 _ rfl
  have HSC := Lib.hid (And.intro hxd (And.intro (And.intro x0 (And.intro x1 (And.intro x2 (And.intro x3 x4)))) HY.out))
  clear hxd x0 x1 x2 x3 x4
  by_cases hm0 : 0 < s.many
  · have w1 : IntKind.u64.wrap ((s.last : Int) - (s.first : Int)) = (s.last : Int) - (s.first : Int) := IntWalk.u64_in _ (by have := Hm.out; simp only [Ed.mayS, decide_eq_true_eq] at this; have := HF.out.last; omega)
    have w2 : IntKind.u64.wrap ((s.many : Int) - 1) = (s.many : Int) - 1 := IntWalk.u64_in _ (by have := HF.out.many; omega)
    have hd : ¬ (s.last : Int) - (s.first : Int) < (s.many : Int) - 1 := by have := Hm.out; simp only [Ed.mayS, decide_eq_true_eq] at this; omega
    refine wp_region_noPanic ?_
    refine wp_region_held_drew (S := fun w' : World => w'.cell? ⟨wc.heap.size, 4, none⟩ = some (.slice (some ⟨g5, o5, none⟩) 1 c5) ∧ (w'.cell? ⟨w.heap.size, 0, none⟩ = some (.int .u32 s.id) ∧ w'.cell? ⟨w.heap.size, 1, none⟩ = some (.int .u32 s.size) ∧ w'.cell? ⟨w.heap.size, 2, none⟩ = some (.int .u32 s.many) ∧ w'.cell? ⟨w.heap.size, 3, none⟩ = some (.int .u64 s.first) ∧ w'.cell? ⟨w.heap.size, 4, none⟩ = some (.int .u64 s.last)) ∧ (w'.cell? ⟨g5, o5, none⟩ = some (.int .u32 s.id) ∧ w'.cell? ⟨g5, o5 + 1, none⟩ = some (.int .u32 s.size) ∧ w'.cell? ⟨g5, o5 + 2, none⟩ = some (.int .u32 s.many) ∧ w'.cell? ⟨g5, o5 + 3, none⟩ = some (.int .u64 s.first) ∧ w'.cell? ⟨g5, o5 + 4, none⟩ = some (.int .u64 s.last))) (by kernel_rfl) (HSC.out) (fun hHeld => ?_)
    have HS := Lib.hid HS.out.drew
    have HB := Lib.hid HB.out.drew
    have HT : Hid (ETab (World.drew _)) := Lib.hid (HT.out.on (below_drewN (Below.refl _ _) 1))
    generalize hWW : World.drew _ = W at *
    clear hWW
    refine wpAnyH_take (i := 0) (v := ?_) opAt_0 (by kernel_rfl) (by kernel_rfl) (by kernel_rfl) (fun _ _ _ h => h) (Or.inl ⟨by rfl, ?_⟩) (by assumption) ?_
    rotate_left
    · (intro w hSw; (try dsimp only at hSw); go_simp; try with_reducible rfl)
    try simp only [Act.put, List.setIfInBounds_toArray, List.set_cons_zero, List.set_cons_succ]
    refine wpAnyH_take (i := 1) (v := ?_) opAt_1 (by kernel_rfl) (by kernel_rfl) (by kernel_rfl) (fun _ _ _ h => h) (Or.inl ⟨by rfl, ?_⟩) (by assumption) ?_
    rotate_left
    · (intro w hSw; (try dsimp only at hSw); go_simp; try with_reducible rfl)
    try simp only [Act.put, List.setIfInBounds_toArray, List.set_cons_zero, List.set_cons_succ]
    refine wpAnyH_take (i := 2) (v := ?_) opAt_2 (by kernel_rfl) (by kernel_rfl) (by kernel_rfl) (fun _ _ _ h => h) (Or.inl ⟨by rfl, ?_⟩) (by assumption) ?_
    rotate_left
    · (intro w hSw; (try dsimp only at hSw); go_simp; try with_reducible rfl)
    try simp only [Act.put, List.setIfInBounds_toArray, List.set_cons_zero, List.set_cons_succ]
    refine wpAnyH_take (i := 3) (v := ?_) opAt_3 (by kernel_rfl) (by kernel_rfl) (by kernel_rfl) (fun _ _ _ h => h) (Or.inl ⟨by rfl, ?_⟩) (by assumption) ?_
    rotate_left
    · (intro w hSw; (try dsimp only at hSw); go_simp; try with_reducible rfl)
    try simp only [Act.put, List.setIfInBounds_toArray, List.set_cons_zero, List.set_cons_succ]
    refine wpAnyH_take (i := 4) (v := ?_) opAt_4 (by kernel_rfl) (by kernel_rfl) (by kernel_rfl) (fun _ _ _ h => h) (Or.inl ⟨by rfl, ?_⟩) (by assumption) ?_
    rotate_left
    · (intro w hSw; (try dsimp only at hSw); go_simp; try with_reducible rfl)
    try simp only [Act.put, List.setIfInBounds_toArray, List.set_cons_zero, List.set_cons_succ]
    refine wpAnyH_take (i := 5) (v := ?_) opAt_5 (by kernel_rfl) (by kernel_rfl) (by kernel_rfl) (fun _ _ _ h => h) (Or.inl ⟨by rfl, ?_⟩) (by assumption) ?_
    rotate_left
    · (intro w hSw; (try dsimp only at hSw); go_simp; try with_reducible rfl)
    try simp only [Act.put, List.setIfInBounds_toArray, List.set_cons_zero, List.set_cons_succ]
    refine wpAnyH_take (i := 6) (v := ?_) opAt_6 (by kernel_rfl) (by kernel_rfl) (by kernel_rfl) (fun _ _ _ h => h) (Or.inl ⟨by rfl, ?_⟩) (by assumption) ?_
    rotate_left
    · (intro w hSw; (try dsimp only at hSw); go_simp; try with_reducible rfl)
    try simp only [Act.put, List.setIfInBounds_toArray, List.set_cons_zero, List.set_cons_succ]
    refine wpAnyH_take (i := 7) (v := ?_) opAt_7 (by kernel_rfl) (by kernel_rfl) (by kernel_rfl) (fun _ _ _ h => h) (Or.inl ⟨by rfl, ?_⟩) (by assumption) ?_
    rotate_left
    · (intro w hSw; (try dsimp only at hSw); go_simp; try with_reducible rfl)
    try simp only [Act.put, List.setIfInBounds_toArray, List.set_cons_zero, List.set_cons_succ]
    refine wpAnyH_take (i := 8) (v := ?_) opAt_8 (by kernel_rfl) (by kernel_rfl) (by kernel_rfl) (fun _ _ _ h => h) (Or.inl ⟨by rfl, ?_⟩) (by assumption) ?_
    rotate_left
    · (intro w hSw; (try dsimp only at hSw); go_simp; try with_reducible rfl)
    try simp only [Act.put, List.setIfInBounds_toArray, List.set_cons_zero, List.set_cons_succ]
    refine wpAnyH_take (i := 9) (v := ?_) opAt_9 (by kernel_rfl) (by kernel_rfl) (by kernel_rfl) (fun _ _ _ h => h) (Or.inl ⟨by rfl, ?_⟩) (by assumption) ?_
    rotate_left
    · (intro w hSw; (try dsimp only at hSw); go_simp; try with_reducible rfl)
    try simp only [Act.put, List.setIfInBounds_toArray, List.set_cons_zero, List.set_cons_succ]
    refine wpAnyH_take (i := 10) (v := ?_) opAt_10 (by kernel_rfl) (by kernel_rfl) (by kernel_rfl) (fun _ _ _ h => h) (Or.inl ⟨by rfl, ?_⟩) (by assumption) ?_
    rotate_left
    · (intro w hSw; (try dsimp only at hSw); go_simp; try with_reducible rfl)
    try simp only [Act.put, List.setIfInBounds_toArray, List.set_cons_zero, List.set_cons_succ]
    refine wpAnyH_take (i := 11) (v := ?_) opAt_11 (by kernel_rfl) (by kernel_rfl) (by kernel_rfl) (fun _ _ _ h => h) (Or.inl ⟨by rfl, ?_⟩) (by assumption) ?_
    rotate_left
    · (intro w hSw; (try dsimp only at hSw); go_simp; try with_reducible rfl)
    try simp only [Act.put, List.setIfInBounds_toArray, List.set_cons_zero, List.set_cons_succ]
    refine wpAnyH_take (i := 12) (v := ?_) opAt_12 (by kernel_rfl) (by kernel_rfl) (by kernel_rfl) (fun _ _ _ h => h) (Or.inl ⟨by rfl, ?_⟩) (by assumption) ?_
    rotate_left
    · (intro w hSw; (try dsimp only at hSw); go_simp; try with_reducible rfl)
    try simp only [Act.put, List.setIfInBounds_toArray, List.set_cons_zero, List.set_cons_succ]
    refine wpAnyH_take (i := 13) (v := ?_) opAt_13 (by kernel_rfl) (by kernel_rfl) (by kernel_rfl) (fun _ _ _ h => h) (Or.inl ⟨by rfl, ?_⟩) (by assumption) ?_
    rotate_left
    · (intro w hSw; (try dsimp only at hSw); go_simp; try with_reducible rfl)
    try simp only [Act.put, List.setIfInBounds_toArray, List.set_cons_zero, List.set_cons_succ]
    refine wpAnyH_take (i := 14) (v := ?_) opAt_14 (by kernel_rfl) (by kernel_rfl) (by kernel_rfl) (fun _ _ _ h => h) (Or.inl ⟨by rfl, ?_⟩) (by assumption) ?_
    rotate_left
    · (intro w hSw; (try dsimp only at hSw); go_simp; try with_reducible rfl)
    try simp only [Act.put, List.setIfInBounds_toArray, List.set_cons_zero, List.set_cons_succ]
    refine wpAnyH_take (i := 15) (v := ?_) opAt_15 (by kernel_rfl) (by kernel_rfl) (by kernel_rfl) (fun _ _ _ h => h) (Or.inl ⟨by rfl, ?_⟩) (by assumption) ?_
    rotate_left
    · (intro w hSw; (try dsimp only at hSw); go_simp; try with_reducible rfl)
    try simp only [Act.put, List.setIfInBounds_toArray, List.set_cons_zero, List.set_cons_succ]
    refine wpAnyH_take (i := 16) (v := ?_) opAt_16 (by kernel_rfl) (by kernel_rfl) (by kernel_rfl) (fun _ _ _ h => h) (Or.inl ⟨by rfl, ?_⟩) (by assumption) ?_
    rotate_left
    · (intro w hSw; (try dsimp only at hSw); go_simp; try with_reducible rfl)
    try simp only [Act.put, List.setIfInBounds_toArray, List.set_cons_zero, List.set_cons_succ]
    refine wpAnyH_take (i := 17) (v := ?_) opAt_17 (by kernel_rfl) (by kernel_rfl) (by kernel_rfl) (fun _ _ _ h => h) (Or.inl ⟨by rfl, ?_⟩) (by assumption) ?_
    rotate_left
    · (intro w hSw; (try dsimp only at hSw); go_simp; try with_reducible rfl)
    try simp only [Act.put, List.setIfInBounds_toArray, List.set_cons_zero, List.set_cons_succ]
    refine wpAnyH_take (i := 18) (v := ?_) opAt_18 (by kernel_rfl) (by kernel_rfl) (by kernel_rfl) (fun _ _ _ h => h) (Or.inl ⟨by rfl, ?_⟩) (by assumption) ?_
    rotate_left
    · (intro w hSw; (try dsimp only at hSw); go_simp; try with_reducible rfl)
    try simp only [Act.put, List.setIfInBounds_toArray, List.set_cons_zero, List.set_cons_succ]
    refine wpAnyH_take (i := 19) (v := ?_) opAt_19 (by kernel_rfl) (by kernel_rfl) (by kernel_rfl) (fun _ _ _ h => h) (Or.inl ⟨by rfl, ?_⟩) (by assumption) ?_
    rotate_left
    · (intro w hSw; (try dsimp only at hSw); go_simp; try with_reducible rfl)
    try simp only [Act.put, List.setIfInBounds_toArray, List.set_cons_zero, List.set_cons_succ]
    refine wpAnyH_take (i := 20) (v := ?_) opAt_20 (by kernel_rfl) (by kernel_rfl) (by kernel_rfl) (fun _ _ _ h => h) (Or.inl ⟨by rfl, ?_⟩) (by assumption) ?_
    rotate_left
    · (intro w hSw; (try dsimp only at hSw); go_simp; try with_reducible rfl)
    try simp only [Act.put, List.setIfInBounds_toArray, List.set_cons_zero, List.set_cons_succ]
    refine wpAnyH_take (i := 21) (v := ?_) opAt_21 (by kernel_rfl) (by kernel_rfl) (by kernel_rfl) (fun _ _ _ h => h) (Or.inl ⟨by rfl, ?_⟩) (by assumption) ?_
    rotate_left
    · (intro w hSw; (try dsimp only at hSw); go_simp; try with_reducible rfl)
    try simp only [Act.put, List.setIfInBounds_toArray, List.set_cons_zero, List.set_cons_succ]
    refine wpAnyH_take (i := 22) (v := ?_) opAt_22 (by kernel_rfl) (by kernel_rfl) (by kernel_rfl) (fun _ _ _ h => h) (Or.inl ⟨by rfl, ?_⟩) (by assumption) ?_
    rotate_left
    · (intro w hSw; (try dsimp only at hSw); go_simp; try with_reducible rfl)
    try simp only [Act.put, List.setIfInBounds_toArray, List.set_cons_zero, List.set_cons_succ]
    refine wpAnyH_take (i := 23) (v := ?_) opAt_23 (by kernel_rfl) (by kernel_rfl) (by kernel_rfl) (fun _ _ _ h => h) (Or.inl ⟨by rfl, ?_⟩) (by assumption) ?_
    rotate_left
    · (intro w hSw; (try dsimp only at hSw); go_simp; try with_reducible rfl)
    try simp only [Act.put, List.setIfInBounds_toArray, List.set_cons_zero, List.set_cons_succ]
    refine wpAnyH_take (i := 24) (v := ?_) opAt_24 (by kernel_rfl) (by kernel_rfl) (by kernel_rfl) (fun _ _ _ h => h) (Or.inl ⟨by rfl, ?_⟩) (by assumption) ?_
    rotate_left
    · (intro w hSw; (try dsimp only at hSw); go_simp; try with_reducible rfl)
    try simp only [Act.put, List.setIfInBounds_toArray, List.set_cons_zero, List.set_cons_succ]
    refine wpAnyH_take (i := 25) (v := ?_) opAt_25 (by kernel_rfl) (by kernel_rfl) (by kernel_rfl) (fun _ _ _ h => h) (Or.inl ⟨by rfl, ?_⟩) (by assumption) ?_
    rotate_left
    · (intro w hSw; (try dsimp only at hSw); go_simp; try with_reducible rfl)
    try simp only [Act.put, List.setIfInBounds_toArray, List.set_cons_zero, List.set_cons_succ]
    refine wpAnyH_take (i := 26) (v := ?_) opAt_26 (by kernel_rfl) (by kernel_rfl) (by kernel_rfl) (fun _ _ _ h => h) (Or.inl ⟨by rfl, ?_⟩) (by assumption) ?_
    rotate_left
    · (intro w hSw; (try dsimp only at hSw); go_simp; try with_reducible rfl)
    try simp only [Act.put, List.setIfInBounds_toArray, List.set_cons_zero, List.set_cons_succ]
    refine wpAnyH_take (i := 27) (v := ?_) opAt_27 (by kernel_rfl) (by kernel_rfl) (by kernel_rfl) (fun _ _ _ h => h) (Or.inl ⟨by rfl, ?_⟩) (by assumption) ?_
    rotate_left
    · (intro w hSw; (try dsimp only at hSw); go_simp; try with_reducible rfl)
    try simp only [Act.put, List.setIfInBounds_toArray, List.set_cons_zero, List.set_cons_succ]
    refine wpAnyH_take (i := 28) (v := ?_) opAt_28 (by kernel_rfl) (by kernel_rfl) (by kernel_rfl) (fun _ _ _ h => h) (Or.inl ⟨by rfl, ?_⟩) (by assumption) ?_
    rotate_left
    · (intro w hSw; (try dsimp only at hSw); go_simp; try with_reducible rfl)
    try simp only [Act.put, List.setIfInBounds_toArray, List.set_cons_zero, List.set_cons_succ]
    refine wpAnyH_take (i := 29) (v := ?_) opAt_29 (by kernel_rfl) (by kernel_rfl) (by kernel_rfl) (fun _ _ _ h => h) (Or.inl ⟨by rfl, ?_⟩) (by assumption) ?_
    rotate_left
    · (intro w hSw; (try dsimp only at hSw); go_simp; try with_reducible rfl)
    try simp only [Act.put, List.setIfInBounds_toArray, List.set_cons_zero, List.set_cons_succ]
    refine wpAnyH_take (i := 30) (v := ?_) opAt_30 (by kernel_rfl) (by kernel_rfl) (by kernel_rfl) (fun _ _ _ h => h) (Or.inl ⟨by rfl, ?_⟩) (by assumption) ?_
    rotate_left
    · (intro w hSw; (try dsimp only at hSw); go_simp; try with_reducible rfl)
    try simp only [Act.put, List.setIfInBounds_toArray, List.set_cons_zero, List.set_cons_succ]
    refine wpAnyH_take (i := 31) (v := ?_) opAt_31 (by kernel_rfl) (by kernel_rfl) (by kernel_rfl) (fun _ _ _ h => h) (Or.inl ⟨by rfl, ?_⟩) (by assumption) ?_
    rotate_left
    · (intro w hSw; (try dsimp only at hSw); go_simp; try with_reducible rfl)
    try simp only [Act.put, List.setIfInBounds_toArray, List.set_cons_zero, List.set_cons_succ]
    refine wpAnyH_take (i := 32) (v := ?_) opAt_32 (by kernel_rfl) (by kernel_rfl) (by kernel_rfl) (fun _ _ _ h => h) (Or.inl ⟨by rfl, ?_⟩) (by assumption) ?_
    rotate_left
    · (intro w hSw; (try dsimp only at hSw); go_simp; try with_reducible rfl)
    try simp only [Act.put, List.setIfInBounds_toArray, List.set_cons_zero, List.set_cons_succ]
    refine wpAnyH_take (i := 33) (v := ?_) opAt_33 (by kernel_rfl) (by kernel_rfl) (by kernel_rfl) (fun _ _ _ h => h) (Or.inl ⟨by rfl, ?_⟩) (by assumption) ?_
    rotate_left
    · (intro w hSw; (try dsimp only at hSw); go_simp; try with_reducible rfl)
    try simp only [Act.put, List.setIfInBounds_toArray, List.set_cons_zero, List.set_cons_succ]
    refine wpAnyH_take (i := 34) (v := ?_) opAt_34 (by kernel_rfl) (by kernel_rfl) (by kernel_rfl) (fun _ _ _ h => h) (Or.inl ⟨by rfl, ?_⟩) (by assumption) ?_
    rotate_left
    · (intro w hSw; (try dsimp only at hSw); go_simp; try with_reducible rfl)
    try simp only [Act.put, List.setIfInBounds_toArray, List.set_cons_zero, List.set_cons_succ]
    refine wpAnyH_take (i := 35) (v := ?_) opAt_35 (by kernel_rfl) (by kernel_rfl) (by kernel_rfl) (fun _ _ _ h => h) (Or.inl ⟨by rfl, ?_⟩) (by assumption) ?_
    rotate_left
    · (intro w hSw; (try dsimp only at hSw); go_simp; try with_reducible rfl)
    try simp only [Act.put, List.setIfInBounds_toArray, List.set_cons_zero, List.set_cons_succ]
    refine wpAnyH_take (i := 36) (v := ?_) opAt_36 (by kernel_rfl) (by kernel_rfl) (by kernel_rfl) (fun _ _ _ h => h) (Or.inl ⟨by rfl, ?_⟩) (by assumption) ?_
    rotate_left
    · (intro w hSw; (try dsimp only at hSw); go_simp; try with_reducible rfl)
    try simp only [Act.put, List.setIfInBounds_toArray, List.set_cons_zero, List.set_cons_succ]
    refine wpAnyH_done (by kernel_rfl) ?_ _
    refine NoPanic.normal ?_
    clear hHeld hne HSC HY XD
    clear w1 w2 hd
    have q1 : IntKind.u32.wrap ((n1 % 21 : Nat) : Int) = ((n1 % 21 : Nat) : Int) := IntWalk.u32_in _ (by omega)
    have q2 : IntKind.u32.wrap ((n2 % 21 : Nat) : Int) = ((n2 % 21 : Nat) : Int) := IntWalk.u32_in _ (by omega)
    have p1 : (n1 : Int) % 21 = ((n1 % 21 : Nat) : Int) := by simp
    have p2 : (n2 : Int) % 21 = ((n2 % 21 : Nat) : Int) := by simp
    have ha21 : n1 % 21 ≤ 20 := by omega
    have hb21 : n2 % 21 ≤ 20 := by omega
    generalize n1 % 21 = a at *
    generalize n2 % 21 = b at *
    have hsm := Hm.out
    simp only [Ed.mayS, decide_eq_true_eq] at hsm
    have hid1 := hsm.1
    have hid2 := hsm.2.1
    have hlast : s.last ≤ 1099511627776 := by omega
    obtain ⟨i0, hi0, hz0, hz1, hz2⟩ := info_parts seal_info
    clear hsm
    go_wp2_with fail
    rw [p1]
    go_loopg [13, 94] a (fun q v iv wr => ∃ (i : Nat) (A : Option Addr) (c : Nat), i + q = a ∧ iv = .int .u32 i ∧ v = .slice A (aheadL s.id i).length c ∧ wr.ownsRow W.heap.size 28 5 (.slice A (aheadL s.id i).length c) (aheadL s.id i).length (slVs (aheadL s.id i)) ∧ Below W.heap.size W wr)
    case atStart => exact ⟨0, none, 0, by omega, rfl, rfl, World.ownsRow_nil _ _ _ _, Below.refl _ _⟩
    case round =>
      obtain ⟨i, A, c, hi, rfl, rfl, hown, hb⟩ := hrel
      have HO := Lib.hid hown
      have Hb := Lib.hid hb
      obtain ⟨x0, x1, x2, x3, x4⟩ := (HS.out.on hb).at5
      have hlen := aheadL_len s.id i
      clear hown hb
      by_cases hlt : i < a
      · have z1 : IntKind.u32.wrap ((i : Int) + 1) = (i : Int) + 1 := IntWalk.u32_in _ (by omega)
        by_cases hc : i + 1 < s.id
        · have hc' : (i : Int) + 1 < (s.id : Int) := by omega
          have hbl := bnew wr (.cells #[.int .u32 ((i : Int) + 1), .int .u32 16, .int .u32 0, .int .u64 0, .int .u64 0] 28)
          have hR1 : Rd (wr.alloc (.cells #[.int .u32 ((i : Int) + 1), .int .u32 16, .int .u32 0, .int .u64 0, .int .u64 0] 28)) (wr.heap.size + 1) (some ⟨wr.heap.size, 0, none⟩) (slVs [⟨i + 1, 16, 0, 0, 0⟩]) := Rd_one wr ⟨i + 1, 16, 0, 0, 0⟩ 28
          have HR1 := Lib.hid hR1
          have HO1 := Lib.hid (own_below HO.out hbl (Nat.le_refl _))
          have Hb1 := Lib.hid (Hb.out.trans (hbl.mono Hb.out.size))
          have Hsz := Lib.hid (Nat.le_trans Hb.out.size hbl.size)
          have hal : aheadL s.id (i + 1) = aheadL s.id i ++ [⟨i + 1, 16, 0, 0, 0⟩] := by simp only [aheadL, if_pos hc]
          have Hal := Lib.hid hal
          clear hbl hR1 hal
          generalize hnn : (aheadL s.id i).length = nn at *
          have Hnn := Lib.hid hnn
          clear hnn
          go_wp2_with (at_builtin; (refine wpList_append_rd _ rfl _ _ 24 rfl W.heap.size 28 i0 (.agg #[.int .u32 0, .int .u32 0, .int .u32 0, .int .u64 0, .int .u64 0]) 5 32 Tryd.underlying24 hi0 hz0 hz1 hz2 rfl (by omega) (.slice A nn c) nn (slVs (aheadL s.id i)) rfl HO1.out (wr.heap.size + 1) (some ⟨wr.heap.size, 0, none⟩) 1 1 (slVs [⟨i + 1, 16, 0, 0, 0⟩]) rfl (slVs_length _) HR1.out (slVs_one _) (by unfold maxLen; omega) (by omega) Hsz.out ?_); intro v8 w8 hown8 hbw8 hgr8 hblk8; obtain ⟨A8, c8, rfl, _, _, _⟩ := own_slice hown8; have HO8 := Lib.hid hown8; have Hb8 := Lib.hid (Hb1.out.trans hbw8); clear hown8 hbw8 hgr8 hblk8)
          go_roundg (gk - 1)
          case measure => omega
          case rel =>
            have e8 : (aheadL s.id (i + 1)).length = nn + 1 := by rw [Hal.out, List.length_append, Hnn.out]; rfl
            refine ⟨i + 1, A8, c8, by omega, by go_num, by rw [e8], ?_, Hb8.out⟩
            rw [e8, Hal.out, slVs_append]
            exact HO8.out
        · have hc' : ¬ (i : Int) + 1 < (s.id : Int) := by omega
          have hal : aheadL s.id (i + 1) = aheadL s.id i := by simp only [aheadL, if_neg hc, List.append_nil]
          have Hal := Lib.hid hal
          clear hal
          go_wp2_with fail
          go_roundg (gk - 1)
          case measure => omega
          case rel => exact ⟨i + 1, A, c, by omega, by go_num, by rw [Hal.out], by rw [Hal.out]; exact HO.out, Hb.out⟩
      · obtain rfl : i = a := by omega
        clear hi hlt
        generalize hnn : (aheadL s.id i).length = nn at *
        have Hnn := Lib.hid hnn
        clear hnn
        have hbl := bnew wr (.cells #[.int .u32 s.id, .int .u32 s.size, .int .u32 s.many, .int .u64 s.first, .int .u64 s.last] 28)
        have HR1 := Lib.hid (Rd_one wr s 28)
        have HO1 := Lib.hid (own_below HO.out hbl (Nat.le_refl _))
        have Hb1 := Lib.hid (Hb.out.trans (hbl.mono Hb.out.size))
        have Hsz := Lib.hid (Nat.le_trans Hb.out.size hbl.size)
        clear hbl
        go_wp2_with (at_builtin; (refine wpList_append_rd _ rfl _ _ 24 rfl W.heap.size 28 i0 (.agg #[.int .u32 0, .int .u32 0, .int .u32 0, .int .u64 0, .int .u64 0]) 5 32 Tryd.underlying24 hi0 hz0 hz1 hz2 rfl (by omega) (.slice A nn c) nn (slVs (aheadL s.id i)) rfl HO1.out (wr.heap.size + 1) (some ⟨wr.heap.size, 0, none⟩) 1 1 (slVs [s]) rfl (slVs_length _) HR1.out (slVs_one _) (by unfold maxLen; omega) (by omega) Hsz.out ?_); intro v8 w8 hown8 hbw8 hgr8 hblk8; obtain ⟨A8, c8, rfl, _, _, _⟩ := own_slice hown8; have HO8 := Lib.hid hown8; have Hb8 := Lib.hid (Hb1.out.trans hbw8); clear hown8 hbw8 hgr8 hblk8)
        have HOx : Hid (w8.ownsRow W.heap.size 28 5 (.slice A8 (nn + 1) c8) (nn + 1) (slVs (aheadL s.id i ++ [s]))) := Lib.hid (by rw [slVs_append]; exact HO8.out)
        clear HO HO1 HR1 Hb Hb1 Hsz x0 x1 x2 x3 x4 HO8
        rw [p2]
        go_loopg [13, 116] b (fun q v jv wr => ∃ (j : Nat) (A : Option Addr) (c n : Nat), j + q = b ∧ jv = .int .u32 j ∧ v = .slice A n c ∧ n = (aheadL s.id i ++ [s] ++ behindL s.id j).length ∧ wr.ownsRow W.heap.size 28 5 (.slice A n c) n (slVs (aheadL s.id i ++ [s] ++ behindL s.id j)) ∧ Below W.heap.size W wr)
        case atStart => exact ⟨0, A8, c8, nn + 1, by omega, rfl, rfl, by simp [behindL, Hnn.out], by simpa [behindL] using HOx.out, Hb8.out⟩
        case round =>
          obtain ⟨j, A, c, n, hj, rfl, rfl, hn, hown, hb⟩ := hrel
          have HO := Lib.hid hown
          have Hb := Lib.hid hb
          have Hn := Lib.hid hn
          obtain ⟨x0, x1, x2, x3, x4⟩ := (HS.out.on hb).at5
          have hn60 : n ≤ 60 := by have := behindL_len s.id j; have := Hnn.out; rw [hn]; simp only [List.length_append, List.length_cons, List.length_nil]; omega
          clear hown hb hn
          by_cases hlt : j < b
          · have z1 : IntKind.u32.wrap ((s.id : Int) + (j : Int)) = (s.id : Int) + (j : Int) := IntWalk.u32_in _ (by omega)
            have z2 : IntKind.u32.wrap ((s.id : Int) + (j : Int) + 1) = (s.id : Int) + (j : Int) + 1 := IntWalk.u32_in _ (by omega)
            have z3 : IntKind.u64.wrap (j : Int) = (j : Int) := IntWalk.u64_in _ (by omega)
            have z4 : IntKind.u64.wrap ((j : Int) + 1) = (j : Int) + 1 := IntWalk.u64_in _ (by omega)
            by_cases hc : s.id + j < 16777215
            · have hc' : (s.id : Int) + (j : Int) < 16777215 := by omega
              have hbl := bnew wr (.cells #[.int .u32 ((s.id : Int) + (j : Int) + 1), .int .u32 16777216, .int .u32 1, .int .u64 ((j : Int) + 1), .int .u64 1099511627776] 28)
              have hR1 : Rd (wr.alloc (.cells #[.int .u32 ((s.id : Int) + (j : Int) + 1), .int .u32 16777216, .int .u32 1, .int .u64 ((j : Int) + 1), .int .u64 1099511627776] 28)) (wr.heap.size + 1) (some ⟨wr.heap.size, 0, none⟩) (slVs [⟨s.id + j + 1, 16777216, 1, j + 1, 1099511627776⟩]) := Rd_one wr ⟨s.id + j + 1, 16777216, 1, j + 1, 1099511627776⟩ 28
              have HR1 := Lib.hid hR1
              have HO1 := Lib.hid (own_below HO.out hbl (Nat.le_refl _))
              have Hb1 := Lib.hid (Hb.out.trans (hbl.mono Hb.out.size))
              have Hsz := Lib.hid (Nat.le_trans Hb.out.size hbl.size)
              have Hal := Lib.hid (show behindL s.id (j + 1) = behindL s.id j ++ [⟨s.id + j + 1, 16777216, 1, j + 1, 1099511627776⟩] by simp only [behindL, if_pos hc])
              clear hbl hR1
              go_wp2_with (at_builtin; (refine wpList_append_rd _ rfl _ _ 24 rfl W.heap.size 28 i0 (.agg #[.int .u32 0, .int .u32 0, .int .u32 0, .int .u64 0, .int .u64 0]) 5 32 Tryd.underlying24 hi0 hz0 hz1 hz2 rfl (by omega) (.slice A n c) n (slVs (aheadL s.id i ++ [s] ++ behindL s.id j)) rfl HO1.out (wr.heap.size + 1) (some ⟨wr.heap.size, 0, none⟩) 1 1 (slVs [⟨s.id + j + 1, 16777216, 1, j + 1, 1099511627776⟩]) rfl (slVs_length _) HR1.out (slVs_one _) (by unfold maxLen; omega) (by omega) Hsz.out ?_); intro v8 w8 hown8 hbw8 hgr8 hblk8; obtain ⟨A8, c8, rfl, _, _, _⟩ := own_slice hown8; have HO8 := Lib.hid hown8; have Hb8 := Lib.hid (Hb1.out.trans hbw8); clear hown8 hbw8 hgr8 hblk8)
              go_roundg (gk - 1)
              case measure => omega
              case rel =>
                refine ⟨j + 1, A8, c8, n + 1, by omega, by go_num, rfl, ?_, ?_, Hb8.out⟩
                · rw [Hn.out, Hal.out]
                  simp only [List.length_append, List.length_cons, List.length_nil]
                  omega
                · rw [Hal.out, ← List.append_assoc, slVs_append]
                  exact HO8.out
            · have hc' : ¬ (s.id : Int) + (j : Int) < 16777215 := by omega
              have Hal := Lib.hid (show behindL s.id (j + 1) = behindL s.id j by simp only [behindL, if_neg hc, List.append_nil])
              go_wp2_with fail
              go_roundg (gk - 1)
              case measure => omega
              case rel => exact ⟨j + 1, A, c, n, by omega, by go_num, rfl, by rw [Hal.out]; exact Hn.out, by rw [Hal.out]; exact HO.out, Hb.out⟩
          · obtain rfl : j = b := by omega
            clear hj hlt
            have hfl : aheadL s.id i ++ [s] ++ behindL s.id j = full s i j := rfl
            rw [hfl] at HO Hn
            have Hup := Lib.hid (full_up Hm.out i j (by omega))
            have Hff := Lib.hid (full_fit Hm.out i j (by omega))
            have hl1 := (full_len s i j).1
            clear hfl
            generalize full s i j = L at *
            have hb := Hb.out
            have HTW := HT
            have HBW := HB
            have HT := Lib.hid (HT.out.on hb)
            have HSL : Hid (Sls wr wr.heap.size (.slice A n c) L) := Lib.hid (by have := HO.out; exact Sls.of_own this)
            clear hb
            have hnL := Hn.out
            have hL200 : L.length ≤ 200 := by omega
            have HLn := Lib.hid (show 1 ≤ n by omega)
            clear hl1
            have H6 := Lib.hid (may_full (q := s.last) Hup.out hL200 hlast)
            have F6 := Lib.hid (show Ed.Fit ⟨6, ⟨#[]⟩, s.last, 0, L⟩ from ⟨(by decide : (-9223372036854775808 : Int) ≤ 6), (by decide : (6 : Int) < 9223372036854775808), (by decide : (⟨#[]⟩ : ByteArray).size ≤ 9223372036854775807), (by show s.last < _; omega), (by decide : 0 < 4294967296), (by show L.length ≤ _; omega), Hff.out⟩)
            clear hnL hL200 p1 p2 q1 q2 hid1 hid2 hlast
            go_wp2_with fail
            refine (eput_yes _ ⟨6, ⟨#[]⟩, s.last, 0, L⟩ _ ⟨_, rfl, HSL.out⟩ F6.out HT.out H6.out).mono ?_
            rintro e wd ⟨⟨rb, rfl, hrb⟩, hb⟩
            have KB := Lib.hid hrb
            have HT := Lib.hid (HT.out.on hb)
            have Hb := Lib.hid (Hb.out.trans (hb.mono Hb.out.size))
            have HO := Lib.hid (own_below HO.out hb (Nat.le_refl _))
            have HSL := Lib.hid (HSL.out.on hb)
            clear hb hrb x0 x1 x2 x3 x4
            go_wp2_with fail
            refine (eget_b _ (Ed.bytesE ⟨6, ⟨#[]⟩, s.last, 0, L⟩) _ KB.out (Ed.bytesE_len H6.out) HT.out).mono ?_
            rw [Ed.getR_ok (Ed.get_bytes H6.out)]
            rintro e we ⟨⟨ev, rfl, hev⟩, hb⟩
            obtain ⟨A6, c6, rfl, hs6⟩ := edit_form6 hev Hn.out
            have HT := Lib.hid (HT.out.on hb)
            have Hb := Lib.hid (Hb.out.trans (hb.mono Hb.out.size))
            have HO := Lib.hid (own_below HO.out hb (Nat.le_refl _))
            have HSL := Lib.hid (HSL.out.on hb)
            have hs6 := hs6
            have hb2 := bnew we (.cells #[.int .i64 6, .string ⟨#[]⟩, .int .u64 s.last, .int .u32 0, .slice A6 n c6] 26)
            have YD := Lib.hid (Bx.new we #[.int .i64 6, .string ⟨#[]⟩, .int .u64 s.last, .int .u32 0, .slice A6 n c6] 26 _ rfl)
            have hs6' : Hid (Sls (we.alloc (.cells #[.int .i64 6, .string ⟨#[]⟩, .int .u64 s.last, .int .u32 0, .slice A6 n c6] 26)) (we.alloc (.cells #[.int .i64 6, .string ⟨#[]⟩, .int .u64 s.last, .int .u32 0, .slice A6 n c6] 26)).heap.size (.slice A6 n c6) L) := Lib.hid (hs6.on hb2)
            have HT := Lib.hid (HT.out.on hb2)
            have Hb := Lib.hid (Hb.out.trans (hb2.mono Hb.out.size))
            have HO := Lib.hid (own_below HO.out hb2 (Nat.le_refl _))
            have HSL := Lib.hid (HSL.out.on hb2)
            have hyd := YD.out.cell 4 _ rfl
            clear hb hb2 KB hev hs6
            go_wp2_with fail
            clear hyd
            generalize hwy : we.alloc _ = wy at *
            clear hwy
            go_loopg [166] n (fun q iv wr => ∃ j : Nat, j + q = n ∧ iv = .int .i64 j ∧ Below wy.heap.size wy wr)
            case atStart => exact ⟨0, by omega, rfl, Below.refl _ _⟩
            case round =>
              obtain ⟨j2, hj2, rfl, hb⟩ := hrel
              have Hbl := Lib.hid hb
              clear hb
              by_cases hlt : j2 < n
              · obtain ⟨t, ht⟩ : ∃ t, L[j2]? = some t := ⟨_, List.getElem?_eq_getElem (by rw [← Hn.out]; exact hlt)⟩
                obtain ⟨ga, oa, cca, hA, hga, a0, a1, a2, a3, a4⟩ := (hs6'.out.on Hbl.out).at ht
                injection hA with hA1 hA2 hA3
                subst hA1
                clear hA2 hA3 hga
                obtain ⟨gb, ob, ccb, hA, hgb, b0, b1, b2, b3, b4⟩ := (HSL.out.on Hbl.out).at ht
                injection hA with hA1 hA2 hA3
                subst hA1
                clear hA2 hA3 hgb
                have hyd := (YD.out.on Hbl.out).cell 4 _ rfl
                have hgs := guard_seal
                have hne := neq_seals t t
                unfold slV at hne
                rw [decide_eq_true rfl] at hne
                clear ht
                go_wp2_with fail
                go_quiet (fail)
                go_wp2_with fail
                go_roundg (gk - 1)
                case measure => omega
                case rel => exact ⟨j2 + 1, by omega, by go_num, below_drewN Hbl.out _⟩
              · obtain ⟨t, ht⟩ : ∃ t, L[0]? = some t := ⟨_, List.getElem?_eq_getElem (by rw [← Hn.out]; exact HLn.out)⟩
                have hb := Hbl.out
                have HT := Lib.hid (HT.out.on hb)
                have Hb := Lib.hid (Hb.out.trans (hb.mono Hb.out.size))
                have HO := Lib.hid (own_below HO.out hb (Nat.le_refl _))
                have HSL := Lib.hid (HSL.out.on hb)
                obtain ⟨gb, ob, ccb, hA, hgb, b0, b1, b2, b3, b4⟩ := HSL.out.at ht
                injection hA with hA1 hA2 hA3
                subst hA1
                clear hA2 hA3 hgb hb YD hs6'
                simp only [Nat.zero_mul, Nat.add_zero] at b0 b1 b2 b3 b4
                have hbl := bnew wr (.cells #[.int .u32 t.id, .int .u32 t.size, .int .u32 t.many, .int .u64 t.first, .int .u64 t.last] 28)
                have HR1 := Lib.hid (Rd_one wr t 28)
                have HO1 := Lib.hid (own_below HO.out hbl (Nat.le_refl _))
                have Hb1 := Lib.hid (Hb.out.trans (hbl.mono Hb.out.size))
                have Hsz := Lib.hid (Nat.le_trans Hb.out.size hbl.size)
                have Hno := Lib.hid (full_again Hup.out ht)
                have Hft := Lib.hid (show ∀ x ∈ L ++ [t], Ed.FitS x from fun x hx => by rcases List.mem_append.1 hx with h | h; exact Hff.out x h; rw [List.mem_singleton.1 h]; exact Hff.out t (List.mem_of_getElem? ht))
                have HnL := Lib.hid (show (L ++ [t]).length = n + 1 by rw [List.length_append, ← Hn.out]; rfl)
                clear hbl ht
                go_wp2_with (at_builtin; (refine wpList_append_rd _ rfl _ _ 24 rfl W.heap.size 28 i0 (.agg #[.int .u32 0, .int .u32 0, .int .u32 0, .int .u64 0, .int .u64 0]) 5 32 Tryd.underlying24 hi0 hz0 hz1 hz2 rfl (by omega) (.slice (some ⟨gb, ob, none⟩) n c) n (slVs (L)) rfl HO1.out (wr.heap.size + 1) (some ⟨wr.heap.size, 0, none⟩) 1 1 (slVs [t]) rfl (slVs_length _) HR1.out (slVs_one _) (by unfold maxLen; omega) (by omega) Hsz.out ?_); intro v8 w8 hown8 hbw8 hgr8 hblk8; obtain ⟨A8, c8, rfl, _, _, _⟩ := own_slice hown8; have HO8 := Lib.hid hown8; have Hb8 := Lib.hid (Hb1.out.trans hbw8); clear hown8 hbw8 hgr8 hblk8)
                have HSn : Hid (Sls w8 w8.heap.size (.slice A8 (n + 1) c8) (L ++ [t])) := Lib.hid (Sls.of_own (by rw [slVs_append]; exact HO8.out))
                have HT8 := Lib.hid (HTW.out.on Hb8.out)
                have HB8 := Lib.hid (bstep HBW.out Hb8.out)
                have F7 := Lib.hid (show Ed.Fit ⟨6, ⟨#[]⟩, 0, 0, L ++ [t]⟩ from ⟨(by decide : (-9223372036854775808 : Int) ≤ 6), (by decide : (6 : Int) < 9223372036854775808), (by decide : (⟨#[]⟩ : ByteArray).size ≤ 9223372036854775807), (by decide : 0 < 18446744073709551616), (by decide : 0 < 4294967296), (by show (L ++ [t]).length ≤ _; rw [HnL.out]; omega), Hft.out⟩)
                refine (eput_no _ ⟨6, ⟨#[]⟩, 0, 0, L ++ [t]⟩ _ ⟨_, rfl, HSn.out⟩ F7.out HT8.out (no_full Hno.out)).mono ?_
                rintro e wx ⟨rfl, hb⟩
                have HT := Lib.hid (HT8.out.on hb)
                have HB := Lib.hid (bstep HB8.out hb)
                clear hb b0 b1 b2 b3 b4
                go_wp2_with fail
                refine (wakes9 _ HT.out).mono ?_
                rintro e wf ⟨rfl, hb⟩
                have HB := Lib.hid (bstep HB.out hb)
                clear hb
                go_wp2_with fail
                go_ret
                exact ⟨rfl, HB.out⟩
  · skip
    refine wp_region_noPanic ?_
    refine wp_region_held_drew (S := fun w' : World => w'.cell? ⟨wc.heap.size, 4, none⟩ = some (.slice (some ⟨g5, o5, none⟩) 1 c5) ∧ (w'.cell? ⟨w.heap.size, 0, none⟩ = some (.int .u32 s.id) ∧ w'.cell? ⟨w.heap.size, 1, none⟩ = some (.int .u32 s.size) ∧ w'.cell? ⟨w.heap.size, 2, none⟩ = some (.int .u32 s.many) ∧ w'.cell? ⟨w.heap.size, 3, none⟩ = some (.int .u64 s.first) ∧ w'.cell? ⟨w.heap.size, 4, none⟩ = some (.int .u64 s.last)) ∧ (w'.cell? ⟨g5, o5, none⟩ = some (.int .u32 s.id) ∧ w'.cell? ⟨g5, o5 + 1, none⟩ = some (.int .u32 s.size) ∧ w'.cell? ⟨g5, o5 + 2, none⟩ = some (.int .u32 s.many) ∧ w'.cell? ⟨g5, o5 + 3, none⟩ = some (.int .u64 s.first) ∧ w'.cell? ⟨g5, o5 + 4, none⟩ = some (.int .u64 s.last))) (by kernel_rfl) (HSC.out) (fun hHeld => ?_)
    have HS := Lib.hid HS.out.drew
    have HB := Lib.hid HB.out.drew
    have HT : Hid (ETab (World.drew _)) := Lib.hid (HT.out.on (below_drewN (Below.refl _ _) 1))
    generalize hWW : World.drew _ = W at *
    clear hWW
    refine wpAnyH_take (i := 0) (v := ?_) opAt_0 (by kernel_rfl) (by kernel_rfl) (by kernel_rfl) (fun _ _ _ h => h) (Or.inl ⟨by rfl, ?_⟩) (by assumption) ?_
    rotate_left
    · (intro w hSw; (try dsimp only at hSw); go_simp; try with_reducible rfl)
    try simp only [Act.put, List.setIfInBounds_toArray, List.set_cons_zero, List.set_cons_succ]
    refine wpAnyH_take (i := 1) (v := ?_) opAt_1 (by kernel_rfl) (by kernel_rfl) (by kernel_rfl) (fun _ _ _ h => h) (Or.inl ⟨by rfl, ?_⟩) (by assumption) ?_
    rotate_left
    · (intro w hSw; (try dsimp only at hSw); go_simp; try with_reducible rfl)
    try simp only [Act.put, List.setIfInBounds_toArray, List.set_cons_zero, List.set_cons_succ]
    refine wpAnyH_take (i := 2) (v := ?_) opAt_2 (by kernel_rfl) (by kernel_rfl) (by kernel_rfl) (fun _ _ _ h => h) (Or.inl ⟨by rfl, ?_⟩) (by assumption) ?_
    rotate_left
    · (intro w hSw; (try dsimp only at hSw); go_simp; try with_reducible rfl)
    try simp only [Act.put, List.setIfInBounds_toArray, List.set_cons_zero, List.set_cons_succ]
    refine wpAnyH_take (i := 3) (v := ?_) opAt_3 (by kernel_rfl) (by kernel_rfl) (by kernel_rfl) (fun _ _ _ h => h) (Or.inl ⟨by rfl, ?_⟩) (by assumption) ?_
    rotate_left
    · (intro w hSw; (try dsimp only at hSw); go_simp; try with_reducible rfl)
    try simp only [Act.put, List.setIfInBounds_toArray, List.set_cons_zero, List.set_cons_succ]
    refine wpAnyH_take (i := 4) (v := ?_) opAt_4 (by kernel_rfl) (by kernel_rfl) (by kernel_rfl) (fun _ _ _ h => h) (Or.inl ⟨by rfl, ?_⟩) (by assumption) ?_
    rotate_left
    · (intro w hSw; (try dsimp only at hSw); go_simp; try with_reducible rfl)
    try simp only [Act.put, List.setIfInBounds_toArray, List.set_cons_zero, List.set_cons_succ]
    refine wpAnyH_take (i := 5) (v := ?_) opAt_5 (by kernel_rfl) (by kernel_rfl) (by kernel_rfl) (fun _ _ _ h => h) (Or.inl ⟨by rfl, ?_⟩) (by assumption) ?_
    rotate_left
    · (intro w hSw; (try dsimp only at hSw); go_simp; try with_reducible rfl)
    try simp only [Act.put, List.setIfInBounds_toArray, List.set_cons_zero, List.set_cons_succ]
    refine wpAnyH_take (i := 6) (v := ?_) opAt_6 (by kernel_rfl) (by kernel_rfl) (by kernel_rfl) (fun _ _ _ h => h) (Or.inl ⟨by rfl, ?_⟩) (by assumption) ?_
    rotate_left
    · (intro w hSw; (try dsimp only at hSw); go_simp; try with_reducible rfl)
    try simp only [Act.put, List.setIfInBounds_toArray, List.set_cons_zero, List.set_cons_succ]
    refine wpAnyH_take (i := 7) (v := ?_) opAt_7 (by kernel_rfl) (by kernel_rfl) (by kernel_rfl) (fun _ _ _ h => h) (Or.inl ⟨by rfl, ?_⟩) (by assumption) ?_
    rotate_left
    · (intro w hSw; (try dsimp only at hSw); go_simp; try with_reducible rfl)
    try simp only [Act.put, List.setIfInBounds_toArray, List.set_cons_zero, List.set_cons_succ]
    refine wpAnyH_take (i := 8) (v := ?_) opAt_8 (by kernel_rfl) (by kernel_rfl) (by kernel_rfl) (fun _ _ _ h => h) (Or.inl ⟨by rfl, ?_⟩) (by assumption) ?_
    rotate_left
    · (intro w hSw; (try dsimp only at hSw); go_simp; try with_reducible rfl)
    try simp only [Act.put, List.setIfInBounds_toArray, List.set_cons_zero, List.set_cons_succ]
    refine wpAnyH_take (i := 9) (v := ?_) opAt_9 (by kernel_rfl) (by kernel_rfl) (by kernel_rfl) (fun _ _ _ h => h) (Or.inl ⟨by rfl, ?_⟩) (by assumption) ?_
    rotate_left
    · (intro w hSw; (try dsimp only at hSw); go_simp; try with_reducible rfl)
    try simp only [Act.put, List.setIfInBounds_toArray, List.set_cons_zero, List.set_cons_succ]
    refine wpAnyH_take (i := 10) (v := ?_) opAt_10 (by kernel_rfl) (by kernel_rfl) (by kernel_rfl) (fun _ _ _ h => h) (Or.inl ⟨by rfl, ?_⟩) (by assumption) ?_
    rotate_left
    · (intro w hSw; (try dsimp only at hSw); go_simp; try with_reducible rfl)
    try simp only [Act.put, List.setIfInBounds_toArray, List.set_cons_zero, List.set_cons_succ]
    refine wpAnyH_take (i := 11) (v := ?_) opAt_11 (by kernel_rfl) (by kernel_rfl) (by kernel_rfl) (fun _ _ _ h => h) (Or.inl ⟨by rfl, ?_⟩) (by assumption) ?_
    rotate_left
    · (intro w hSw; (try dsimp only at hSw); go_simp; try with_reducible rfl)
    try simp only [Act.put, List.setIfInBounds_toArray, List.set_cons_zero, List.set_cons_succ]
    refine wpAnyH_take (i := 12) (v := ?_) opAt_12 (by kernel_rfl) (by kernel_rfl) (by kernel_rfl) (fun _ _ _ h => h) (Or.inl ⟨by rfl, ?_⟩) (by assumption) ?_
    rotate_left
    · (intro w hSw; (try dsimp only at hSw); go_simp; try with_reducible rfl)
    try simp only [Act.put, List.setIfInBounds_toArray, List.set_cons_zero, List.set_cons_succ]
    refine wpAnyH_take (i := 13) (v := ?_) opAt_13 (by kernel_rfl) (by kernel_rfl) (by kernel_rfl) (fun _ _ _ h => h) (Or.inl ⟨by rfl, ?_⟩) (by assumption) ?_
    rotate_left
    · (intro w hSw; (try dsimp only at hSw); go_simp; try with_reducible rfl)
    try simp only [Act.put, List.setIfInBounds_toArray, List.set_cons_zero, List.set_cons_succ]
    refine wpAnyH_take (i := 14) (v := ?_) opAt_14 (by kernel_rfl) (by kernel_rfl) (by kernel_rfl) (fun _ _ _ h => h) (Or.inl ⟨by rfl, ?_⟩) (by assumption) ?_
    rotate_left
    · (intro w hSw; (try dsimp only at hSw); go_simp; try with_reducible rfl)
    try simp only [Act.put, List.setIfInBounds_toArray, List.set_cons_zero, List.set_cons_succ]
    refine wpAnyH_take (i := 15) (v := ?_) opAt_15 (by kernel_rfl) (by kernel_rfl) (by kernel_rfl) (fun _ _ _ h => h) (Or.inl ⟨by rfl, ?_⟩) (by assumption) ?_
    rotate_left
    · (intro w hSw; (try dsimp only at hSw); go_simp; try with_reducible rfl)
    try simp only [Act.put, List.setIfInBounds_toArray, List.set_cons_zero, List.set_cons_succ]
    refine wpAnyH_take (i := 16) (v := ?_) opAt_16 (by kernel_rfl) (by kernel_rfl) (by kernel_rfl) (fun _ _ _ h => h) (Or.inl ⟨by rfl, ?_⟩) (by assumption) ?_
    rotate_left
    · (intro w hSw; (try dsimp only at hSw); go_simp; try with_reducible rfl)
    try simp only [Act.put, List.setIfInBounds_toArray, List.set_cons_zero, List.set_cons_succ]
    refine wpAnyH_take (i := 17) (v := ?_) opAt_17 (by kernel_rfl) (by kernel_rfl) (by kernel_rfl) (fun _ _ _ h => h) (Or.inl ⟨by rfl, ?_⟩) (by assumption) ?_
    rotate_left
    · (intro w hSw; (try dsimp only at hSw); go_simp; try with_reducible rfl)
    try simp only [Act.put, List.setIfInBounds_toArray, List.set_cons_zero, List.set_cons_succ]
    refine wpAnyH_take (i := 18) (v := ?_) opAt_18 (by kernel_rfl) (by kernel_rfl) (by kernel_rfl) (fun _ _ _ h => h) (Or.inl ⟨by rfl, ?_⟩) (by assumption) ?_
    rotate_left
    · (intro w hSw; (try dsimp only at hSw); go_simp; try with_reducible rfl)
    try simp only [Act.put, List.setIfInBounds_toArray, List.set_cons_zero, List.set_cons_succ]
    refine wpAnyH_take (i := 19) (v := ?_) opAt_19 (by kernel_rfl) (by kernel_rfl) (by kernel_rfl) (fun _ _ _ h => h) (Or.inl ⟨by rfl, ?_⟩) (by assumption) ?_
    rotate_left
    · (intro w hSw; (try dsimp only at hSw); go_simp; try with_reducible rfl)
    try simp only [Act.put, List.setIfInBounds_toArray, List.set_cons_zero, List.set_cons_succ]
    refine wpAnyH_take (i := 20) (v := ?_) opAt_20 (by kernel_rfl) (by kernel_rfl) (by kernel_rfl) (fun _ _ _ h => h) (Or.inl ⟨by rfl, ?_⟩) (by assumption) ?_
    rotate_left
    · (intro w hSw; (try dsimp only at hSw); go_simp; try with_reducible rfl)
    try simp only [Act.put, List.setIfInBounds_toArray, List.set_cons_zero, List.set_cons_succ]
    refine wpAnyH_take (i := 21) (v := ?_) opAt_21 (by kernel_rfl) (by kernel_rfl) (by kernel_rfl) (fun _ _ _ h => h) (Or.inl ⟨by rfl, ?_⟩) (by assumption) ?_
    rotate_left
    · (intro w hSw; (try dsimp only at hSw); go_simp; try with_reducible rfl)
    try simp only [Act.put, List.setIfInBounds_toArray, List.set_cons_zero, List.set_cons_succ]
    refine wpAnyH_take (i := 22) (v := ?_) opAt_22 (by kernel_rfl) (by kernel_rfl) (by kernel_rfl) (fun _ _ _ h => h) (Or.inl ⟨by rfl, ?_⟩) (by assumption) ?_
    rotate_left
    · (intro w hSw; (try dsimp only at hSw); go_simp; try with_reducible rfl)
    try simp only [Act.put, List.setIfInBounds_toArray, List.set_cons_zero, List.set_cons_succ]
    refine wpAnyH_take (i := 23) (v := ?_) opAt_23 (by kernel_rfl) (by kernel_rfl) (by kernel_rfl) (fun _ _ _ h => h) (Or.inl ⟨by rfl, ?_⟩) (by assumption) ?_
    rotate_left
    · (intro w hSw; (try dsimp only at hSw); go_simp; try with_reducible rfl)
    try simp only [Act.put, List.setIfInBounds_toArray, List.set_cons_zero, List.set_cons_succ]
    refine wpAnyH_take (i := 24) (v := ?_) opAt_24 (by kernel_rfl) (by kernel_rfl) (by kernel_rfl) (fun _ _ _ h => h) (Or.inl ⟨by rfl, ?_⟩) (by assumption) ?_
    rotate_left
    · (intro w hSw; (try dsimp only at hSw); go_simp; try with_reducible rfl)
    try simp only [Act.put, List.setIfInBounds_toArray, List.set_cons_zero, List.set_cons_succ]
    refine wpAnyH_take (i := 25) (v := undef) opAt_25 (by kernel_rfl) (by kernel_rfl) (by kernel_rfl) (fun _ _ _ h => h) (Or.inr ⟨by rfl, rfl⟩) (by assumption) ?_
    try simp only [Act.put, List.setIfInBounds_toArray, List.set_cons_zero, List.set_cons_succ]
    refine wpAnyH_take (i := 26) (v := undef) opAt_26 (by kernel_rfl) (by kernel_rfl) (by kernel_rfl) (fun _ _ _ h => h) (Or.inr ⟨by rfl, rfl⟩) (by assumption) ?_
    try simp only [Act.put, List.setIfInBounds_toArray, List.set_cons_zero, List.set_cons_succ]
    refine wpAnyH_take (i := 27) (v := undef) opAt_27 (by kernel_rfl) (by kernel_rfl) (by kernel_rfl) (fun _ _ _ h => h) (Or.inr ⟨by rfl, rfl⟩) (by assumption) ?_
    try simp only [Act.put, List.setIfInBounds_toArray, List.set_cons_zero, List.set_cons_succ]
    refine wpAnyH_take (i := 28) (v := undef) opAt_28 (by kernel_rfl) (by kernel_rfl) (by kernel_rfl) (fun _ _ _ h => h) (Or.inr ⟨by rfl, rfl⟩) (by assumption) ?_
    try simp only [Act.put, List.setIfInBounds_toArray, List.set_cons_zero, List.set_cons_succ]
    refine wpAnyH_take (i := 29) (v := undef) opAt_29 (by kernel_rfl) (by kernel_rfl) (by kernel_rfl) (fun _ _ _ h => h) (Or.inr ⟨by rfl, rfl⟩) (by assumption) ?_
    try simp only [Act.put, List.setIfInBounds_toArray, List.set_cons_zero, List.set_cons_succ]
    refine wpAnyH_take (i := 30) (v := undef) opAt_30 (by kernel_rfl) (by kernel_rfl) (by kernel_rfl) (fun _ _ _ h => h) (Or.inr ⟨by rfl, rfl⟩) (by assumption) ?_
    try simp only [Act.put, List.setIfInBounds_toArray, List.set_cons_zero, List.set_cons_succ]
    refine wpAnyH_take (i := 31) (v := undef) opAt_31 (by kernel_rfl) (by kernel_rfl) (by kernel_rfl) (fun _ _ _ h => h) (Or.inr ⟨by rfl, rfl⟩) (by assumption) ?_
    try simp only [Act.put, List.setIfInBounds_toArray, List.set_cons_zero, List.set_cons_succ]
    refine wpAnyH_take (i := 32) (v := undef) opAt_32 (by kernel_rfl) (by kernel_rfl) (by kernel_rfl) (fun _ _ _ h => h) (Or.inr ⟨by rfl, rfl⟩) (by assumption) ?_
    try simp only [Act.put, List.setIfInBounds_toArray, List.set_cons_zero, List.set_cons_succ]
    refine wpAnyH_take (i := 33) (v := undef) opAt_33 (by kernel_rfl) (by kernel_rfl) (by kernel_rfl) (fun _ _ _ h => h) (Or.inr ⟨by rfl, rfl⟩) (by assumption) ?_
    try simp only [Act.put, List.setIfInBounds_toArray, List.set_cons_zero, List.set_cons_succ]
    refine wpAnyH_take (i := 34) (v := undef) opAt_34 (by kernel_rfl) (by kernel_rfl) (by kernel_rfl) (fun _ _ _ h => h) (Or.inr ⟨by rfl, rfl⟩) (by assumption) ?_
    try simp only [Act.put, List.setIfInBounds_toArray, List.set_cons_zero, List.set_cons_succ]
    refine wpAnyH_take (i := 35) (v := ?_) opAt_35 (by kernel_rfl) (by kernel_rfl) (by kernel_rfl) (fun _ _ _ h => h) (Or.inl ⟨by rfl, ?_⟩) (by assumption) ?_
    rotate_left
    · (intro w hSw; (try dsimp only at hSw); go_simp; try with_reducible rfl)
    try simp only [Act.put, List.setIfInBounds_toArray, List.set_cons_zero, List.set_cons_succ]
    refine wpAnyH_take (i := 36) (v := ?_) opAt_36 (by kernel_rfl) (by kernel_rfl) (by kernel_rfl) (fun _ _ _ h => h) (Or.inl ⟨by rfl, ?_⟩) (by assumption) ?_
    rotate_left
    · (intro w hSw; (try dsimp only at hSw); go_simp; try with_reducible rfl)
    try simp only [Act.put, List.setIfInBounds_toArray, List.set_cons_zero, List.set_cons_succ]
    refine wpAnyH_done (by kernel_rfl) ?_ _
    refine NoPanic.normal ?_
    clear hHeld hne HSC HY XD
    have q1 : IntKind.u32.wrap ((n1 % 21 : Nat) : Int) = ((n1 % 21 : Nat) : Int) := IntWalk.u32_in _ (by omega)
    have q2 : IntKind.u32.wrap ((n2 % 21 : Nat) : Int) = ((n2 % 21 : Nat) : Int) := IntWalk.u32_in _ (by omega)
    have p1 : (n1 : Int) % 21 = ((n1 % 21 : Nat) : Int) := by simp
    have p2 : (n2 : Int) % 21 = ((n2 % 21 : Nat) : Int) := by simp
    have ha21 : n1 % 21 ≤ 20 := by omega
    have hb21 : n2 % 21 ≤ 20 := by omega
    generalize n1 % 21 = a at *
    generalize n2 % 21 = b at *
    have hsm := Hm.out
    simp only [Ed.mayS, decide_eq_true_eq] at hsm
    have hid1 := hsm.1
    have hid2 := hsm.2.1
    have hlast : s.last ≤ 1099511627776 := by omega
    obtain ⟨i0, hi0, hz0, hz1, hz2⟩ := info_parts seal_info
    clear hsm
    go_wp2_with fail
    rw [p1]
    go_loopg [13, 94] a (fun q v iv wr => ∃ (i : Nat) (A : Option Addr) (c : Nat), i + q = a ∧ iv = .int .u32 i ∧ v = .slice A (aheadL s.id i).length c ∧ wr.ownsRow W.heap.size 28 5 (.slice A (aheadL s.id i).length c) (aheadL s.id i).length (slVs (aheadL s.id i)) ∧ Below W.heap.size W wr)
    case atStart => exact ⟨0, none, 0, by omega, rfl, rfl, World.ownsRow_nil _ _ _ _, Below.refl _ _⟩
    case round =>
      obtain ⟨i, A, c, hi, rfl, rfl, hown, hb⟩ := hrel
      have HO := Lib.hid hown
      have Hb := Lib.hid hb
      obtain ⟨x0, x1, x2, x3, x4⟩ := (HS.out.on hb).at5
      have hlen := aheadL_len s.id i
      clear hown hb
      by_cases hlt : i < a
      · have z1 : IntKind.u32.wrap ((i : Int) + 1) = (i : Int) + 1 := IntWalk.u32_in _ (by omega)
        by_cases hc : i + 1 < s.id
        · have hc' : (i : Int) + 1 < (s.id : Int) := by omega
          have hbl := bnew wr (.cells #[.int .u32 ((i : Int) + 1), .int .u32 16, .int .u32 0, .int .u64 0, .int .u64 0] 28)
          have hR1 : Rd (wr.alloc (.cells #[.int .u32 ((i : Int) + 1), .int .u32 16, .int .u32 0, .int .u64 0, .int .u64 0] 28)) (wr.heap.size + 1) (some ⟨wr.heap.size, 0, none⟩) (slVs [⟨i + 1, 16, 0, 0, 0⟩]) := Rd_one wr ⟨i + 1, 16, 0, 0, 0⟩ 28
          have HR1 := Lib.hid hR1
          have HO1 := Lib.hid (own_below HO.out hbl (Nat.le_refl _))
          have Hb1 := Lib.hid (Hb.out.trans (hbl.mono Hb.out.size))
          have Hsz := Lib.hid (Nat.le_trans Hb.out.size hbl.size)
          have hal : aheadL s.id (i + 1) = aheadL s.id i ++ [⟨i + 1, 16, 0, 0, 0⟩] := by simp only [aheadL, if_pos hc]
          have Hal := Lib.hid hal
          clear hbl hR1 hal
          generalize hnn : (aheadL s.id i).length = nn at *
          have Hnn := Lib.hid hnn
          clear hnn
          go_wp2_with (at_builtin; (refine wpList_append_rd _ rfl _ _ 24 rfl W.heap.size 28 i0 (.agg #[.int .u32 0, .int .u32 0, .int .u32 0, .int .u64 0, .int .u64 0]) 5 32 Tryd.underlying24 hi0 hz0 hz1 hz2 rfl (by omega) (.slice A nn c) nn (slVs (aheadL s.id i)) rfl HO1.out (wr.heap.size + 1) (some ⟨wr.heap.size, 0, none⟩) 1 1 (slVs [⟨i + 1, 16, 0, 0, 0⟩]) rfl (slVs_length _) HR1.out (slVs_one _) (by unfold maxLen; omega) (by omega) Hsz.out ?_); intro v8 w8 hown8 hbw8 hgr8 hblk8; obtain ⟨A8, c8, rfl, _, _, _⟩ := own_slice hown8; have HO8 := Lib.hid hown8; have Hb8 := Lib.hid (Hb1.out.trans hbw8); clear hown8 hbw8 hgr8 hblk8)
          go_roundg (gk - 1)
          case measure => omega
          case rel =>
            have e8 : (aheadL s.id (i + 1)).length = nn + 1 := by rw [Hal.out, List.length_append, Hnn.out]; rfl
            refine ⟨i + 1, A8, c8, by omega, by go_num, by rw [e8], ?_, Hb8.out⟩
            rw [e8, Hal.out, slVs_append]
            exact HO8.out
        · have hc' : ¬ (i : Int) + 1 < (s.id : Int) := by omega
          have hal : aheadL s.id (i + 1) = aheadL s.id i := by simp only [aheadL, if_neg hc, List.append_nil]
          have Hal := Lib.hid hal
          clear hal
          go_wp2_with fail
          go_roundg (gk - 1)
          case measure => omega
          case rel => exact ⟨i + 1, A, c, by omega, by go_num, by rw [Hal.out], by rw [Hal.out]; exact HO.out, Hb.out⟩
      · obtain rfl : i = a := by omega
        clear hi hlt
        generalize hnn : (aheadL s.id i).length = nn at *
        have Hnn := Lib.hid hnn
        clear hnn
        have hbl := bnew wr (.cells #[.int .u32 s.id, .int .u32 s.size, .int .u32 s.many, .int .u64 s.first, .int .u64 s.last] 28)
        have HR1 := Lib.hid (Rd_one wr s 28)
        have HO1 := Lib.hid (own_below HO.out hbl (Nat.le_refl _))
        have Hb1 := Lib.hid (Hb.out.trans (hbl.mono Hb.out.size))
        have Hsz := Lib.hid (Nat.le_trans Hb.out.size hbl.size)
        clear hbl
        go_wp2_with (at_builtin; (refine wpList_append_rd _ rfl _ _ 24 rfl W.heap.size 28 i0 (.agg #[.int .u32 0, .int .u32 0, .int .u32 0, .int .u64 0, .int .u64 0]) 5 32 Tryd.underlying24 hi0 hz0 hz1 hz2 rfl (by omega) (.slice A nn c) nn (slVs (aheadL s.id i)) rfl HO1.out (wr.heap.size + 1) (some ⟨wr.heap.size, 0, none⟩) 1 1 (slVs [s]) rfl (slVs_length _) HR1.out (slVs_one _) (by unfold maxLen; omega) (by omega) Hsz.out ?_); intro v8 w8 hown8 hbw8 hgr8 hblk8; obtain ⟨A8, c8, rfl, _, _, _⟩ := own_slice hown8; have HO8 := Lib.hid hown8; have Hb8 := Lib.hid (Hb1.out.trans hbw8); clear hown8 hbw8 hgr8 hblk8)
        have HOx : Hid (w8.ownsRow W.heap.size 28 5 (.slice A8 (nn + 1) c8) (nn + 1) (slVs (aheadL s.id i ++ [s]))) := Lib.hid (by rw [slVs_append]; exact HO8.out)
        clear HO HO1 HR1 Hb Hb1 Hsz x0 x1 x2 x3 x4 HO8
        rw [p2]
        go_loopg [13, 116] b (fun q v jv wr => ∃ (j : Nat) (A : Option Addr) (c n : Nat), j + q = b ∧ jv = .int .u32 j ∧ v = .slice A n c ∧ n = (aheadL s.id i ++ [s] ++ behindL s.id j).length ∧ wr.ownsRow W.heap.size 28 5 (.slice A n c) n (slVs (aheadL s.id i ++ [s] ++ behindL s.id j)) ∧ Below W.heap.size W wr)
        case atStart => exact ⟨0, A8, c8, nn + 1, by omega, rfl, rfl, by simp [behindL, Hnn.out], by simpa [behindL] using HOx.out, Hb8.out⟩
        case round =>
          obtain ⟨j, A, c, n, hj, rfl, rfl, hn, hown, hb⟩ := hrel
          have HO := Lib.hid hown
          have Hb := Lib.hid hb
          have Hn := Lib.hid hn
          obtain ⟨x0, x1, x2, x3, x4⟩ := (HS.out.on hb).at5
          have hn60 : n ≤ 60 := by have := behindL_len s.id j; have := Hnn.out; rw [hn]; simp only [List.length_append, List.length_cons, List.length_nil]; omega
          clear hown hb hn
          by_cases hlt : j < b
          · have z1 : IntKind.u32.wrap ((s.id : Int) + (j : Int)) = (s.id : Int) + (j : Int) := IntWalk.u32_in _ (by omega)
            have z2 : IntKind.u32.wrap ((s.id : Int) + (j : Int) + 1) = (s.id : Int) + (j : Int) + 1 := IntWalk.u32_in _ (by omega)
            have z3 : IntKind.u64.wrap (j : Int) = (j : Int) := IntWalk.u64_in _ (by omega)
            have z4 : IntKind.u64.wrap ((j : Int) + 1) = (j : Int) + 1 := IntWalk.u64_in _ (by omega)
            by_cases hc : s.id + j < 16777215
            · have hc' : (s.id : Int) + (j : Int) < 16777215 := by omega
              have hbl := bnew wr (.cells #[.int .u32 ((s.id : Int) + (j : Int) + 1), .int .u32 16777216, .int .u32 1, .int .u64 ((j : Int) + 1), .int .u64 1099511627776] 28)
              have hR1 : Rd (wr.alloc (.cells #[.int .u32 ((s.id : Int) + (j : Int) + 1), .int .u32 16777216, .int .u32 1, .int .u64 ((j : Int) + 1), .int .u64 1099511627776] 28)) (wr.heap.size + 1) (some ⟨wr.heap.size, 0, none⟩) (slVs [⟨s.id + j + 1, 16777216, 1, j + 1, 1099511627776⟩]) := Rd_one wr ⟨s.id + j + 1, 16777216, 1, j + 1, 1099511627776⟩ 28
              have HR1 := Lib.hid hR1
              have HO1 := Lib.hid (own_below HO.out hbl (Nat.le_refl _))
              have Hb1 := Lib.hid (Hb.out.trans (hbl.mono Hb.out.size))
              have Hsz := Lib.hid (Nat.le_trans Hb.out.size hbl.size)
              have Hal := Lib.hid (show behindL s.id (j + 1) = behindL s.id j ++ [⟨s.id + j + 1, 16777216, 1, j + 1, 1099511627776⟩] by simp only [behindL, if_pos hc])
              clear hbl hR1
              go_wp2_with (at_builtin; (refine wpList_append_rd _ rfl _ _ 24 rfl W.heap.size 28 i0 (.agg #[.int .u32 0, .int .u32 0, .int .u32 0, .int .u64 0, .int .u64 0]) 5 32 Tryd.underlying24 hi0 hz0 hz1 hz2 rfl (by omega) (.slice A n c) n (slVs (aheadL s.id i ++ [s] ++ behindL s.id j)) rfl HO1.out (wr.heap.size + 1) (some ⟨wr.heap.size, 0, none⟩) 1 1 (slVs [⟨s.id + j + 1, 16777216, 1, j + 1, 1099511627776⟩]) rfl (slVs_length _) HR1.out (slVs_one _) (by unfold maxLen; omega) (by omega) Hsz.out ?_); intro v8 w8 hown8 hbw8 hgr8 hblk8; obtain ⟨A8, c8, rfl, _, _, _⟩ := own_slice hown8; have HO8 := Lib.hid hown8; have Hb8 := Lib.hid (Hb1.out.trans hbw8); clear hown8 hbw8 hgr8 hblk8)
              go_roundg (gk - 1)
              case measure => omega
              case rel =>
                refine ⟨j + 1, A8, c8, n + 1, by omega, by go_num, rfl, ?_, ?_, Hb8.out⟩
                · rw [Hn.out, Hal.out]
                  simp only [List.length_append, List.length_cons, List.length_nil]
                  omega
                · rw [Hal.out, ← List.append_assoc, slVs_append]
                  exact HO8.out
            · have hc' : ¬ (s.id : Int) + (j : Int) < 16777215 := by omega
              have Hal := Lib.hid (show behindL s.id (j + 1) = behindL s.id j by simp only [behindL, if_neg hc, List.append_nil])
              go_wp2_with fail
              go_roundg (gk - 1)
              case measure => omega
              case rel => exact ⟨j + 1, A, c, n, by omega, by go_num, rfl, by rw [Hal.out]; exact Hn.out, by rw [Hal.out]; exact HO.out, Hb.out⟩
          · obtain rfl : j = b := by omega
            clear hj hlt
            have hfl : aheadL s.id i ++ [s] ++ behindL s.id j = full s i j := rfl
            rw [hfl] at HO Hn
            have Hup := Lib.hid (full_up Hm.out i j (by omega))
            have Hff := Lib.hid (full_fit Hm.out i j (by omega))
            have hl1 := (full_len s i j).1
            clear hfl
            generalize full s i j = L at *
            have hb := Hb.out
            have HTW := HT
            have HBW := HB
            have HT := Lib.hid (HT.out.on hb)
            have HSL : Hid (Sls wr wr.heap.size (.slice A n c) L) := Lib.hid (by have := HO.out; exact Sls.of_own this)
            clear hb
            have hnL := Hn.out
            have hL200 : L.length ≤ 200 := by omega
            have HLn := Lib.hid (show 1 ≤ n by omega)
            clear hl1
            have H6 := Lib.hid (may_full (q := s.last) Hup.out hL200 hlast)
            have F6 := Lib.hid (show Ed.Fit ⟨6, ⟨#[]⟩, s.last, 0, L⟩ from ⟨(by decide : (-9223372036854775808 : Int) ≤ 6), (by decide : (6 : Int) < 9223372036854775808), (by decide : (⟨#[]⟩ : ByteArray).size ≤ 9223372036854775807), (by show s.last < _; omega), (by decide : 0 < 4294967296), (by show L.length ≤ _; omega), Hff.out⟩)
            clear hnL hL200 p1 p2 q1 q2 hid1 hid2 hlast
            go_wp2_with fail
            refine (eput_yes _ ⟨6, ⟨#[]⟩, s.last, 0, L⟩ _ ⟨_, rfl, HSL.out⟩ F6.out HT.out H6.out).mono ?_
            rintro e wd ⟨⟨rb, rfl, hrb⟩, hb⟩
            have KB := Lib.hid hrb
            have HT := Lib.hid (HT.out.on hb)
            have Hb := Lib.hid (Hb.out.trans (hb.mono Hb.out.size))
            have HO := Lib.hid (own_below HO.out hb (Nat.le_refl _))
            have HSL := Lib.hid (HSL.out.on hb)
            clear hb hrb x0 x1 x2 x3 x4
            go_wp2_with fail
            refine (eget_b _ (Ed.bytesE ⟨6, ⟨#[]⟩, s.last, 0, L⟩) _ KB.out (Ed.bytesE_len H6.out) HT.out).mono ?_
            rw [Ed.getR_ok (Ed.get_bytes H6.out)]
            rintro e we ⟨⟨ev, rfl, hev⟩, hb⟩
            obtain ⟨A6, c6, rfl, hs6⟩ := edit_form6 hev Hn.out
            have HT := Lib.hid (HT.out.on hb)
            have Hb := Lib.hid (Hb.out.trans (hb.mono Hb.out.size))
            have HO := Lib.hid (own_below HO.out hb (Nat.le_refl _))
            have HSL := Lib.hid (HSL.out.on hb)
            have hs6 := hs6
            have hb2 := bnew we (.cells #[.int .i64 6, .string ⟨#[]⟩, .int .u64 s.last, .int .u32 0, .slice A6 n c6] 26)
            have YD := Lib.hid (Bx.new we #[.int .i64 6, .string ⟨#[]⟩, .int .u64 s.last, .int .u32 0, .slice A6 n c6] 26 _ rfl)
            have hs6' : Hid (Sls (we.alloc (.cells #[.int .i64 6, .string ⟨#[]⟩, .int .u64 s.last, .int .u32 0, .slice A6 n c6] 26)) (we.alloc (.cells #[.int .i64 6, .string ⟨#[]⟩, .int .u64 s.last, .int .u32 0, .slice A6 n c6] 26)).heap.size (.slice A6 n c6) L) := Lib.hid (hs6.on hb2)
            have HT := Lib.hid (HT.out.on hb2)
            have Hb := Lib.hid (Hb.out.trans (hb2.mono Hb.out.size))
            have HO := Lib.hid (own_below HO.out hb2 (Nat.le_refl _))
            have HSL := Lib.hid (HSL.out.on hb2)
            have hyd := YD.out.cell 4 _ rfl
            clear hb hb2 KB hev hs6
            go_wp2_with fail
            clear hyd
            generalize hwy : we.alloc _ = wy at *
            clear hwy
            go_loopg [166] n (fun q iv wr => ∃ j : Nat, j + q = n ∧ iv = .int .i64 j ∧ Below wy.heap.size wy wr)
            case atStart => exact ⟨0, by omega, rfl, Below.refl _ _⟩
            case round =>
              obtain ⟨j2, hj2, rfl, hb⟩ := hrel
              have Hbl := Lib.hid hb
              clear hb
              by_cases hlt : j2 < n
              · obtain ⟨t, ht⟩ : ∃ t, L[j2]? = some t := ⟨_, List.getElem?_eq_getElem (by rw [← Hn.out]; exact hlt)⟩
                obtain ⟨ga, oa, cca, hA, hga, a0, a1, a2, a3, a4⟩ := (hs6'.out.on Hbl.out).at ht
                injection hA with hA1 hA2 hA3
                subst hA1
                clear hA2 hA3 hga
                obtain ⟨gb, ob, ccb, hA, hgb, b0, b1, b2, b3, b4⟩ := (HSL.out.on Hbl.out).at ht
                injection hA with hA1 hA2 hA3
                subst hA1
                clear hA2 hA3 hgb
                have hyd := (YD.out.on Hbl.out).cell 4 _ rfl
                have hgs := guard_seal
                have hne := neq_seals t t
                unfold slV at hne
                rw [decide_eq_true rfl] at hne
                clear ht
                go_wp2_with fail
                go_quiet (fail)
                go_wp2_with fail
                go_roundg (gk - 1)
                case measure => omega
                case rel => exact ⟨j2 + 1, by omega, by go_num, below_drewN Hbl.out _⟩
              · obtain ⟨t, ht⟩ : ∃ t, L[0]? = some t := ⟨_, List.getElem?_eq_getElem (by rw [← Hn.out]; exact HLn.out)⟩
                have hb := Hbl.out
                have HT := Lib.hid (HT.out.on hb)
                have Hb := Lib.hid (Hb.out.trans (hb.mono Hb.out.size))
                have HO := Lib.hid (own_below HO.out hb (Nat.le_refl _))
                have HSL := Lib.hid (HSL.out.on hb)
                obtain ⟨gb, ob, ccb, hA, hgb, b0, b1, b2, b3, b4⟩ := HSL.out.at ht
                injection hA with hA1 hA2 hA3
                subst hA1
                clear hA2 hA3 hgb hb YD hs6'
                simp only [Nat.zero_mul, Nat.add_zero] at b0 b1 b2 b3 b4
                have hbl := bnew wr (.cells #[.int .u32 t.id, .int .u32 t.size, .int .u32 t.many, .int .u64 t.first, .int .u64 t.last] 28)
                have HR1 := Lib.hid (Rd_one wr t 28)
                have HO1 := Lib.hid (own_below HO.out hbl (Nat.le_refl _))
                have Hb1 := Lib.hid (Hb.out.trans (hbl.mono Hb.out.size))
                have Hsz := Lib.hid (Nat.le_trans Hb.out.size hbl.size)
                have Hno := Lib.hid (full_again Hup.out ht)
                have Hft := Lib.hid (show ∀ x ∈ L ++ [t], Ed.FitS x from fun x hx => by rcases List.mem_append.1 hx with h | h; exact Hff.out x h; rw [List.mem_singleton.1 h]; exact Hff.out t (List.mem_of_getElem? ht))
                have HnL := Lib.hid (show (L ++ [t]).length = n + 1 by rw [List.length_append, ← Hn.out]; rfl)
                clear hbl ht
                go_wp2_with (at_builtin; (refine wpList_append_rd _ rfl _ _ 24 rfl W.heap.size 28 i0 (.agg #[.int .u32 0, .int .u32 0, .int .u32 0, .int .u64 0, .int .u64 0]) 5 32 Tryd.underlying24 hi0 hz0 hz1 hz2 rfl (by omega) (.slice (some ⟨gb, ob, none⟩) n c) n (slVs (L)) rfl HO1.out (wr.heap.size + 1) (some ⟨wr.heap.size, 0, none⟩) 1 1 (slVs [t]) rfl (slVs_length _) HR1.out (slVs_one _) (by unfold maxLen; omega) (by omega) Hsz.out ?_); intro v8 w8 hown8 hbw8 hgr8 hblk8; obtain ⟨A8, c8, rfl, _, _, _⟩ := own_slice hown8; have HO8 := Lib.hid hown8; have Hb8 := Lib.hid (Hb1.out.trans hbw8); clear hown8 hbw8 hgr8 hblk8)
                have HSn : Hid (Sls w8 w8.heap.size (.slice A8 (n + 1) c8) (L ++ [t])) := Lib.hid (Sls.of_own (by rw [slVs_append]; exact HO8.out))
                have HT8 := Lib.hid (HTW.out.on Hb8.out)
                have HB8 := Lib.hid (bstep HBW.out Hb8.out)
                have F7 := Lib.hid (show Ed.Fit ⟨6, ⟨#[]⟩, 0, 0, L ++ [t]⟩ from ⟨(by decide : (-9223372036854775808 : Int) ≤ 6), (by decide : (6 : Int) < 9223372036854775808), (by decide : (⟨#[]⟩ : ByteArray).size ≤ 9223372036854775807), (by decide : 0 < 18446744073709551616), (by decide : 0 < 4294967296), (by show (L ++ [t]).length ≤ _; rw [HnL.out]; omega), Hft.out⟩)
                refine (eput_no _ ⟨6, ⟨#[]⟩, 0, 0, L ++ [t]⟩ _ ⟨_, rfl, HSn.out⟩ F7.out HT8.out (no_full Hno.out)).mono ?_
                rintro e wx ⟨rfl, hb⟩
                have HT := Lib.hid (HT8.out.on hb)
                have HB := Lib.hid (bstep HB8.out hb)
                clear hb b0 b1 b2 b3 b4
                go_wp2_with fail
                refine (wakes9 _ HT.out).mono ?_
                rintro e wf ⟨rfl, hb⟩
                have HB := Lib.hid (bstep HB.out hb)
                clear hb
                go_wp2_with fail
                go_ret
                exact ⟨rfl, HB.out⟩
end Go.Proofs.YthcmjgkdljgcbaaDoor.editSeals
