
/-
  Layer 9: the document's answer: Same.
-/
import Derived.Test.YtggijjknfcofoaaDoorEdRMay
set_option linter.unusedVariables false
set_option linter.unusedSimpArgs false
namespace Go.Proofs.YtggijjknfcofoaaDoor
open Go.RowKit

set_option maxRecDepth 100000 in
set_option maxHeartbeats 8000000 in
theorem rsame_any (v u : Value) (x y : Ed.E) (w : World) (h : EdV w w.heap.size v x) (k : EdV w w.heap.size u y) (f : Ed.Fit x) (f' : Ed.Fit y) :
    Calls Tryd.prog 15 #[v, u] w fun e w' => e = .returned (.bool (decide (x = y))) ∧ Below w.heap.size w w' := by
  obtain ⟨sv, rfl, hs⟩ := h
  obtain ⟨su, rfl, hu⟩ := k
  obtain ⟨A, c, rfl, hc, hr⟩ := id hs
  obtain ⟨A', c', rfl, hc', hr'⟩ := id hu
  obtain ⟨xk, xn, xq, xi, xs⟩ := x
  obtain ⟨yk, yn, yq, yi, ys⟩ := y
  simp only at hs hu hc hr hc' hr' ⊢
  have fm := f.many
  have fm' := f'.many
  simp only at fm fm'
  obtain ⟨q, hq⟩ : ∃ q, decide ((⟨xk, xn, xq, xi, xs⟩ : Ed.E) = ⟨yk, yn, yq, yi, ys⟩) = q := ⟨_, rfl⟩
  rw [hq]
  have HQ := Lib.hid hq
  generalize hnl : xs.length = n at *
  generalize hnm : ys.length = n' at *
  have Hnl := Lib.hid hnl
  have Hnm := Lib.hid hnm
  have b1 := balloc (bnew w (.cells #[.int .i64 xk, .string xn, .int .u64 xq, .int .u32 xi, .slice A n c] 36)) (.cells #[.int .i64 yk, .string yn, .int .u64 yq, .int .u32 yi, .slice A' n' c'] 36)
  have hX := (Bx.new w #[.int .i64 xk, .string xn, .int .u64 xq, .int .u32 xi, .slice A n c] 36 _ rfl).alloc (.cells #[.int .i64 yk, .string yn, .int .u64 yq, .int .u32 yi, .slice A' n' c'] 36)
  have hY := Bx.new (w.alloc (.cells #[.int .i64 xk, .string xn, .int .u64 xq, .int .u32 xi, .slice A n c] 36)) #[.int .i64 yk, .string yn, .int .u64 yq, .int .u32 yi, .slice A' n' c'] 36 _ rfl
  rw [show (w.alloc (.cells #[.int .i64 xk, .string xn, .int .u64 xq, .int .u32 xi, .slice A n c] 36)).heap.size = w.heap.size + 1 by simp] at hY
  obtain ⟨x0, x1, x2, x3, x4⟩ : _ ∧ _ ∧ _ ∧ _ ∧ _ := ⟨hX.cell 0 _ rfl, hX.cell 1 _ rfl, hX.cell 2 _ rfl, hX.cell 3 _ rfl, hX.cell 4 _ rfl⟩
  obtain ⟨y0, y1, y2, y3, y4⟩ : _ ∧ _ ∧ _ ∧ _ ∧ _ := ⟨hY.cell 0 _ rfl, hY.cell 1 _ rfl, hY.cell 2 _ rfl, hY.cell 3 _ rfl, hY.cell 4 _ rfl⟩
  have Hb := Lib.hid b1
  have HX := Lib.hid hX
  have HY := Lib.hid hY
  have HA := Lib.hid (hs.below b1 (Nat.le_refl _))
  have HB := Lib.hid (hu.below b1 (Nat.le_refl _))
  clear hs hu b1 hX hY hr hr' hc hc' hq hnl hnm f f'
  unfold edV
  by_cases h1 : xk = yk
  rotate_left
  · have e1 : (xk == yk) = false := by simp [h1]
    have H := Lib.hid (show q = false by rw [← HQ.out]; exact decide_eq_false fun e => h1 (by injection e))
    go_enter Tryd.func15, Tryd.ntmps15
    go_wp2_with fail
    go_ret
    exact ⟨ret_bool (by rw [H.out]), Hb.out⟩
  subst h1
  by_cases h2 : xn = yn
  rotate_left
  · have e2 : (xn.toList == yn.toList) = false := by
      rw [Lib.toList_data, Lib.toList_data]
      simp [ByteArray.ext_iff] at h2 ⊢
      exact h2
    have H := Lib.hid (show q = false by rw [← HQ.out]; exact decide_eq_false fun e => h2 (by injection e))
    go_enter Tryd.func15, Tryd.ntmps15
    go_wp2_with fail
    go_ret
    exact ⟨ret_bool (by rw [H.out]), Hb.out⟩
  subst h2
  by_cases h3 : xq = yq
  rotate_left
  · have e3 : ((xq : Int) == (yq : Int)) = false := by simp; omega
    have H := Lib.hid (show q = false by rw [← HQ.out]; exact decide_eq_false fun e => h3 (by injection e))
    go_enter Tryd.func15, Tryd.ntmps15
    go_wp2_with fail
    go_ret
    exact ⟨ret_bool (by rw [H.out]), Hb.out⟩
  subst h3
  by_cases h4 : xi = yi
  rotate_left
  · have e4 : ((xi : Int) == (yi : Int)) = false := by simp; omega
    have H := Lib.hid (show q = false by rw [← HQ.out]; exact decide_eq_false fun e => h4 (by injection e))
    go_enter Tryd.func15, Tryd.ntmps15
    go_wp2_with fail
    go_ret
    exact ⟨ret_bool (by rw [H.out]), Hb.out⟩
  subst h4
  by_cases h5 : n = n'
  rotate_left
  · have e5 : ((n : Int) == (n' : Int)) = false := by simp; omega
    have H := Lib.hid (show q = false by rw [← HQ.out]; exact decide_eq_false fun e => h5 (by rw [← Hnl.out, ← Hnm.out]; injection e with z1 z2 z3 z4 z5; rw [z5]))
    go_enter Tryd.func15, Tryd.ntmps15
    go_wp2_with fail
    go_ret
    exact ⟨ret_bool (by rw [H.out]), Hb.out⟩
  subst h5
  have HQ2 := Lib.hid (show q = decide (xs = ys) by rw [← HQ.out]; simp)
  have hg := guard_seal
  go_enter Tryd.func15, Tryd.ntmps15
  go_wp2_with fail
  generalize hwy : World.alloc _ _ = wy at *
  clear hwy
  go_loopg [5] n (fun g i wr => ∃ j : Nat, j + g = n ∧ i = .int .i64 j ∧ xs.take j = ys.take j ∧ Below wy.heap.size wy wr)
  case atStart => exact ⟨0, by omega, rfl, by simp, Below.refl _ _⟩
  case round =>
    obtain ⟨j, hj, rfl, htk, hb⟩ := hrel
    have Htk := Lib.hid htk
    have HbR := Lib.hid hb
    have x4 := (HX.out.on hb).cell 4 _ rfl
    have y4 := (HY.out.on hb).cell 4 _ rfl
    have HA1 := Lib.hid (HA.out.keep fun p hp => hb.cell (Nat.lt_of_lt_of_le hp Hb.out.size))
    have HB1 := Lib.hid (HB.out.keep fun p hp => hb.cell (Nat.lt_of_lt_of_le hp Hb.out.size))
    clear htk hb x0 x1 x2 x3 y0 y1 y2 y3
    by_cases hlt : j < n
    · have hlt' : (j : Int) < (n : Int) := by omega
      obtain ⟨s, hs⟩ : ∃ s, xs[j]? = some s := ⟨_, List.getElem?_eq_getElem (by rw [Hnl.out]; exact hlt)⟩
      obtain ⟨t, ht⟩ : ∃ t, ys[j]? = some t := ⟨_, List.getElem?_eq_getElem (by rw [Hnm.out]; exact hlt)⟩
      obtain ⟨gb, go, cc, hA, hgb, a0, a1, a2, a3, a4⟩ := HA1.out.at hs
      injection hA with hA1 hA2 hA3
      subst hA1
      clear hA2 hA3
      obtain ⟨gb', go', cc', hA, hgb', b0, b1, b2, b3, b4⟩ := HB1.out.at ht
      injection hA with hA1 hA2 hA3
      subst hA1
      clear hA2 hA3
      have hne := neq_seals s t
      unfold slV at hne
      have Hs := Lib.hid (And.intro hs ht)
      clear hs ht hgb hgb'
      by_cases hst : s = t
      · rw [decide_eq_true hst] at hne
        have Hst := Lib.hid hst
        clear hst
        go_wp2_with fail
        go_quiet (fail)
        go_wp2_with fail
        go_roundg (gk - 1)
        case measure => omega
        case rel => exact ⟨j + 1, by omega, by go_num, (take_next Htk.out Hs.out.1 Hs.out.2).2 Hst.out, below_drewN HbR.out _⟩
      · rw [decide_eq_false hst] at hne
        have Hst := Lib.hid hst
        clear hst
        go_wp2_with fail
        go_quiet (fail)
        go_wp2_with fail
        go_ret
        refine ⟨ret_bool ?_, bstep Hb.out (below_drewN HbR.out _)⟩
        rw [HQ2.out]
        symm
        apply decide_eq_false
        intro e
        exact Hst.out ((take_next Htk.out Hs.out.1 Hs.out.2).1 (by rw [e]))
    · obtain rfl : j = n := by omega
      go_wp2_with fail
      go_ret
      refine ⟨ret_bool ?_, bstep Hb.out HbR.out⟩
      rw [HQ2.out]
      symm
      apply decide_eq_true
      have e := Htk.out
      rw [List.take_of_length_le (by rw [Hnl.out]; omega), List.take_of_length_le (by rw [Hnm.out]; omega)] at e
      exact e
end Go.Proofs.YtggijjknfcofoaaDoor
