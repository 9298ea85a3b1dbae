
/-
  Layer 9: '==' of seals; slices.Equal of rows of seals; Same.
-/
import Derived.Test.YtggijjknfcofoaaDoorEdMayW
import Derived.BigQuiet
import Derived.Deep.QuietTactic
set_option linter.unusedVariables false
set_option linter.unusedSimpArgs false
namespace Go.Proofs.YtggijjknfcofoaaDoor
open Go.RowKit

theorem run_neq_seal (a b c d e a' b' c' d' e' : Int) (w : World) : (binOp .neq 28 (.agg #[.int .u32 a, .int .u32 b, .int .u32 c, .int .u64 d, .int .u64 e]) (.agg #[.int .u32 a', .int .u32 b', .int .u32 c', .int .u64 d', .int .u64 e'])).run Tryd.prog w = .ok (.bool (!decide (a = a' ∧ b = b' ∧ c = c' ∧ d = d' ∧ e = e'))) w := by
  have u := Tryd.underlying23
  have ag := Tryd.isAgg23
  have z := Tryd.sizeOf23
  have u2 := Tryd.underlying22
  have ag2 := Tryd.isAgg22
  have z2 := Tryd.sizeOf22
  have hS : Tryd.prog.underlying 28 = some (.struct (Tryd.prog.fieldsOf 28)) := by kernel_rfl
  have hp : Tryd.prog.stoodInHeld 28 = false := by kernel_rfl
  rw [run_neq_struct, show (10000 : Nat) = 9999 + 1 from rfl, run_equalIn_agg w 9999 28 _ _ hS hp]
  simp only [Program.fieldsOf, Tryd.underlying28]
  go_simp
  by_cases h1 : a = a' <;> by_cases h2 : b = b' <;> by_cases h3 : c = c' <;> by_cases h4 : d = d' <;> by_cases h5 : e = e' <;> simp [h1, h2, h3, h4, h5]
theorem guard_seal : Tryd.prog.eqGuardType Tryd.prog.depth 28 = false := by kernel_rfl
theorem neq_seals (s t : Ed.Sl) (w : World) : (binOp .neq 28 (slV s) (slV t)).run Tryd.prog w = .ok (.bool (!decide (s = t))) w := by
  unfold slV
  rw [run_neq_seal]
  have : decide ((s.id : Int) = t.id ∧ (s.size : Int) = t.size ∧ (s.many : Int) = t.many ∧ (s.first : Int) = t.first ∧ (s.last : Int) = t.last) = decide (s = t) := by
    rw [Bool.eq_iff_iff, decide_eq_true_eq, decide_eq_true_eq]
    obtain ⟨a, b, c, d, e⟩ := s
    obtain ⟨a', b', c', d', e'⟩ := t
    simp only [Ed.Sl.mk.injEq]
    omega
  rw [this]
theorem take_next {l m : List Ed.Sl} {j : Nat} {s t : Ed.Sl} (h : l.take j = m.take j) (hl : l[j]? = some s) (hm : m[j]? = some t) : l.take (j + 1) = m.take (j + 1) ↔ s = t := by
  rw [List.take_add_one, List.take_add_one, hl, hm, h]
  simp

set_option maxRecDepth 100000 in
set_option maxHeartbeats 8000000 in
theorem equalS_any (v u : Value) (l m : List Ed.Sl) (B : Nat) (w : World) (h : Sls w B v l) (k : Sls w B u m) (hB : B ≤ w.heap.size) (hl : l.length ≤ 9223372036854775807) (hm : m.length ≤ 9223372036854775807) :
    Calls Tryd.prog 37 #[v, u] w fun e w' => e = .returned (.bool (decide (l = m))) ∧ Below w.heap.size w w' := by
  obtain ⟨A, c, rfl, hc, hr⟩ := id h
  obtain ⟨A', c', rfl, hc', hr'⟩ := id k
  by_cases hn : l.length = m.length
  · have hg := guard_seal
    have e0 : ((l.length : Int) == (m.length : Int)) = true := by simp; omega
    obtain ⟨q, hq⟩ : ∃ q, decide (l = m) = q := ⟨_, rfl⟩
    rw [hq]
    have HQ := Lib.hid hq
    have HL := Lib.hid h
    have HM := Lib.hid k
    have Hn := Lib.hid hn
    generalize hnl : l.length = n at *
    generalize hnm : m.length = n' at *
    subst hn
    have Hnl := Lib.hid hnl
    have Hnm := Lib.hid hnm
    clear h k hq hr hr' hc hc' hnl hnm
    go_enter Tryd.func37, Tryd.ntmps37
    go_wp2_with fail
    go_loopg [13] n (fun g i wr => ∃ j : Nat, j + g = n ∧ i = .int .i64 j ∧ l.take j = m.take j ∧ Below w.heap.size w wr)
    case atStart => exact ⟨0, by omega, rfl, by simp, Below.refl _ _⟩
    case round =>
      obtain ⟨j, hj, rfl, htk, hb⟩ := hrel
      have Htk := Lib.hid htk
      have Hb := Lib.hid hb
      clear htk hb
      by_cases hlt : j < n
      · obtain ⟨s, hs⟩ : ∃ s, l[j]? = some s := ⟨_, List.getElem?_eq_getElem (by rw [Hnl.out]; exact hlt)⟩
        obtain ⟨t, ht⟩ : ∃ t, m[j]? = some t := ⟨_, List.getElem?_eq_getElem (by rw [Hnm.out]; exact hlt)⟩
        obtain ⟨gb, go, cc, hA, hgb, a0, a1, a2, a3, a4⟩ := (HL.out.below Hb.out hB).at hs
        injection hA with hA1 hA2 hA3
        subst hA1
        clear hA2 hA3
        obtain ⟨gb', go', cc', hA, hgb', b0, b1, b2, b3, b4⟩ := (HM.out.below Hb.out hB).at ht
        injection hA with hA1 hA2 hA3
        subst hA1
        clear hA2 hA3
        have hne := neq_seals s t
        unfold slV at hne
        have Hs := Lib.hid (And.intro hs ht)
        clear hs ht hgb hgb'
        by_cases hst : s = t
        · rw [decide_eq_true hst] at hne
          have Hst := Lib.hid hst
          clear hst
          go_wp2_with fail
          go_quiet (fail)
          go_wp2_with fail
          go_roundg (gk - 1)
          case measure => omega
          case rel => exact ⟨j + 1, by omega, by go_num, (take_next Htk.out Hs.out.1 Hs.out.2).2 Hst.out, below_drewN Hb.out _⟩
        · rw [decide_eq_false hst] at hne
          have Hst := Lib.hid hst
          clear hst
          go_wp2_with fail
          go_quiet (fail)
          go_wp2_with fail
          go_ret
          refine ⟨ret_bool ?_, below_drewN Hb.out _⟩
          rw [← HQ.out]
          symm
          apply decide_eq_false
          intro e
          exact Hst.out ((take_next Htk.out Hs.out.1 Hs.out.2).1 (by rw [e]))
      · go_wp2_with fail
        go_ret
        refine ⟨ret_bool ?_, Hb.out⟩
        rw [← HQ.out]
        symm
        apply decide_eq_true
        have e := Htk.out
        rw [List.take_of_length_le (by rw [Hnl.out]; omega), List.take_of_length_le (by rw [Hnm.out]; omega)] at e
        exact e
  · rw [decide_eq_false (fun e => hn (by rw [e]))]
    have e0 : ((l.length : Int) == (m.length : Int)) = false := by simp; omega
    generalize l.length = n at *
    generalize m.length = n' at *
    clear h k hr hr' hc hc'
    go_enter Tryd.func37, Tryd.ntmps37
    go_wp2_with fail
    go_ret
    exact ⟨rfl, Below.refl _ _⟩
theorem Ed.eq_iff (x y : Ed.E) : x = y ↔ x.kind = y.kind ∧ x.name = y.name ∧ x.seq = y.seq ∧ x.id = y.id ∧ x.seals = y.seals := by
  obtain ⟨a, b, c, d, e⟩ := x
  obtain ⟨a', b', c', d', e'⟩ := y
  simp only [Ed.E.mk.injEq]
set_option maxRecDepth 100000 in
set_option maxHeartbeats 8000000 in
theorem same_any (v u : Value) (x y : Ed.E) (w : World) (h : EdV w w.heap.size v x) (k : EdV w w.heap.size u y) (f : Ed.Fit x) (f' : Ed.Fit y) :
    Calls Tryd.prog 14 #[v, u] w fun e w' => e = .returned (.bool (decide (x = y))) ∧ Below w.heap.size w w' := by
  obtain ⟨sv, rfl, hs⟩ := h
  obtain ⟨su, rfl, hu⟩ := k
  have b1 := balloc (bnew w (.cells #[.int .i64 x.kind, .string x.name, .int .u64 x.seq, .int .u32 x.id, sv] 26)) (.cells #[.int .i64 y.kind, .string y.name, .int .u64 y.seq, .int .u32 y.id, su] 26)
  have hX := (Bx.new w #[.int .i64 x.kind, .string x.name, .int .u64 x.seq, .int .u32 x.id, sv] 26 _ rfl).alloc (.cells #[.int .i64 y.kind, .string y.name, .int .u64 y.seq, .int .u32 y.id, su] 26)
  have Hb := Lib.hid b1
  have HA := Lib.hid (hs.below b1 (Nat.le_refl _))
  have HB := Lib.hid (hu.below b1 (Nat.le_refl _))
  obtain ⟨q, hq⟩ : ∃ q, decide (x = y) = q := ⟨_, rfl⟩
  rw [hq]
  have HQ := Lib.hid hq
  unfold edV
  clear hs hu b1 hX hq
  by_cases h1 : x.kind = y.kind
  rotate_left
  · have e1 : (x.kind == y.kind) = false := by simp [h1]
    have H := Lib.hid (show decide (x = y) = false from decide_eq_false fun e => h1 (by rw [e]))
    clear h1
    go_enter Tryd.func14, Tryd.ntmps14
    go_wp2_with fail
    go_ret
    exact ⟨ret_bool (by rw [← HQ.out, H.out]), Hb.out⟩
  have e1 : (x.kind == y.kind) = true := by simp [h1]
  by_cases h2 : x.name = y.name
  rotate_left
  · have e2 : (x.name.toList == y.name.toList) = false := by
      rw [Lib.toList_data, Lib.toList_data]
      simp [ByteArray.ext_iff] at h2 ⊢
      exact h2
    have H := Lib.hid (show decide (x = y) = false from decide_eq_false fun e => h2 (by rw [e]))
    clear h1 h2
    go_enter Tryd.func14, Tryd.ntmps14
    go_wp2_with fail
    go_ret
    exact ⟨ret_bool (by rw [← HQ.out, H.out]), Hb.out⟩
  have e2 : (x.name.toList == y.name.toList) = true := by rw [h2]; simp
  by_cases h3 : x.seq = y.seq
  rotate_left
  · have e3 : ((x.seq : Int) == (y.seq : Int)) = false := by simp; omega
    have H := Lib.hid (show decide (x = y) = false from decide_eq_false fun e => h3 (by rw [e]))
    clear h1 h2 h3
    go_enter Tryd.func14, Tryd.ntmps14
    go_wp2_with fail
    go_ret
    exact ⟨ret_bool (by rw [← HQ.out, H.out]), Hb.out⟩
  have e3 : ((x.seq : Int) == (y.seq : Int)) = true := by simp; omega
  by_cases h4 : x.id = y.id
  rotate_left
  · have e4 : ((x.id : Int) == (y.id : Int)) = false := by simp; omega
    have H := Lib.hid (show decide (x = y) = false from decide_eq_false fun e => h4 (by rw [e]))
    clear h1 h2 h3 h4
    go_enter Tryd.func14, Tryd.ntmps14
    go_wp2_with fail
    go_ret
    exact ⟨ret_bool (by rw [← HQ.out, H.out]), Hb.out⟩
  have e4 : ((x.id : Int) == (y.id : Int)) = true := by simp; omega
  have H := Lib.hid (show decide (x = y) = decide (x.seals = y.seals) by rw [Bool.eq_iff_iff, decide_eq_true_eq, decide_eq_true_eq, Ed.eq_iff]; simp [h1, h2, h3, h4])
  clear h1 h2 h3 h4
  go_enter Tryd.func14, Tryd.ntmps14
  go_wp2_with fail
  refine (equalS_any sv su x.seals y.seals w.heap.size _ HA.out HB.out Hb.out.size f.many f'.many).mono ?_
  rw [← H.out, HQ.out]
  rintro e w1 ⟨rfl, h5⟩
  go_wp2_with fail
  go_ret
  exact ⟨ret_bool (by simp), bstep Hb.out h5⟩
end Go.Proofs.YtggijjknfcofoaaDoor
