
/-
  Layer 5: bytes.HasPrefix; a call of the laws on a file ('does').
-/
import Derived.Test.YtmlbhconbabdhaaFxReads
set_option linter.unusedVariables false
set_option linter.unusedSimpArgs false
namespace Go.Proofs.Ytmlbhconbabdhaa
open Go.RowKit

theorem fprefix {w : World} {B B' : Nat} {v v' : Value} {l p : List UInt8} (h : Bs w B v l) (h' : Bs w B' v' p) (hp : p <+: l) (hl : l.length ≤ 10000000) :
    Calls Try.prog 18 #[v, v'] w fun e w' => e = .returned (.bool true) ∧ w = w' := by
  obtain ⟨t, rfl⟩ := hp
  rw [List.length_append] at hl
  have H' := Lib.hid h'
  obtain ⟨A, c, rfl, hc, hr⟩ := h
  obtain ⟨A', c', rfl, hc', hr'⟩ := h'
  rw [List.length_append] at hc
  obtain ⟨n, hn⟩ : ∃ n, n = p.length := ⟨_, rfl⟩
  obtain ⟨k, hk⟩ : ∃ k, k = t.length := ⟨_, rfl⟩
  rw [List.length_append]
  rw [← hn] at H' hc hc' hl
  rw [← hk] at hc hl
  rw [← hn, ← hk]
  have hcut := cut_h A (n + k) c n (by omega)
  have HT : Hid (Bs w B (.slice A n c) p) := ⟨A, c, by rw [← hn], by rw [← hn]; omega, by
    have := hr.take n
    rw [← bvs_take, hn, List.take_left] at this
    exact this⟩
  have hge : decide (((n + k : Nat) : Int) ≥ (n : Int)) = true := by simp; omega
  have Hn := Lib.hid hn
  clear hr hr' hn hk
  go_enter Try.func18, Try.ntmps18
  go_wp2_with fail
  refine (fequal _ _ p p _ _ _ HT.out H'.out).mono ?_
  rintro e w1 ⟨rfl, rfl⟩
  go_wp2_with fail
  go_ret
  exact ⟨by simp, rfl⟩

/-- what a call of the laws makes of a file -/
def StepF (s s' : FSt) : Prop := s' = s ∨ (∃ r, r ≠ [] ∧ r.length ≤ 60 ∧ s' = s.app r) ∨ (∃ k, k < s.bytes.length ∧ s' = s.cutd k)
theorem Mut.of_below {w w' : World} {F : Nat} {M R : Nat → Prop} {s : FSt} (h : FileM w F M R s) (hb : Below w.heap.size w w') : Mut w w' F M R s :=
  ⟨M, R, h.on hb, Chg.of_below hb, fun _ h => .inl h, fun _ h => .inl h⟩
theorem Mut.after {w w1 w' : World} {F : Nat} {M R : Nat → Prop} {s : FSt} (hb : Below w.heap.size w w1) (h : Mut w1 w' F M R s) : Mut w w' F M R s := by
  obtain ⟨M', R', h, hc, h1, h2⟩ := h
  exact ⟨M', R', h, (Chg.of_below hb).trans hc (fun _ h => .inl h), fun i hi => (h1 i hi).imp id (fun h => Nat.le_trans hb.size h), fun i hi => (h2 i hi).imp id (fun h => Nat.le_trans hb.size h)⟩
theorem Mut.drop {w w1 w' : World} {F : Nat} {M R : Nat → Prop} {s : FSt} (h : Mut w w1 F M R s) (hb : Below w1.heap.size w1 w') : Mut w w' F M R s := by
  obtain ⟨M', R', h, hc, h1, h2⟩ := h
  exact ⟨M', R', h.on hb, hc.trans (Chg.of_below (M := fun _ => False) hb) (fun _ h => h.elim), h1, h2⟩
/-- an act's cells -/
def actV (what n m : Int) (v : Value) : Value := .agg #[.int .i64 what, .int .i64 n, .int .i64 m, v]
theorem BsIn.take {w : World} {N : Nat → Prop} {A : Option Addr} {l : List UInt8} {n c k : Nat} (h : BsIn w N (.slice A n c) l) (hk : k ≤ n) : BsIn w N (.slice A k c) (l.take k) := by
  obtain ⟨A', c', e, hc, hr⟩ := h
  injection e with e1 e2 e3
  subst e1 e2 e3
  have hl : (l.take k).length = k := by rw [List.length_take]; omega
  refine ⟨A, c, by rw [hl], by rw [hl]; omega, fun hx => ?_⟩
  obtain ⟨b, o, e, hb, hcell⟩ := hr (fun e => hx (by rw [bvs_take, e]; simp))
  refine ⟨b, o, e, hb, fun j u hu => hcell j u ?_⟩
  rw [bvs_take, List.getElem?_take] at hu
  split at hu
  · exact hu
  · cases hu

section
variable {w : World} {F : Nat} {M R N : Nat → Prop} {s : FSt}
set_option maxRecDepth 100000 in
set_option maxHeartbeats 4000000 in
theorem does_app (h : FileM w F M R s) (hb : s.big + 60 ≤ 1000000) {what n m : Int} {v : Value} {bl : List UInt8} (hv : BsIn w N v bl) (hN : ∀ i, M i → ¬ N i) (hbl : bl.length ≤ 9223372036854775807) (hw : what = 0 ∨ what = 1 ∨ what = 3 ∨ what = 5) :
    Calls Try.prog 9 #[.pointer (some ⟨F, 0, none⟩), actV what n m v] w fun e w' => e = .returned (.tuple #[]) ∧ ∃ s', StepF s s' ∧ Mut w w' F M R s' := by
  have HV := Lib.hid hv
  obtain ⟨A, c, rfl, hc, _⟩ := hv
  obtain ⟨l, hl⟩ : ∃ l, l = bl.length := ⟨_, rfl⟩
  rw [← hl] at HV hc hbl
  rw [← hl]
  obtain ⟨k, hk⟩ : ∃ k, k = min l 60 := ⟨_, rfl⟩
  have hmin : min (l : Int) 60 = (k : Int) := by omega
  have hcut := cut_h A l c k (by omega)
  have hk60 : k ≤ 60 := by omega
  have Hr := Lib.hid (HV.out.take (k := k) (by omega))
  have hrl : (bl.take k).length = k := by rw [List.length_take, ← hl]; omega
  have Hrl := Lib.hid hrl
  have HM := Lib.hid h
  have Hb := Lib.hid hb
  have HN := Lib.hid hN
  clear h hb hN hl hk hrl hc
  have HB0 : Hid (Below w.heap.size w (w.alloc (.cells #[.int .i64 what, .int .i64 n, .int .i64 m, .slice A l c] 31))) := (Below.refl _ _).alloc (Nat.le_refl _) _
  have HM1 := Lib.hid (HM.out.on HB0.out)
  have Hr1 := Lib.hid (Hr.out.chg (Chg.of_below (M := fun _ => False) HB0.out) (fun i e => e.elim))
  unfold actV
  rcases Nat.eq_zero_or_pos k with h0 | h0
  · subst h0
    rcases hw with rfl | rfl | rfl | rfl
    all_goals
      go_enter Try.func9, Try.ntmps9
      go_wp2_with fail
      refine (fappend_none F c A).mono ?_
      rintro e w1 ⟨rfl, hb1⟩
      go_wp2_with fail
      go_end0
      exact ⟨rfl, s, .inl rfl, (Mut.of_below HM1.out hb1).after HB0.out⟩
  · have hne : bl.take k ≠ [] := fun e => by have h1 := Hrl.out; rw [e] at h1; simp at h1; omega
    have Hne := Lib.hid hne
    clear hne
    rcases hw with rfl | rfl | rfl | rfl
    all_goals
      go_enter Try.func9, Try.ntmps9
      go_wp2_with fail
      refine (fappend_m HM1.out Hr1.out HN.out Hne.out (by rw [Hrl.out]; have := Hb.out; omega)).mono ?_
      rintro e w1 ⟨rfl, hm1⟩
      have HX := Lib.hid hm1
      clear hm1
      go_wp2_with fail
      go_end0
      exact ⟨rfl, s.app (bl.take k), .inr (.inl ⟨_, Hne.out, by rw [Hrl.out]; exact hk60, rfl⟩), HX.out.after HB0.out⟩
set_option maxRecDepth 100000 in
set_option maxHeartbeats 4000000 in
theorem does_cut (h : FileM w F M R s) (hb : s.big + 60 ≤ 1000000) {what n m : Int} {v : Value} (hw : what = 2 ∨ what = 4) :
    Calls Try.prog 9 #[.pointer (some ⟨F, 0, none⟩), actV what n m v] w fun e w' => e = .returned (.tuple #[]) ∧ ∃ s', StepF s s' ∧ Mut w w' F M R s' := by
  have HM := Lib.hid h
  have Hb := Lib.hid hb
  have hbl := FSt.bytes_length h.ok
  obtain ⟨l, hl⟩ : ∃ l, s.bytes.length = l := ⟨_, rfl⟩
  have hl6 : l ≤ 1000000 := by omega
  have Hl := Lib.hid hl
  clear h hb hl hbl
  have HB0 : Hid (Below w.heap.size w (w.alloc (.cells #[.int .i64 what, .int .i64 n, .int .i64 m, v] 31))) := (Below.refl _ _).alloc (Nat.le_refl _) _
  have HM1 := Lib.hid (HM.out.on HB0.out)
  unfold actV
  rcases hw with rfl | rfl
  all_goals
    go_enter Try.func9, Try.ntmps9
    go_wp2_with fail
    refine (fsize_m HM1.out (by have := Hb.out; omega) l Hl.out).mono ?_
    rintro e w1 ⟨rfl, hb1⟩
    have HB1 := Lib.hid hb1
    have HM2 := Lib.hid (HM1.out.on hb1)
    have cn : w1.cell? ⟨w.heap.size, 1, none⟩ = some (.int .i64 n) := (hb1.cell (p := ⟨w.heap.size, 1, none⟩) (by simp)).trans (by simp)
    have cm : w1.cell? ⟨w.heap.size, 0, none⟩ = some (.int .i64 _) := (hb1.cell (p := ⟨w.heap.size, 0, none⟩) (by simp)).trans (by simp; rfl)
    clear hb1
    rcases Nat.eq_zero_or_pos l with h0 | h0
    · subst h0
      go_wp2_with fail
      go_end0
      exact ⟨rfl, s, .inl rfl, (Mut.of_below HM1.out HB1.out).after HB0.out⟩
    · obtain ⟨u, hu, hu2⟩ : ∃ u : Nat, IntKind.u64.wrap n = (u : Int) ∧ u < 18446744073709551616 := ⟨(n % 18446744073709551616).toNat, by rw [IntKind.wrap_u64]; omega, by omega⟩
      have hgt : decide ((l : Int) > 0) = true := by simp; omega
      obtain ⟨q, hq, hq2⟩ : ∃ q : Nat, (u : Int) % ((l : Int) + 1) = (q : Int) ∧ q ≤ l := ⟨u % (l + 1), by push_cast; rfl, by have := Nat.mod_lt u (show 0 < l + 1 by omega); omega⟩
      have hq' : (u : Int).tmod ((l : Int) + 1) = (q : Int) := by rw [Int.tmod_eq_emod_of_nonneg (by omega)]; exact hq
      go_wp2_with fail
      rcases Nat.lt_or_ge q l with h1 | h1
      · refine (fcut_m HM2.out q (by rw [Hl.out]; exact h1) (by have := Hb.out; omega)).mono ?_
        rintro e w2 ⟨rfl, hm2⟩
        have HX := Lib.hid hm2
        clear hm2
        go_wp2_with fail
        go_end0
        exact ⟨rfl, s.cutd q, .inr (.inr ⟨q, by rw [Hl.out]; exact h1, rfl⟩), (HX.out.after HB1.out).after HB0.out⟩
      · refine (fcut_same HM2.out (by have := Hb.out; omega) q (by rw [Hl.out]; omega)).mono ?_
        rintro e w2 ⟨rfl, hb2⟩
        have HX := Lib.hid hb2
        clear hb2
        go_wp2_with fail
        go_end0
        exact ⟨rfl, s, .inl rfl, ((Mut.of_below HM2.out HX.out).after HB1.out).after HB0.out⟩
set_option maxRecDepth 100000 in
theorem does_no (h : FileM w F M R s) {what n m : Int} {v : Value} (hw : what ≠ 0 ∧ what ≠ 1 ∧ what ≠ 2 ∧ what ≠ 3 ∧ what ≠ 4 ∧ what ≠ 5) :
    Calls Try.prog 9 #[.pointer (some ⟨F, 0, none⟩), actV what n m v] w fun e w' => e = .returned (.tuple #[]) ∧ ∃ s', StepF s s' ∧ Mut w w' F M R s' := by
  have HM := Lib.hid h
  have HB0 : Hid (Below w.heap.size w (w.alloc (.cells #[.int .i64 what, .int .i64 n, .int .i64 m, v] 31))) := (Below.refl _ _).alloc (Nat.le_refl _) _
  have e0 : (what == 0) = false := by simp; omega
  have e1 : (what == 1) = false := by simp; omega
  have e2 : (what == 2) = false := by simp; omega
  have e3 : (what == 3) = false := by simp; omega
  have e4 : (what == 4) = false := by simp; omega
  have e5 : (what == 5) = false := by simp; omega
  clear h hw
  unfold actV
  go_enter Try.func9, Try.ntmps9
  go_wp2_with fail
  go_end0
  exact ⟨rfl, s, .inl rfl, Mut.of_below HM.out HB0.out⟩
theorem does_any (h : FileM w F M R s) (hb : s.big + 60 ≤ 1000000) {what n m : Int} {v : Value} {bl : List UInt8} (hv : BsIn w N v bl) (hN : ∀ i, M i → ¬ N i) (hbl : bl.length ≤ 9223372036854775807) :
    Calls Try.prog 9 #[.pointer (some ⟨F, 0, none⟩), actV what n m v] w fun e w' => e = .returned (.tuple #[]) ∧ ∃ s', StepF s s' ∧ Mut w w' F M R s' := by
  rcases (show (what = 0 ∨ what = 1 ∨ what = 3 ∨ what = 5) ∨ (what = 2 ∨ what = 4) ∨ (what ≠ 0 ∧ what ≠ 1 ∧ what ≠ 2 ∧ what ≠ 3 ∧ what ≠ 4 ∧ what ≠ 5) by omega) with hw | hw | hw
  · exact does_app h hb hv hN hbl hw
  · exact does_cut h hb hw
  · exact does_no h hw
end
end Go.Proofs.Ytmlbhconbabdhaa
