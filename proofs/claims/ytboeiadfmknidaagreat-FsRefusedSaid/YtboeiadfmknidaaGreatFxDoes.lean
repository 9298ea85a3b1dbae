
/-
  Layer 5: bytes.HasPrefix; a call of the laws on a file ('does').
-/
import Derived.Test.YtboeiadfmknidaaGreatFxRead
set_option linter.unusedVariables false
set_option linter.unusedSimpArgs false
namespace Go.Proofs.YtboeiadfmknidaaGreat
open Go.RowKit

theorem fprefix {w : World} {B B' : Nat} {v v' : Value} {l p : List UInt8} (h : Bs w B v l) (h' : Bs w B' v' p) (hp : p <+: l) (hl : l.length ≤ 10000000) :
    Calls Tryz.prog 19 #[v, v'] w fun e w' => e = .returned (.bool true) ∧ w = w' := by
  obtain ⟨t, rfl⟩ := hp
  rw [List.length_append] at hl
  have H' := Lib.hid h'
  obtain ⟨A, c, rfl, hc, hr⟩ := h
  obtain ⟨A', c', rfl, hc', hr'⟩ := h'
  rw [List.length_append] at hc
  obtain ⟨n, hn⟩ : ∃ n, n = p.length := ⟨_, rfl⟩
  obtain ⟨k, hk⟩ : ∃ k, k = t.length := ⟨_, rfl⟩
  rw [List.length_append]
  rw [← hn] at H' hc hc' hl
  rw [← hk] at hc hl
  rw [← hn, ← hk]
  have hcut := cut_h A (n + k) c n (by omega)
  have HT : Hid (Bs w B (.slice A n c) p) := ⟨A, c, by rw [← hn], by rw [← hn]; omega, by
    have := hr.take n
    rw [← bvs_take, hn, List.take_left] at this
    exact this⟩
  have hge : decide (((n + k : Nat) : Int) ≥ (n : Int)) = true := by simp; omega
  have Hn := Lib.hid hn
  clear hr hr' hn hk
  go_enter Tryz.func19, Tryz.ntmps19
  go_wp2_with fail
  refine (fequal _ _ p p _ _ _ HT.out H'.out).mono ?_
  rintro e w1 ⟨rfl, rfl⟩
  go_wp2_with fail
  go_ret
  exact ⟨by simp, rfl⟩

/-- what a call of the laws makes of a file -/
def StepF (s s' : FSt) : Prop := s' = s ∨ (∃ r, r ≠ [] ∧ r.length ≤ 60 ∧ s' = s.app r) ∨ (∃ k, k < s.bytes.length ∧ s' = s.cutd k)
theorem Mut.of_below {w w' : World} {F : Nat} {M R : Nat → Prop} {s : FSt} (h : FileM w F M R s) (hb : Below w.heap.size w w') : Mut w w' F M R s :=
  ⟨M, R, h.on hb, Chg.of_below hb, fun _ h => .inl h, fun _ h => .inl h⟩
theorem Mut.after {w w1 w' : World} {F : Nat} {M R : Nat → Prop} {s : FSt} (hb : Below w.heap.size w w1) (h : Mut w1 w' F M R s) : Mut w w' F M R s := by
  obtain ⟨M', R', h, hc, h1, h2⟩ := h
  exact ⟨M', R', h, (Chg.of_below hb).trans hc (fun _ h => .inl h), fun i hi => (h1 i hi).imp id (fun h => Nat.le_trans hb.size h), fun i hi => (h2 i hi).imp id (fun h => Nat.le_trans hb.size h)⟩
theorem Mut.drop {w w1 w' : World} {F : Nat} {M R : Nat → Prop} {s : FSt} (h : Mut w w1 F M R s) (hb : Below w1.heap.size w1 w') : Mut w w' F M R s := by
  obtain ⟨M', R', h, hc, h1, h2⟩ := h
  exact ⟨M', R', h.on hb, hc.trans (Chg.of_below (M := fun _ => False) hb) (fun _ h => h.elim), h1, h2⟩
/-- an act's cells -/
def actV (what n m : Int) (v : Value) : Value := .agg #[.int .i64 what, .int .i64 n, .int .i64 m, v]
theorem BsIn.take {w : World} {N : Nat → Prop} {A : Option Addr} {l : List UInt8} {n c k : Nat} (h : BsIn w N (.slice A n c) l) (hk : k ≤ n) : BsIn w N (.slice A k c) (l.take k) := by
  obtain ⟨A', c', e, hc, hr⟩ := h
  injection e with e1 e2 e3
  subst e1 e2 e3
  have hl : (l.take k).length = k := by rw [List.length_take]; omega
  refine ⟨A, c, by rw [hl], by rw [hl]; omega, fun hx => ?_⟩
  obtain ⟨b, o, e, hb, hcell⟩ := hr (fun e => hx (by rw [bvs_take, e]; simp))
  refine ⟨b, o, e, hb, fun j u hu => hcell j u ?_⟩
  rw [bvs_take, List.getElem?_take] at hu
  split at hu
  · exact hu
  · cases hu

section
variable {w : World} {F : Nat} {M R N : Nat → Prop} {s : FSt}
end
end Go.Proofs.YtboeiadfmknidaaGreat
