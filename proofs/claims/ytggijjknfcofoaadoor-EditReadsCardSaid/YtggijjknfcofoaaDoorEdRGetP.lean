
/-
  Layer 9: the document's answer: Get, what is common. (printed by tools/gen/ed_rget.py)
-/
import Derived.Test.YtggijjknfcofoaaDoorEdRNum
import Derived.Test.YtggijjknfcofoaaDoorEdGet
set_option linter.unusedVariables false
set_option linter.unusedSimpArgs false
namespace Go.Proofs.YtggijjknfcofoaaDoor
open Go.RowKit

/-- what Get tells, the first byte known -/
def Ed.endR : Except Nat (Ed.E × List UInt8) → Ed.E × Nat
  | .ok (e, []) => (e, 0)
  | .ok (_, _ :: _) => (Ed.none, 5)
  | .error c => (Ed.none, c)
theorem Ed.getR_kind {L : List UInt8} {x : UInt8} {l1 : List UInt8} {k : Nat} (hL : L = x :: l1) (hx : x.toNat = k) (h1 : 1 ≤ k) (h6 : k ≤ 6) : Ed.getR L = Ed.endR (Ed.bodyP k (L.drop 1)) := by
  subst hL hx
  unfold Ed.getR Ed.getE Ed.getP Ed.bnd Ed.kindP
  simp only [List.drop_succ_cons, List.drop_zero]
  rw [if_pos ⟨by omega, by omega⟩]
  rcases Ed.bodyP (x.toNat : Int) l1 with c | ⟨e, _ | ⟨y, r⟩⟩ <;> rfl
theorem Ed.getR_other {L : List UInt8} {x : UInt8} {l1 : List UInt8} {k : Nat} (hL : L = x :: l1) (hx : x.toNat = k) (h : ¬ (1 ≤ k ∧ k ≤ 6)) : Ed.getR L = (Ed.none, 5) := by
  subst hL hx
  unfold Ed.getR Ed.getE Ed.getP Ed.bnd Ed.kindP
  simp only
  rw [if_neg (by omega)]
theorem Ed.body_1 : Ed.bodyP ((1 : Nat) : Int) = Ed.bnd (Ed.num 0 1099511627776) fun q => Ed.ret ⟨1, ⟨#[]⟩, q, 0, []⟩ := rfl
theorem Ed.body_2 : Ed.bodyP ((2 : Nat) : Int) = Ed.bnd (Ed.num 0 1099511627776) fun q => Ed.bnd (Ed.bnd (Ed.num 1 32) Ed.tk) fun nm => Ed.ret ⟨2, ⟨nm.toArray⟩, q, 0, []⟩ := rfl
theorem Ed.body_3 : Ed.bodyP ((3 : Nat) : Int) = Ed.bnd (Ed.bnd (Ed.num 1 32) Ed.tk) fun nm => Ed.ret ⟨3, ⟨nm.toArray⟩, 0, 0, []⟩ := rfl
theorem Ed.body_4 : Ed.bodyP ((4 : Nat) : Int) = Ed.bnd (Ed.num 1 16777215) fun i => Ed.ret ⟨4, ⟨#[]⟩, 0, i, []⟩ := rfl
theorem Ed.body_5 : Ed.bodyP ((5 : Nat) : Int) = Ed.bnd (Ed.sealsP 1 0) fun ss => Ed.ret ⟨5, ⟨#[]⟩, 0, 0, ss⟩ := rfl
theorem Ed.body_6 : Ed.bodyP ((6 : Nat) : Int) = Ed.bnd (Ed.num 0 1099511627776) fun q => Ed.bnd (Ed.num 0 200) fun n => Ed.bnd (Ed.sealsP n 0) fun ss => Ed.ret ⟨6, ⟨#[]⟩, q, 0, ss⟩ := rfl
theorem Ed.drop_pos {L : List UInt8} {a : Nat} (h : a < L.length) : ∃ y r, L.drop a = y :: r := ⟨_, _, List.drop_eq_getElem_cons h⟩
theorem Ed.drop_all {L : List UInt8} {a : Nat} (h : ¬ a < L.length) : L.drop a = [] := List.drop_eq_nil_of_le (by omega)
theorem Ed.tk_er {n : Nat} {l : List UInt8} (h : l.length < n) : Ed.tk n l = .error 4 := by unfold Ed.tk; rw [if_pos h]
theorem Ed.tk_ok {n : Nat} {l : List UInt8} (h : ¬ l.length < n) : Ed.tk n l = .ok (l.take n, l.drop n) := by unfold Ed.tk; rw [if_neg h]
theorem rnum_badI (B g a c : Nat) (lo hi : Int) (L : List UInt8) (w : World) (h : WkA w B g L a c) (hc : c ≠ 0) :
    Calls Tryd.prog 40 #[.pointer (some ⟨g, 0, none⟩), .int .u64 lo, .int .u64 hi] w fun e w' => e = .returned (.int .u64 0) ∧ w = w' := by
  obtain ⟨A, k, x0, x1, x2, _⟩ := h.cells
  have e0 : ((c : Int) == 0) = false := by simp; omega
  clear h
  go_enter Tryd.func40, Tryd.ntmps40
  go_wp2_with fail
  go_ret
  exact ⟨rfl, rfl⟩
/-- what is returned -/
def GetP (w : World) (X : Ed.E) (C : Nat) (en : Ending) (w' : World) : Prop := (∃ ev, en = .returned (.tuple #[ev, .int .i64 C]) ∧ EdV w' w'.heap.size ev X) ∧ Below w.heap.size w w'
end Go.Proofs.YtggijjknfcofoaaDoor
