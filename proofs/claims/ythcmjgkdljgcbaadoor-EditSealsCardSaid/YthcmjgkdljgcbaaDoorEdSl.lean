
/-
  What the law EditSeals lists: seals ahead of one, and behind it.
-/
import Derived.Test.YthcmjgkdljgcbaaDoorEdWakes
import Derived.Test.YthcmjgkdljgcbaaDoorEdMay
set_option linter.unusedVariables false
set_option linter.unusedSimpArgs false
namespace Go.Proofs.YthcmjgkdljgcbaaDoor.editSeals
open Go.RowKit

def lastId : Nat → List Ed.Sl → Nat
  | a, [] => a
  | _, s :: r => lastId s.id r
theorem lastId_append : ∀ (l m : List Ed.Sl) (a : Nat), lastId a (l ++ m) = lastId (lastId a l) m
  | [], m, a => rfl
  | s :: r, m, a => lastId_append r m s.id
theorem upS_append : ∀ (l m : List Ed.Sl) (a : Nat), Ed.upS a (l ++ m) = (Ed.upS a l && Ed.upS (lastId a l) m)
  | [], m, a => by simp [Ed.upS, lastId]
  | s :: r, m, a => by
    simp only [List.cons_append, Ed.upS, lastId, upS_append r m s.id, Bool.and_assoc]
theorem first_le : ∀ (l : List Ed.Sl) (a : Nat), Ed.upS a l = true → a ≤ lastId a l
  | [], a, _ => Nat.le_refl _
  | s :: r, a, h => by
    simp only [Ed.upS, Bool.and_eq_true, decide_eq_true_eq] at h
    have := first_le r s.id h.2
    simp only [lastId]
    omega
def aheadL (id : Nat) : Nat → List Ed.Sl
  | 0 => []
  | n + 1 => aheadL id n ++ if n + 1 < id then [⟨n + 1, 16, 0, 0, 0⟩] else []
def behindL (id : Nat) : Nat → List Ed.Sl
  | 0 => []
  | n + 1 => behindL id n ++ if id + n < 16777215 then [⟨id + n + 1, 16777216, 1, n + 1, 1099511627776⟩] else []
theorem aheadL_len (id n : Nat) : (aheadL id n).length ≤ n := by
  induction n with
  | zero => simp [aheadL]
  | succ n ih => simp only [aheadL, List.length_append]; split <;> simp <;> omega
theorem behindL_len (id n : Nat) : (behindL id n).length ≤ n := by
  induction n with
  | zero => simp [behindL]
  | succ n ih => simp only [behindL, List.length_append]; split <;> simp <;> omega
theorem aheadL_up (id : Nat) (h1 : 1 ≤ id) (h2 : id ≤ 16777215) (n : Nat) : Ed.upS 0 (aheadL id n) = true ∧ lastId 0 (aheadL id n) ≤ n ∧ lastId 0 (aheadL id n) < id := by
  induction n with
  | zero => exact ⟨rfl, Nat.le_refl _, by show 0 < id; omega⟩
  | succ n ih =>
    obtain ⟨h3, h4, h5⟩ := ih
    simp only [aheadL]
    split
    · rename_i h
      rw [upS_append, lastId_append, h3]
      refine ⟨?_, by simp [lastId], by simp [lastId]; omega⟩
      simp [Ed.upS, Ed.mayS]
      omega
    · rw [List.append_nil]
      exact ⟨h3, by omega, h5⟩
theorem behindL_up (id : Nat) (h1 : 1 ≤ id) (h2 : id ≤ 16777215) (n : Nat) (hn : n ≤ 1000) : Ed.upS id (behindL id n) = true ∧ lastId id (behindL id n) ≤ id + n := by
  induction n with
  | zero => exact ⟨rfl, Nat.le_refl _⟩
  | succ n ih =>
    obtain ⟨h3, h4⟩ := ih (by omega)
    simp only [behindL]
    split
    · rename_i h
      rw [upS_append, lastId_append, h3]
      refine ⟨?_, by simp [lastId]; omega⟩
      simp [Ed.upS, Ed.mayS]
      omega
    · rw [List.append_nil]
      exact ⟨h3, by omega⟩
def full (s : Ed.Sl) (a b : Nat) : List Ed.Sl := aheadL s.id a ++ [s] ++ behindL s.id b
theorem full_up {s : Ed.Sl} (h : Ed.mayS s = true) (a b : Nat) (hb : b ≤ 1000) : Ed.upS 0 (full s a b) = true := by
  have hs := h
  simp only [Ed.mayS, decide_eq_true_eq] at hs
  obtain ⟨h1, h2, h3⟩ := aheadL_up s.id hs.1 hs.2.1 a
  have h4 := behindL_up s.id hs.1 hs.2.1 b hb
  unfold full
  rw [upS_append, upS_append, lastId_append, h1]
  simp only [Ed.upS, lastId, h, h4.1, Bool.true_and, Bool.and_true, decide_eq_true_eq]
  exact h3
theorem full_len (s : Ed.Sl) (a b : Nat) : 1 ≤ (full s a b).length ∧ (full s a b).length ≤ a + b + 1 := by
  have := aheadL_len s.id a
  have := behindL_len s.id b
  simp only [full, List.length_append, List.length_cons, List.length_nil]
  omega
theorem full_fit {s : Ed.Sl} (h : Ed.mayS s = true) (a b : Nat) (hb : b ≤ 1000) : ∀ x ∈ full s a b, Ed.FitS x := fun x hx => by
  have := Ed.upS_mem _ _ (full_up h a b hb) x hx
  simp only [Ed.mayS, decide_eq_true_eq] at this
  constructor <;> omega
theorem full_again {l : List Ed.Sl} {x : Ed.Sl} (h : Ed.upS 0 l = true) (hx : l[0]? = some x) : Ed.upS 0 (l ++ [x]) = false := by
  rcases l with _ | ⟨y, r⟩
  · simp at hx
  · simp at hx
    subst hx
    rw [upS_append, h]
    simp only [Ed.upS, Bool.and_eq_true, decide_eq_true_eq] at h
    have := first_le r y.id h.2
    have e : decide (lastId 0 (y :: r) < y.id) = false := by
      apply decide_eq_false
      simp only [lastId]
      omega
    simp only [Ed.upS, e, Bool.and_false, Bool.false_and]
theorem may_full {l : List Ed.Sl} {q : Nat} (h : Ed.upS 0 l = true) (hl : l.length ≤ 200) (hq : q ≤ 1099511627776) : Ed.mayE ⟨6, ⟨#[]⟩, q, 0, l⟩ = true := by
  refine Ed.may_iff.2 ⟨(by decide : (1 : Int) ≤ 6), (by decide : (6 : Int) ≤ 6), ?_, rfl, rfl, ?_, h⟩
  · show Ed.inB (0, 1099511627776) q = true
    simp [Ed.inB, hq]
  · show Ed.inB (0, 200) l.length = true
    simp [Ed.inB, hl]
theorem no_full {l : List Ed.Sl} {q : Nat} (h : Ed.upS 0 l = false) : Ed.mayE ⟨6, ⟨#[]⟩, q, 0, l⟩ = false := by
  cases hm : Ed.mayE ⟨6, ⟨#[]⟩, q, 0, l⟩
  · rfl
  · have := (Ed.may_iff.1 hm).seals
    rw [h] at this
    cases this
theorem one_seal (s : Ed.Sl) (h : Ed.mayS s = true) : Ed.upS 0 [s] = true := by
  have hs := h
  simp only [Ed.mayS, decide_eq_true_eq] at hs
  simp only [Ed.upS, h, Bool.true_and, Bool.and_true, decide_eq_true_eq]
  omega
theorem may_one (s : Ed.Sl) : Ed.mayE ⟨5, ⟨#[]⟩, 0, 0, [s]⟩ = Ed.mayS s := by
  cases h : Ed.mayS s
  · cases hm : Ed.mayE ⟨5, ⟨#[]⟩, 0, 0, [s]⟩
    · rfl
    · have := (Ed.may_iff.1 hm).seals
      simp [Ed.upS, h] at this
  · exact Ed.may_iff.2 ⟨(by decide : (1 : Int) ≤ 5), (by decide : (5 : Int) ≤ 6), rfl, rfl, rfl, rfl, one_seal s h⟩
theorem one_no (s : Ed.Sl) (h : Ed.mayS s = false) : Ed.upS 0 [s] = false := by simp [Ed.upS, h]
end Go.Proofs.YthcmjgkdljgcbaaDoor.editSeals
