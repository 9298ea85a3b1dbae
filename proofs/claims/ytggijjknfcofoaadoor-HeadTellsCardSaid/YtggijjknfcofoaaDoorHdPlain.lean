
/-
  Layer 10, plain mathematics: heads of files as bytes, what bytes begin with, turned bits.
-/
import Derived.Test.YtggijjknfcofoaaDoorPxForm
import Derived.Test.YtggijjknfcofoaaDoorCxRun
set_option linter.unusedVariables false
set_option linter.unusedSimpArgs false
namespace Go.Proofs.YtggijjknfcofoaaDoor.Hd
open Go.RowKit

/-- the seven letters -/
def letters : List UInt8 := [104, 111, 117, 114, 98, 107, 49]
theorem letters_length : letters.length = 7 := rfl
/-- what is covered -/
def bodyL (k n : Nat) : List UInt8 := letters ++ (Px.leL k 1 ++ Px.leL n 4)
theorem bodyL_length (k n : Nat) : (bodyL k n).length = 12 := by simp [bodyL, letters_length, Px.leL_length]
/-- a file's head -/
def headL (k n : Nat) : List UInt8 := Cx.cover (bodyL k n)
theorem headL_length (k n : Nat) : (headL k n).length = 16 := by rw [headL, Cx.cover_length, bodyL_length]
/-- whether there is a head of that kind and id -/
def mayB (k n : Int) : Bool := decide ((k = 1 ∧ 1 ≤ n ∧ n ≤ 16777215) ∨ (k = 2 ∧ n = 0))
def kindN (l : List UInt8) : Nat := Px.rdN (l.drop 7) 1
def idN (l : List UInt8) : Nat := Px.rdN (l.drop 8) 4
/-- what bytes begin with: kind, id, error -/
def getQ (l : List UInt8) : Nat × Nat × Nat :=
  if l.length < 16 then (0, 0, 22)
  else if mayB (kindN l) (idN l) = true ∧ l.take 16 = headL (kindN l) (idN l) then (kindN l, idN l, 0) else (0, 0, 23)
/-- whether they begin with that kind and id: the error -/
def checkN (l : List UInt8) (k n : Int) : Nat :=
  if (getQ l).2.2 = 0 then (if ((getQ l).1 : Int) = k ∧ ((getQ l).2.1 : Int) = n then 0 else 23) else (getQ l).2.2

theorem may_lt {k n : Int} (h : mayB k n = true) : 1 ≤ k ∧ k ≤ 2 ∧ 0 ≤ n ∧ n ≤ 16777215 := by
  simp [mayB] at h
  omega
theorem kind_head {k n : Nat} (h : mayB k n = true) (m : List UInt8) : kindN (headL k n ++ m) = k := by
  have := may_lt h
  unfold kindN headL Cx.cover bodyL
  simp only [List.append_assoc]
  rw [List.drop_left' letters_length, Px.rdN_fix _ _ _ (Nat.div_eq_of_lt (by simp; omega))]
theorem id_head {k n : Nat} (h : mayB k n = true) (m : List UInt8) : idN (headL k n ++ m) = n := by
  have := may_lt h
  unfold idN headL Cx.cover bodyL
  simp only [List.append_assoc]
  rw [show 8 = 7 + 1 by rfl, ← List.drop_drop, List.drop_left' letters_length, List.drop_left' (Px.leL_length _ _), Px.rdN_fix _ _ _ (Nat.div_eq_of_lt (by simp; omega))]
/-- a head, whatever stands behind -/
theorem get_head {k n : Nat} (h : mayB k n = true) (m : List UInt8) : getQ (headL k n ++ m) = (k, n, 0) := by
  unfold getQ
  rw [kind_head h, id_head h, if_neg (by rw [List.length_append, headL_length]; omega), if_pos ⟨h, List.take_left' (headL_length k n)⟩]
/-- a beginning of bytes -/
theorem get_short {l : List UInt8} (h : l.length < 16) : getQ l = (0, 0, 22) := by
  unfold getQ
  rw [if_pos h]
/-- two heads are one for one kind and id alone -/
theorem head_inj {k n k' n' : Nat} (h : mayB k n = true) (h' : mayB k' n' = true) (e : headL k n = headL k' n') : k = k' ∧ n = n' := by
  have a := kind_head h []
  have b := id_head h []
  rw [e] at a b
  rw [kind_head h' []] at a
  rw [id_head h' []] at b
  exact ⟨a.symm, b.symm⟩
/-- bits within 32 in a row are turned -/
theorem get_turned {k n : Nat} {b : BitVec 32} {first t : Nat} {l : List UInt8} (ht : Cx.turned (headL k n) b first t l) (hk : t ≤ 32) (h0 : 0 < t) (hb : b.getLsbD 0 = true) (m : List UInt8) :
    getQ (l ++ m) = (0, 0, 23) := by
  have hw := Cx.turned_wrong ht (by rw [headL_length]; omega) (Cx.right_cover _) hk h0 hb
  have hl : l.length = 16 := by rw [ht.1, headL_length]
  unfold getQ
  rw [if_neg (by rw [List.length_append]; omega), if_neg ?_]
  rintro ⟨_, e⟩
  rw [List.take_left' hl] at e
  rw [e, headL, Cx.right_cover] at hw
  cases hw
theorem check_head {k n : Nat} (h : mayB k n = true) (m : List UInt8) (k' n' : Int) : checkN (headL k n ++ m) k' n' = if (k : Int) = k' ∧ (n : Int) = n' then 0 else 23 := by
  unfold checkN
  rw [get_head h m]
  simp
theorem check_turned {k n : Nat} {b : BitVec 32} {first t : Nat} {l : List UInt8} (ht : Cx.turned (headL k n) b first t l) (hk : t ≤ 32) (h0 : 0 < t) (hb : b.getLsbD 0 = true) (m : List UInt8) (k' n' : Int) : checkN (l ++ m) k' n' = 23 := by
  unfold checkN
  rw [get_turned ht hk h0 hb m]
  simp

/-- the document's way of asking -/
def refQ (l : List UInt8) : Nat × Nat × Nat :=
  if l.length < 16 then (0, 0, 22)
  else if Cx.right (l.take 16) = true ∧ l.take 7 = letters ∧ mayB (kindN l) (idN l) = true then (kindN l, idN l, 0) else (0, 0, 23)
theorem take_body {l : List UInt8} (h : 16 ≤ l.length) (h7 : l.take 7 = letters) : l.take 12 = bodyL (kindN l) (idN l) := by
  have a : l.take 12 = l.take 7 ++ ((l.drop 7).take 1 ++ (l.drop 8).take 4) := by
    rw [show 12 = 7 + 5 by rfl, List.take_add, show 5 = 1 + 4 by rfl, List.take_add, List.drop_drop]
  rw [a, h7, bodyL]
  unfold kindN idN
  rw [Px.leL_rdN (l.drop 7) 1 (by rw [List.length_drop]; omega), Px.leL_rdN (l.drop 8) 4 (by rw [List.length_drop]; omega)]
theorem ref_get (l : List UInt8) : refQ l = getQ l := by
  unfold refQ getQ
  by_cases h : l.length < 16
  · rw [if_pos h, if_pos h]
  · rw [if_neg h, if_neg h]
    have e : (Cx.right (l.take 16) = true ∧ l.take 7 = letters ∧ mayB (kindN l) (idN l) = true) ↔ (mayB (kindN l) (idN l) = true ∧ l.take 16 = headL (kindN l) (idN l)) := by
      constructor
      · rintro ⟨h1, h2, h3⟩
        refine ⟨h3, ?_⟩
        rw [Cx.right_iff, Bool.and_eq_true, beq_iff_eq] at h1
        have h4 := h1.2
        rw [List.length_take, show min 16 l.length - 4 = 12 by omega, List.take_take, show min 12 16 = 12 by rfl, take_body (by omega) h2] at h4
        exact h4.symm
      · rintro ⟨h1, h2⟩
        refine ⟨by rw [h2, headL, Cx.right_cover], ?_, h1⟩
        have : l.take 7 = (l.take 16).take 7 := by rw [List.take_take]; rfl
        rw [this, h2, headL, Cx.cover, bodyL, List.append_assoc]
        exact List.take_left' letters_length
    by_cases hc : Cx.right (l.take 16) = true ∧ l.take 7 = letters ∧ mayB (kindN l) (idN l) = true
    · rw [if_pos hc, if_pos (e.1 hc)]
    · rw [if_neg hc, if_neg (fun h => hc (e.2 h))]
end Go.Proofs.YtggijjknfcofoaaDoor.Hd
