
/-
  Layer 3, plain mathematics: order of packed numbers and of bytes; there and back.
-/
import Derived.Test.YtaekndhchdpobaaLxMem
set_option linter.unusedVariables false
set_option linter.unusedSimpArgs false
namespace Go.Proofs.Ytaekndhchdpobaa.Lx
open Go.RowKit
open Go.Lib (compareBytes)

theorem cmpB_append (u v x y : List UInt8) (h1 : ∀ r, u ++ r ≠ v) (h2 : ∀ r, v ++ r ≠ u) : compareBytes (u ++ x) (v ++ y) = compareBytes u v := by
  induction u generalizing v with
  | nil => exact absurd rfl (h1 v)
  | cons a u ih =>
    rcases v with _ | ⟨b, v⟩
    · exact absurd rfl (h2 (a :: u))
    · simp only [List.cons_append, compareBytes]
      split
      · rfl
      · split
        · rfl
        · rename_i n1 n2
          have hab : a = b := by
            rw [UInt8.lt_iff_toNat_lt] at n1 n2
            exact UInt8.toNat_inj.1 (by omega)
          subst hab
          exact ih v (fun r e => h1 r (by rw [List.cons_append, e])) (fun r e => h2 r (by rw [List.cons_append, e]))
theorem cmpB_same (u x y : List UInt8) : compareBytes (u ++ x) (u ++ y) = compareBytes x y := by
  induction u with
  | nil => rfl
  | cons a u ih =>
    simp only [List.cons_append, compareBytes]
    rw [if_neg (by rw [UInt8.lt_iff_toNat_lt]; omega), if_neg (by rw [UInt8.lt_iff_toNat_lt]; omega)]
    exact ih
theorem form_not (a b : Nat) (ha : a < 18446744073709551616) (hb : b < 18446744073709551616) (h : a ≠ b) (r : List UInt8) : Px.formL a ++ r ≠ Px.formL b := by
  intro e
  have g1 := Px.get_form a ha r
  have g2 := Px.get_form b hb []
  rw [e] at g1
  rw [List.append_nil, g1] at g2
  exact h (by injection g2)
theorem cmp_two (a b : Nat) (ha : a < 18446744073709551616) (hb : b < 18446744073709551616) (x y : List UInt8) :
    compareBytes (Px.formL a ++ x) (Px.formL b ++ y) = if a = b then compareBytes x y else Px.cmpN a b := by
  by_cases h : a = b
  · subst h
    rw [if_pos rfl, cmpB_same]
  · rw [if_neg h, cmpB_append _ _ _ _ (form_not a b ha hb h) (form_not b a hb ha (Ne.symm h)), Px.cmp_form a b ha hb]

theorem cmpN_int (a b : Int) (ha : 0 ≤ a) (hb : 0 ≤ b) : Px.cmpN a.toNat b.toNat = cmpI a b := by
  unfold Px.cmpN cmpI
  repeat' split
  all_goals omega

/-- at which a record can stand -/
def Std (s o : Int) : Prop := 1 ≤ s ∧ s ≤ 16777215 ∧ 16 ≤ o ∧ o ≤ 16777216
section
variable {s o s' o' : Int}
theorem Std.may (h : Std s o) : mayB s o = true := by
  unfold Std at h
  simp [mayB, standsB]
  omega
theorem Std.none (h : Std s o) : noneB s o = false := by
  unfold Std at h
  simp [noneB]
  omega
theorem Std.stands (h : Std s o) : standsB s o = true := by
  unfold Std at h
  simp [standsB]
  omega
theorem Std.pkN (h : Std s o) : Lx.pkN s o = s * 4294967296 + o := by unfold Lx.pkN; rw [h.may]; rfl
theorem Std.pkE (h : Std s o) : Lx.pkE s o = 0 := by unfold Lx.pkE; rw [h.may]; rfl
theorem Std.putL (h : Std s o) : Lx.putL s o = Px.formL s.toNat ++ Px.formL (o - 16).toNat := if_neg (by unfold Std at h; omega)
theorem Std.putR (h : Std s o) (l : List UInt8) : Lx.putR l s o = l ++ Lx.putL s o := by unfold Lx.putR; rw [h.may]; rfl
theorem Std.cmp (h : Std s o) (h' : Std s' o') : compareBytes (Lx.putL s o) (Lx.putL s' o') = cmpL s o s' o' := by
  rw [h.putL, h'.putL]
  unfold Std at h h'
  rw [cmp_two _ _ (by omega) (by omega)]
  unfold cmpL
  by_cases hs : s = s'
  · subst hs
    rw [if_pos rfl, if_pos rfl, Px.cmp_form _ _ (by omega) (by omega), cmpN_int _ _ (by omega) (by omega)]
    unfold cmpI
    repeat' split
    all_goals omega
  · rw [if_neg (by omega), if_neg hs, cmpN_int _ _ (by omega) (by omega)]
theorem cmpI_le (a b : Int) : -1 ≤ cmpI a b ∧ cmpI a b ≤ 1 := by unfold cmpI; split <;> (try split) <;> omega
theorem cmpL_le (s o s' o' : Int) : -1 ≤ cmpL s o s' o' ∧ cmpL s o s' o' ≤ 1 := by unfold cmpL; split <;> exact cmpI_le _ _
theorem cmpI_neg (a b : Int) : cmpI b a = -cmpI a b := by unfold cmpI; repeat' split <;> omega
theorem cmpL_neg (s o s' o' : Int) : cmpL s' o' s o = -cmpL s o s' o' := by
  unfold cmpL
  by_cases h : s = s'
  · rw [if_pos h, if_pos h.symm, cmpI_neg]
  · rw [if_neg h, if_neg (Ne.symm h), cmpI_neg]
theorem Std.lt (h : Std s o) (h' : Std s' o') : (cmpL s o s' o' < 0 ↔ s * 4294967296 + o < s' * 4294967296 + o') ∧ (cmpL s o s' o' = 0 ↔ s * 4294967296 + o = s' * 4294967296 + o') := by
  unfold Std at h h'
  unfold cmpL cmpI
  repeat' split
  all_goals omega
theorem Std.above (h : Std s o) : cmpL 0 0 s o = -1 := by
  unfold Std at h
  unfold cmpL cmpI
  rw [if_neg (by omega), if_pos (by omega)]
theorem Std.first (h : Std s o) : compareBytes [0] (Lx.putL s o) = -1 := by
  rw [h.putL]
  unfold Std at h
  have := cmp_two 0 s.toNat (by omega) (by omega) [] (Px.formL (o - 16).toNat)
  rw [List.append_nil] at this
  rw [show ([0] : List UInt8) = Px.formL 0 by decide, this, if_neg (by omega)]
  unfold Px.cmpN
  rw [if_pos (by omega)]
theorem Std.brought (s o : Int) (h0 : 0 ≤ s) (h2 : 0 ≤ o) : Std (1 + s % 16777215) (16 + o % 16777201) := by unfold Std; omega
theorem Std.un (h : Std s o) : unS (s * 4294967296 + o) = s ∧ unO (s * 4294967296 + o) = o ∧ unE (s * 4294967296 + o) = 0 := by
  have e1 : (s * 4294967296 + o) / 4294967296 = s := by unfold Std at h; omega
  have e2 : (s * 4294967296 + o) % 4294967296 = o := by unfold Std at h; omega
  unfold unS unO unE
  rw [e1, e2, h.may]
  simp
theorem Std.get (h : Std s o) (r : List UInt8) : getQ (Lx.putL s o ++ r) = (s, o, ((Lx.putL s o).length : Int), 0) := by
  have hp := h.putL
  unfold Std at h
  have g1 := Px.get_form s.toNat (by omega) (Px.formL (o - 16).toNat ++ r)
  have g2 := Px.get_form (o - 16).toNat (by omega) r
  have hl := Px.formL_length s.toNat
  have hl2 := Px.formL_length (o - 16).toNat
  have hd : (Px.formL s.toNat ++ (Px.formL (o - 16).toNat ++ r)).drop (Px.sizeN s.toNat) = Px.formL (o - 16).toNat ++ r := by
    rw [← hl, List.drop_left]
  rw [hp, List.append_assoc]
  unfold getQ
  rw [g1, hd, g2]
  simp only [List.length_append, hl, hl2]
  rw [if_neg (by omega), if_neg (by omega), if_neg (by omega), if_neg (by omega)]
  refine Prod.ext ?_ (Prod.ext ?_ (Prod.ext ?_ rfl))
  · show ((s.toNat : Nat) : Int) = s
    omega
  · show (((o - 16).toNat : Nat) : Int) + 16 = o
    omega
  · rfl
theorem Std.short (h : Std s o) (j : Nat) (hj : j < (Lx.putL s o).length) : getQ ((Lx.putL s o).take j) = (0, 0, 0, 4) := by
  have hp := h.putL
  unfold Std at h
  have hl := Px.formL_length s.toNat
  have hl2 := Px.formL_length (o - 16).toNat
  rw [hp] at hj ⊢
  rw [List.length_append, hl, hl2] at hj
  rcases Nat.lt_or_ge j (Px.sizeN s.toNat) with h1 | h1
  · rw [List.take_append_of_le_length (by omega)]
    have := Px.formL_lt_short s.toNat (by omega) j h1
    unfold getQ
    rw [this]
    rfl
  · obtain ⟨i, rfl⟩ : ∃ i, j = Px.sizeN s.toNat + i := ⟨j - Px.sizeN s.toNat, by omega⟩
    have e : (Px.formL s.toNat ++ Px.formL (o - 16).toNat).take (Px.sizeN s.toNat + i) = Px.formL s.toNat ++ (Px.formL (o - 16).toNat).take i := by
      rw [List.take_append, List.take_of_length_le (by omega), hl]
      congr 2
      omega
    rw [e]
    have g1 := Px.get_form s.toNat (by omega) ((Px.formL (o - 16).toNat).take i)
    have g2 := Px.formL_lt_short (o - 16).toNat (by omega) i (by omega)
    have hd : (Px.formL s.toNat ++ (Px.formL (o - 16).toNat).take i).drop (Px.sizeN s.toNat) = (Px.formL (o - 16).toNat).take i := by
      rw [← hl, List.drop_left]
    unfold getQ
    rw [g1, hd, g2]
    simp only
    rw [if_neg (by omega), if_neg (by omega), if_pos (by omega)]
    rfl
end
/-- what Unpack tells of a number that is one's -/
theorem un_back (n : Int) (h0 : 0 ≤ n) (h1 : n < 18446744073709551616) (h : unE n = 0) : mayB (unS n) (unO n) = true ∧ pkN (unS n) (unO n) = n ∧ pkE (unS n) (unO n) = 0 ∧ 0 ≤ unS n ∧ unS n < 4294967296 ∧ 0 ≤ unO n ∧ unO n < 4294967296 := by
  unfold unE at h
  split at h <;> rename_i hm
  · unfold unS unO pkN pkE
    rw [if_pos hm, if_pos hm]
    refine ⟨hm, ?_, ?_, ?_⟩
    · rw [if_pos hm]; omega
    · rw [if_pos hm]
    · omega
  · omega
/-- what Get tells of bytes that are one's -/
theorem get_back (l : List UInt8) (h : (getQ l).2.2.2 = 0) : ∃ (s o : Int) (k : Nat), getQ l = (s, o, (k : Int), 0) ∧ mayB s o = true ∧ Lx.putL s o = l.take k ∧ k ≤ l.length ∧ 0 ≤ s ∧ s < 4294967296 ∧ 0 ≤ o ∧ o < 4294967296 := by
  rcases Px.getN_cases l with (hg | hg) | ⟨n, k, hg, hn, hk1, hkl, hks, hf⟩
  · unfold getQ at h
    rw [hg] at h
    simp at h
  · unfold getQ at h
    rw [hg] at h
    simp at h
  · by_cases hn0 : n = 0
    · subst hn0
      refine ⟨0, 0, k, ?_, by decide, ?_, hkl, by omega, by omega, by omega, by omega⟩
      · unfold getQ
        rw [hg]
        simp
      · rw [← hf]
        rfl
    · rcases Px.getN_cases (l.drop k) with (hg2 | hg2) | ⟨m, j, hg2, hm, hj1, hjl, hjs, hf2⟩
      · unfold getQ at h
        rw [hg] at h
        simp [hn0, hg2] at h
      · unfold getQ at h
        rw [hg] at h
        simp [hn0, hg2] at h
      · by_cases hb : 16777215 < n ∨ 16777200 < m
        · unfold getQ at h
          rw [hg] at h
          simp only [hg2] at h
          rw [if_neg (by omega), if_neg (by omega), if_neg (by omega), if_pos (by omega)] at h
          simp at h
        · have hS : Std (n : Int) ((m : Int) + 16) := by unfold Std; omega
          refine ⟨n, m + 16, k + j, ?_, hS.may, ?_, ?_, by omega, by omega, by omega, by omega⟩
          · unfold getQ
            rw [hg]
            simp [hn0, hg2]
            omega
          · rw [hS.putL, show ((n : Int)).toNat = n by omega, show ((m : Int) + 16 - 16).toNat = m by omega, hf, hf2, List.take_add]
          · rw [List.length_drop] at hjl
            omega
end Go.Proofs.Ytaekndhchdpobaa.Lx
