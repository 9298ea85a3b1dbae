
/-
  Layer 1: the order of forms, in plain mathematics; and the contracts of bytes.Compare, bytes.HasPrefix, bytes.Clone.
-/
import Derived.Test.YtffcbekogpgciaaPxForm
import Derived.Test.YtffcbekogpgciaaPxCon
import Derived.Lib.BytesEntry
set_option linter.unusedVariables false
set_option linter.unusedSimpArgs false
namespace Go.Proofs.Ytffcbekogpgciaa.Px
open Go.Lib (compareBytes)

def cmpN (a b : Nat) : Int := if a < b then -1 else if b < a then 1 else 0

theorem cmp_beH (k a b : Nat) (h : a / 2 ^ (8 * k) = b / 2 ^ (8 * k)) : compareBytes (beH k a) (beH k b) = cmpN a b := by
  induction k with
  | zero =>
    simp at h
    subst h
    simp [beH, compareBytes, cmpN]
  | succ k ih =>
    have ha := div_step a k
    have hb := div_step b k
    have da := dg_toNat a k
    have db := dg_toNat b k
    have m1 : b ≤ a → b / 2 ^ (8 * k) ≤ a / 2 ^ (8 * k) := fun h => Nat.div_le_div_right h
    have m2 : a ≤ b → a / 2 ^ (8 * k) ≤ b / 2 ^ (8 * k) := fun h => Nat.div_le_div_right h
    simp only [beH, compareBytes, UInt8.lt_iff_toNat_lt]
    by_cases h1 : (dg a k).toNat < (dg b k).toNat
    · rw [if_pos h1]
      have : a < b := by
        rcases Nat.lt_or_ge a b with hh | hh
        · exact hh
        · have := m1 hh; omega
      simp [cmpN, this]
    · rw [if_neg h1]
      by_cases h2 : (dg b k).toNat < (dg a k).toNat
      · rw [if_pos h2]
        have : b < a := by
          rcases Nat.lt_or_ge b a with hh | hh
          · exact hh
          · have := m2 hh; omega
        have h3 : ¬ a < b := by omega
        simp [cmpN, this, h3]
      · rw [if_neg h2]
        exact ih (by omega)

theorem sizeN_mono (a b : Nat) (h : a ≤ b) : sizeN a ≤ sizeN b := by
  rcases Nat.lt_or_ge (sizeN b) (sizeN a) with h1 | h1
  · have hb := sizeN_hi b (by have := sizeN_pos a; omega)
    have ha := sizeN_lo a (by have := sizeN_pos b; omega)
    have h2 : a / 2 ^ (7 * (sizeN a - 1)) ≤ a / 2 ^ (7 * sizeN b) := Nat.div_le_div_left (Nat.pow_le_pow_right (by omega) (by omega)) (Nat.two_pow_pos _)
    have h3 : a / 2 ^ (7 * sizeN b) ≤ b / 2 ^ (7 * sizeN b) := Nat.div_le_div_right h
    exact absurd (Nat.le_zero.1 (Nat.le_trans (Nat.le_trans h2 h3) (Nat.le_of_eq hb))) ha
  · exact h1

theorem head_lt (a b : Nat) (ha : a < 18446744073709551616) (hb : b < 18446744073709551616) (h : sizeN a < sizeN b) : headN a < headN b := by
  obtain ⟨a1, a2⟩ := sizeN_pos a
  obtain ⟨b1, b2⟩ := sizeN_pos b
  have ta := (top_lt a ha).2 (by omega)
  have hp : 2 ^ (9 - sizeN b) ≤ 2 ^ (8 - sizeN a) := Nat.pow_le_pow_right (by omega) (by omega)
  have e : 2 ^ (9 - sizeN a) = 2 * 2 ^ (8 - sizeN a) := by rw [show 9 - sizeN a = 8 - sizeN a + 1 by omega, Nat.pow_succ, Nat.mul_comm]
  have h8 : 2 ^ (9 - sizeN a) ≤ 2 ^ 8 := Nat.pow_le_pow_right (by omega) (by omega)
  unfold headN onesN
  generalize a / 2 ^ (8 * (sizeN a - 1)) = qa at *
  generalize b / 2 ^ (8 * (sizeN b - 1)) = qb at *
  generalize 2 ^ (9 - sizeN b) = pb at *
  rw [e] at h8 ⊢
  generalize 2 ^ (8 - sizeN a) = pa at *
  omega

theorem all_lt (n : Nat) (h : n < 18446744073709551616) : n / 2 ^ (8 * sizeN n) = 0 := by
  obtain ⟨a1, a2⟩ := sizeN_pos n
  rcases Nat.lt_or_ge (sizeN n) 9 with h9 | h9
  · have hz := sizeN_hi n h9
    have : n / 2 ^ (8 * sizeN n) ≤ n / 2 ^ (7 * sizeN n) := Nat.div_le_div_left (Nat.pow_le_pow_right (by omega) (by omega)) (Nat.two_pow_pos _)
    exact Nat.le_zero.1 (hz ▸ this)
  · rw [show sizeN n = 9 by omega]
    omega

theorem cmp_form (a b : Nat) (ha : a < 18446744073709551616) (hb : b < 18446744073709551616) : compareBytes (formL a) (formL b) = cmpN a b := by
  obtain ⟨x, hx, ex⟩ := formL_eq a ha
  obtain ⟨y, hy, ey⟩ := formL_eq b hb
  have pa := sizeN_pos a
  have pb := sizeN_pos b
  rcases Nat.lt_trichotomy (sizeN a) (sizeN b) with h | h | h
  · have hh := head_lt a b ha hb h
    have hab : a < b := by
      rcases Nat.lt_or_ge a b with h1 | h1
      · exact h1
      · have := sizeN_mono b a h1; omega
    rw [ex, ey, compareBytes, if_pos (by rw [UInt8.lt_iff_toNat_lt, hx, hy]; exact hh)]
    simp [cmpN, hab]
  · have aa := all_lt a ha
    have ab := all_lt b hb
    have ta := (top_lt a ha).1
    have tb := (top_lt b hb).1
    unfold headN at hx hy
    rw [← h] at ab tb hy ey pb
    clear h
    generalize sizeN a = q at *
    obtain ⟨k, rfl⟩ : ∃ k, q = k + 1 := ⟨q - 1, by omega⟩
    have hc := cmp_beH (k + 1) a b (by rw [aa, ab])
    simp only [beH, compareBytes] at hc
    simp only [Nat.add_sub_cancel] at *
    have h8 : 2 ^ (9 - (k + 1)) ≤ 2 ^ 8 := Nat.pow_le_pow_right (by omega) (by omega)
    have da := dg_toNat a k
    have db := dg_toNat b k
    have c1 : (x < y) ↔ (dg a k < dg b k) := by
      rw [UInt8.lt_iff_toNat_lt, UInt8.lt_iff_toNat_lt, hx, hy, db, da]
      generalize a / 2 ^ (8 * k) = qa at *
      generalize b / 2 ^ (8 * k) = qb at *
      generalize 2 ^ (9 - (k + 1)) = r at *
      omega
    have c2 : (y < x) ↔ (dg b k < dg a k) := by
      rw [UInt8.lt_iff_toNat_lt, UInt8.lt_iff_toNat_lt, hx, hy, db, da]
      generalize a / 2 ^ (8 * k) = qa at *
      generalize b / 2 ^ (8 * k) = qb at *
      generalize 2 ^ (9 - (k + 1)) = r at *
      omega
    rw [ex, ey, compareBytes]
    simp only [c1, c2]
    exact hc
  · have hh := head_lt b a hb ha h
    have hab : b < a := by
      rcases Nat.lt_or_ge b a with h1 | h1
      · exact h1
      · have := sizeN_mono a b h1; omega
    rw [ex, ey, compareBytes, if_neg (by rw [UInt8.lt_iff_toNat_lt, hx, hy]; omega), if_pos (by rw [UInt8.lt_iff_toNat_lt, hx, hy]; exact hh)]
    have h3 : ¬ a < b := by omega
    simp [cmpN, hab, h3]

def hpB (l p : List UInt8) : Bool := decide (p.length ≤ l.length) && (l.take p.length == p)

theorem form_prefix (a b : Nat) (ha : a < 18446744073709551616) (hb : b < 18446744073709551616) (h : a ≠ b) : hpB (formL a) (formL b) = false := by
  rcases hh : hpB (formL a) (formL b) with _ | _
  · rfl
  · exfalso
    unfold hpB at hh
    rw [Bool.and_eq_true, beq_iff_eq] at hh
    have e := List.take_append_drop (formL b).length (formL a)
    rw [hh.2] at e
    have g1 := get_form b hb ((formL a).drop (formL b).length)
    rw [e] at g1
    have g2 := get_form a ha []
    rw [List.append_nil, g1] at g2
    exact h (by injection g2 with g2 _; exact g2.symm)
end Go.Proofs.Ytffcbekogpgciaa.Px

namespace Go.Proofs.Ytffcbekogpgciaa
open Go.RowKit
open Go.Lib (compareBytes)

theorem bytesOf_rd {P : Program} {w : World} {B : Nat} {A : Option Addr} {l : List UInt8} (h : Rd w B A (bvs l)) (c : Nat) :
    (Extern.Bytes.bytesOf (.slice A l.length c)).run P w = .ok ⟨l.toArray⟩ w := by
  by_cases hl : l = []
  · subst hl
    rcases A with _ | a
    · rfl
    · rfl
  · obtain ⟨b, o, rfl, _, hc⟩ := h (by simpa [bvs] using hl)
    have hl := Lib.run_loadBytesX (P := P) w (l.map fun u : UInt8 => (u.toNat : Int)) ⟨b, o, none⟩ .empty (fun j x hj => by
      rw [add_none]
      rw [List.getElem?_map] at hj
      rcases hu : l[j]? with _ | u
      · rw [hu] at hj; cases hj
      · rw [hu] at hj
        simp at hj
        subst hj
        exact hc j (bv u) (by simp [bvs, hu]))
    rw [List.length_map] at hl
    have he : (⟨ByteArray.empty.data ++ (Lib.bytesOf (l.map fun u : UInt8 => (u.toNat : Int))).toArray⟩ : ByteArray) = ⟨l.toArray⟩ := by
      apply ByteArray.ext
      show (#[] : Array UInt8) ++ (Lib.bytesOf _).toArray = l.toArray
      have : Lib.bytesOf (l.map fun u : UInt8 => (u.toNat : Int)) = l := by
        unfold Lib.bytesOf
        rw [List.map_map]
        conv => rhs; rw [← List.map_id l]
        apply List.map_congr_left
        intro u _
        simp
      rw [this]
      simp
    rw [he] at hl
    exact hl

theorem compare_b (v v' : Value) (l l' : List UInt8) (B B' : Nat) (w : World) (h : Bs w B v l) (h' : Bs w B' v' l') :
    Calls Try.prog 39 #[v, v'] w fun e w' => e = .returned (.int .i64 (compareBytes l l')) ∧ w = w' := by
  obtain ⟨A, c, rfl, _, hr⟩ := h
  obtain ⟨A', c', rfl, _, hr'⟩ := h'
  have e1 := bytesOf_rd (P := Try.prog) hr c
  have e2 := bytesOf_rd (P := Try.prog) hr' c'
  have run : (Extern.BytealgCompare.compare #[.slice A l.length c, .slice A' l'.length c']).run Try.prog w = .ok (.int .i64 (compareBytes l l')) w := by
    change Sem.run Try.prog (do pure (goInt (Extern.BytealgCompare.cmp (← Extern.Bytes.bytesOf (.slice A l.length c)) (← Extern.Bytes.bytesOf (.slice A' l'.length c'))))) w = _
    simp only [Sem.run_bind, Sem.run_pure, Result.andThen, e1, e2]
    rw [Lib.cmp_eq]
    rfl
  have Hrun := Lib.hid run
  clear run e1 e2
  go_enter Try.func39, Try.ntmps39
  go_wp2
  rw [run_callFunc_extern Try.func51 (by kernel_rfl) (by kernel_rfl) (by kernel_rfl) (e := Extern.BytealgCompare.compare) (by kernel_rfl), Hrun.out]
  simp only [Result.andThen]
  rw [Oper.upon_value]
  go_wp2
  go_ret
  exact ⟨rfl, rfl⟩

end Go.Proofs.Ytffcbekogpgciaa
