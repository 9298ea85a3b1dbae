
/-
  Layer 1: what forms are like: their first byte, their digits, their order; what Get tells of them. Plain mathematics.
-/
import Derived.Test.YtffcbekogpgciaaPxPlain
import Derived.Lib.Bytealg
set_option linter.unusedVariables false
set_option linter.unusedSimpArgs false
namespace Go.Proofs.Ytffcbekogpgciaa.Px

theorem pow_step (j : Nat) : 2 ^ (8 * (j + 1)) = 256 * 2 ^ (8 * j) := by
  rw [show 8 * (j + 1) = 8 * j + 8 by omega, Nat.pow_add, Nat.mul_comm]

theorem div_step (n j : Nat) : n / 2 ^ (8 * j) = n / 2 ^ (8 * (j + 1)) * 256 + n / 2 ^ (8 * j) % 256 := by
  rw [pow_step, Nat.mul_comm 256, ← Nat.div_div_eq_div_mul]
  omega

theorem dg_toNat (n j : Nat) : (dg n j).toNat = n / 2 ^ (8 * j) % 256 := by
  unfold dg
  exact UInt8.toNat_ofNat_of_lt' (by simp only [UInt8.size]; exact Nat.mod_lt _ (by omega))

/-- the k lowest digits, the highest one first -/
def beH : Nat → Nat → List UInt8
  | 0, _ => []
  | k + 1, n => dg n k :: beH k n

theorem digs_eq (n k : Nat) : digs n k k = beH k n := by
  induction k with
  | zero => rfl
  | succ k ih =>
    rw [beH, ← ih]
    unfold digs
    rw [List.range_succ_eq_map, List.map_cons, List.map_map]
    congr 1
    apply List.map_congr_left
    intro t _
    show dg n (k + 1 - 1 - (t + 1)) = dg n (k - 1 - t)
    congr 1
    omega

theorem beH_length (k n : Nat) : (beH k n).length = k := by
  induction k with
  | zero => rfl
  | succ k ih => simp [beH, ih]

/-- the first byte of a form -/
def headN (n : Nat) : Nat := n / 2 ^ (8 * (sizeN n - 1)) + onesN (sizeN n)

theorem or_add (x k : Nat) (hx : x < 2 ^ (9 - k)) (hk : 1 ≤ k) (hk2 : k ≤ 9) : x ||| onesN k = x + onesN k := by
  have e : onesN k % 2 ^ (9 - k) = 0 := by
    unfold onesN
    have : k = 1 ∨ k = 2 ∨ k = 3 ∨ k = 4 ∨ k = 5 ∨ k = 6 ∨ k = 7 ∨ k = 8 ∨ k = 9 := by omega
    rcases this with rfl | rfl | rfl | rfl | rfl | rfl | rfl | rfl | rfl <;> decide
  rw [Nat.or_comm, nat_join (9 - k) _ _ e hx, Nat.add_comm]

theorem top_lt (n : Nat) (h : n < 18446744073709551616) : n / 2 ^ (8 * (sizeN n - 1)) < 2 ^ (9 - sizeN n) ∧ (sizeN n < 9 → n / 2 ^ (8 * (sizeN n - 1)) < 2 ^ (8 - sizeN n)) := by
  unfold sizeN
  (repeat' split) <;> simp <;> omega

theorem head_val (n : Nat) (h : n < 18446744073709551616) : (dg n (sizeN n - 1) ||| UInt8.ofNat (onesN (sizeN n))).toNat = headN n := by
  obtain ⟨h1, h2⟩ := sizeN_pos n
  have ht := (top_lt n h).1
  have ho : onesN (sizeN n) < 256 := by unfold onesN; have := Nat.two_pow_pos (9 - sizeN n); omega
  have h8 : 2 ^ (9 - sizeN n) ≤ 2 ^ 8 := Nat.pow_le_pow_right (by omega) (by omega)
  rw [UInt8.toNat_or, dg_toNat, UInt8.toNat_ofNat_of_lt' (by simpa [UInt8.size] using ho), Nat.mod_eq_of_lt (by omega), or_add _ _ ht h1 h2]
  rfl

theorem formL_eq (n : Nat) (h : n < 18446744073709551616) : ∃ x : UInt8, x.toNat = headN n ∧ formL n = x :: beH (sizeN n - 1) n := by
  obtain ⟨h1, h2⟩ := sizeN_pos n
  refine ⟨dg n (sizeN n - 1) ||| UInt8.ofNat (onesN (sizeN n)), head_val n h, ?_⟩
  unfold formL
  rw [digs_eq]
  generalize sizeN n = k at *
  obtain ⟨j, rfl⟩ : ∃ j, k = j + 1 := ⟨k - 1, by omega⟩
  rfl

theorem head_told (n : Nat) (h : n < 18446744073709551616) : toldN (headN n) = sizeN n ∧ headN n < 256 := by
  have ht := top_lt n h
  have hp := sizeN_pos n
  unfold headN onesN toldN
  generalize n / 2 ^ (8 * (sizeN n - 1)) = q at *
  generalize sizeN n = k at *
  have : k = 1 ∨ k = 2 ∨ k = 3 ∨ k = 4 ∨ k = 5 ∨ k = 6 ∨ k = 7 ∨ k = 8 ∨ k = 9 := by omega
  refine ⟨?_, ?_⟩ <;> rcases this with rfl | rfl | rfl | rfl | rfl | rfl | rfl | rfl | rfl <;> simp at ht <;> simp only [Nat.reduceSub, Nat.reducePow] <;> (repeat' split) <;> omega

theorem head_mod (n : Nat) (h : n < 18446744073709551616) : headN n % 2 ^ (9 - sizeN n) = n / 2 ^ (8 * (sizeN n - 1)) := by
  have ht := (top_lt n h).1
  have hp := sizeN_pos n
  unfold headN onesN
  generalize n / 2 ^ (8 * (sizeN n - 1)) = q at *
  generalize sizeN n = k at *
  have : k = 1 ∨ k = 2 ∨ k = 3 ∨ k = 4 ∨ k = 5 ∨ k = 6 ∨ k = 7 ∨ k = 8 ∨ k = 9 := by omega
  rcases this with rfl | rfl | rfl | rfl | rfl | rfl | rfl | rfl | rfl <;> simp at ht ⊢ <;> omega

theorem beH_get (k n j : Nat) (h : j < k) (r : List UInt8) : (beH k n ++ r).getD j 0 = dg n (k - 1 - j) := by
  induction k generalizing j with
  | zero => omega
  | succ k ih =>
    rcases j with _ | j
    · simp [beH]
    · simp only [beH, List.cons_append, List.getD_cons_succ]
      rw [ih j (by omega)]
      congr 1
      omega

/-- Get, of a form with whatever behind -/
theorem get_form (n : Nat) (h : n < 18446744073709551616) (r : List UInt8) : getN (formL n ++ r) = (n, sizeN n, 0) := by
  obtain ⟨x, hx, hf⟩ := formL_eq n h
  obtain ⟨h1, h2⟩ := sizeN_pos n
  obtain ⟨ht, _⟩ := head_told n h
  have hacc : ∀ j, j ≤ sizeN n - 1 → accN (x :: (beH (sizeN n - 1) n ++ r)) (sizeN n) j = n / 2 ^ (8 * (sizeN n - 1 - j)) := by
    intro j
    induction j with
    | zero =>
      intro _
      simp only [accN, List.getD_cons_zero]
      rw [hx, head_mod n h, Nat.sub_zero]
    | succ j ih =>
      intro hj
      rw [accN, ih (by omega), List.getD_cons_succ, beH_get _ _ _ (by omega), dg_toNat]
      have e := div_step n (sizeN n - 1 - 1 - j)
      rw [show sizeN n - 1 - 1 - j + 1 = sizeN n - 1 - j by omega] at e
      rw [show sizeN n - 1 - (j + 1) = sizeN n - 1 - 1 - j by omega]
      exact e.symm
  have hend := hacc (sizeN n - 1) (Nat.le_refl _)
  rw [Nat.sub_self, Nat.mul_zero, Nat.pow_zero, Nat.div_one] at hend
  rw [hf, List.cons_append]
  unfold getN
  simp only [hx, ht, hend]
  rw [if_neg (by simp [beH_length]; omega)]
  simp

theorem formL_lt_short (n : Nat) (h : n < 18446744073709551616) (j : Nat) (hj : j < sizeN n) : getN ((formL n).take j) = (0, 0, 4) := by
  obtain ⟨x, hx, hf⟩ := formL_eq n h
  obtain ⟨ht, _⟩ := head_told n h
  rw [hf]
  rcases j with _ | j
  · rfl
  · rw [List.take_succ_cons]
    unfold getN
    simp only [hx, ht]
    rw [if_pos (by simp [beH_length]; omega)]

theorem head_back (x k : Nat) (hx : x < 256) (hk : toldN x = k) : x % 2 ^ (9 - k) + onesN k = x := by
  unfold toldN at hk
  unfold onesN
  (repeat' split at hk) <;> subst hk <;> simp only [Nat.reduceSub, Nat.reducePow] <;> omega

/-- what Get tells is OK, too short, or no shortest form -/
theorem getN_cases (l : List UInt8) : (getN l = (0, 0, 4) ∨ getN l = (0, 0, 5)) ∨ ∃ n k, getN l = (n, k, 0) ∧ n < 18446744073709551616 ∧ 1 ≤ k ∧ k ≤ l.length ∧ k = sizeN n ∧ formL n = l.take k := by
  rcases l with _ | ⟨x, r⟩
  · exact .inl (.inl rfl)
  · unfold getN
    obtain ⟨k1, k2⟩ := toldN_pos x.toNat
    simp only
    by_cases hs : (x :: r).length < toldN x.toNat
    · rw [if_pos hs]; exact .inl (.inl rfl)
    · rw [if_neg hs]
      generalize hk : toldN x.toNat = k at *
      by_cases hz : sizeN (accN (x :: r) k (k - 1)) = k
      · rw [if_pos hz]
        refine .inr ⟨_, _, rfl, accN_end _ k k1 k2, k1, by omega, hz.symm, ?_⟩
        have hlt := accN_end (x :: r) k k1 k2
        have hdig : ∀ j, j ≤ k - 1 → accN (x :: r) k (k - 1) / 2 ^ (8 * j) = accN (x :: r) k (k - 1 - j) := by
          intro j
          induction j with
          | zero => intro _; simp
          | succ j ih =>
            intro hj
            have e1 : accN (x :: r) k (k - 1 - j) = accN (x :: r) k (k - 1 - (j + 1)) * 256 + ((x :: r).getD (k - 1 - j) 0).toNat := by
              obtain ⟨m, hm⟩ : ∃ m, k - 1 - j = m + 1 := ⟨k - 1 - j - 1, by omega⟩
              rw [hm, show k - 1 - (j + 1) = m by omega]
              rfl
            have e2 := UInt8.toNat_lt ((x :: r).getD (k - 1 - j) 0)
            rw [pow_step, Nat.mul_comm 256, ← Nat.div_div_eq_div_mul, ih (by omega), e1]
            omega
        generalize hn : accN (x :: r) k (k - 1) = n at *
        obtain ⟨y, hy, hf⟩ := formL_eq n hlt
        have hhead : y = x := by
          apply UInt8.toNat_inj.1
          rw [hy]
          unfold headN
          rw [hz, hdig (k - 1) (Nat.le_refl _), Nat.sub_self]
          simp only [accN, List.getD_cons_zero]
          exact head_back x.toNat k (UInt8.toNat_lt x) hk
        rw [hf, hhead, hz]
        obtain ⟨m, rfl⟩ : ∃ m, k = m + 1 := ⟨k - 1, by omega⟩
        rw [List.take_succ_cons, Nat.add_sub_cancel]
        congr 1
        apply List.ext_getElem
        · rw [beH_length, List.length_take]
          simp at hs
          omega
        · intro j hj1 hj2
          rw [beH_length] at hj1
          have hjr : j < r.length := by simp at hs; omega
          have a1 := beH_get m n j hj1 []
          rw [List.append_nil, List.getD_eq_getElem?_getD, List.getElem?_eq_getElem (by rw [beH_length]; exact hj1)] at a1
          simp only [Option.getD_some] at a1
          rw [a1, List.getElem_take]
          apply UInt8.toNat_inj.1
          rw [dg_toNat]
          have d1 := hdig (m - 1 - j) (by omega)
          rw [d1]
          have e1 : accN (x :: r) (m + 1) (m + 1 - 1 - (m - 1 - j)) = accN (x :: r) (m + 1) j * 256 + ((x :: r).getD (j + 1) 0).toNat := by
            rw [show m + 1 - 1 - (m - 1 - j) = j + 1 by omega]
            rfl
          rw [e1, List.getD_cons_succ, List.getD_eq_getElem?_getD, List.getElem?_eq_getElem hjr]
          have := UInt8.toNat_lt r[j]
          simp only [Option.getD_some]
          omega
      · rw [if_neg hz]; exact .inl (.inr rfl)

/-! fixed numbers -/
theorem leL_get (n k j : Nat) (h : j < k) (r : List UInt8) : (leL n k ++ r).getD j 0 = dg n j := by
  rw [List.getD_eq_getElem?_getD, List.getElem?_append_left (by rw [leL_length]; exact h)]
  simp [leL, h]

theorem rdN_leL (n k : Nat) (r : List UInt8) (j : Nat) (hj : j ≤ k) : rdN (leL n k ++ r) j = n % 2 ^ (8 * j) := by
  induction j with
  | zero => simp [rdN, Nat.mod_one]
  | succ j ih =>
    rw [rdN, ih (by omega), leL_get n k j (by omega), dg_toNat, pow_step, Nat.mul_comm 256, Nat.mod_mul, Nat.mul_comm (2 ^ (8 * j)) (n / 2 ^ (8 * j) % 256)]

theorem rdN_fix (n k : Nat) (r : List UInt8) (h : n / 2 ^ (8 * k) = 0) : rdN (leL n k ++ r) k = n := by
  rw [rdN_leL n k r k (Nat.le_refl _)]
  apply Nat.mod_eq_of_lt
  rcases Nat.lt_or_ge n (2 ^ (8 * k)) with h1 | h1
  · exact h1
  · have := Nat.div_pos h1 (Nat.two_pow_pos _)
    omega

theorem rdN_mod (l : List UInt8) (j k : Nat) (h : j ≤ k) : rdN l k % 2 ^ (8 * j) = rdN l j := by
  induction k with
  | zero => obtain rfl : j = 0 := by omega
            simp [rdN, Nat.mod_one]
  | succ k ih =>
    rcases Nat.lt_or_ge k j with h1 | h1
    · obtain rfl : j = k + 1 := by omega
      exact Nat.mod_eq_of_lt (rdN_lt l (k + 1))
    · have e : 2 ^ (8 * k) = 2 ^ (8 * (k - j)) * 2 ^ (8 * j) := by rw [← Nat.pow_add]; congr 1; omega
      rw [rdN, e, ← Nat.mul_assoc, Nat.add_mul_mod_self_right]
      exact ih h1

theorem leL_rdN (l : List UInt8) (k : Nat) (h : k ≤ l.length) : leL (rdN l k) k = l.take k := by
  apply List.ext_getElem
  · rw [leL_length, List.length_take]; omega
  · intro j h1 h2
    rw [leL_length] at h1
    have e1 : (leL (rdN l k) k)[j] = dg (rdN l k) j := by simp [leL]
    rw [e1, List.getElem_take]
    apply UInt8.toNat_inj.1
    rw [dg_toNat]
    have h3 := rdN_mod l (j + 1) k (by omega)
    rw [← Nat.mod_mul_right_div_self, Nat.mul_comm (2 ^ (8 * j)) 256, ← pow_step, h3, rdN, Nat.add_mul_div_right _ _ (Nat.two_pow_pos _), Nat.div_eq_of_lt (rdN_lt l j), Nat.zero_add,
      List.getD_eq_getElem?_getD, List.getElem?_eq_getElem (by omega)]
    rfl
end Go.Proofs.Ytffcbekogpgciaa.Px
