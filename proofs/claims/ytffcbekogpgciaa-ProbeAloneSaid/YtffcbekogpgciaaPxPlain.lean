
/-
  Layer 1 (numbers in bytes), as plain functions of natural numbers, without any program.
-/
import Derived.Below
import Derived.Laws.BitsAllLaws
import Derived.Test.YtffcbekogpgciaaWords
set_option linter.unusedVariables false
set_option linter.unusedSimpArgs false
namespace Go.Proofs.Ytffcbekogpgciaa.Px

/-- how many bytes the shortest form has -/
def sizeN (n : Nat) : Nat :=
  if n < 128 then 1 else if n < 16384 then 2 else if n < 2097152 then 3 else if n < 268435456 then 4 else if n < 34359738368 then 5
  else if n < 4398046511104 then 6 else if n < 562949953421312 then 7 else if n < 72057594037927936 then 8 else 9

theorem sizeN_pos (n : Nat) : 1 ≤ sizeN n ∧ sizeN n ≤ 9 := by
  unfold sizeN
  repeat' split
  all_goals omega

/-- the first of eight tests that says yes -/
theorem sizeN_at (n k : Nat) (hk : k < 8) (hlo : k = 0 ∨ n / 2 ^ (7 * k) ≠ 0) (hhi : n / 2 ^ (7 * (k + 1)) = 0) : sizeN n = k + 1 := by
  have h : k = 0 ∨ k = 1 ∨ k = 2 ∨ k = 3 ∨ k = 4 ∨ k = 5 ∨ k = 6 ∨ k = 7 := by omega
  unfold sizeN
  rcases h with rfl | rfl | rfl | rfl | rfl | rfl | rfl | rfl <;> simp at hlo hhi <;> (repeat' split) <;> omega

theorem sizeN_nine (n : Nat) (h : n / 2 ^ 56 ≠ 0) : sizeN n = 9 := by
  unfold sizeN
  simp at h
  (repeat' split) <;> omega

theorem sizeN_hi (n : Nat) (h : sizeN n < 9) : n / 2 ^ (7 * sizeN n) = 0 := by
  unfold sizeN at h ⊢
  repeat' split
  all_goals simp_all <;> omega

theorem sizeN_lo (n : Nat) (h : 1 < sizeN n) : n / 2 ^ (7 * (sizeN n - 1)) ≠ 0 := by
  unfold sizeN at h ⊢
  repeat' split
  all_goals simp_all <;> omega

/-- what the first byte of a form of k bytes begins with -/
def onesN (k : Nat) : Nat := 256 - 2 ^ (9 - k)

/-- how many bytes a form has that begins with x -/
def toldN (x : Nat) : Nat :=
  if x < 128 then 1 else if x < 192 then 2 else if x < 224 then 3 else if x < 240 then 4 else if x < 248 then 5 else if x < 252 then 6
  else if x < 254 then 7 else if x < 255 then 8 else 9

theorem toldN_pos (x : Nat) : 1 ≤ toldN x ∧ toldN x ≤ 9 := by
  unfold toldN
  repeat' split
  all_goals omega

/-- after k shifts to the left: the k highest bits of n were ones; y is what is left -/
def ToldAt (n k y : Nat) : Prop := k ≤ 8 ∧ y = n * 2 ^ k % 256 ∧ 256 - 256 / 2 ^ k ≤ n
theorem toldAt_zero (n : Nat) (h : n < 256) : ToldAt n 0 n := ⟨by omega, by omega, by omega⟩
theorem ToldAt.lt {n k y : Nat} (h : ToldAt n k y) (hn : n < 256) (hy : 128 ≤ y) : k < 8 := by
  obtain ⟨h1, h2, h3⟩ := h
  have : k = 0 ∨ k = 1 ∨ k = 2 ∨ k = 3 ∨ k = 4 ∨ k = 5 ∨ k = 6 ∨ k = 7 ∨ k = 8 := by omega
  rcases this with rfl | rfl | rfl | rfl | rfl | rfl | rfl | rfl | rfl <;> omega
theorem ToldAt.next {n k y : Nat} (h : ToldAt n k y) (hn : n < 256) (hy : 128 ≤ y) : ToldAt n (k + 1) (y * 2 % 256) := by
  have hk := h.lt hn hy
  obtain ⟨h1, h2, h3⟩ := h
  have : k = 0 ∨ k = 1 ∨ k = 2 ∨ k = 3 ∨ k = 4 ∨ k = 5 ∨ k = 6 ∨ k = 7 := by omega
  unfold ToldAt
  rcases this with rfl | rfl | rfl | rfl | rfl | rfl | rfl | rfl <;> omega
theorem ToldAt.done {n k y : Nat} (h : ToldAt n k y) (hn : n < 256) (hy : y < 128) : toldN n = k + 1 := by
  obtain ⟨h1, h2, h3⟩ := h
  have : k = 0 ∨ k = 1 ∨ k = 2 ∨ k = 3 ∨ k = 4 ∨ k = 5 ∨ k = 6 ∨ k = 7 ∨ k = 8 := by omega
  unfold toldN
  rcases this with rfl | rfl | rfl | rfl | rfl | rfl | rfl | rfl | rfl <;> (repeat' split) <;> omega

/-- a digit to the base 256 -/
def dg (n j : Nat) : UInt8 := UInt8.ofNat (n / 2 ^ (8 * j) % 256)
/-- the first i of the k lowest digits, the highest one first -/
def digs (n k i : Nat) : List UInt8 := (List.range i).map fun t => dg n (k - 1 - t)
theorem digs_succ (n k i : Nat) : digs n k (i + 1) = digs n k i ++ [dg n (k - 1 - i)] := by simp [digs, List.range_succ]
theorem digs_length (n k i : Nat) : (digs n k i).length = i := by simp [digs]
/-- the form -/
def formL (n : Nat) : List UInt8 := (digs n (sizeN n) (sizeN n)).set 0 (dg n (sizeN n - 1) ||| UInt8.ofNat (onesN (sizeN n)))
theorem formL_length (n : Nat) : (formL n).length = sizeN n := by simp [formL, digs_length]

theorem dg_val (n : Int) (h0 : 0 ≤ n) (j : Nat) (i : Int) (hi : i = j) : n / 2 ^ (8 * i).toNat % 256 = ((dg n.toNat j).toNat : Int) := by
  subst hi
  obtain ⟨n, rfl⟩ := Int.eq_ofNat_of_zero_le h0
  unfold dg
  rw [Int.toNat_natCast, UInt8.toNat_ofNat_of_lt' (by simp only [UInt8.size]; exact Nat.mod_lt _ (by omega))]
  rw [show (8 * (j : Int)).toNat = 8 * j by omega]
  simp
theorem digs_head (n k : Nat) (h : 0 < k) : (bvs (digs n k k))[0]? = some (bv (dg n (k - 1))) := by
  simp [bvs, digs, h]
theorem or_val (a : UInt8) (k : Nat) (h : k < 256) : bits .or .u8 (a.toNat : Int) (k : Int) = ((a ||| UInt8.ofNat k).toNat : Int) := by
  rw [u8_or_nat _ _ (UInt8.toNat_lt a) h, UInt8.toNat_or, UInt8.toNat_ofNat_of_lt' (by simpa [UInt8.size] using h)]

theorem formL_of (n j : Nat) (l : List UInt8) (h : sizeN n = j) (hj : 0 < j) : (l ++ digs n j j).set l.length (dg n (j - 1) ||| UInt8.ofNat (onesN j)) = l ++ formL n := by
  subst h
  rw [List.set_append_right _ _ (Nat.le_refl _), Nat.sub_self]
  rfl

/-- the number that k bytes of a form have after j rounds -/
def accN (l : List UInt8) (k : Nat) : Nat → Nat
  | 0 => (l.getD 0 0).toNat % 2 ^ (9 - k)
  | j + 1 => accN l k j * 256 + (l.getD (j + 1) 0).toNat
/-- what Get tells: the number, its size, the error -/
def getN (l : List UInt8) : Nat × Nat × Nat :=
  match l with
  | [] => (0, 0, 4)
  | x :: r => if (x :: r).length < toldN x.toNat then (0, 0, 4)
    else if sizeN (accN (x :: r) (toldN x.toNat) (toldN x.toNat - 1)) = toldN x.toNat then (accN (x :: r) (toldN x.toNat) (toldN x.toNat - 1), toldN x.toNat, 0) else (0, 0, 5)
theorem andNot_val (x : UInt8) (k : Nat) (h1 : 1 ≤ k) (h2 : k ≤ 9) : bits .andNot .u8 (x.toNat : Int) (onesN k : Int) = ((x.toNat % 2 ^ (9 - k) : Nat) : Int) := by
  have ho : onesN k < 256 := by unfold onesN; have := Nat.two_pow_pos (9 - k); omega
  rw [u8_andNot_nat _ _ (UInt8.toNat_lt x) ho]
  have : k = 1 ∨ k = 2 ∨ k = 3 ∨ k = 4 ∨ k = 5 ∨ k = 6 ∨ k = 7 ∨ k = 8 ∨ k = 9 := by omega
  rcases this with rfl | rfl | rfl | rfl | rfl | rfl | rfl | rfl | rfl <;> simp only [onesN] <;> congr 1
  all_goals first | exact Nat.and_two_pow_sub_one_eq_mod _ 8 | exact Nat.and_two_pow_sub_one_eq_mod _ 7 | exact Nat.and_two_pow_sub_one_eq_mod _ 6 | exact Nat.and_two_pow_sub_one_eq_mod _ 5 | exact Nat.and_two_pow_sub_one_eq_mod _ 4 | exact Nat.and_two_pow_sub_one_eq_mod _ 3 | exact Nat.and_two_pow_sub_one_eq_mod _ 2 | exact Nat.and_two_pow_sub_one_eq_mod _ 1 | exact Nat.and_two_pow_sub_one_eq_mod _ 0
theorem accN_lt (l : List UInt8) (k j : Nat) : accN l k j < 2 ^ (9 - k) * 256 ^ j := by
  induction j with
  | zero => simp only [accN, Nat.pow_zero, Nat.mul_one]; exact Nat.mod_lt _ (Nat.two_pow_pos _)
  | succ j ih =>
    have := UInt8.toNat_lt (l.getD (j + 1) 0)
    simp only [accN, Nat.pow_succ]
    rw [← Nat.mul_assoc]
    generalize 2 ^ (9 - k) * 256 ^ j = q at ih ⊢
    omega
theorem accN_small (l : List UInt8) (k j : Nat) (h1 : 1 ≤ k) (h2 : k ≤ 9) (hj : j < k - 1) : accN l k j < 72057594037927936 := by
  have h := accN_lt l k j
  have h3 : 256 ^ j ≤ 256 ^ (k - 2) := Nat.pow_le_pow_right (by omega) (by omega)
  have h4 := Nat.mul_le_mul_left (2 ^ (9 - k)) h3
  have : k = 2 ∨ k = 3 ∨ k = 4 ∨ k = 5 ∨ k = 6 ∨ k = 7 ∨ k = 8 ∨ k = 9 := by omega
  have h5 : 2 ^ (9 - k) * 256 ^ (k - 2) ≤ 72057594037927936 := by
    rcases this with rfl | rfl | rfl | rfl | rfl | rfl | rfl | rfl <;> decide
  omega
theorem accN_end (l : List UInt8) (k : Nat) (h1 : 1 ≤ k) (h2 : k ≤ 9) : accN l k (k - 1) < 18446744073709551616 := by
  have h := accN_lt l k (k - 1)
  have : k = 1 ∨ k = 2 ∨ k = 3 ∨ k = 4 ∨ k = 5 ∨ k = 6 ∨ k = 7 ∨ k = 8 ∨ k = 9 := by omega
  have h5 : 2 ^ (9 - k) * 256 ^ (k - 1) ≤ 18446744073709551616 := by
    rcases this with rfl | rfl | rfl | rfl | rfl | rfl | rfl | rfl | rfl <;> decide
  omega

theorem or_acc (a y : Nat) (ha : a < 72057594037927936) (hy : y < 256) : bits .or .u64 ((a : Int) * 256) (y : Int) = ((a * 256 + y : Nat) : Int) := by
  rw [show ((a : Int) * 256) = ((a * 256 : Nat) : Int) by omega, u64_or_nat _ _ (by omega) (by omega), nat_join 8 (a * 256) y (by omega) (by omega)]

/-- the k lowest digits, the lowest one first -/
def leL (n k : Nat) : List UInt8 := (List.range k).map fun t => dg n t
theorem leL_succ (n k : Nat) : leL n (k + 1) = leL n k ++ [dg n k] := by simp [leL, List.range_succ]
theorem leL_length (n k : Nat) : (leL n k).length = k := by simp [leL]

/-- the number that the first k bytes are -/
def rdN (l : List UInt8) : Nat → Nat
  | 0 => 0
  | k + 1 => rdN l k + (l.getD k 0).toNat * 2 ^ (8 * k)
theorem rdN_lt (l : List UInt8) (k : Nat) : rdN l k < 2 ^ (8 * k) := by
  induction k with
  | zero => simp [rdN]
  | succ k ih =>
    have := UInt8.toNat_lt (l.getD k 0)
    simp only [rdN]
    rw [show 8 * (k + 1) = 8 * k + 8 by omega, Nat.pow_add]
    have h2 : (l.getD k 0).toNat * 2 ^ (8 * k) ≤ 255 * 2 ^ (8 * k) := Nat.mul_le_mul_right _ (by omega)
    omega
theorem or_rd (l : List UInt8) (j : Nat) (hj : j < 8) : bits .or .u64 (rdN l j : Int) (IntKind.u64.wrap ((l.getD j 0).toNat * 2 ^ (8 * j))) = ((rdN l j + (l.getD j 0).toNat * 2 ^ (8 * j) : Nat) : Int) := by
  have h1 := rdN_lt l j
  have h2 := rdN_lt l (j + 1)
  have h4 : 2 ^ (8 * (j + 1)) ≤ 2 ^ 64 := Nat.pow_le_pow_right (by omega) (by omega)
  simp only [rdN] at h2
  have e : IntKind.u64.wrap ((l.getD j 0).toNat * 2 ^ (8 * j)) = (((l.getD j 0).toNat * 2 ^ (8 * j) : Nat) : Int) := by
    rw [IntKind.wrap_u64, show (((l.getD j 0).toNat : Int) * 2 ^ (8 * j)) = (((l.getD j 0).toNat * 2 ^ (8 * j) : Nat) : Int) by simp]
    omega
  rw [e, u64_or_nat _ _ (by omega) (by omega), Nat.or_comm, nat_join (8 * j) _ _ (Nat.mul_mod_left _ _) h1, Nat.add_comm]
end Go.Proofs.Ytffcbekogpgciaa.Px
