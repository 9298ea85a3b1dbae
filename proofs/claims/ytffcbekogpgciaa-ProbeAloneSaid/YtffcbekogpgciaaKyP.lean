
/-
  Layer 4 (keys), as plain functions: words, hashes, prints.
-/
import Derived.Test.YtffcbekogpgciaaPxPlain
set_option linter.unusedVariables false
set_option linter.unusedSimpArgs false
namespace Go.Proofs.Ytffcbekogpgciaa.Ky
open Go.Proofs.Ytffcbekogpgciaa.Px

/-- the word that a row begins with -/
def word (l : List UInt8) : Nat := rdN l (min 8 l.length)
theorem word_lt (l : List UInt8) : word l < 18446744073709551616 := by
  have h1 := rdN_lt l (min 8 l.length)
  have h2 : 2 ^ (8 * min 8 l.length) ≤ 2 ^ 64 := Nat.pow_le_pow_right (by omega) (by omega)
  unfold word
  omega
theorem rdN_le (l : List UInt8) (j k : Nat) (h : j ≤ k) : rdN l j = rdN l k % 2 ^ (8 * j) := by
  induction k with
  | zero => obtain rfl : j = 0 := by omega
            simp [rdN, Nat.mod_one]
  | succ k ih =>
    rcases Nat.lt_or_ge j (k + 1) with hj | hj
    · rw [ih (by omega)]
      simp only [rdN]
      have e : 2 ^ (8 * k) = 2 ^ (8 * j) * 2 ^ (8 * (k - j)) := by rw [← Nat.pow_add]; congr 1; omega
      rw [e, show rdN l k + (l.getD k 0).toNat * (2 ^ (8 * j) * 2 ^ (8 * (k - j))) = rdN l k + 2 ^ (8 * j) * ((l.getD k 0).toNat * 2 ^ (8 * (k - j))) by rw [Nat.mul_left_comm]]
      rw [Nat.add_mul_mod_self_left]
    · obtain rfl : j = k + 1 := by omega
      rw [Nat.mod_eq_of_lt (rdN_lt _ _)]
/-- the byte at a place of what was read -/
theorem rdN_at (l : List UInt8) (k j : Nat) (h : j < k) : rdN l k / 2 ^ (8 * j) % 256 = (l.getD j 0).toNat := by
  have h1 := rdN_le l (j + 1) k (by omega)
  have h2 := rdN_lt l j
  have h3 := UInt8.toNat_lt (l.getD j 0)
  have e : 2 ^ (8 * (j + 1)) = 2 ^ (8 * j) * 256 := by rw [Nat.mul_add, Nat.pow_add]
  rw [e] at h1
  have h4 : rdN l k / 2 ^ (8 * j) % 256 = rdN l k % (2 ^ (8 * j) * 256) / 2 ^ (8 * j) := (Nat.mod_mul_right_div_self ..).symm
  rw [h4, ← h1]
  simp only [rdN]
  rw [Nat.add_mul_div_right _ _ (Nat.two_pow_pos _), Nat.div_eq_of_lt h2, Nat.zero_add]
theorem rdN_inj (l m : List UInt8) (k : Nat) (hl : l.length = k) (hm : m.length = k) (h : rdN l k = rdN m k) : l = m := by
  apply List.ext_getElem (by omega)
  intro i h1 h2
  have e1 := rdN_at l k i (by omega)
  have e2 := rdN_at m k i (by omega)
  rw [h, e2] at e1
  rw [List.getD_eq_getElem?_getD, List.getD_eq_getElem?_getD, List.getElem?_eq_getElem h1, List.getElem?_eq_getElem h2] at e1
  exact (UInt8.toNat_inj.1 e1).symm
theorem rdN_take (l : List UInt8) (k : Nat) : rdN (l.take k) k = rdN l k := by
  have : ∀ j, j ≤ k → rdN (l.take k) j = rdN l j := by
    intro j
    induction j with
    | zero => intro _; rfl
    | succ j ih =>
      intro hj
      simp only [rdN]
      rw [ih (by omega)]
      congr 3
      rw [List.getD_eq_getElem?_getD, List.getD_eq_getElem?_getD, List.getElem?_take, if_pos (by omega)]
  exact this k (Nat.le_refl _)
theorem word_take (l : List UInt8) : word (l.take 8) = word l := by
  unfold word
  rcases Nat.lt_or_ge l.length 8 with h | h
  · rw [List.take_of_length_le (by omega)]
  · rw [List.length_take, Nat.min_eq_left h, Nat.min_self, rdN_take]
theorem word_inj {l m : List UInt8} (hl : l.length = m.length) (h8 : l.length ≤ 8) (h : word l = word m) : l = m := by
  unfold word at h
  rw [← hl, Nat.min_eq_right h8] at h
  exact rdN_inj l m l.length rfl hl.symm h

def M64 : Nat := 18446744073709551616
/-- one word more -/
def stepH (h w : Nat) : Nat :=
  let a := (h ^^^ w) * 13787848793156543929 % M64
  a ^^^ (a / 4294967296)
/-- the hash goes on over what is left -/
def hashN (h : Nat) (l : List UInt8) : Nat := if l = [] then h else hashN (stepH h (word l)) (l.drop 8)
termination_by l.length
decreasing_by
  rename_i hne
  have := List.length_pos_iff.2 hne
  simp
  omega
def seedH (s n : Nat) : Nat := s ^^^ (n * 11400714819323198485 % M64)
def hash (s : Nat) (l : List UInt8) : Nat := hashN (seedH s l.length) l
theorem hashN_nil (h : Nat) : hashN h [] = h := by rw [hashN]; simp
theorem hashN_step (h : Nat) (l : List UInt8) (hl : l ≠ []) : hashN h l = hashN (stepH h (word l)) (l.drop 8) := by rw [hashN, if_neg hl]

theorem xor_lt64 {a b : Nat} (ha : a < M64) (hb : b < M64) : a ^^^ b < M64 := Nat.xor_lt_two_pow (n := 64) ha hb
theorem stepH_lt (h w : Nat) : stepH h w < M64 := by
  have h1 : (h ^^^ w) * 13787848793156543929 % M64 < M64 := Nat.mod_lt _ (by decide)
  exact xor_lt64 h1 (Nat.lt_of_le_of_lt (Nat.div_le_self _ _) h1)
theorem xor_cancel {a b c : Nat} (h : a ^^^ b = a ^^^ c) : b = c := by
  have := congrArg (a ^^^ ·) h
  simpa [← Nat.xor_assoc] using this
theorem xor_cancel' {a b c : Nat} (h : b ^^^ a = c ^^^ a) : b = c := by rw [Nat.xor_comm b, Nat.xor_comm c] at h; exact xor_cancel h

/-- h xor (h down by half) can be undone -/
theorem fold_inj {a b : Nat} (ha : a < M64) (hb : b < M64) (h : a ^^^ (a / 4294967296) = b ^^^ (b / 4294967296)) : a = b := by
  have hd : ∀ x : Nat, x < M64 → (x ^^^ (x / 4294967296)) / 4294967296 = x / 4294967296 := by
    intro x hx
    have e : (4294967296 : Nat) = 2 ^ 32 := rfl
    rw [e, Nat.xor_div_two_pow, Nat.div_div_eq_div_mul]
    rw [Nat.div_eq_of_lt (show x < 2 ^ 32 * 2 ^ 32 by unfold M64 at hx; omega), Nat.xor_zero]
  have h1 := hd a ha
  have h2 := hd b hb
  rw [h, h2] at h1
  rw [h1] at h
  exact xor_cancel' h
/-- an odd number can be undone -/
theorem mul_inj {a b : Nat} (ha : a < M64) (hb : b < M64) (h : a * 13787848793156543929 % M64 = b * 13787848793156543929 % M64) : a = b := by
  have inv : 13787848793156543929 * 10871156337175269513 % M64 = 1 := by decide
  have e : ∀ x : Nat, x < M64 → (x * 13787848793156543929 % M64) * 10871156337175269513 % M64 = x := by
    intro x hx
    rw [Nat.mod_mul_mod, Nat.mul_assoc, Nat.mul_mod, inv, Nat.mul_one, Nat.mod_mod, Nat.mod_eq_of_lt hx]
  rw [← e a ha, h, e b hb]
theorem stepH_inj {h w h' w' : Nat} (a : h < M64) (b : w < M64) (a' : h' < M64) (b' : w' < M64) (e : stepH h w = stepH h' w') : h ^^^ w = h' ^^^ w' := by
  unfold stepH at e
  have h1 := fold_inj (Nat.mod_lt _ (by decide)) (Nat.mod_lt _ (by decide)) e
  exact mul_inj (xor_lt64 a b) (xor_lt64 a' b') h1
end Go.Proofs.Ytffcbekogpgciaa.Ky
