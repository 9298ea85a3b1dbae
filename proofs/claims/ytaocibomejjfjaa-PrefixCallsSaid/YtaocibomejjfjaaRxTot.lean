/-
  Layer 1, call by call, for every input: the program's Fixed, Read and Narrow, and the document's, told by the same plain functions.
-/
import Derived.Test.YtaocibomejjfjaaRxRead
set_option linter.unusedVariables false
set_option linter.unusedSimpArgs false
namespace Go.Proofs.Ytaocibomejjfjaa
open Go.RowKit

def fixE (n size : Int) : Int := if size < 1 ∨ 8 < size then 1 else if n.toNat / 2 ^ (8 * size.toNat) = 0 then 0 else 3
def fixL (l : List UInt8) (n size : Int) : List UInt8 := if size < 1 ∨ 8 < size then [] else if n.toNat / 2 ^ (8 * size.toNat) = 0 then l ++ Px.leL n.toNat size.toNat else []
def rdE (l : List UInt8) (size : Int) : Int := if size < 1 ∨ 8 < size then 1 else if l.length < size.toNat then 4 else 0
def rdV (l : List UInt8) (size : Int) : Int := if size < 1 ∨ 8 < size then 0 else if l.length < size.toNat then 0 else (Px.rdN l size.toNat : Nat)
def narE (n size : Int) : Int := if size < 1 ∨ 32 < size then 1 else if n.toNat / 2 ^ size.toNat = 0 then 0 else 3
def narV (n size : Int) : Int := if size < 1 ∨ 32 < size then 0 else if n.toNat / 2 ^ size.toNat = 0 then n else 0

theorem div_cast (n : Int) (h0 : 0 ≤ n) (j : Nat) : n / 2 ^ j = ((n.toNat / 2 ^ j : Nat) : Int) := by
  obtain ⟨n, rfl⟩ := Int.eq_ofNat_of_zero_le h0
  rw [Int.toNat_natCast]
  simp
theorem div_zero_iff (n : Int) (h0 : 0 ≤ n) (j : Nat) : n / 2 ^ j = 0 ↔ n.toNat / 2 ^ j = 0 := by
  rw [div_cast n h0]
  generalize n.toNat / 2 ^ j = y
  omega
theorem lt_of_div (n : Int) (h0 : 0 ≤ n) (j : Nat) (hj : j ≤ 32) (h : n.toNat / 2 ^ j = 0) : n < 4294967296 := by
  have h2 : 2 ^ j ≤ 2 ^ 32 := Nat.pow_le_pow_right (by omega) hj
  rcases Nat.lt_or_ge n.toNat (2 ^ j) with h3 | h3
  · omega
  · have := Nat.div_pos h3 (Nat.two_pow_pos j)
    omega

theorem fixed_tot (v : Value) (l : List UInt8) (n size : Int) (w : World) (h : Bs w w.heap.size v l) (h0 : 0 ≤ n) (h1 : n < 18446744073709551616) (hm : l.length + 8 ≤ 140737488355328) :
    Calls Try.prog 12 #[v, .int .u64 n, .int .i64 size] w fun e w' => ∃ r, e = .returned (.tuple #[r, .int .i64 (fixE n size)]) ∧ Bs w' w'.heap.size r (fixL l n size) ∧ Below w.heap.size w w' := by
  unfold fixE fixL
  by_cases ha : size < 1 ∨ 8 < size
  · rw [if_pos ha, if_pos ha]
    obtain ⟨A, c, rfl, _, _⟩ := h
    refine (fixed_arg _ _ _ _ _ _ ha).mono ?_
    rintro e w1 ⟨rfl, rfl⟩
    exact ⟨_, rfl, Bs.none_, Below.refl _ _⟩
  · rw [if_neg ha, if_neg ha]
    have e8 : (8 * size).toNat = 8 * size.toNat := by omega
    by_cases hf : n.toNat / 2 ^ (8 * size.toNat) = 0
    · rw [if_pos hf, if_pos hf]
      refine (fixed_b v l n size w h h0 h1 (by omega) (by omega) (by rw [e8]; exact (div_zero_iff n h0 _).2 hf) hm).mono ?_
      rintro e w1 ⟨r, rfl, hown, hb⟩
      exact ⟨r, rfl, Bs.of_own hown, hb⟩
    · rw [if_neg hf, if_neg hf]
      obtain ⟨A, c, rfl, _, _⟩ := h
      refine (fixed_long _ _ _ _ _ _ h0 h1 (by omega) (by omega) (by rw [e8, bne_iff_ne]; exact fun e => hf ((div_zero_iff n h0 _).1 e))).mono ?_
      rintro e w1 ⟨rfl, rfl⟩
      exact ⟨_, rfl, Bs.none_, Below.refl _ _⟩

theorem rfixed_tot (v : Value) (l : List UInt8) (n size : Int) (w : World) (h : Bs w w.heap.size v l) (h0 : 0 ≤ n) (h1 : n < 18446744073709551616) (hm : l.length + 8 ≤ 140737488355328) :
    Calls Try.prog 13 #[v, .int .u64 n, .int .i64 size] w fun e w' => ∃ r, e = .returned (.tuple #[r, .int .i64 (fixE n size)]) ∧ Bs w' w'.heap.size r (fixL l n size) ∧ Below w.heap.size w w' := by
  unfold fixE fixL
  by_cases ha : size < 1 ∨ 8 < size
  · rw [if_pos ha, if_pos ha]
    obtain ⟨A, c, rfl, _, _⟩ := h
    refine (rfixed_arg _ _ _ _ _ _ ha).mono ?_
    rintro e w1 ⟨rfl, rfl⟩
    exact ⟨_, rfl, Bs.none_, Below.refl _ _⟩
  · rw [if_neg ha, if_neg ha]
    obtain ⟨k, rfl⟩ := Int.eq_ofNat_of_zero_le (by omega : 0 ≤ size)
    rw [Int.toNat_natCast]
    refine (rfixed_any v l n k w h h0 h1 (by omega) (by omega) hm).mono ?_
    rintro e w1 ⟨hb, ⟨hf, r, rfl, hown⟩ | ⟨hf, rfl⟩⟩
    · rw [if_pos hf, if_pos hf]
      exact ⟨r, rfl, Bs.of_own hown, hb⟩
    · rw [if_neg hf, if_neg hf]
      exact ⟨_, rfl, Bs.none_, hb⟩

theorem read_tot (v : Value) (l : List UInt8) (size : Int) (B : Nat) (w : World) (h : Bs w B v l) (hm : l.length ≤ 9223372036854775807) :
    Calls Try.prog 14 #[v, .int .i64 size] w fun e w' => e = .returned (.tuple #[.int .u64 (rdV l size), .int .i64 (rdE l size)]) ∧ w = w' := by
  unfold rdV rdE
  by_cases ha : size < 1 ∨ 8 < size
  · rw [if_pos ha, if_pos ha]
    obtain ⟨A, c, rfl, _, _⟩ := h
    exact read_arg _ _ _ _ _ ha
  · rw [if_neg ha, if_neg ha]
    by_cases hs : l.length < size.toNat
    · rw [if_pos hs, if_pos hs]
      obtain ⟨A, c, rfl, _, _⟩ := h
      exact read_short _ _ _ _ _ (by omega) (by omega) (by omega)
    · rw [if_neg hs, if_neg hs]
      exact read_b v l B size w h (by omega) (by omega) (by omega) hm

theorem rread_tot (v : Value) (l : List UInt8) (size : Int) (B : Nat) (w : World) (h : Bs w B v l) (hm : l.length ≤ 9223372036854775807) :
    Calls Try.prog 15 #[v, .int .i64 size] w fun e w' => e = .returned (.tuple #[.int .u64 (rdV l size), .int .i64 (rdE l size)]) ∧ w = w' := by
  unfold rdV rdE
  by_cases ha : size < 1 ∨ 8 < size
  · rw [if_pos ha, if_pos ha]
    obtain ⟨A, c, rfl, _, _⟩ := h
    exact rread_arg _ _ _ _ _ ha
  · rw [if_neg ha, if_neg ha]
    by_cases hs : l.length < size.toNat
    · rw [if_pos hs, if_pos hs]
      obtain ⟨A, c, rfl, _, _⟩ := h
      exact rread_short _ _ _ _ _ (by omega) (by omega) (by omega)
    · rw [if_neg hs, if_neg hs]
      obtain ⟨k, rfl⟩ := Int.eq_ofNat_of_zero_le (by omega : 0 ≤ size)
      rw [Int.toNat_natCast] at hs ⊢
      exact rread_ok v l B k w h (by omega) (by omega) (by omega) hm

theorem narrow_tot (n size : Int) (w : World) (h0 : 0 ≤ n) (h1 : n < 18446744073709551616) :
    Calls Try.prog 16 #[.int .u64 n, .int .i64 size] w fun e w' => e = .returned (.tuple #[.int .u32 (narV n size), .int .i64 (narE n size)]) ∧ w = w' := by
  unfold narV narE
  by_cases ha : size < 1 ∨ 32 < size
  · rw [if_pos ha, if_pos ha]
    exact narrow_arg _ _ _ ha
  · rw [if_neg ha, if_neg ha]
    by_cases hf : n.toNat / 2 ^ size.toNat = 0
    · rw [if_pos hf, if_pos hf]
      exact narrow_ok n size w h0 h1 (by omega) (by omega) ((div_zero_iff n h0 _).2 hf) (lt_of_div n h0 _ (by omega) hf)
    · rw [if_neg hf, if_neg hf]
      exact narrow_long n size w h0 h1 (by omega) (by omega) (by rw [bne_iff_ne]; exact fun e => hf ((div_zero_iff n h0 _).1 e))

theorem rnarrow_tot (n size : Int) (w : World) (h0 : 0 ≤ n) (h1 : n < 18446744073709551616) :
    Calls Try.prog 17 #[.int .u64 n, .int .i64 size] w fun e w' => e = .returned (.tuple #[.int .u32 (narV n size), .int .i64 (narE n size)]) ∧ Below w.heap.size w w' := by
  unfold narV narE
  by_cases ha : size < 1 ∨ 32 < size
  · rw [if_pos ha, if_pos ha]
    refine (rnarrow_arg n size w ha).mono ?_
    rintro e w1 ⟨rfl, rfl⟩
    exact ⟨rfl, Below.refl _ _⟩
  · rw [if_neg ha, if_neg ha]
    by_cases hf : n.toNat / 2 ^ size.toNat = 0
    · rw [if_pos hf, if_pos hf]
      exact rnarrow_ok n size w h0 h1 (by omega) (by omega) hf (lt_of_div n h0 _ (by omega) hf)
    · rw [if_neg hf, if_neg hf]
      exact rnarrow_long n size w h0 h1 (by omega) (by omega) hf
end Go.Proofs.Ytaocibomejjfjaa
