/-
  The document's own answer for layer 1: the walks of Fold, Unfold, Fixed, Read, Narrow.
-/
import Derived.Test.YtaocibomejjfjaaRxForm
set_option linter.unusedVariables false
set_option linter.unusedSimpArgs false
namespace Go.Proofs.Ytaocibomejjfjaa
open Go.RowKit

theorem rfold_any (n : Int) (w : World) (h0 : -9223372036854775808 ≤ n) (h1 : n < 9223372036854775808) :
    Calls Try.prog 24 #[.int .i64 n] w fun e w' => e = .returned (.int .u64 (foldI n)) ∧ w = w' := by
  unfold foldI
  by_cases h : 0 ≤ n
  · rw [if_pos h]
    go_enter Try.func24, Try.ntmps24
    go_wp2
    go_ret
    exact ⟨rfl, rfl⟩
  · rw [if_neg h]
    have h' : n < 0 := by omega
    have e : 2 * -(n + 1) + 1 = -2 * n - 1 := by omega
    have He := Lib.hid e
    clear e h
    go_enter Try.func24, Try.ntmps24
    go_wp2
    go_ret
    exact ⟨ret_int He.out, rfl⟩

theorem runfold_any (n : Int) (w : World) (h0 : 0 ≤ n) (h1 : n < 18446744073709551616) :
    Calls Try.prog 26 #[.int .u64 n] w fun e w' => e = .returned (.int .i64 (unfoldI n)) ∧ w = w' := by
  unfold unfoldI
  by_cases h : n % 2 = 0
  · rw [if_pos h]
    have hb : (n % 2 == 0) = true := by simpa using h
    clear h
    go_enter Try.func26, Try.ntmps26
    go_wp2
    go_ret
    exact ⟨rfl, rfl⟩
  · rw [if_neg h]
    have hb : (n % 2 == 0) = false := by simpa using h
    clear h
    go_enter Try.func26, Try.ntmps26
    go_wp2
    go_ret
    exact ⟨rfl, rfl⟩

theorem rnarrow_arg (n b : Int) (w : World) (hb : b < 1 ∨ 32 < b) :
    Calls Try.prog 17 #[.int .u64 n, .int .i64 b] w fun e w' => e = .returned (.tuple #[.int .u32 0, .int .i64 1]) ∧ w = w' := by
  rcases hb with hb | hb
  · go_enter Try.func17, Try.ntmps17
    go_wp2
    go_ret2
    exact ⟨rfl, rfl⟩
  · have hb' : 1 ≤ b := by omega
    go_enter Try.func17, Try.ntmps17
    go_wp2
    go_ret2
    exact ⟨rfl, rfl⟩
theorem rnarrow_ok (n b : Int) (w : World) (h0 : 0 ≤ n) (h1 : n < 18446744073709551616) (hb : 1 ≤ b) (hb2 : b ≤ 32) (hf : n.toNat / 2 ^ b.toNat = 0) (hn : n < 4294967296) :
    Calls Try.prog 17 #[.int .u64 n, .int .i64 b] w fun e w' => e = .returned (.tuple #[.int .u32 n, .int .i64 0]) ∧ Below w.heap.size w w' := by
  have Hf := Lib.hid hf
  clear hf
  have d1 : decide (b < 1) = false := by simp; omega
  have d2 : decide (32 < b) = false := by simp; omega
  go_enter Try.func17, Try.ntmps17
  go_wp2_with fail
  refine (rbits_any _ _ _ h0 h1 (by omega) (by omega)).mono ?_
  rintro e w1 ⟨v, rfl, _, hb1⟩
  rw [show (n.toNat / 2 ^ b.toNat == 0) = true by rw [Hf.out]; rfl]
  go_wp2_with fail
  go_ret2
  exact ⟨rfl, hb1⟩
theorem rnarrow_long (n b : Int) (w : World) (h0 : 0 ≤ n) (h1 : n < 18446744073709551616) (hb : 1 ≤ b) (hb2 : b ≤ 32) (hf : n.toNat / 2 ^ b.toNat ≠ 0) :
    Calls Try.prog 17 #[.int .u64 n, .int .i64 b] w fun e w' => e = .returned (.tuple #[.int .u32 0, .int .i64 3]) ∧ Below w.heap.size w w' := by
  have Hf := Lib.hid hf
  clear hf
  have d1 : decide (b < 1) = false := by simp; omega
  have d2 : decide (32 < b) = false := by simp; omega
  go_enter Try.func17, Try.ntmps17
  go_wp2_with fail
  refine (rbits_any _ _ _ h0 h1 (by omega) (by omega)).mono ?_
  rintro e w1 ⟨v, rfl, _, hb1⟩
  rw [show (n.toNat / 2 ^ b.toNat == 0) = false by simpa using Hf.out]
  go_wp2_with fail
  go_ret2
  exact ⟨rfl, hb1⟩

theorem rfixed_arg (A : Option Addr) (m c : Nat) (n b : Int) (w : World) (hb : b < 1 ∨ 8 < b) :
    Calls Try.prog 13 #[.slice A m c, .int .u64 n, .int .i64 b] w fun e w' => e = .returned (.tuple #[.slice none 0 0, .int .i64 1]) ∧ w = w' := by
  rcases hb with hb | hb
  · go_enter Try.func13, Try.ntmps13
    go_wp2
    go_ret2
    exact ⟨rfl, rfl⟩
  · have hb' : 1 ≤ b := by omega
    go_enter Try.func13, Try.ntmps13
    go_wp2
    go_ret2
    exact ⟨rfl, rfl⟩

/-- Fixed, where the size may be: the bytes, or that the number is too long -/
def FixedPost (w : World) (l : List UInt8) (n k : Nat) (e : Ending) (w' : World) : Prop :=
  Below w.heap.size w w' ∧ ((n / 2 ^ (8 * k) = 0 ∧ ∃ v, e = .returned (.tuple #[v, .int .i64 0]) ∧ w'.ownsRow w.heap.size 5 1 v (l.length + k) (bvs (l ++ Px.leL n k))) ∨
    (n / 2 ^ (8 * k) ≠ 0 ∧ e = .returned (.tuple #[.slice none 0 0, .int .i64 3])))

theorem rfixed_any (v : Value) (l : List UInt8) (n : Int) (k : Nat) (w : World) (h : Bs w w.heap.size v l) (h0 : 0 ≤ n) (h1 : n < 18446744073709551616) (hk1 : 1 ≤ k) (hk8 : k ≤ 8) (hm : l.length + 8 ≤ 140737488355328) :
    Calls Try.prog 13 #[v, .int .u64 n, .int .i64 k] w (FixedPost w l n.toNat k) := by
  obtain ⟨i0, hi0, hz0, hz1, hz2⟩ := info_parts byte_info
  obtain ⟨n, rfl⟩ := Int.eq_ofNat_of_zero_le h0
  rw [Int.toNat_natCast]
  have d1 : decide ((k : Int) < 1) = false := by simp; omega
  have d2 : decide ((8 : Int) < (k : Int)) = false := by simp; omega
  have hn : n < 18446744073709551616 := by omega
  have Hn := Lib.hid hn
  clear h1 hn h0
  go_enter Try.func13, Try.ntmps13
  go_wp2_with fail
  refine (own_b _ l _ h (by omega)).mono ?_
  rintro e w1 ⟨r1, rfl, hown1, hb1⟩
  go_wp2_with fail
  go_loopw [1, 8, 9] (fun x o i wr => ∃ j : Nat, j ≤ k ∧ i = .int .i64 j ∧ x = .int .u64 (n / 2 ^ (8 * j) : Nat) ∧ wr.ownsRow w.heap.size 5 1 o (l.length + j) (bvs (l ++ Px.leL n j)) ∧ Below w.heap.size w wr) (fun _ _ i _ => k - (intOf i).toNat)
  case atStart => exact ⟨0, by omega, rfl, by simp, by simpa [Px.leL] using hown1, hb1⟩
  case round =>
    obtain ⟨j, hj, rfl, rfl, hown, hb⟩ := hrel
    have hlt2 : n / 2 ^ (8 * j) < 18446744073709551616 := Nat.lt_of_le_of_lt (Nat.div_le_self _ _) Hn.out
    obtain ⟨X, hX⟩ : ∃ X : Int, ((n / 2 ^ (8 * j) : Nat) : Int) = X := ⟨_, rfl⟩
    have hX0 : 0 ≤ X := by rw [← hX]; exact Int.natCast_nonneg _
    have hX1 : X < 18446744073709551616 := by rw [← hX]; exact Int.ofNat_lt.2 hlt2
    rw [hX]
    have HX := Lib.hid hX
    clear hX hlt2
    by_cases hlt : j < k
    · have hd : X % 256 = ((Px.dg n j).toNat : Int) := by
        rw [← HX.out, Px.dg_toNat]; simp
      have Hd := Lib.hid hd
      have hnx : n / 2 ^ (8 * j) / 256 = n / 2 ^ (8 * (j + 1)) := by rw [Nat.div_div_eq_div_mul, Nat.mul_comm, ← Px.pow_step]
      have Hnx := Lib.hid hnx
      clear hd hnx
      go_wp2_with (at_builtin; (refine wpList_append_1 _ rfl _ _ 22 rfl w.heap.size 5 i0 (.int .u8 0) 1 Try.underlying22 hi0 hz0 hz1 hz2 rfl u8 (l.length + j) (bvs (l ++ Px.leL n j)) rfl (hown.alloc _) _ 1 (.int .u8 (X % 256)) rfl (cell_new1 _ _ _) rfl (by unfold maxLen; omega) (by omega) (by have := hb.size; simp; omega) ?_); intro v2 w2 hown2 hbw2 _ _)
      go_roundw
      case rel =>
        refine ⟨j + 1, by omega, by go_num, ?_, ?_, (hb.alloc hb.size _).trans hbw2⟩
        · rw [← HX.out, ← Hnx.out]; congr 1
        · rw [Hd.out] at hown2
          rw [Px.leL_succ, ← List.append_assoc, bvs_append]
          exact hown2
      case measure => simp [intOf]; omega
    · obtain rfl : j = k := by omega
      by_cases hz : X = 0
      · subst hz
        have hz' : n / 2 ^ (8 * j) = 0 := by have := HX.out; generalize n / 2 ^ (8 * j) = y at *; omega
        have Hz := Lib.hid hz'
        clear hz'
        go_wp2_with fail
        go_ret2
        exact ⟨hb, .inl ⟨Hz.out, _, rfl, hown⟩⟩
      · have hz' : n / 2 ^ (8 * j) ≠ 0 := by have := HX.out; generalize n / 2 ^ (8 * j) = y at *; omega
        have Hz := Lib.hid hz'
        have hX2 : 0 < X := by omega
        clear hz' hz
        go_wp2_with fail
        go_ret2
        exact ⟨hb, .inr ⟨Hz.out, rfl⟩⟩
end Go.Proofs.Ytaocibomejjfjaa
