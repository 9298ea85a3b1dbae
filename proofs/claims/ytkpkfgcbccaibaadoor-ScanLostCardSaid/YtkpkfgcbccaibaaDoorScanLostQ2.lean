/-
  ScanLost, part 2 of what the law's proof leans on: PxPlain, PxForm, PxPure, PxMem, PxFix, PxCon, LxPlain, CxPlain, CxRun, RcPlain, LxPure, KyMem, RcMem, RcHead, CxPure, CxMem, CxCov, RcPut, RcLaid.
-/
import Derived.Below
import Derived.Laws.BitsAllLaws
import Derived.Test.YtkpkfgcbccaibaaDoorScanLostQ1
import Derived.Lib.Bytealg
import Derived.Test.YtkpkfgcbccaibaaDoorProg
import Derived.WalkKit
import Derived.WalkLawsBesides
import Derived.WalkSpells
import Derived.Outline
import Derived.Lib.Hide
import Derived.Deep.QuietTactic
import Derived.BigQuiet
import Derived.StillTailTactics
import Derived.Deep.DeepFit
import Derived.Deep.RegionHeld3
import Derived.Deep.RegionWith
import Derived.Lib.BytesEntry
import Derived.Laws.StructEq
import Derived.IntWalk
import Derived.Deep.LoopGhost
import Derived.OwnWalk
import Derived.Test.YtkpkfgcbccaibaaDoorRows
import Derived.ProofKit
import Derived.LaidMore
import Derived.OpenShut
import Derived.Stop.Joined
import Derived.Lib.LaidTab
import Derived.Stop.LaidErr
/- PxPlain -/

/-
  Layer 1 (numbers in bytes), as plain functions of natural numbers, without any program.
-/
set_option linter.unusedVariables false
set_option linter.unusedSimpArgs false
namespace Go.Proofs.YtkpkfgcbccaibaaDoor.Px

/-- how many bytes the shortest form has -/
def sizeN (n : Nat) : Nat :=
  if n < 128 then 1 else if n < 16384 then 2 else if n < 2097152 then 3 else if n < 268435456 then 4 else if n < 34359738368 then 5
  else if n < 4398046511104 then 6 else if n < 562949953421312 then 7 else if n < 72057594037927936 then 8 else 9

/-- how many bytes a form has that begins with x -/
def toldN (x : Nat) : Nat :=
  if x < 128 then 1 else if x < 192 then 2 else if x < 224 then 3 else if x < 240 then 4 else if x < 248 then 5 else if x < 252 then 6
  else if x < 254 then 7 else if x < 255 then 8 else 9

/-- after k shifts to the left: the k highest bits of n were ones; y is what is left -/
def ToldAt (n k y : Nat) : Prop := k ≤ 8 ∧ y = n * 2 ^ k % 256 ∧ 256 - 256 / 2 ^ k ≤ n
theorem ToldAt.lt {n k y : Nat} (h : ToldAt n k y) (hn : n < 256) (hy : 128 ≤ y) : k < 8 := by
  obtain ⟨h1, h2, h3⟩ := h
  have : k = 0 ∨ k = 1 ∨ k = 2 ∨ k = 3 ∨ k = 4 ∨ k = 5 ∨ k = 6 ∨ k = 7 ∨ k = 8 := by omega
  rcases this with rfl | rfl | rfl | rfl | rfl | rfl | rfl | rfl | rfl <;> omega
theorem ToldAt.next {n k y : Nat} (h : ToldAt n k y) (hn : n < 256) (hy : 128 ≤ y) : ToldAt n (k + 1) (y * 2 % 256) := by
  have hk := h.lt hn hy
  obtain ⟨h1, h2, h3⟩ := h
  have : k = 0 ∨ k = 1 ∨ k = 2 ∨ k = 3 ∨ k = 4 ∨ k = 5 ∨ k = 6 ∨ k = 7 := by omega
  unfold ToldAt
  rcases this with rfl | rfl | rfl | rfl | rfl | rfl | rfl | rfl <;> omega
theorem ToldAt.done {n k y : Nat} (h : ToldAt n k y) (hn : n < 256) (hy : y < 128) : toldN n = k + 1 := by
  obtain ⟨h1, h2, h3⟩ := h
  have : k = 0 ∨ k = 1 ∨ k = 2 ∨ k = 3 ∨ k = 4 ∨ k = 5 ∨ k = 6 ∨ k = 7 ∨ k = 8 := by omega
  unfold toldN
  rcases this with rfl | rfl | rfl | rfl | rfl | rfl | rfl | rfl | rfl <;> (repeat' split) <;> omega

/-- a digit to the base 256 -/
def dg (n j : Nat) : UInt8 := UInt8.ofNat (n / 2 ^ (8 * j) % 256)
theorem dg_val (n : Int) (h0 : 0 ≤ n) (j : Nat) (i : Int) (hi : i = j) : n / 2 ^ (8 * i).toNat % 256 = ((dg n.toNat j).toNat : Int) := by
  subst hi
  obtain ⟨n, rfl⟩ := Int.eq_ofNat_of_zero_le h0
  unfold dg
  rw [Int.toNat_natCast, UInt8.toNat_ofNat_of_lt' (by simp only [UInt8.size]; exact Nat.mod_lt _ (by omega))]
  rw [show (8 * (j : Int)).toNat = 8 * j by omega]
  simp
/-- the number that k bytes of a form have after j rounds -/
def accN (l : List UInt8) (k : Nat) : Nat → Nat
  | 0 => (l.getD 0 0).toNat % 2 ^ (9 - k)
  | j + 1 => accN l k j * 256 + (l.getD (j + 1) 0).toNat
/-- what Get tells: the number, its size, the error -/
def getN (l : List UInt8) : Nat × Nat × Nat :=
  match l with
  | [] => (0, 0, 4)
  | x :: r => if (x :: r).length < toldN x.toNat then (0, 0, 4)
    else if sizeN (accN (x :: r) (toldN x.toNat) (toldN x.toNat - 1)) = toldN x.toNat then (accN (x :: r) (toldN x.toNat) (toldN x.toNat - 1), toldN x.toNat, 0) else (0, 0, 5)
/-- the k lowest digits, the lowest one first -/
def leL (n k : Nat) : List UInt8 := (List.range k).map fun t => dg n t
theorem leL_succ (n k : Nat) : leL n (k + 1) = leL n k ++ [dg n k] := by simp [leL, List.range_succ]
theorem leL_length (n k : Nat) : (leL n k).length = k := by simp [leL]

/-- the number that the first k bytes are -/
def rdN (l : List UInt8) : Nat → Nat
  | 0 => 0
  | k + 1 => rdN l k + (l.getD k 0).toNat * 2 ^ (8 * k)
theorem rdN_lt (l : List UInt8) (k : Nat) : rdN l k < 2 ^ (8 * k) := by
  induction k with
  | zero => simp [rdN]
  | succ k ih =>
    have := UInt8.toNat_lt (l.getD k 0)
    simp only [rdN]
    rw [show 8 * (k + 1) = 8 * k + 8 by omega, Nat.pow_add]
    have h2 : (l.getD k 0).toNat * 2 ^ (8 * k) ≤ 255 * 2 ^ (8 * k) := Nat.mul_le_mul_right _ (by omega)
    omega
theorem or_rd (l : List UInt8) (j : Nat) (hj : j < 8) : bits .or .u64 (rdN l j : Int) (IntKind.u64.wrap ((l.getD j 0).toNat * 2 ^ (8 * j))) = ((rdN l j + (l.getD j 0).toNat * 2 ^ (8 * j) : Nat) : Int) := by
  have h1 := rdN_lt l j
  have h2 := rdN_lt l (j + 1)
  have h4 : 2 ^ (8 * (j + 1)) ≤ 2 ^ 64 := Nat.pow_le_pow_right (by omega) (by omega)
  simp only [rdN] at h2
  have e : IntKind.u64.wrap ((l.getD j 0).toNat * 2 ^ (8 * j)) = (((l.getD j 0).toNat * 2 ^ (8 * j) : Nat) : Int) := by
    rw [IntKind.wrap_u64, show (((l.getD j 0).toNat : Int) * 2 ^ (8 * j)) = (((l.getD j 0).toNat * 2 ^ (8 * j) : Nat) : Int) by simp]
    omega
  rw [e, u64_or_nat _ _ (by omega) (by omega), Nat.or_comm, nat_join (8 * j) _ _ (Nat.mul_mod_left _ _) h1, Nat.add_comm]
end Go.Proofs.YtkpkfgcbccaibaaDoor.Px

/- PxForm -/

/-
  Layer 1: what forms are like: their first byte, their digits, their order; what Get tells of them. Plain mathematics.
-/
set_option linter.unusedVariables false
set_option linter.unusedSimpArgs false
namespace Go.Proofs.YtkpkfgcbccaibaaDoor.Px

theorem pow_step (j : Nat) : 2 ^ (8 * (j + 1)) = 256 * 2 ^ (8 * j) := by
  rw [show 8 * (j + 1) = 8 * j + 8 by omega, Nat.pow_add, Nat.mul_comm]

theorem dg_toNat (n j : Nat) : (dg n j).toNat = n / 2 ^ (8 * j) % 256 := by
  unfold dg
  exact UInt8.toNat_ofNat_of_lt' (by simp only [UInt8.size]; exact Nat.mod_lt _ (by omega))

/-! fixed numbers -/
theorem leL_get (n k j : Nat) (h : j < k) (r : List UInt8) : (leL n k ++ r).getD j 0 = dg n j := by
  rw [List.getD_eq_getElem?_getD, List.getElem?_append_left (by rw [leL_length]; exact h)]
  simp [leL, h]

theorem rdN_leL (n k : Nat) (r : List UInt8) (j : Nat) (hj : j ≤ k) : rdN (leL n k ++ r) j = n % 2 ^ (8 * j) := by
  induction j with
  | zero => simp [rdN, Nat.mod_one]
  | succ j ih =>
    rw [rdN, ih (by omega), leL_get n k j (by omega), dg_toNat, pow_step, Nat.mul_comm 256, Nat.mod_mul, Nat.mul_comm (2 ^ (8 * j)) (n / 2 ^ (8 * j) % 256)]

theorem rdN_fix (n k : Nat) (r : List UInt8) (h : n / 2 ^ (8 * k) = 0) : rdN (leL n k ++ r) k = n := by
  rw [rdN_leL n k r k (Nat.le_refl _)]
  apply Nat.mod_eq_of_lt
  rcases Nat.lt_or_ge n (2 ^ (8 * k)) with h1 | h1
  · exact h1
  · have := Nat.div_pos h1 (Nat.two_pow_pos _)
    omega

end Go.Proofs.YtkpkfgcbccaibaaDoor.Px

/- PxPure -/

/-
  Layer 1: the walks of the functions that only compute with numbers.
-/
set_option linter.unusedVariables false
set_option linter.unusedSimpArgs false
namespace Go.Proofs.YtkpkfgcbccaibaaDoor
open Go.RowKit

theorem digit_any (n i : Int) (w : World) (_h0 : 0 ≤ n) (_h1 : n < 18446744073709551616) (hi : 0 ≤ i) (hj : i ≤ 8) :
    Calls Tryd.prog 65 #[.int .u64 n, .int .i64 i] w fun e w' => e = .returned (.int .u8 (n / 2 ^ (8 * i).toNat % 256)) ∧ w = w' := by
  go_enter Tryd.func65, Tryd.ntmps65
  go_wp2
  go_ret
  exact ⟨rfl, rfl⟩

theorem ret_int {k : IntKind} {a b : Int} (h : a = b) : Ending.returned (.int k a) = .returned (.int k b) := by rw [h]

end Go.Proofs.YtkpkfgcbccaibaaDoor

/- PxMem -/

/-
  Layer 1: the walks of the functions that read and make bytes.
-/
set_option linter.unusedVariables false
set_option linter.unusedSimpArgs false
namespace Go.Proofs.YtkpkfgcbccaibaaDoor
open Go.RowKit

theorem byte_info : (Tryd.prog.info? 5).map (fun i => (i.zero, i.size, i.bytes)) = some (some (.int .u8 0), 1, 1) := by kernel_rfl

theorem room_any (A : Option Addr) (l : List UInt8) (c : Nat) (m : Int) (w : World) (h : Rd w w.heap.size A (bvs l)) (hm0 : 0 ≤ m) (hm : l.length + m.toNat ≤ 140737488355328) :
    Calls Tryd.prog 64 #[.slice A l.length c, .int .i64 m] w fun e w' => ∃ v, e = .returned v ∧ w'.ownsRow w.heap.size 5 1 v l.length (bvs l) ∧ Below w.heap.size w w' := by
  obtain ⟨i0, hi0, hz0, hz1, hz2⟩ := info_parts byte_info
  go_enter Tryd.func64, Tryd.ntmps64
  go_wp2_with (first
    | (at_make
       refine wpList_make_own _ rfl _ _ 23 rfl w.heap.size 5 i0 (.int .u8 0) 1 Tryd.underlying23 hi0 hz0 hz1 .i64 .i64 _ (l.length + m.toNat) rfl rfl (by omega) (by rw [hz2]; omega) (by unfold maxLen; omega) (Nat.le_refl _) ?_
       intro w0 hown0 hgrow0)
    | (at_builtin
       refine wpList_append_rd _ rfl _ _ 23 rfl w.heap.size 5 i0 (.int .u8 0) 1 1 Tryd.underlying23 hi0 hz0 hz1 hz2 rfl (by omega) (Value.slice (some { block := w.heap.size, off := 0 }) 0 (l.length + m.toNat)) 0 [] rfl hown0 w.heap.size A l.length c (bvs l) rfl (by simp [bvs]) (h.grown hgrow0 (Nat.le_refl _) (by simp)) (bvs_one l) (by unfold maxLen; omega) (by omega) hgrow0.size ?_
       intro v1 w1 hown1 hbw1 _ _))
  go_ret
  exact ⟨v1, rfl, by simpa using hown1, ((Below.refl _ _).grown hgrow0 (Nat.le_refl _) (by simp)).trans hbw1⟩

end Go.Proofs.YtkpkfgcbccaibaaDoor

/- PxFix -/

/-
  Layer 1: the walks of Fixed, Read and Narrow.
-/
set_option linter.unusedVariables false
set_option linter.unusedSimpArgs false
namespace Go.Proofs.YtkpkfgcbccaibaaDoor
open Go.RowKit

theorem fixed_ok (A : Option Addr) (l : List UInt8) (c : Nat) (n b : Int) (w : World) (h : Rd w w.heap.size A (bvs l)) (h0 : 0 ≤ n) (h1 : n < 18446744073709551616) (hb : 1 ≤ b) (hb2 : b ≤ 8) (hf : n / 2 ^ (8 * b).toNat = 0) (hm : l.length + 8 ≤ 140737488355328) :
    Calls Tryd.prog 54 #[.slice A l.length c, .int .u64 n, .int .i64 b] w fun e w' => ∃ v, e = .returned (.tuple #[v, .int .i64 0]) ∧ w'.ownsRow w.heap.size 5 1 v (l.length + b.toNat) (bvs (l ++ Px.leL n.toNat b.toNat)) ∧ Below w.heap.size w w' := by
  obtain ⟨i0, hi0, hz0, hz1, hz2⟩ := info_parts byte_info
  obtain ⟨k, rfl⟩ := Int.eq_ofNat_of_zero_le (by omega : 0 ≤ b)
  rw [Int.toNat_natCast]
  have d1 : decide ((k : Int) < 1) = false := by simp; omega
  have d2 : decide ((8 : Int) < (k : Int)) = false := by simp; omega
  have d3 : (n / 2 ^ (8 * (k : Int)).toNat != 0) = false := by simp [hf]
  go_enter Tryd.func54, Tryd.ntmps54
  go_wp2_with fail
  refine (room_any A l c _ _ h (by omega) (by omega)).mono ?_
  rintro e w1 ⟨v, rfl, hown, hbl⟩
  go_wp2_with fail
  go_loopw [8, 25] (fun o i wr => ∃ j : Nat, j ≤ k ∧ i = .int .i64 j ∧ wr.ownsRow w.heap.size 5 1 o (l.length + j) (bvs (l ++ Px.leL n.toNat j)) ∧ Below w.heap.size w wr) (fun _ i _ => k - (intOf i).toNat)
  case atStart => exact ⟨0, by omega, rfl, by simpa [Px.leL] using hown, hbl⟩
  case round =>
    obtain ⟨j, hj, rfl, hown1, hb1⟩ := hrel
    by_cases hlt : j < k
    · have hd : n / 2 ^ (8 * (j : Int)).toNat % 256 = ((Px.dg n.toNat j).toNat : Int) := Px.dg_val n h0 _ _ (by omega)
      have Hd := Lib.hid hd
      clear hd
      go_wp2_with fail
      refine (digit_any _ _ _ h0 h1 (by omega) (by omega)).mono ?_
      rintro e w2 ⟨rfl, rfl⟩
      rw [Hd.out]
      go_wp2_with (at_builtin; (refine wpList_append_1 _ rfl _ _ 23 rfl w.heap.size 5 i0 (.int .u8 0) 1 Tryd.underlying23 hi0 hz0 hz1 hz2 rfl u8 (l.length + j) (bvs (l ++ Px.leL n.toNat j)) rfl (hown1.alloc _) _ 1 (.int .u8 ((Px.dg n.toNat j).toNat : Int)) rfl (cell_new1 _ _ _) rfl (by unfold maxLen; omega) (by omega) (by have := hb1.size; simp; omega) ?_); intro v2 w2 hown2 hbw2 _ _)
      go_roundw
      case rel => exact ⟨j + 1, by omega, by go_num, by rw [Px.leL_succ, ← List.append_assoc, bvs_append]; exact hown2, (hb1.alloc hb1.size _).trans hbw2⟩
      case measure => simp [intOf]; omega
    · obtain rfl : j = k := by omega
      go_wp2_with fail
      go_ret2
      exact ⟨_, rfl, hown1, hb1⟩

theorem read_ok (A : Option Addr) (l : List UInt8) (c B : Nat) (b : Int) (w : World) (h : Rd w B A (bvs l)) (hb : 1 ≤ b) (hb2 : b ≤ 8) (hl : b.toNat ≤ l.length) (hm : l.length ≤ 9223372036854775807) :
    Calls Tryd.prog 42 #[.slice A l.length c, .int .i64 b] w fun e w' => e = .returned (.tuple #[.int .u64 (Px.rdN l b.toNat : Nat), .int .i64 0]) ∧ w = w' := by
  obtain ⟨k, rfl⟩ := Int.eq_ofNat_of_zero_le (by omega : 0 ≤ b)
  rw [Int.toNat_natCast] at hl ⊢
  obtain ⟨bb, o, rfl, hbb, hc⟩ := h (by intro e; have := congrArg List.length e; simp [bvs] at this; subst this; simp at hl; omega)
  have hcx : ∀ j, j < l.length → w.cell? ⟨bb, o + j, none⟩ = some (.int .u8 ((l.getD j 0).toNat : Int)) := fun j hj => by
    refine hc j _ ?_
    rw [bvs_get _ _ hj]
    simp [bv, List.getD_eq_getElem?_getD, List.getElem?_eq_getElem hj]
  have Hcx := Lib.hid hcx
  clear hc hcx
  have d1 : decide ((k : Int) < 1) = false := by simp; omega
  have d2 : decide ((8 : Int) < (k : Int)) = false := by simp; omega
  have d3 : decide (l.length < k) = false := by simp; omega
  go_enter Tryd.func42, Tryd.ntmps42
  go_wp2_with fail
  go_loop [6, 19] (fun a i => ∃ j : Nat, j ≤ k ∧ i = .int .i64 j ∧ a = .int .u64 (Px.rdN l j : Nat)) (fun _ i => k - (intOf i).toNat)
  case atStart => exact ⟨0, by omega, rfl, rfl⟩
  case round =>
    obtain ⟨j, hj, rfl, rfl⟩ := hrel
    by_cases hlt : j < k
    · have hcj := Hcx.out j (by omega)
      have hy := UInt8.toNat_lt (l.getD j 0)
      have hnx : Px.rdN l (j + 1) = Px.rdN l j + (l.getD j 0).toNat * 2 ^ (8 * j) := rfl
      have hor := Px.or_rd l j (by omega)
      have Hnx := Lib.hid hnx
      have Hor := Lib.hid hor
      clear hnx hor
      generalize l.getD j 0 = y at *
      go_wp2
      go_round
      case rel => exact ⟨j + 1, by omega, by go_num, by rw [Hor.out, Hnx.out]⟩
      case measure => simp [intOf]; omega
    · obtain rfl : j = k := by omega
      go_wp2
      go_ret2
      exact ⟨rfl, rfl⟩
end Go.Proofs.YtkpkfgcbccaibaaDoor

/- PxCon -/

/-
  Layer 1: the contracts over slices that are values, and of 'wakes'.
-/
set_option linter.unusedVariables false
set_option linter.unusedSimpArgs false
namespace Go.Proofs.YtkpkfgcbccaibaaDoor
open Go.RowKit

theorem fixed_b (v : Value) (l : List UInt8) (n b : Int) (w : World) (h : Bs w w.heap.size v l) (h0 : 0 ≤ n) (h1 : n < 18446744073709551616) (hb : 1 ≤ b) (hb2 : b ≤ 8) (hf : n / 2 ^ (8 * b).toNat = 0) (hm : l.length + 8 ≤ 140737488355328) :
    Calls Tryd.prog 54 #[v, .int .u64 n, .int .i64 b] w fun e w' => ∃ r, e = .returned (.tuple #[r, .int .i64 0]) ∧ w'.ownsRow w.heap.size 5 1 r (l.length + b.toNat) (bvs (l ++ Px.leL n.toNat b.toNat)) ∧ Below w.heap.size w w' := by
  obtain ⟨A, c, rfl, _, hr⟩ := h
  exact fixed_ok A l c n b w hr h0 h1 hb hb2 hf hm

theorem read_b (v : Value) (l : List UInt8) (B : Nat) (b : Int) (w : World) (h : Bs w B v l) (hb : 1 ≤ b) (hb2 : b ≤ 8) (hl : b.toNat ≤ l.length) (hm : l.length ≤ 9223372036854775807) :
    Calls Tryd.prog 42 #[v, .int .i64 b] w fun e w' => e = .returned (.tuple #[.int .u64 (Px.rdN l b.toNat : Nat), .int .i64 0]) ∧ w = w' := by
  obtain ⟨A, c, rfl, _, hr⟩ := h
  exact read_ok A l c B b w hr hb hb2 hl hm

end Go.Proofs.YtkpkfgcbccaibaaDoor

/- LxPlain -/

/-
  Layer 3, plain mathematics: which locs may be, how they are packed, compared and written.
-/
set_option linter.unusedVariables false
set_option linter.unusedSimpArgs false
namespace Go.Proofs.YtkpkfgcbccaibaaDoor
open Go.RowKit

/-- a loc as a value -/
def lv (s o : Int) : Value := .agg #[.int .u32 s, .int .u32 o]

namespace Lx
def noneB (s o : Int) : Bool := decide (s = 0 ∧ o = 0)
def standsB (s o : Int) : Bool := decide (1 ≤ s ∧ s ≤ 16777215 ∧ 16 ≤ o ∧ o ≤ 16777216)
def mayB (s o : Int) : Bool := noneB s o || standsB s o
/-- what bytes begin with: Seg, Off, how many bytes, the error's number -/
def getQ (l : List UInt8) : Int × Int × Int × Int :=
  if (Px.getN l).2.2 ≠ 0 then (0, 0, 0, (Px.getN l).2.2)
  else if (Px.getN l).1 = 0 then (0, 0, (Px.getN l).2.1, 0)
  else if (Px.getN (l.drop (Px.getN l).2.1)).2.2 ≠ 0 then (0, 0, 0, (Px.getN (l.drop (Px.getN l).2.1)).2.2)
  else if 16777215 < (Px.getN l).1 ∨ 16777200 < (Px.getN (l.drop (Px.getN l).2.1)).1 then (0, 0, 0, 5)
  else ((Px.getN l).1, (Px.getN (l.drop (Px.getN l).2.1)).1 + 16, ((Px.getN l).2.1 + (Px.getN (l.drop (Px.getN l).2.1)).2.1 : Nat), 0)
end Lx
end Go.Proofs.YtkpkfgcbccaibaaDoor

/- CxPlain -/

/-
  Layer 2 (sums of bytes), as plain functions of 32 bits, without any program: polynomials by x, products, powers, sums.
-/
set_option linter.unusedVariables false
set_option linter.unusedSimpArgs false
namespace Go.Proofs.YtkpkfgcbccaibaaDoor.Cx

/-- what x to 32 leaves -/
def md : BitVec 32 := 0x82f63b78#32
/-- x to 0 -/
def e0 : BitVec 32 := 0x80000000#32
/-- a polynomial by x -/
def tx (a : BitVec 32) : BitVec 32 := (a >>> 1) ^^^ (if a.getLsbD 0 then md else 0#32)

theorem x4 (a b c d : BitVec 32) : (a ^^^ b) ^^^ (c ^^^ d) = (a ^^^ c) ^^^ (b ^^^ d) := by
  rw [BitVec.xor_assoc, BitVec.xor_assoc, ← BitVec.xor_assoc b c d, BitVec.xor_comm b c, BitVec.xor_assoc c b d]

theorem tx_xor (a b : BitVec 32) : tx (a ^^^ b) = tx a ^^^ tx b := by
  unfold tx
  rw [BitVec.getLsbD_xor, BitVec.ushiftRight_xor_distrib, x4]
  congr 1
  cases a.getLsbD 0 <;> cases b.getLsbD 0 <;> simp
theorem tx_zero : tx 0#32 = 0#32 := by decide

theorem tx_eq_zero (a : BitVec 32) (h : tx a = 0#32) : a = 0#32 := by
  unfold tx at h
  rcases hb : a.getLsbD 0 with _ | _
  · rw [hb] at h
    simp at h
    have h1 : (a >>> 1).toNat = 0 := by rw [h]; rfl
    rw [BitVec.toNat_ushiftRight] at h1
    have h2 : a.toNat % 2 = 0 := by
      rw [BitVec.getLsbD] at hb
      simp [Nat.testBit_zero] at hb
      omega
    apply BitVec.eq_of_toNat_eq
    rw [Nat.shiftRight_eq_div_pow] at h1
    simp
    omega
  · rw [hb] at h
    have h1 := congrArg (BitVec.getLsbD · 31) h
    simp [md] at h1

/-- by x, n times -/
def tp : Nat → BitVec 32 → BitVec 32
  | 0, a => a
  | n + 1, a => tx (tp n a)
theorem tp_xor (n : Nat) (a b : BitVec 32) : tp n (a ^^^ b) = tp n a ^^^ tp n b := by
  induction n with
  | zero => rfl
  | succ n ih => simp only [tp, ih, tx_xor]
theorem tp_zero (n : Nat) : tp n 0#32 = 0#32 := by
  induction n with
  | zero => rfl
  | succ n ih => simp only [tp, ih, tx_zero]
theorem tp_add (m n : Nat) (a : BitVec 32) : tp (m + n) a = tp m (tp n a) := by
  induction m with
  | zero => rw [Nat.zero_add]; rfl
  | succ m ih => rw [Nat.succ_add]; simp only [tp, ih]
theorem tp_eq_zero (n : Nat) (a : BitVec 32) (h : tp n a = 0#32) : a = 0#32 := by
  induction n with
  | zero => exact h
  | succ n ih => exact ih (tx_eq_zero _ h)
theorem xor_eq_zero (a b : BitVec 32) (h : a ^^^ b = 0#32) : a = b := by
  have : (a ^^^ b) ^^^ b = 0#32 ^^^ b := by rw [h]
  rw [BitVec.xor_assoc, BitVec.xor_self] at this
  simpa using this
theorem tp_inj (n : Nat) (a b : BitVec 32) (h : tp n a = tp n b) : a = b := by
  apply xor_eq_zero
  apply tp_eq_zero n
  rw [tp_xor, h, BitVec.xor_self]
theorem tp_if (n : Nat) (c : Bool) (a : BitVec 32) : tp n (if c then a else 0#32) = if c then tp n a else 0#32 := by
  cases c
  · simp [tp_zero]
  · simp

/-- linear functions that agree at single bits agree -/
theorem lin_ext (f g : BitVec 32 → BitVec 32) (hf : ∀ a b, f (a ^^^ b) = f a ^^^ f b) (hg : ∀ a b, g (a ^^^ b) = g a ^^^ g b)
    (h : ∀ i : Fin 32, f (BitVec.twoPow 32 i) = g (BitVec.twoPow 32 i)) (a : BitVec 32) : f a = g a := by
  have key : ∀ n, n ≤ 32 → ∀ a : BitVec 32, (∀ i, n ≤ i → a.getLsbD i = false) → f a = g a := by
    intro n
    induction n with
    | zero =>
      intro _ a ha
      have h0 : a = 0#32 := by
        apply BitVec.eq_of_getLsbD_eq
        intro i _
        rw [ha i (Nat.zero_le _)]
        simp
      have z : ∀ f : BitVec 32 → BitVec 32, (∀ a b, f (a ^^^ b) = f a ^^^ f b) → f 0#32 = 0#32 := by
        intro f hf
        have := hf 0#32 0#32
        rw [BitVec.xor_self, BitVec.xor_self] at this
        exact this
      rw [h0, z f hf, z g hg]
    | succ n ih =>
      intro hn a ha
      rcases hb : a.getLsbD n with _ | _
      · exact ih (by omega) a (fun i hi => by
          rcases Nat.eq_or_lt_of_le hi with rfl | h1
          · exact hb
          · exact ha i h1)
      · have hs : a = (a ^^^ BitVec.twoPow 32 n) ^^^ BitVec.twoPow 32 n := by
          rw [BitVec.xor_assoc, BitVec.xor_self]
          simp
        have hl := ih (by omega) (a ^^^ BitVec.twoPow 32 n) (fun i hi => by
          rw [BitVec.getLsbD_xor, BitVec.getLsbD_twoPow]
          rcases Nat.eq_or_lt_of_le hi with rfl | h1
          · rw [hb]; simp; omega
          · rw [ha i h1]; simp; omega)
        rw [hs, hf, hg, hl, h ⟨n, by omega⟩]
  exact key 32 (Nat.le_refl _) a (fun i hi => BitVec.getLsbD_of_ge _ _ hi)

/-- the product, bit by bit: the highest bit of a is the coefficient of x to 0 -/
def mulL : Nat → BitVec 32 → BitVec 32 → BitVec 32
  | 0, _, _ => 0#32
  | n + 1, a, b => (if a.getLsbD 31 then b else 0#32) ^^^ mulL n (a <<< 1) (tx b)
/-- the product -/
def mul (a b : BitVec 32) : BitVec 32 := mulL 32 a b

theorem if_xor (c d : Bool) (b : BitVec 32) : (if (c ^^ d) then b else 0#32) = (if c then b else 0#32) ^^^ (if d then b else 0#32) := by
  cases c <;> cases d <;> simp
theorem if_xor' (c : Bool) (a b : BitVec 32) : (if c then a ^^^ b else 0#32) = (if c then a else 0#32) ^^^ (if c then b else 0#32) := by
  cases c <;> simp
theorem mulL_xor_left (n : Nat) : ∀ a a' b, mulL n (a ^^^ a') b = mulL n a b ^^^ mulL n a' b := by
  induction n with
  | zero => intro a a' b; simp [mulL]
  | succ n ih =>
    intro a a' b
    simp only [mulL, BitVec.getLsbD_xor, BitVec.shiftLeft_xor_distrib, ih, if_xor]
    exact x4 _ _ _ _
theorem mulL_xor_right (n : Nat) : ∀ a b b', mulL n a (b ^^^ b') = mulL n a b ^^^ mulL n a b' := by
  induction n with
  | zero => intro a b b'; simp [mulL]
  | succ n ih =>
    intro a b b'
    simp only [mulL, tx_xor, ih, if_xor']
    exact x4 _ _ _ _
theorem mulL_tx (n : Nat) : ∀ a b, mulL n a (tx b) = tx (mulL n a b) := by
  induction n with
  | zero => intro a b; exact tx_zero.symm
  | succ n ih =>
    intro a b
    simp only [mulL, tx_xor, ih]
    congr 1
    cases a.getLsbD 31
    · simp [tx_zero]
    · simp
theorem mulL_zero (n : Nat) (b : BitVec 32) : mulL n 0#32 b = 0#32 := by
  have := mulL_xor_left n 0#32 0#32 b
  rw [BitVec.xor_self, BitVec.xor_self] at this
  exact this
theorem mul_xor_left (a a' b : BitVec 32) : mul (a ^^^ a') b = mul a b ^^^ mul a' b := mulL_xor_left 32 a a' b
theorem mul_xor_right (a b b' : BitVec 32) : mul a (b ^^^ b') = mul a b ^^^ mul a b' := mulL_xor_right 32 a b b'
theorem mul_zero_right (a : BitVec 32) : mul a 0#32 = 0#32 := by
  have := mul_xor_right a 0#32 0#32
  rw [BitVec.xor_self, BitVec.xor_self] at this
  exact this
theorem mul_zero_left (b : BitVec 32) : mul 0#32 b = 0#32 := mulL_zero 32 b
theorem mul_tp (a : BitVec 32) (n : Nat) (b : BitVec 32) : mul a (tp n b) = tp n (mul a b) := by
  induction n with
  | zero => rfl
  | succ n ih =>
    show mulL 32 a (tx (tp n b)) = tx (tp n (mul a b))
    rw [mulL_tx, ← ih]
    rfl
theorem mul_one (a : BitVec 32) : mul a e0 = a :=
  lin_ext (fun a => mul a e0) (fun a => a) (fun a b => mul_xor_left a b e0) (fun _ _ => rfl) (by decide +kernel) a
theorem mul_mulL (a b : BitVec 32) (n : Nat) : ∀ c, mul a (mulL n b c) = mulL n b (mul a c) := by
  induction n generalizing b with
  | zero => intro c; exact mul_zero_right a
  | succ n ih =>
    intro c
    simp only [mulL, mul_xor_right, ih]
    congr 1
    · cases b.getLsbD 31
      · simp [mul_zero_right]
      · simp
    · have : mul a (tx c) = tx (mul a c) := mulL_tx 32 a c
      rw [this]
theorem mul_left_comm (a b c : BitVec 32) : mul a (mul b c) = mul b (mul a c) := mul_mulL a b 32 c
theorem mul_comm (a b : BitVec 32) : mul a b = mul b a := by
  conv => lhs; rw [← mul_one b]
  rw [mul_left_comm, mul_one]
/-- x to n -/
def xp (n : Nat) : BitVec 32 := tp n e0
theorem mul_xp (a : BitVec 32) (n : Nat) : mul a (xp n) = tp n a := by
  unfold xp
  rw [mul_tp, mul_one]
theorem xp_mul (a : BitVec 32) (n : Nat) : mul (xp n) a = tp n a := by rw [mul_comm, mul_xp]
/-- four bits at once -/
def tab (i : Nat) : BitVec 32 := tp 4 (BitVec.ofNat 32 i)
theorem tp4 (a : BitVec 32) : tp 4 a = (a >>> 4) ^^^ tab (a.toNat % 16) := by
  have h1 : tp 4 ((a >>> 4) <<< 4) = a >>> 4 :=
    lin_ext (fun a => tp 4 ((a >>> 4) <<< 4)) (fun a => a >>> 4) (fun a b => by simp only [BitVec.ushiftRight_xor_distrib, BitVec.shiftLeft_xor_distrib, tp_xor])
      (fun a b => by simp only [BitVec.ushiftRight_xor_distrib]) (by decide +kernel) a
  have h2 : a = ((a >>> 4) <<< 4) ^^^ BitVec.ofNat 32 (a.toNat % 16) := by
    apply BitVec.eq_of_getLsbD_eq
    intro i hi
    rw [BitVec.getLsbD_xor, BitVec.getLsbD_shiftLeft, BitVec.getLsbD_ushiftRight, BitVec.getLsbD_ofNat]
    rw [show a.toNat % 16 = a.toNat % 2 ^ 4 by rfl, Nat.testBit_mod_two_pow]
    rcases Nat.lt_or_ge i 4 with h | h
    · simp [h, hi, BitVec.getLsbD]
    · have : ¬ i < 4 := by omega
      simp [this, hi]
      congr 1
      omega
  conv => lhs; rw [h2]
  rw [tp_xor, h1]
  rfl

/-- a byte as a polynomial's eight last bits -/
def by8 (c : UInt8) : BitVec 32 := BitVec.ofNat 32 c.toNat
/-- the division goes on over bytes -/
def reg : BitVec 32 → List UInt8 → BitVec 32
  | r, [] => r
  | r, c :: l => reg (tp 8 (r ^^^ by8 c)) l
theorem reg_append (r : BitVec 32) (l m : List UInt8) : reg r (l ++ m) = reg (reg r l) m := by
  induction l generalizing r with
  | nil => rfl
  | cons c l ih => exact ih _
theorem reg_snoc (r : BitVec 32) (l : List UInt8) (c : UInt8) : reg r (l ++ [c]) = tp 8 (reg r l ^^^ by8 c) := by
  rw [reg_append]; rfl
theorem reg_xor (r s : BitVec 32) (l : List UInt8) : reg (r ^^^ s) l = reg r l ^^^ tp (8 * l.length) s := by
  induction l generalizing r s with
  | nil => rfl
  | cons c l ih =>
    show reg (tp 8 ((r ^^^ s) ^^^ by8 c)) l = reg (tp 8 (r ^^^ by8 c)) l ^^^ _
    have : (r ^^^ s) ^^^ by8 c = (r ^^^ by8 c) ^^^ s := by
      rw [BitVec.xor_assoc, BitVec.xor_comm s, ← BitVec.xor_assoc]
    rw [this, tp_xor, ih, ← tp_add, List.length_cons]
    congr 2
theorem reg_from (r : BitVec 32) (l : List UInt8) : reg r l = reg 0#32 l ^^^ tp (8 * l.length) r := by
  have := reg_xor 0#32 r l
  rwa [BitVec.zero_xor] at this

def ones : BitVec 32 := 0xffffffff#32
/-- the sum, going on -/
def more (s : BitVec 32) (l : List UInt8) : BitVec 32 := ~~~ (reg (~~~ s) l)
/-- the sum -/
def sum (l : List UInt8) : BitVec 32 := more 0#32 l
theorem not_xor (a : BitVec 32) : ~~~ a = a ^^^ ones := by
  apply BitVec.eq_of_getLsbD_eq
  intro i hi
  have : ones.getLsbD i = true := by
    have : ones = BitVec.allOnes 32 := by decide
    rw [this, BitVec.getLsbD_allOnes]
    simp [hi]
  rw [BitVec.getLsbD_xor, this, BitVec.getLsbD_not]
  simp [hi]
/-- three rows, xored -/
theorem by8_xor (a b : UInt8) : by8 (a ^^^ b) = by8 a ^^^ by8 b := by
  unfold by8
  apply BitVec.eq_of_toNat_eq
  have ha := a.toNat_lt
  have hb := b.toNat_lt
  have h := Nat.xor_lt_two_pow (x := a.toNat) (y := b.toNat) (n := 8) ha hb
  simp only [UInt8.toNat_xor, BitVec.toNat_xor, BitVec.toNat_ofNat]
  rw [Nat.mod_eq_of_lt (by omega), Nat.mod_eq_of_lt (by omega), Nat.mod_eq_of_lt (by omega)]
end Go.Proofs.YtkpkfgcbccaibaaDoor.Cx

/- CxRun -/

/-
  Layer 2: runs (a row and its sum behind it), as plain functions; turned bits.
-/
set_option linter.unusedVariables false
set_option linter.unusedSimpArgs false
namespace Go.Proofs.YtkpkfgcbccaibaaDoor.Cx

/-- a digit to the base 256 -/
def dg (n j : Nat) : UInt8 := UInt8.ofNat (n / 2 ^ (8 * j) % 256)
theorem dg_toNat (n j : Nat) : (dg n j).toNat = n / 2 ^ (8 * j) % 256 := by
  unfold dg
  rw [UInt8.toNat_ofNat_of_lt' (by simp only [UInt8.size]; exact Nat.mod_lt _ (by omega))]
/-- the first j digits, the lowest one first -/
def leL (n j : Nat) : List UInt8 := (List.range j).map (dg n)
theorem leL_succ (n j : Nat) : leL n (j + 1) = leL n j ++ [dg n j] := by simp [leL, List.range_succ]
theorem leL_length (n j : Nat) : (leL n j).length = j := by simp [leL]
/-- a run -/
def cover (l : List UInt8) : List UInt8 := l ++ leL (sum l).toNat 4
theorem cover_length (l : List UInt8) : (cover l).length = l.length + 4 := by simp [cover, leL_length]
/-- the number in the first j bytes, the lowest one first -/
def rdN (l : List UInt8) : Nat → Nat
  | 0 => 0
  | j + 1 => rdN l j + (l.getD j 0).toNat * 2 ^ (8 * j)
theorem rdN_lt (l : List UInt8) (j : Nat) : rdN l j < 2 ^ (8 * j) := by
  induction j with
  | zero => simp [rdN]
  | succ j ih =>
    have h := UInt8.toNat_lt (l.getD j 0)
    have e : 2 ^ (8 * (j + 1)) = 256 * 2 ^ (8 * j) := by rw [Nat.mul_add, Nat.pow_add, Nat.mul_comm]
    simp only [rdN]
    rw [e]
    have h2 : (l.getD j 0).toNat * 2 ^ (8 * j) ≤ 255 * 2 ^ (8 * j) := Nat.mul_le_mul_right _ (by omega)
    omega
/-- whether a run is right -/
def right (l : List UInt8) : Bool := decide (4 ≤ l.length) && (rdN (l.drop (l.length - 4)) 4 == (sum (l.take (l.length - 4))).toNat)

theorem rdN_leL (n : Nat) (h : n < 2 ^ 32) : rdN (leL n 4) 4 = n := by
  have e : leL n 4 = [dg n 0, dg n 1, dg n 2, dg n 3] := rfl
  rw [e]
  simp only [rdN, List.getD_cons_zero, List.getD_cons_succ, dg_toNat]
  omega
theorem right_cover (l : List UInt8) : right (cover l) = true := by
  unfold right
  rw [cover_length, Nat.add_sub_cancel]
  unfold cover
  rw [List.drop_left, List.take_left, rdN_leL _ (sum l).isLt]
  simp
theorem and_xor (a b c : BitVec 32) : (a ^^^ b) &&& c = (a &&& c) ^^^ (b &&& c) := by
  apply BitVec.eq_of_getLsbD_eq
  intro i _
  simp only [BitVec.getLsbD_xor, BitVec.getLsbD_and]
  cases a.getLsbD i <;> cases b.getLsbD i <;> cases c.getLsbD i <;> rfl
theorem tp8 (c : UInt8) : tp 8 (by8 c <<< 8) = by8 c := by
  have h := lin_ext (fun x => tp 8 ((x &&& 0xff#32) <<< 8)) (fun x => x &&& 0xff#32)
    (fun a b => by simp only [and_xor, BitVec.shiftLeft_xor_distrib, tp_xor]) (fun a b => by simp only [and_xor]) (by decide +kernel) (by8 c)
  have e : by8 c &&& 0xff#32 = by8 c := by
    apply BitVec.eq_of_toNat_eq
    have := c.toNat_lt
    unfold by8
    rw [BitVec.toNat_and, BitVec.toNat_ofNat, Nat.mod_eq_of_lt (by omega), show (0xff#32).toNat = 2 ^ 8 - 1 by rfl, Nat.and_two_pow_sub_one_eq_mod, Nat.mod_eq_of_lt (by omega)]
  simpa only [e] using h
theorem ofNat_add (x c j : Nat) (hx : x < 2 ^ (8 * j)) (hc : c < 256) (hj : j < 4) : BitVec.ofNat 32 (x + c * 2 ^ (8 * j)) = BitVec.ofNat 32 x ^^^ (BitVec.ofNat 32 c <<< (8 * j)) := by
  apply BitVec.eq_of_getLsbD_eq
  intro i hi
  rw [BitVec.getLsbD_xor, BitVec.getLsbD_shiftLeft, BitVec.getLsbD_ofNat, BitVec.getLsbD_ofNat, BitVec.getLsbD_ofNat, Nat.add_comm, Nat.mul_comm, Nat.testBit_two_pow_mul_add _ hx]
  rcases Nat.lt_or_ge i (8 * j) with h | h
  · simp [h, hi]
  · have h1 : ¬ i < 8 * j := by omega
    have h2 : x.testBit i = false := Nat.testBit_lt_two_pow (Nat.lt_of_lt_of_le hx (Nat.pow_le_pow_right (by omega) h))
    simp [h1, hi, h2]
    intro _
    omega
/-- four bytes behind are one number of 32 bits behind -/
theorem reg_four (r : BitVec 32) (t : List UInt8) (h : t.length = 4) : reg r t = tp 32 (r ^^^ BitVec.ofNat 32 (rdN t 4)) := by
  match t, h with
  | [a, b, c, d], _ =>
    have ha := a.toNat_lt
    have hb := b.toNat_lt
    have hc := c.toNat_lt
    have hd := d.toNat_lt
    have l1 := rdN_lt [a, b, c, d] 1
    have l2 := rdN_lt [a, b, c, d] 2
    have l3 := rdN_lt [a, b, c, d] 3
    have e1 : rdN [a, b, c, d] 1 = a.toNat := by simp [rdN]
    have e2 : rdN [a, b, c, d] 2 = rdN [a, b, c, d] 1 + b.toNat * 2 ^ (8 * 1) := rfl
    have e3 : rdN [a, b, c, d] 3 = rdN [a, b, c, d] 2 + c.toNat * 2 ^ (8 * 2) := rfl
    have e4 : rdN [a, b, c, d] 4 = rdN [a, b, c, d] 3 + d.toNat * 2 ^ (8 * 3) := rfl
    rw [e4, ofNat_add _ _ 3 l3 hd (by omega), e3, ofNat_add _ _ 2 l2 hc (by omega), e2, ofNat_add _ _ 1 l1 hb (by omega), e1]
    show tp 8 (tp 8 (tp 8 (tp 8 (r ^^^ by8 a) ^^^ by8 b) ^^^ by8 c) ^^^ by8 d) = tp 32 (r ^^^ (by8 a ^^^ by8 b <<< 8 ^^^ by8 c <<< 16 ^^^ by8 d <<< 24))
    have s1 : ∀ x : BitVec 32, tp 8 (tp 8 (tp 8 (tp 8 x))) = tp 32 x := fun x => by rw [← tp_add, ← tp_add, ← tp_add]
    have q1 : by8 b = tp 8 (by8 b <<< 8) := (tp8 b).symm
    have up : ∀ (y : UInt8) (k : Nat), k ≤ 16 → tp 8 (by8 y <<< (k + 8)) = by8 y <<< k := fun y k hk => by
      have h := lin_ext (fun x => tp 8 ((x &&& 0xff#32) <<< (k + 8))) (fun x => (x &&& 0xff#32) <<< k)
        (fun a b => by simp only [and_xor, BitVec.shiftLeft_xor_distrib, tp_xor]) (fun a b => by simp only [and_xor, BitVec.shiftLeft_xor_distrib])
        (by
          have : ∀ (k : Fin 17) (i : Fin 32), tp 8 ((BitVec.twoPow 32 i &&& 0xff#32) <<< (k.val + 8)) = (BitVec.twoPow 32 i &&& 0xff#32) <<< k.val := by decide +kernel
          exact this ⟨k, by omega⟩) (by8 y)
      have e : by8 y &&& 0xff#32 = by8 y := by
        apply BitVec.eq_of_toNat_eq
        have := y.toNat_lt
        unfold by8
        rw [BitVec.toNat_and, BitVec.toNat_ofNat, Nat.mod_eq_of_lt (by omega), show (0xff#32).toNat = 2 ^ 8 - 1 by rfl, Nat.and_two_pow_sub_one_eq_mod, Nat.mod_eq_of_lt (by omega)]
      simpa only [e] using h
    have q2 : by8 c = tp 8 (tp 8 (by8 c <<< 16)) := by rw [up c 8 (by omega), tp8]
    have q3 : by8 d = tp 8 (tp 8 (tp 8 (by8 d <<< 24))) := by rw [up d 16 (by omega), up d 8 (by omega), tp8]
    conv => lhs; rw [q1, q2, q3]
    simp only [← tp_xor, s1]
    congr 1
    simp only [BitVec.xor_assoc]
/-- a run is right if the division of all of it leaves what it leaves of any right run -/
theorem right_reg (l : List UInt8) (h : 4 ≤ l.length) : right l = (reg ones l == tp 32 ones) := by
  have h4 : (l.drop (l.length - 4)).length = 4 := by rw [List.length_drop]; omega
  unfold right
  conv => rhs; rw [← List.take_append_drop (l.length - 4) l, reg_append, reg_four _ _ h4]
  have hlt := rdN_lt (l.drop (l.length - 4)) 4
  generalize l.take (l.length - 4) = a at *
  generalize l.drop (l.length - 4) = t at *
  rw [Bool.eq_iff_iff]
  simp only [Bool.and_eq_true, decide_eq_true_eq, beq_iff_eq, h, true_and]
  unfold sum more
  have e2 : ~~~ 0#32 = ones := by decide
  rw [e2]
  constructor
  · intro e
    congr 1
    rw [e, BitVec.ofNat_toNat, BitVec.setWidth_eq, not_xor, ← BitVec.xor_assoc, BitVec.xor_self, BitVec.zero_xor]
  · intro e
    have e3 := tp_inj 32 _ _ e
    have e4 : BitVec.ofNat 32 (rdN t 4) = ~~~ (reg ones a) := by
      rw [not_xor]
      generalize reg ones a = z at e3
      rw [← e3, ← BitVec.xor_assoc, BitVec.xor_self, BitVec.zero_xor]
    rw [← e4, BitVec.toNat_ofNat, Nat.mod_eq_of_lt (by simpa using hlt)]

/-- one byte is turned -/
theorem reg_set (l : List UInt8) : ∀ (r : BitVec 32) (p : Nat) (c d : UInt8), l[p]? = some c → reg r (l.set p (c ^^^ d)) = reg r l ^^^ tp (8 * (l.length - p)) (by8 d) := by
  induction l with
  | nil => intro r p c d h; simp at h
  | cons x l ih =>
    intro r p c d h
    rcases p with _ | p
    · simp at h
      subst h
      show reg (tp 8 (r ^^^ by8 (x ^^^ d))) l = reg (tp 8 (r ^^^ by8 x)) l ^^^ tp (8 * (l.length + 1 - 0)) (by8 d)
      rw [by8_xor, ← BitVec.xor_assoc, tp_xor, reg_xor, ← tp_add]
      congr 2
    · simp at h
      show reg (tp 8 (r ^^^ by8 x)) (l.set p (c ^^^ d)) = reg (tp 8 (r ^^^ by8 x)) l ^^^ _
      rw [ih _ p c d h]
      congr 2
      simp
theorem tp_two (k : Nat) (h : k < 32) : tp k (BitVec.twoPow 32 k) = 1#32 := by
  have : ∀ k : Fin 32, tp k.val (BitVec.twoPow 32 k) = 1#32 := by decide +kernel
  exact this ⟨k, h⟩
theorem by8_two (q : Nat) (h : q < 8) : by8 (UInt8.ofNat (2 ^ q)) = BitVec.twoPow 32 q := by
  have : ∀ q : Fin 8, by8 (UInt8.ofNat (2 ^ q.val)) = BitVec.twoPow 32 q := by decide +kernel
  exact this ⟨q, h⟩
/-- one bit is turned: where it stands in the row of bits is all that counts -/
theorem turn_bit (l : List UInt8) (p q first k : Nat) (hp : p < l.length) (hq : q < 8) (hk : k < 32) (h : first + k = 8 * p + q) :
    tp (8 * (l.length - p)) (by8 (UInt8.ofNat (2 ^ q))) = tp (8 * l.length - first) (BitVec.twoPow 32 k) := by
  rw [by8_two q hq, show 8 * (l.length - p) = (8 * l.length - first - k) + q by omega, tp_add, tp_two q (by omega), show 8 * l.length - first = (8 * l.length - first - k) + k by omega, tp_add, tp_two k hk]
  congr 1
  omega
/-- the first k bits of what is turned -/
def low (b : BitVec 32) (k : Nat) : BitVec 32 := BitVec.ofNat 32 (b.toNat % 2 ^ k)
theorem low_succ (b : BitVec 32) (k : Nat) (h : k < 32) : low b (k + 1) = low b k ^^^ (if b.getLsbD k then BitVec.twoPow 32 k else 0#32) := by
  apply BitVec.eq_of_getLsbD_eq
  intro i hi
  unfold low
  rw [BitVec.getLsbD_xor, BitVec.getLsbD_ofNat, BitVec.getLsbD_ofNat, Nat.testBit_mod_two_pow, Nat.testBit_mod_two_pow]
  rcases hb : b.getLsbD k with _ | _
  · simp only [Bool.false_eq_true, if_false, BitVec.getLsbD_zero, Bool.xor_false]
    rcases Nat.lt_trichotomy i k with h1 | h1 | h1
    · simp [h1, show i < k + 1 by omega]
    · subst h1
      rw [BitVec.getLsbD] at hb
      simp [hb]
    · simp [show ¬ i < k by omega, show ¬ i < k + 1 by omega]
  · simp only [if_true, BitVec.getLsbD_twoPow]
    rcases Nat.lt_trichotomy i k with h1 | h1 | h1
    · simp [h1, show i < k + 1 by omega, show ¬ k = i by omega]
    · subst h1
      rw [BitVec.getLsbD] at hb
      simp [hb, hi]
    · simp [show ¬ i < k by omega, show ¬ i < k + 1 by omega, show ¬ k = i by omega]
theorem low_zero (b : BitVec 32) : low b 0 = 0#32 := by unfold low; rw [Nat.pow_zero, Nat.mod_one]
theorem low_ne (b : BitVec 32) (k : Nat) (h : k ≤ 32) (h0 : 0 < k) (hb : b.getLsbD 0 = true) : low b k ≠ 0#32 := fun e => by
  have e1 := congrArg (BitVec.getLsbD · 0) e
  unfold low at e1
  simp only [BitVec.getLsbD_ofNat, Nat.testBit_mod_two_pow] at e1
  rw [BitVec.getLsbD] at hb
  simp [hb, h0] at e1
/-- the row is turned, bit by bit, beginning at 'first' -/
def turned (r0 : List UInt8) (b : BitVec 32) (first k : Nat) (l : List UInt8) : Prop :=
  l.length = r0.length ∧ reg ones l = reg ones r0 ^^^ tp (8 * r0.length - first) (low b k)
theorem turned_zero (r0 : List UInt8) (b : BitVec 32) (first : Nat) : turned r0 b first 0 r0 := ⟨rfl, by rw [low_zero, tp_zero, BitVec.xor_zero]⟩
theorem turned_same {r0 l : List UInt8} {b : BitVec 32} {first k : Nat} (h : turned r0 b first k l) (hk : k < 32) (hb : b.getLsbD k = false) : turned r0 b first (k + 1) l :=
  ⟨h.1, by rw [low_succ b k hk, hb]; simp [h.2]⟩
theorem turned_bit {r0 l : List UInt8} {b : BitVec 32} {first k p q : Nat} {c : UInt8} (h : turned r0 b first k l) (hk : k < 32) (hb : b.getLsbD k = true) (hp : l[p]? = some c) (hq : q < 8) (hf : first + k = 8 * p + q) :
    turned r0 b first (k + 1) (l.set p (c ^^^ UInt8.ofNat (2 ^ q))) := by
  have hlt : p < l.length := (List.getElem?_eq_some_iff.1 hp).1
  refine ⟨by rw [List.length_set, h.1], ?_⟩
  rw [reg_set l ones p c _ hp, h.2, low_succ b k hk, hb, tp_xor, turn_bit l p q first k hlt hq hk hf, h.1, BitVec.xor_assoc]
  rfl
theorem turned_wrong {r0 l : List UInt8} {b : BitVec 32} {first k : Nat} (h : turned r0 b first k l) (h4 : 4 ≤ r0.length) (hr : right r0 = true) (hk : k ≤ 32) (h0 : 0 < k) (hb : b.getLsbD 0 = true) : right l = false := by
  rw [right_reg r0 h4] at hr
  rw [right_reg l (by rw [h.1]; exact h4), h.2]
  simp only [beq_iff_eq] at hr
  rw [hr]
  rcases hc : (tp 32 ones ^^^ tp (8 * r0.length - first) (low b k) == tp 32 ones) with _ | _
  · rfl
  · exfalso
    simp only [beq_iff_eq] at hc
    have e : tp (8 * r0.length - first) (low b k) = 0#32 := by
      have := congrArg (tp 32 ones ^^^ ·) hc
      simp only [← BitVec.xor_assoc, BitVec.xor_self, BitVec.zero_xor] at this
      exact this
    exact low_ne b k hk h0 hb (tp_eq_zero _ _ e)
end Go.Proofs.YtkpkfgcbccaibaaDoor.Cx

/- RcPlain -/

/-
  Layer 8, plain mathematics: records as runs, what bytes begin with, turned bits.
-/
set_option linter.unusedVariables false
set_option linter.unusedSimpArgs false
namespace Go.Proofs.YtkpkfgcbccaibaaDoor.Rc
open Go.RowKit

/-- a version of a key -/
structure Rec where
  seq : Int
  kind : Int
  key : List UInt8
  val : List UInt8
  seg : Int
  off : Int

theorem Rec.ext' {a b : Rec} (h1 : a.seq = b.seq) (h2 : a.kind = b.kind) (h3 : a.key = b.key) (h4 : a.val = b.val) (h5 : a.seg = b.seg) (h6 : a.off = b.off) : a = b := by
  cases a; cases b; simp_all

def none : Rec := ⟨0, 0, [], [], 0, 0⟩
/-- the kind, and the value that it may have -/
def kindB (r : Rec) : Bool := decide (r.kind = 1 ∧ r.val.length ≤ 1024) || decide (r.kind = 2 ∧ r.val.length = 0)
def mayB (r : Rec) : Bool := decide (1 ≤ r.seq ∧ r.seq ≤ 1099511627776) && decide (1 ≤ r.key.length ∧ r.key.length ≤ 64) && Lx.mayB r.seg r.off && kindB r
def sizeN (r : Rec) : Nat := 25 + r.key.length + r.val.length
/-- what a head tells, and in how many bytes -/
def told (r : Rec) : List (Nat × Nat) := [(r.kind.toNat, 1), (r.key.length, 1), (r.val.length, 2), (r.seq.toNat, 6), (r.seg.toNat, 3), (r.off.toNat, 4)]
def rowL (l : List (Nat × Nat)) : List UInt8 := l.flatMap fun p => Px.leL p.1 p.2
theorem rowL_snoc (l : List (Nat × Nat)) (p : Nat × Nat) : rowL (l ++ [p]) = rowL l ++ Px.leL p.1 p.2 := by simp [rowL]
def headL (r : Rec) : List UInt8 := rowL (told r)
theorem headL_eq (r : Rec) : headL r = Px.leL r.kind.toNat 1 ++ (Px.leL r.key.length 1 ++ (Px.leL r.val.length 2 ++ (Px.leL r.seq.toNat 6 ++ (Px.leL r.seg.toNat 3 ++ Px.leL r.off.toNat 4)))) := by
  simp [headL, rowL, told]
theorem headL_length (r : Rec) : (headL r).length = 17 := by
  rw [headL_eq]; simp [Px.leL_length]
/-- its run -/
def runL (r : Rec) : List UInt8 := Cx.cover (Cx.cover (headL r) ++ r.key ++ r.val)
theorem runL_length (r : Rec) : (runL r).length = sizeN r := by
  simp [runL, Cx.cover_length, headL_length, sizeN]; omega

/-- as a head tells it -/
def rdR (b : List UInt8) : Rec :=
  { seq := (Px.rdN (b.drop 4) 6 : Nat), kind := (Px.rdN b 1 : Nat), key := List.replicate (Px.rdN (b.drop 1) 1) 0, val := List.replicate (Px.rdN (b.drop 2) 2) 0,
    seg := (Px.rdN (b.drop 10) 3 : Nat), off := (Px.rdN (b.drop 13) 4 : Nat) }
/-- with its key and its value -/
def full (b : List UInt8) : Rec :=
  { rdR b with key := (b.drop 21).take (Px.rdN (b.drop 1) 1), val := (b.drop (21 + Px.rdN (b.drop 1) 1)).take (Px.rdN (b.drop 2) 2) }
/-- what bytes begin with: the record, how many bytes, the error's number -/
def getQ (b : List UInt8) : Rec × Nat × Nat :=
  if b.length < 21 then (none, 0, 22)
  else if Cx.right (b.take 21) = false then (none, 0, 23)
  else if mayB (rdR b) = false then (none, 0, 23)
  else if b.length < sizeN (rdR b) then (none, 0, 22)
  else if Cx.right (b.take (sizeN (rdR b))) = false then (none, sizeN (rdR b), 23)
  else (full b, sizeN (rdR b), 0)

/-- as long, and nothing in it -/
def blank (r : Rec) : Rec := { r with key := List.replicate r.key.length 0, val := List.replicate r.val.length 0 }
theorem mayB_blank (r : Rec) : mayB (blank r) = mayB r := by
  unfold mayB kindB
  rw [show (blank r).key.length = r.key.length by simp [blank], show (blank r).val.length = r.val.length by simp [blank]]
  rfl
theorem sizeN_blank (r : Rec) : sizeN (blank r) = sizeN r := by simp [sizeN, blank]

theorem may_bounds {r : Rec} (h : mayB r = true) : 1 ≤ r.seq ∧ r.seq ≤ 1099511627776 ∧ 1 ≤ r.key.length ∧ r.key.length ≤ 64 ∧ 0 ≤ r.seg ∧ r.seg ≤ 16777215 ∧ 0 ≤ r.off ∧ r.off ≤ 16777216 ∧
    1 ≤ r.kind ∧ r.kind ≤ 2 ∧ r.val.length ≤ 1024 := by
  simp only [mayB, kindB, Lx.mayB, Lx.noneB, Lx.standsB, Bool.and_eq_true, Bool.or_eq_true, decide_eq_true_eq] at h
  omega
theorem may_size {r : Rec} (h : mayB r = true) : 26 ≤ sizeN r ∧ sizeN r ≤ 1113 := by
  have := may_bounds h
  unfold sizeN
  omega

theorem rd_head {r : Rec} (h : mayB r = true) (m : List UInt8) : rdR (headL r ++ m) = blank r := by
  obtain ⟨h1, h2, h3, h4, h5, h6, h7, h8, h9, h10, h11⟩ := may_bounds h
  have e := headL_eq r
  have hl := Px.leL_length
  have d1 : (headL r ++ m).drop 1 = Px.leL r.key.length 1 ++ (Px.leL r.val.length 2 ++ (Px.leL r.seq.toNat 6 ++ (Px.leL r.seg.toNat 3 ++ (Px.leL r.off.toNat 4 ++ m)))) := by
    rw [e]; simp only [List.append_assoc]; exact List.drop_left' (hl _ _)
  have d2 : (headL r ++ m).drop 2 = Px.leL r.val.length 2 ++ (Px.leL r.seq.toNat 6 ++ (Px.leL r.seg.toNat 3 ++ (Px.leL r.off.toNat 4 ++ m))) := by
    rw [show 2 = 1 + 1 by rfl, ← List.drop_drop, d1]; exact List.drop_left' (hl _ _)
  have d4 : (headL r ++ m).drop 4 = Px.leL r.seq.toNat 6 ++ (Px.leL r.seg.toNat 3 ++ (Px.leL r.off.toNat 4 ++ m)) := by
    rw [show 4 = 2 + 2 by rfl, ← List.drop_drop, d2]; exact List.drop_left' (hl _ _)
  have d10 : (headL r ++ m).drop 10 = Px.leL r.seg.toNat 3 ++ (Px.leL r.off.toNat 4 ++ m) := by
    rw [show 10 = 4 + 6 by rfl, ← List.drop_drop, d4]; exact List.drop_left' (hl _ _)
  have d13 : (headL r ++ m).drop 13 = Px.leL r.off.toNat 4 ++ m := by
    rw [show 13 = 10 + 3 by rfl, ← List.drop_drop, d10]; exact List.drop_left' (hl _ _)
  have d0 : headL r ++ m = Px.leL r.kind.toNat 1 ++ (Px.leL r.key.length 1 ++ (Px.leL r.val.length 2 ++ (Px.leL r.seq.toNat 6 ++ (Px.leL r.seg.toNat 3 ++ (Px.leL r.off.toNat 4 ++ m))))) := by
    rw [e]; simp only [List.append_assoc]
  have r0 : Px.rdN (headL r ++ m) 1 = r.kind.toNat := by rw [d0]; exact Px.rdN_fix _ _ _ (Nat.div_eq_of_lt (by simp; omega))
  apply Rec.ext'
  · show ((Px.rdN ((headL r ++ m).drop 4) 6 : Nat) : Int) = r.seq
    rw [d4, Px.rdN_fix _ _ _ (Nat.div_eq_of_lt (by simp; omega))]; omega
  · show ((Px.rdN (headL r ++ m) 1 : Nat) : Int) = r.kind
    rw [r0]; omega
  · show List.replicate (Px.rdN ((headL r ++ m).drop 1) 1) 0 = List.replicate r.key.length 0
    rw [d1, Px.rdN_fix _ _ _ (Nat.div_eq_of_lt (by simp; omega))]
  · show List.replicate (Px.rdN ((headL r ++ m).drop 2) 2) 0 = List.replicate r.val.length 0
    rw [d2, Px.rdN_fix _ _ _ (Nat.div_eq_of_lt (by simp; omega))]
  · show ((Px.rdN ((headL r ++ m).drop 10) 3 : Nat) : Int) = r.seg
    rw [d10, Px.rdN_fix _ _ _ (Nat.div_eq_of_lt (by simp; omega))]; omega
  · show ((Px.rdN ((headL r ++ m).drop 13) 4 : Nat) : Int) = r.off
    rw [d13, Px.rdN_fix _ _ _ (Nat.div_eq_of_lt (by simp; omega))]; omega
theorem rd_lens {r : Rec} (h : mayB r = true) (m : List UInt8) : Px.rdN ((headL r ++ m).drop 1) 1 = r.key.length ∧ Px.rdN ((headL r ++ m).drop 2) 2 = r.val.length := by
  have e := rd_head h m
  have e1 := congrArg (fun r => r.key.length) e
  have e2 := congrArg (fun r => r.val.length) e
  simp [rdR, blank] at e1 e2
  simp [e1, e2]

/-- behind the head -/
def tailL (r : Rec) : List UInt8 := Cx.leL (Cx.sum (headL r)).toNat 4 ++ (r.key ++ (r.val ++ Cx.leL (Cx.sum (Cx.cover (headL r) ++ r.key ++ r.val)).toNat 4))
theorem runL_parts (r : Rec) : runL r = headL r ++ tailL r := by simp [runL, tailL, Cx.cover]
theorem runL_cover (r : Rec) : runL r = Cx.cover (headL r) ++ (r.key ++ (r.val ++ Cx.leL (Cx.sum (Cx.cover (headL r) ++ r.key ++ r.val)).toNat 4)) := by simp [runL, Cx.cover]
theorem cover_head_length (r : Rec) : (Cx.cover (headL r)).length = 21 := by rw [Cx.cover_length, headL_length]

theorem take_head (r : Rec) (k : Nat) (m : List UInt8) (h : 21 ≤ k) : ((runL r).take k ++ m).take 21 = Cx.cover (headL r) := by
  rw [List.take_append_of_le_length (by rw [List.length_take, runL_length]; unfold sizeN; omega), List.take_take, Nat.min_eq_left h, runL_cover]
  exact List.take_left' (cover_head_length r)
theorem take_head' (r : Rec) (m : List UInt8) : (runL r ++ m).take 21 = Cx.cover (headL r) := by
  have := take_head r (runL r).length m (by rw [runL_length]; unfold sizeN; omega)
  rwa [List.take_length] at this
theorem rd_run {r : Rec} (h : mayB r = true) (m : List UInt8) : rdR (runL r ++ m) = blank r := by
  rw [runL_parts, List.append_assoc]; exact rd_head h _
theorem rd_run_take {r : Rec} (h : mayB r = true) (k : Nat) (hk : 21 ≤ k) : rdR ((runL r).take k) = blank r := by
  rw [runL_parts, List.take_append, List.take_of_length_le (by rw [headL_length]; omega)]
  exact rd_head h _
theorem full_run {r : Rec} (h : mayB r = true) (m : List UInt8) : full (runL r ++ m) = r := by
  obtain ⟨l1, l2⟩ := rd_lens h (tailL r ++ m)
  have e : runL r ++ m = headL r ++ (tailL r ++ m) := by rw [runL_parts, List.append_assoc]
  have hd : (runL r ++ m).drop 21 = r.key ++ (r.val ++ (Cx.leL (Cx.sum (Cx.cover (headL r) ++ r.key ++ r.val)).toNat 4 ++ m)) := by
    rw [runL_cover]; simp only [List.append_assoc]; exact List.drop_left' (cover_head_length r)
  have hrd := rd_run h m
  rw [← e] at l1 l2
  unfold full
  rw [l1, l2, hrd, ← List.drop_drop, hd, List.drop_left' rfl, List.take_left' rfl, List.take_left' rfl]
  rfl
/-- a run, whatever stands behind -/
theorem get_run {r : Rec} (h : mayB r = true) (m : List UInt8) : getQ (runL r ++ m) = (r, sizeN r, 0) := by
  have hs := may_size h
  have hl : (runL r ++ m).length = sizeN r + m.length := by rw [List.length_append, runL_length]
  unfold getQ
  rw [rd_run h, mayB_blank, h, sizeN_blank, take_head' r m, Cx.right_cover, full_run h, hl, List.take_left' (runL_length r), if_neg (by omega), if_neg (by simp), if_neg (by simp), if_neg (by omega)]
  rw [show Cx.right (runL r) = true from Cx.right_cover _, if_neg (by simp)]
/-- a beginning of it -/
theorem get_torn {r : Rec} (h : mayB r = true) (k : Nat) (hk : k < sizeN r) : getQ ((runL r).take k) = (none, 0, 22) := by
  have hs := may_size h
  have hl : ((runL r).take k).length = k := by rw [List.length_take, runL_length]; omega
  unfold getQ
  rw [hl]
  by_cases h21 : k < 21
  · rw [if_pos h21]
  · have ht := take_head r k [] (by omega)
    rw [List.append_nil] at ht
    rw [if_neg h21, ht, Cx.right_cover, if_neg (by simp), rd_run_take h k (by omega), mayB_blank, h, if_neg (by simp), sizeN_blank, if_pos hk]

/-- the run is turned, bit by bit, beginning at 'first': the whole, and its head -/
def Turns (R : List UInt8) (b : BitVec 32) (first k : Nat) (l : List UInt8) : Prop :=
  Cx.turned R b first k l ∧ (first < 168 → ∃ k', k' ≤ k ∧ (0 < k → 0 < k') ∧ (first + k ≤ 168 → k' = k) ∧ Cx.turned (R.take 21) b first k' (l.take 21)) ∧ (168 ≤ first → l.take 21 = R.take 21)
theorem Turns.zero (R : List UInt8) (b : BitVec 32) (first : Nat) : Turns R b first 0 R :=
  ⟨Cx.turned_zero R b first, fun _ => ⟨0, by omega, by omega, by omega, Cx.turned_zero _ b first⟩, fun _ => rfl⟩
theorem Turns.same {R l : List UInt8} {b : BitVec 32} {first k : Nat} (h : Turns R b first k l) (hk : k < 32) (hb : b.getLsbD k = false) : Turns R b first (k + 1) l := by
  refine ⟨Cx.turned_same h.1 hk hb, fun hf => ?_, h.2.2⟩
  obtain ⟨k', h1, h2, h3, h4⟩ := h.2.1 hf
  by_cases hc : first + k < 168
  · have e := h3 (by omega)
    subst e
    exact ⟨k' + 1, by omega, by omega, by omega, Cx.turned_same h4 hk hb⟩
  · exact ⟨k', by omega, fun _ => h2 (by omega), by omega, h4⟩
theorem Turns.bit {R l : List UInt8} {b : BitVec 32} {first k p q : Nat} {c : UInt8} (h : Turns R b first k l) (hk : k < 32) (hb : b.getLsbD k = true) (hp : l[p]? = some c) (hq : q < 8) (hf : first + k = 8 * p + q) :
    Turns R b first (k + 1) (l.set p (c ^^^ UInt8.ofNat (2 ^ q))) := by
  have hset : (l.set p (c ^^^ UInt8.ofNat (2 ^ q))).take 21 = if p < 21 then (l.take 21).set p (c ^^^ UInt8.ofNat (2 ^ q)) else l.take 21 := by
    split
    · rw [List.take_set]
    · rw [List.take_set, List.set_eq_of_length_le (by rw [List.length_take]; omega)]
  refine ⟨Cx.turned_bit h.1 hk hb hp hq hf, fun hf1 => ?_, fun hf1 => ?_⟩
  · obtain ⟨k', h1, h2, h3, h4⟩ := h.2.1 hf1
    by_cases hc : first + k < 168
    · have e := h3 (by omega)
      subst e
      rw [hset, if_pos (by omega)]
      exact ⟨k' + 1, by omega, by omega, by omega, Cx.turned_bit h4 hk hb (by rw [List.getElem?_take, if_pos (by omega)]; exact hp) hq hf⟩
    · rw [hset, if_neg (by omega)]
      exact ⟨k', by omega, fun _ => h2 (by omega), by omega, h4⟩
  · rw [hset, if_neg (by omega)]
    exact h.2.2 hf1
/-- of a run of which bits are turned nothing is told but that it is bad -/
theorem get_turned {r : Rec} {b : BitVec 32} {first k : Nat} {l : List UInt8} (h : mayB r = true) (ht : Turns (runL r) b first k l) (hk : k ≤ 32) (h0 : 0 < k) (hb : b.getLsbD 0 = true) (m : List UInt8) :
    getQ (l ++ m) = (none, if first < 168 then 0 else sizeN r, 23) := by
  have hs := may_size h
  have hll : l.length = sizeN r := by rw [ht.1.1, runL_length]
  have hl : (l ++ m).length = sizeN r + m.length := by rw [List.length_append, hll]
  have hh : (runL r).take 21 = Cx.cover (headL r) := by
    have := take_head' r []
    rwa [List.append_nil] at this
  have ht21 : (l ++ m).take 21 = l.take 21 := List.take_append_of_le_length (by omega)
  unfold getQ
  rw [hl, if_neg (by omega), ht21]
  by_cases hf : first < 168
  · obtain ⟨k', h1, h2, _, h4⟩ := ht.2.1 hf
    rw [hh] at h4
    have := Cx.turned_wrong h4 (by rw [cover_head_length]; omega) (Cx.right_cover _) (by omega) (h2 h0) hb
    rw [if_pos this, if_pos hf]
  · have e := ht.2.2 (by omega)
    rw [hh] at e
    have hw := Cx.turned_wrong ht.1 (by rw [runL_length]; omega) (Cx.right_cover _) hk h0 hb
    have hr : rdR (l ++ m) = blank r := by
      have e2 : l ++ m = headL r ++ (Cx.leL (Cx.sum (headL r)).toNat 4 ++ (l.drop 21 ++ m)) := by
        rw [← List.append_assoc, ← List.append_assoc]
        have : headL r ++ Cx.leL (Cx.sum (headL r)).toNat 4 = l.take 21 := e.symm
        rw [this, List.take_append_drop]
      rw [e2]
      exact rd_head h _
    rw [e, Cx.right_cover, if_neg (by simp), hr, mayB_blank, h, if_neg (by simp), sizeN_blank, if_neg (by omega), List.take_left' hll, if_pos hw, if_neg hf]
end Go.Proofs.YtkpkfgcbccaibaaDoor.Rc

/- LxPure -/

/-
  Layer 3: the contracts of the functions over locs alone.
-/
set_option linter.unusedVariables false
set_option linter.unusedSimpArgs false
namespace Go.Proofs.YtkpkfgcbccaibaaDoor
open Go.RowKit

/-- '==' of locs -/
theorem run_eql_loc (s o s' o' : Int) (w : World) : (binOp .eql 48 (.agg #[.int .u32 s, .int .u32 o]) (.agg #[.int .u32 s', .int .u32 o'])).run Tryd.prog w = .ok (.bool (decide (s = s' ∧ o = o'))) w := by
  have u := Tryd.underlying22
  have a := Tryd.isAgg22
  have z := Tryd.sizeOf22
  have hS : Tryd.prog.underlying 48 = some (.struct (Tryd.prog.fieldsOf 48)) := by kernel_rfl
  have hp : Tryd.prog.stoodInHeld 48 = false := by kernel_rfl
  rw [run_eql_struct, show (10000 : Nat) = 9999 + 1 from rfl, run_equalIn_agg w 9999 48 _ _ hS hp]
  simp only [Program.fieldsOf, Tryd.underlying48]
  go_simp
  by_cases h1 : s = s' <;> by_cases h2 : o = o' <;> simp [h1, h2]

theorem guard_loc : Tryd.prog.eqGuardType Tryd.prog.depth 48 = false := by kernel_rfl

theorem ret_bool {a b : Bool} (h : a = b) : Ending.returned (.bool a) = .returned (.bool b) := by rw [h]
/-- what a box of two cells holds, a call later -/
theorem box2 {w w1 : World} {x y : Value} {t : TypeId} (hb : Below (w.heap.size + 1) (w.alloc (.cells #[x, y] t)) w1) : w1.cell? ⟨w.heap.size, 0, none⟩ = some x ∧ w1.cell? ⟨w.heap.size, 1, none⟩ = some y := by
  refine ⟨(hb.cell (p := ⟨w.heap.size, 0, none⟩) (by simp)).trans (by simp), (hb.cell (p := ⟨w.heap.size, 1, none⟩) (by simp)).trans (by simp)⟩

theorem none_any (s o : Int) (w : World) :
    Calls Tryd.prog 67 #[lv s o] w fun e w' => e = .returned (.bool (Lx.noneB s o)) ∧ Below w.heap.size w w' := by
  unfold lv
  have he := run_eql_loc
  have hg := guard_loc
  go_enter Tryd.func67, Tryd.ntmps67
  go_wp2
  go_ret
  exact ⟨ret_bool (by unfold Lx.noneB; simp), (Below.refl _ _).alloc (Nat.le_refl _) _⟩

set_option maxRecDepth 100000 in
theorem stands_any (s o : Int) (w : World) (h0 : 0 ≤ s) (h1 : s < 4294967296) (h2 : 0 ≤ o) (h3 : o < 4294967296) :
    Calls Tryd.prog 68 #[lv s o] w fun e w' => e = .returned (.bool (Lx.standsB s o)) ∧ Below w.heap.size w w' := by
  unfold lv
  go_enter Tryd.func68, Tryd.ntmps68
  go_wp2
  all_goals go_ret
  all_goals refine ⟨ret_bool ?_, (Below.refl _ _).alloc (Nat.le_refl _) _⟩
  all_goals (unfold Lx.standsB; rw [Bool.eq_iff_iff]; simp; omega)

theorem bstep {a w w' : World} (h : Below a.heap.size a w) (h' : Below w.heap.size w w') : Below a.heap.size a w' := h.trans (h'.mono h.size)
theorem balloc {a w : World} (h : Below a.heap.size a w) (o : Obj) : Below a.heap.size a (w.alloc o) := h.alloc h.size o
theorem bnew (w : World) (o : Obj) : Below w.heap.size w (w.alloc o) := (Below.refl _ _).alloc (Nat.le_refl _) _

theorem none_b (s o : Int) (w : World) (b : Bool) (h : Lx.noneB s o = b) :
    Calls Tryd.prog 67 #[lv s o] w fun e w' => e = .returned (.bool b) ∧ Below w.heap.size w w' := h ▸ none_any s o w
theorem may_any (s o : Int) (w : World) (h0 : 0 ≤ s) (h1 : s < 4294967296) (h2 : 0 ≤ o) (h3 : o < 4294967296) :
    Calls Tryd.prog 60 #[lv s o] w fun e w' => e = .returned (.bool (Lx.mayB s o)) ∧ Below w.heap.size w w' := by
  cases hn : Lx.noneB s o
  · have hm : Lx.mayB s o = Lx.standsB s o := by simp [Lx.mayB, hn]
    rw [hm]
    have Hn := Lib.hid hn
    clear hn hm
    unfold lv
    go_enter Tryd.func60, Tryd.ntmps60
    go_wp2_with fail
    have b0 := bnew w (.cells #[.int .u32 s, .int .u32 o] 48)
    refine (none_b s o _ false Hn.out).mono ?_
    rintro e w1 ⟨rfl, hb⟩
    have b1 := bstep b0 hb
    simp only [World.size_alloc] at hb
    obtain ⟨c0, c1⟩ := box2 hb
    clear hb b0
    go_wp2_with fail
    refine (stands_any s o _ h0 h1 h2 h3).mono ?_
    rintro e w2 ⟨rfl, hb2⟩
    go_wp2_with fail
    go_ret
    exact ⟨rfl, bstep b1 hb2⟩
  · have hm : Lx.mayB s o = true := by simp [Lx.mayB, hn]
    rw [hm]
    have Hn := Lib.hid hn
    clear hn hm
    unfold lv
    go_enter Tryd.func60, Tryd.ntmps60
    go_wp2_with fail
    have b0 := bnew w (.cells #[.int .u32 s, .int .u32 o] 48)
    refine (none_b s o _ true Hn.out).mono ?_
    rintro e w1 ⟨rfl, hb⟩
    have b1 := bstep b0 hb
    clear hb b0
    go_wp2_with fail
    go_ret
    exact ⟨rfl, b1⟩
theorem may_b (s o : Int) (w : World) (h0 : 0 ≤ s) (h1 : s < 4294967296) (h2 : 0 ≤ o) (h3 : o < 4294967296) (b : Bool) (h : Lx.mayB s o = b) :
    Calls Tryd.prog 60 #[lv s o] w fun e w' => e = .returned (.bool b) ∧ Below w.heap.size w w' := h ▸ may_any s o w h0 h1 h2 h3

end Go.Proofs.YtkpkfgcbccaibaaDoor

/- KyMem -/

/-
  Layer 4: the walks of May, MayValue, MayName, word.
-/
set_option linter.unusedVariables false
set_option linter.unusedSimpArgs false
namespace Go.Proofs.YtkpkfgcbccaibaaDoor
open Go.RowKit

theorem may_yes (A : Option Addr) (n c : Nat) (w : World) (h0 : 0 < n) (h1 : n ≤ 64) :
    Calls Tryd.prog 59 #[.slice A n c] w fun e w' => e = .returned (.bool true) ∧ w = w' := by
  have d0 : (1 : Int) ≤ n := by omega
  have d1 : (n : Int) ≤ 64 := by omega
  go_enter Tryd.func59, Tryd.ntmps59
  go_wp2
  go_ret
  exact ⟨rfl, rfl⟩
theorem may_no (A : Option Addr) (n c : Nat) (w : World) (h : n = 0 ∨ 64 < n) (hb : n ≤ 9223372036854775807) :
    Calls Tryd.prog 59 #[.slice A n c] w fun e w' => e = .returned (.bool false) ∧ w = w' := by
  rcases h with rfl | h
  · go_enter Tryd.func59, Tryd.ntmps59
    go_wp2
    go_ret
    exact ⟨rfl, rfl⟩
  · have d0 : (1 : Int) ≤ n := by omega
    have d1 : decide ((n : Int) ≤ 64) = false := by simp; omega
    go_enter Tryd.func59, Tryd.ntmps59
    go_wp2
    go_ret
    exact ⟨rfl, rfl⟩
/-- 's[:k]' of bytes -/
theorem kcut_h (A : Option Addr) (n c k : Nat) (hk : k ≤ n) (hn : n ≤ c) : ∃ A' c', (∀ w, (Instr.sliceAt 23 (.slice A n c) none (some (.int .i64 (k : Int))) none).run Tryd.prog w = .ok (.slice A' k c') w) ∧
    k ≤ c' ∧ ∀ w B l, l.length = n → Rd w B A (bvs l) → Rd w B A' (bvs (l.take k)) := by
  refine ⟨if c = 0 then A else A.map (·.add 0), c, fun w => ?_, by omega, fun w B l hl hr => ?_⟩
  · rw [run_sliceAt_slice _ 23 _ _ _ _ elBytes, run_slice_h _ 23 A n c elBytes .i64 k (by omega) (by omega)]
    have : (sizeOf (Tryd.prog.elem 23)).run Tryd.prog w = .ok 1 w := by kernel_rfl
    rw [this]
    simp [Result.andThen, sliced]
  · rw [bvs_take]
    have := (hr.cut (k := 0) (cap := c) (by rw [bvs_length]; omega)).take k
    simpa using this
/-- a row as a value that can be handed in -/
theorem may_yes_b (v : Value) (l : List UInt8) (B : Nat) (w : World) (h : Bs w B v l) (h0 : 0 < l.length) (h1 : l.length ≤ 64) :
    Calls Tryd.prog 59 #[v] w fun e w' => e = .returned (.bool true) ∧ w = w' := by
  obtain ⟨A, c, rfl, hc, hr⟩ := h
  exact may_yes _ _ _ _ h0 h1
theorem may_no_b (v : Value) (l : List UInt8) (B : Nat) (w : World) (h : Bs w B v l) (h0 : l.length = 0 ∨ 64 < l.length) (h1 : l.length ≤ 9223372036854775807) :
    Calls Tryd.prog 59 #[v] w fun e w' => e = .returned (.bool false) ∧ w = w' := by
  obtain ⟨A, c, rfl, hc, hr⟩ := h
  exact may_no _ _ _ _ h0 h1
theorem mayValue_any (A : Option Addr) (n c : Nat) (w : World) (b : Bool) (hd : decide ((n : Int) ≤ 1024) = b) (hb : n ≤ 9223372036854775807) :
    Calls Tryd.prog 58 #[.slice A n c] w fun e w' => e = .returned (.bool b) ∧ w = w' := by
  have Hd := Lib.hid hd
  clear hd
  go_enter Tryd.func58, Tryd.ntmps58
  go_wp2
  go_ret
  exact ⟨by rw [← Hd.out]; rfl, rfl⟩
end Go.Proofs.YtkpkfgcbccaibaaDoor

/- RcMem -/

/-
  Layer 8: records as values; the walks of May, Size, Same.
-/
set_option linter.unusedVariables false
set_option linter.unusedSimpArgs false
namespace Go.Proofs.YtkpkfgcbccaibaaDoor
open Go.RowKit

/-- a record as a value -/
def recV (seq kind : Int) (kv vv : Value) (seg off : Int) : Value := .agg #[.int .u64 seq, .int .i64 kind, kv, vv, .int .u32 seg, .int .u32 off]
/-- numbers that their types have -/
structure Rc.Fit (r : Rc.Rec) : Prop where
  seq0 : 0 ≤ r.seq
  seq1 : r.seq < 18446744073709551616
  kind0 : -9223372036854775808 ≤ r.kind
  kind1 : r.kind < 9223372036854775808
  seg0 : 0 ≤ r.seg
  seg1 : r.seg < 4294967296
  off0 : 0 ≤ r.off
  off1 : r.off < 4294967296
  key1 : r.key.length ≤ 9223372036854775807
  val1 : r.val.length ≤ 9223372036854775807
theorem Rc.fit_may {r : Rc.Rec} (h : Rc.mayB r = true) : Rc.Fit r := by
  have := Rc.may_bounds h
  constructor <;> omega
/-- the value v is the record r -/
def RecV (w : World) (B : Nat) (v : Value) (r : Rc.Rec) : Prop := ∃ kv vv, v = recV r.seq r.kind kv vv r.seg r.off ∧ Bs w B kv r.key ∧ Bs w B vv r.val
section
variable {w w' : World} {B B' : Nat} {v : Value} {r : Rc.Rec}
theorem RecV.mono (h : RecV w B v r) (hB : B ≤ B') : RecV w B' v r := by
  obtain ⟨kv, vv, e, h1, h2⟩ := h
  exact ⟨kv, vv, e, h1.mono hB, h2.mono hB⟩
theorem RecV.below {C : Nat} (h : RecV w B v r) (hb : Below C w w') (hC : B ≤ C) : RecV w' B v r := by
  obtain ⟨kv, vv, e, h1, h2⟩ := h
  exact ⟨kv, vv, e, h1.below hb hC, h2.below hb hC⟩
theorem RecV.on (h : RecV w w.heap.size v r) (hb : Below w.heap.size w w') : RecV w' w'.heap.size v r := (h.below hb (Nat.le_refl _)).mono hb.size
theorem RecV.none_ : RecV w B (recV 0 0 (.slice Option.none 0 0) (.slice Option.none 0 0) 0 0) Rc.none := ⟨_, _, rfl, Bs.none_, Bs.none_⟩
end

/-- what a box of a record holds, a call later -/
theorem box6 {w w1 : World} {C : Nat} {x0 x1 x2 x3 x4 x5 : Value} {t : TypeId} (hb : Below C (w.alloc (.cells #[x0, x1, x2, x3, x4, x5] t)) w1) (hC : w.heap.size < C) :
    w1.cell? ⟨w.heap.size, 0, none⟩ = some x0 ∧ w1.cell? ⟨w.heap.size, 1, none⟩ = some x1 ∧ w1.cell? ⟨w.heap.size, 2, none⟩ = some x2 ∧ w1.cell? ⟨w.heap.size, 3, none⟩ = some x3 ∧ w1.cell? ⟨w.heap.size, 4, none⟩ = some x4 ∧ w1.cell? ⟨w.heap.size, 5, none⟩ = some x5 := by
  refine ⟨?_, ?_, ?_, ?_, ?_, ?_⟩
  all_goals exact (hb.cell (p := ⟨w.heap.size, _, none⟩) hC).trans (by simp)
theorem box6f {w w1 : World} {C : Nat} {x0 x1 x2 x3 x4 x5 : Value} {t : TypeId} (hb : Below C (w.alloc (.cells #[x0, x1, x2, x3, x4, x5] t)) w1) (hC : w.heap.size < C) :
    w1.frozen? ⟨w.heap.size, 0, none⟩ = false ∧ w1.frozen? ⟨w.heap.size, 1, none⟩ = false ∧ w1.frozen? ⟨w.heap.size, 2, none⟩ = false ∧ w1.frozen? ⟨w.heap.size, 3, none⟩ = false ∧ w1.frozen? ⟨w.heap.size, 4, none⟩ = false ∧ w1.frozen? ⟨w.heap.size, 5, none⟩ = false := by
  refine ⟨?_, ?_, ?_, ?_, ?_, ?_⟩
  all_goals exact (hb.frozen (p := ⟨w.heap.size, _, none⟩) hC).trans (by simp)

/-- the closure -/
theorem wrong_any (r : Rc.Rec) (w : World) (b B : Nat) (vv : Value) (c1 : w.cell? ⟨b, 1, none⟩ = some (.int .i64 r.kind)) (c3 : w.cell? ⟨b, 3, none⟩ = some vv) (hv : Bs w B vv r.val) (hl : r.val.length ≤ 9223372036854775807) :
    Calls Tryd.prog 57 #[.pointer (some ⟨b, 0, none⟩)] w fun e w' => e = .returned (.bool (!Rc.kindB r)) ∧ w = w' := by
  obtain ⟨A, c, rfl, _, _⟩ := hv
  generalize hn : r.val.length = n at *
  by_cases k1 : r.kind = 1
  · rw [k1] at c1
    obtain ⟨q, hq⟩ : ∃ q, decide ((n : Int) ≤ 1024) = q := ⟨_, rfl⟩
    have hr : Rc.kindB r = q := by unfold Rc.kindB; rw [← hq, k1, hn, Bool.eq_iff_iff]; simp; omega
    rw [hr]
    have hc := mayValue_any A n c w q hq (by omega)
    clear hr hq
    go_enter Tryd.func57, Tryd.ntmps57
    go_wp2_with fail
    refine hc.mono ?_
    rintro e w1 ⟨rfl, rfl⟩
    go_wp2_with fail
    go_ret
    exact ⟨rfl, rfl⟩
  · by_cases k2 : r.kind = 2
    · rw [k2] at c1
      have hr : (!Rc.kindB r) = ((n : Int) != 0) := by unfold Rc.kindB; rw [k2, hn, Bool.eq_iff_iff]; simp
      rw [hr]
      clear hr
      go_enter Tryd.func57, Tryd.ntmps57
      go_wp2_with fail
      go_ret
      exact ⟨rfl, rfl⟩
    · have hr : (!Rc.kindB r) = true := by unfold Rc.kindB; simp [k1, k2]
      rw [hr]
      have e1 : (r.kind == 1) = false := by simp [k1]
      have e2 : (r.kind == 2) = false := by simp [k2]
      clear hr
      go_enter Tryd.func57, Tryd.ntmps57
      go_wp2_with fail
      go_ret
      exact ⟨rfl, rfl⟩

theorem may_false {r : Rc.Rec} (h : decide (1 ≤ r.seq) = false ∨ decide (r.seq ≤ 1099511627776) = false ∨ (r.key.length = 0 ∨ 64 < r.key.length) ∨ Lx.mayB r.seg r.off = false ∨ Rc.kindB r = false) : Rc.mayB r = false := by
  rcases h with h | h | h | h | h
  · simp [Rc.mayB] at h ⊢; omega
  · simp [Rc.mayB] at h ⊢; omega
  · unfold Rc.mayB
    have : decide (1 ≤ r.key.length ∧ r.key.length ≤ 64) = false := by simp; omega
    rw [this]; simp
  · unfold Rc.mayB; rw [h]; simp
  · unfold Rc.mayB; rw [h]; simp
theorem rmay_v (r : Rc.Rec) (w : World) (kv vv : Value) (hk : Bs w w.heap.size kv r.key) (hv : Bs w w.heap.size vv r.val) (f : Rc.Fit r) :
    Calls Tryd.prog 47 #[recV r.seq r.kind kv vv r.seg r.off] w fun e w' => e = .returned (.bool (Rc.mayB r)) ∧ Below w.heap.size w w' := by
  have b0 := bnew w (.cells #[.int .u64 r.seq, .int .i64 r.kind, kv, vv, .int .u32 r.seg, .int .u32 r.off] 50)
  have f0 := f.seq0
  have f1 := f.seq1
  by_cases s1 : 1 ≤ r.seq
  · by_cases s2 : r.seq ≤ 1099511627776
    · by_cases s3 : 1 ≤ r.key.length ∧ r.key.length ≤ 64
      · cases s4 : Lx.mayB r.seg r.off
        · rw [may_false (.inr (.inr (.inr (.inl s4))))]
          have S4 := Lib.hid s4
          clear s4
          unfold recV
          go_enter Tryd.func47, Tryd.ntmps47
          go_wp2_with fail
          refine (may_yes_b _ _ _ _ (hk.alloc (Nat.le_refl _) _) s3.1 s3.2).mono ?_
          rintro e w1 ⟨rfl, rfl⟩
          go_wp2_with fail
          refine (may_b _ _ _ f.seg0 f.seg1 f.off0 f.off1 _ S4.out).mono ?_
          rintro e w1 ⟨rfl, b1⟩
          go_wp2_with fail
          go_ret
          exact ⟨rfl, bstep b0 b1⟩
        · have hm : Rc.mayB r = Rc.kindB r := by
            unfold Rc.mayB
            rw [s4, show decide (1 ≤ r.seq ∧ r.seq ≤ 1099511627776) = true by simp; omega, show decide (1 ≤ r.key.length ∧ r.key.length ≤ 64) = true by simp; omega]
            simp
          rw [hm]
          have S4 := Lib.hid s4
          clear s4 hm
          unfold recV
          go_enter Tryd.func47, Tryd.ntmps47
          go_wp2_with fail
          refine (may_yes_b _ _ _ _ (hk.alloc (Nat.le_refl _) _) s3.1 s3.2).mono ?_
          rintro e w1 ⟨rfl, rfl⟩
          go_wp2_with fail
          refine (may_b _ _ _ f.seg0 f.seg1 f.off0 f.off1 _ S4.out).mono ?_
          rintro e w1 ⟨rfl, b1⟩
          go_wp2_with fail
          obtain ⟨c0, c1, c2, c3, c4, c5⟩ := box6 b1 (by simp)
          refine (wrong_any r _ _ _ vv c1 c3 ((hv.below b0 (Nat.le_refl _)).below b1 (by simp)) f.val1).mono ?_
          rintro e w2 ⟨rfl, rfl⟩
          go_wp2_with fail
          go_ret
          exact ⟨ret_bool (by simp), bstep b0 b1⟩
      · rw [may_false (.inr (.inr (.inl (by omega))))]
        have s4 : r.key.length = 0 ∨ 64 < r.key.length := by omega
        unfold recV
        go_enter Tryd.func47, Tryd.ntmps47
        go_wp2_with fail
        refine (may_no_b _ _ _ _ (hk.alloc (Nat.le_refl _) _) s4 (by have := f.key1; omega)).mono ?_
        rintro e w1 ⟨rfl, rfl⟩
        go_wp2_with fail
        go_ret
        exact ⟨rfl, b0⟩
    · have d2 : decide (r.seq ≤ 1099511627776) = false := by simp; omega
      rw [may_false (.inr (.inl d2))]
      unfold recV
      go_enter Tryd.func47, Tryd.ntmps47
      go_wp2_with fail
      go_ret
      exact ⟨rfl, b0⟩
  · have d1 : decide (1 ≤ r.seq) = false := by simp; omega
    rw [may_false (.inl d1)]
    unfold recV
    go_enter Tryd.func47, Tryd.ntmps47
    go_wp2_with fail
    go_ret
    exact ⟨rfl, b0⟩
theorem rmay_b (v : Value) (r : Rc.Rec) (B : Nat) (w : World) (h : RecV w B v r) (hB : B ≤ w.heap.size) (f : Rc.Fit r) :
    Calls Tryd.prog 47 #[v] w fun e w' => e = .returned (.bool (Rc.mayB r)) ∧ Below w.heap.size w w' := by
  obtain ⟨kv, vv, rfl, h1, h2⟩ := h.mono hB
  exact rmay_v r w kv vv h1 h2 f

/-- Size -/
theorem rsize_b (v : Value) (r : Rc.Rec) (B : Nat) (w : World) (h : RecV w B v r) (f1 : r.key.length ≤ 100000) (f2 : r.val.length ≤ 100000) :
    Calls Tryd.prog 48 #[v] w fun e w' => e = .returned (.int .i64 (Rc.sizeN r : Nat)) ∧ Below w.heap.size w w' := by
  obtain ⟨kv, vv, rfl, ⟨A, c, rfl, _, _⟩, ⟨A', c', rfl, _, _⟩⟩ := h
  have b0 := bnew w (.cells #[.int .u64 r.seq, .int .i64 r.kind, .slice A r.key.length c, .slice A' r.val.length c', .int .u32 r.seg, .int .u32 r.off] 50)
  unfold recV Rc.sizeN
  go_enter Tryd.func48, Tryd.ntmps48
  go_wp2_with fail
  go_ret
  exact ⟨ret_int (by omega), b0⟩
end Go.Proofs.YtkpkfgcbccaibaaDoor

/- RcHead -/

/-
  Layer 8: the walk of head.
-/
set_option linter.unusedVariables false
set_option linter.unusedSimpArgs false
namespace Go.Proofs.YtkpkfgcbccaibaaDoor
open Go.RowKit

/-- the table, read as a whole -/
theorem width_at (i : Nat) (z n : Int) (hz : z = i) (h : [(1 : Int), 1, 2, 6, 3, 4][i]? = some n) (w : World) : (Instr.index 118 (.agg #[.int .i64 1, .int .i64 1, .int .i64 2, .int .i64 6, .int .i64 3, .int .i64 4]) (.int .i64 z)).run Tryd.prog w = .ok (.int .i64 n) w := by
  subst hz
  rcases i with _ | _ | _ | _ | _ | _ | i
  · cases h; kernel_rfl
  · cases h; kernel_rfl
  · cases h; kernel_rfl
  · cases h; kernel_rfl
  · cases h; kernel_rfl
  · cases h; kernel_rfl
  · simp at h
/-- the table of the fields' widths -/
def WTab (w : World) : Prop := w.cell? ⟨0, 0, none⟩ = some (.int .i64 1) ∧ w.cell? ⟨0, 1, none⟩ = some (.int .i64 1) ∧ w.cell? ⟨0, 2, none⟩ = some (.int .i64 2) ∧
  w.cell? ⟨0, 3, none⟩ = some (.int .i64 6) ∧ w.cell? ⟨0, 4, none⟩ = some (.int .i64 3) ∧ w.cell? ⟨0, 5, none⟩ = some (.int .i64 4)
theorem WTab.lt {w : World} (h : WTab w) : 0 < w.heap.size := block_lt_of_cell h.1
theorem WTab.on {w w' : World} (h : WTab w) (hb : Below w.heap.size w w') : WTab w' := by
  have hl := h.lt
  obtain ⟨h0, h1, h2, h3, h4, h5⟩ := h
  exact ⟨(hb.cell (p := ⟨_, 0, none⟩) hl).trans h0, (hb.cell (p := ⟨_, 1, none⟩) hl).trans h1, (hb.cell (p := ⟨_, 2, none⟩) hl).trans h2, (hb.cell (p := ⟨_, 3, none⟩) hl).trans h3, (hb.cell (p := ⟨_, 4, none⟩) hl).trans h4, (hb.cell (p := ⟨_, 5, none⟩) hl).trans h5⟩

end Go.Proofs.YtkpkfgcbccaibaaDoor

/- CxPure -/

/-
  Layer 2: the walks of the functions that only compute with numbers.
-/
set_option linter.unusedVariables false
set_option linter.unusedSimpArgs false
namespace Go.Proofs.YtkpkfgcbccaibaaDoor.Crc
open Go.RowKit

theorem ret_int {k : IntKind} {a b : Int} (h : a = b) : Ending.returned (.int k a) = .returned (.int k b) := by rw [h]

/-- numbers of 32 bits, as the walk spells what is done with them -/
theorem b_xor (x y : BitVec 32) : bits .xor .u32 (x.toNat : Int) (y.toNat : Int) = ((x ^^^ y).toNat : Int) := by
  rw [u32_xor_nat _ _ x.isLt y.isLt, BitVec.toNat_xor]
theorem b_shr4 (x : BitVec 32) : (x.toNat : Int) / (16 : Int) = ((x >>> 4).toNat : Int) := by
  rw [BitVec.toNat_ushiftRight, Nat.shiftRight_eq_div_pow]; simp
end Go.Proofs.YtkpkfgcbccaibaaDoor.Crc

/- CxMem -/

/-
  Layer 2: the walks of the functions that read and make rows: More, Sum, squares, product, Power, Join.
-/
set_option linter.unusedVariables false
set_option linter.unusedSimpArgs false
namespace Go.Proofs.YtkpkfgcbccaibaaDoor.Crc
open Go.RowKit

theorem byte_info : (Tryd.prog.info? 5).map (fun i => (i.zero, i.size, i.bytes)) = some (some (.int .u8 0), 1, 1) := by kernel_rfl
/-- the table of a half byte's steps lies where it was laid -/
def Tab (w : World) : Prop := ∀ i, i < 16 → w.cell? ⟨1, i, none⟩ = some (.int .u32 ((Cx.tab i).toNat : Int))
theorem Tab.below {w w' : World} {B : Nat} (h : Tab w) (hb : Below B w w') (hB : 1 < B) : Tab w' := fun i hi =>
  (hb.cell (p := ⟨1, i, none⟩) hB).trans (h i hi)
theorem Tab.lt {w : World} (h : Tab w) : 1 < w.heap.size := block_lt_of_cell (h 0 (by omega))
theorem Tab.on {w w' : World} (h : Tab w) (hb : Below w.heap.size w w') : Tab w' := h.below hb h.lt

theorem b_and15 (x : BitVec 32) : bits .and .u32 (x.toNat : Int) 15 = ((x.toNat % 16 : Nat) : Int) := by
  rw [show (15 : Int) = ((15 : Nat) : Int) by rfl, u32_and_nat _ _ x.isLt (by omega), nat_mask4]
theorem b_by8 (c : UInt8) : (c.toNat : Int) = ((Cx.by8 c).toNat : Int) := by
  have := c.toNat_lt
  unfold Cx.by8
  rw [BitVec.toNat_ofNat, Nat.mod_eq_of_lt (by omega)]

/-- a half byte's step, as the walk meets it -/
theorem half_step (w : World) (ht : Tab w) (x : BitVec 32) : ∃ (k : Nat) (y t z : BitVec 32), k < 16 ∧ bits .and .u32 (x.toNat : Int) 15 = (k : Int) ∧ (x.toNat : Int) / 16 = (y.toNat : Int) ∧
    w.cell? ⟨1, k, none⟩ = some (.int .u32 (t.toNat : Int)) ∧ bits .xor .u32 (y.toNat : Int) (t.toNat : Int) = (z.toNat : Int) ∧ z = Cx.tp 4 x :=
  ⟨x.toNat % 16, x >>> 4, Cx.tab (x.toNat % 16), _, Nat.mod_lt _ (by omega), b_and15 x, b_shr4 x, ht _ (Nat.mod_lt _ (by omega)), b_xor _ _, (Cx.tp4 x).symm⟩
theorem b_not' (x : BitVec 32) : bits .xor .u32 IntKind.u32.max (x.toNat : Int) = ((~~~ x).toNat : Int) := by
  rw [show IntKind.u32.max = (Cx.ones.toNat : Int) by rfl, b_xor, Cx.not_xor, BitVec.xor_comm]
theorem not_letter (x : BitVec 32) : ∃ y : BitVec 32, bits .xor .u32 IntKind.u32.max (x.toNat : Int) = (y.toNat : Int) ∧ y = ~~~ x := ⟨_, b_not' x, rfl⟩

theorem more_any (A : Option Addr) (l : List UInt8) (c B : Nat) (s : BitVec 32) (w : World) (h : Rd w B A (bvs l)) (ht : Tab w) (hm : l.length ≤ 9223372036854775807) :
    Calls Tryd.prog 66 #[.int .u32 s.toNat, .slice A l.length c] w fun e w' => e = .returned (.int .u32 (Cx.more s l).toNat) ∧ w = w' := by
  have Hh := Lib.hid h
  have Ht := Lib.hid ht
  clear h ht
  have h0 := s.isLt
  obtain ⟨ns, hns, hns'⟩ := not_letter s
  have Hns := Lib.hid hns'
  clear hns'
  have hsg : IntKind.u32.signed = false := rfl
  go_enter Tryd.func66, Tryd.ntmps66
  go_wp2_with fail
  clear hns
  go_loopg [5, 12] l.length (fun k r i wr => w = wr ∧ ∃ (j : Nat), j + k = l.length ∧ i = .int .i64 j ∧ r = .int .u32 (Cx.reg ns (l.take j)).toNat)
  case atStart => exact ⟨rfl, 0, by omega, rfl, rfl⟩
  case round =>
    obtain ⟨rfl, j, hj, rfl, rfl⟩ := hrel
    by_cases hlt : j < l.length
    · obtain ⟨bb, o, rfl, hbb, hc⟩ := Hh.out (by intro e; have := congrArg List.length e; simp [bvs] at this; subst this; simp at hlt)
      have hcell := hc j _ (bvs_get l j hlt)
      unfold bv at hcell
      have hy := UInt8.toNat_lt l[j]
      generalize hr : Cx.reg ns (l.take j) = r
      have Hr := Lib.hid hr
      clear hr hc
      have h1 := b_xor r (Cx.by8 l[j])
      rw [← b_by8] at h1
      generalize hx1 : r ^^^ Cx.by8 l[j] = x1 at h1
      obtain ⟨k1, y1, t1, x2, a1, a2, a3, a4, a5, a6⟩ := half_step w Ht.out x1
      obtain ⟨k2, y2, t2, x3, b1, b2, b3, b4, b5, b6⟩ := half_step w Ht.out x2
      have Hx1 := Lib.hid hx1
      have A6 := Lib.hid a6
      have B6 := Lib.hid b6
      clear hx1 a6 b6
      go_wp2_with fail
      go_roundg (gk - 1)
      case measure => omega
      case rel =>
        refine ⟨rfl, j + 1, by omega, by go_num, ?_⟩
        rw [List.take_succ_eq_append_getElem hlt, Cx.reg_snoc, Hr.out, Hx1.out, B6.out, A6.out, ← Cx.tp_add]
    · obtain rfl : j = l.length := by omega
      rw [List.take_length]
      obtain ⟨nr, hnr, hnr'⟩ := not_letter (Cx.reg ns l)
      have Hnr := Lib.hid hnr'
      clear hnr'
      go_wp2_with fail
      go_ret
      refine ⟨ret_int ?_, rfl⟩
      rw [Hnr.out, Hns.out]
      rfl

theorem sum_any (A : Option Addr) (l : List UInt8) (c B : Nat) (w : World) (h : Rd w B A (bvs l)) (ht : Tab w) (hm : l.length ≤ 9223372036854775807) :
    Calls Tryd.prog 56 #[.slice A l.length c] w fun e w' => e = .returned (.int .u32 (Cx.sum l).toNat) ∧ w = w' := by
  have hc := more_any A l c B 0#32 w h ht hm
  go_enter Tryd.func56, Tryd.ntmps56
  go_wp2_with fail
  refine hc.mono ?_
  rintro e w' ⟨rfl, rfl⟩
  go_wp2_with fail
  go_ret
  exact ⟨rfl, rfl⟩

end Go.Proofs.YtkpkfgcbccaibaaDoor.Crc

/- CxCov -/

/-
  Layer 2: the walks of Cover and Right, and of the chapter's rows ('knows').
-/
set_option linter.unusedVariables false
set_option linter.unusedSimpArgs false
namespace Go.Proofs.YtkpkfgcbccaibaaDoor.Crc
open Go.RowKit

theorem dg_val (s : BitVec 32) (j : Nat) : ∃ d : UInt8, (s.toNat : Int) / 2 ^ (8 * j) % 256 = (d.toNat : Int) ∧ d = Cx.dg s.toNat j :=
  ⟨_, by rw [Cx.dg_toNat]; simp, rfl⟩

set_option maxRecDepth 100000 in
theorem cover_any (A : Option Addr) (l : List UInt8) (c : Nat) (w : World) (h : Rd w w.heap.size A (bvs l)) (ht : Tab w) (hm : l.length + 4 ≤ 140737488355328) :
    Calls Tryd.prog 55 #[.slice A l.length c] w fun e w' => ∃ v, e = .returned v ∧ w'.ownsRow w.heap.size 5 1 v (l.length + 4) (bvs (Cx.cover l)) ∧ Below w.heap.size w w' := by
  obtain ⟨i0, hi0, hz0, hz1, hz2⟩ := info_parts byte_info
  have Hh := Lib.hid h
  have Ht := Lib.hid ht
  clear h ht
  go_enter Tryd.func55, Tryd.ntmps55
  go_wp2_with (first
    | (at_make
       refine wpList_make_own _ rfl _ _ 23 rfl w.heap.size 5 i0 (.int .u8 0) 1 Tryd.underlying23 hi0 hz0 hz1 .i64 .i64 _ (l.length + 4) rfl rfl (by omega) (by rw [hz2]; omega) (by unfold maxLen; omega) (Nat.le_refl _) ?_
       intro w0 hown0 hgrow0)
    | (at_builtin
       refine wpList_append_rd _ rfl _ _ 23 rfl w.heap.size 5 i0 (.int .u8 0) 1 1 Tryd.underlying23 hi0 hz0 hz1 hz2 rfl (by omega) (Value.slice (some { block := w.heap.size, off := 0 }) 0 (l.length + 4)) 0 [] rfl hown0 w.heap.size A l.length c (bvs l) rfl (by simp [bvs]) (Hh.out.grown hgrow0 (Nat.le_refl _) (by simp)) (bvs_one l) (by unfold maxLen; omega) (by omega) hgrow0.size ?_
       intro v1 w1 hown1 hbw1 _ _))
  have hb0 : Below w.heap.size w w1 := ((Below.refl _ _).grown hgrow0 (Nat.le_refl _) (by simp)).trans hbw1
  rw [Nat.zero_add, List.nil_append] at hown1
  refine (sum_any A l c w.heap.size w1 (Hh.out.below hb0 (Nat.le_refl _)) (Ht.out.on hb0) (by omega)).mono ?_
  rintro e w2 ⟨rfl, rfl⟩
  generalize hs : Cx.sum l = s
  have Hs := Lib.hid hs
  clear hs hbw1 hgrow0 hown0
  go_wp2_with fail
  go_loopg [3, 15] 4 (fun k o i wr => ∃ j : Nat, j + k = 4 ∧ i = .int .i64 j ∧ wr.ownsRow w.heap.size 5 1 o (l.length + j) (bvs (l ++ Cx.leL s.toNat j)) ∧ Below w.heap.size w wr)
  case atStart => exact ⟨0, by omega, rfl, by simpa [Cx.leL] using hown1, hb0⟩
  case round =>
    obtain ⟨j, hj, rfl, hown2, hb2⟩ := hrel
    by_cases hlt : j < 4
    · obtain ⟨d, hd, hd'⟩ := dg_val s j
      have Hd := Lib.hid hd'
      clear hd'
      go_wp2_with (at_builtin; (refine wpList_append_1 _ rfl _ _ 23 rfl w.heap.size 5 i0 (.int .u8 0) 1 Tryd.underlying23 hi0 hz0 hz1 hz2 rfl u3 (l.length + j) (bvs (l ++ Cx.leL s.toNat j)) rfl (hown2.alloc _) _ 1 (.int .u8 (d.toNat : Int)) rfl (by first | exact cell_new1 _ _ _ | (rw [hd]; exact cell_new1 _ _ _)) rfl (by unfold maxLen; omega) (by omega) (by have := hb2.size; simp; omega) ?_); intro v2 w2 hown3 hbw2 _ _)
      go_roundg (gk - 1)
      case measure => omega
      case rel => exact ⟨j + 1, by omega, by go_num, by rw [Cx.leL_succ, ← List.append_assoc, bvs_append, ← Hd.out]; exact hown3, (hb2.alloc hb2.size _).trans hbw2⟩
    · obtain rfl : j = 4 := by omega
      go_wp2_with fail
      go_ret
      refine ⟨_, rfl, ?_, hb2⟩
      rw [Cx.cover, Hs.out]
      exact hown2

theorem ret_bool {a b : Bool} (h : a = b) : Ending.returned (.bool a) = .returned (.bool b) := by rw [h]
theorem int_beq (a b : Nat) : ((a : Int) == (b : Int)) = (a == b) := by
  rw [Bool.eq_iff_iff]
  simp
  omega
theorem or_rd (t : List UInt8) (j : Nat) (hj : j < 4) : ∃ z : Nat, bits .or .u32 (Cx.rdN t j : Int) (((t.getD j 0).toNat : Int) * 2 ^ (8 * j) % 4294967296) = (z : Int) ∧ z = Cx.rdN t (j + 1) := by
  have h1 := Cx.rdN_lt t j
  have h2 := Cx.rdN_lt t (j + 1)
  have h4 : 2 ^ (8 * (j + 1)) ≤ 2 ^ 32 := Nat.pow_le_pow_right (by omega) (by omega)
  simp only [Cx.rdN] at h2
  have e : ((t.getD j 0).toNat : Int) * 2 ^ (8 * j) % 4294967296 = (((t.getD j 0).toNat * 2 ^ (8 * j) : Nat) : Int) := by
    rw [show (((t.getD j 0).toNat : Int) * 2 ^ (8 * j)) = (((t.getD j 0).toNat * 2 ^ (8 * j) : Nat) : Int) by simp]
    omega
  refine ⟨_, ?_, rfl⟩
  rw [e, u32_or_nat _ _ (by omega) (by omega), Nat.or_comm, nat_join (8 * j) _ _ (Nat.mul_mod_left _ _) h1, Nat.add_comm]
  rfl

theorem right_short (A : Option Addr) (n c : Nat) (w : World) (h : n < 4) :
    Calls Tryd.prog 44 #[.slice A n c] w fun e w' => e = .returned (.bool false) ∧ w = w' := by
  go_enter Tryd.func44, Tryd.ntmps44
  go_wp2_with fail
  go_ret
  exact ⟨rfl, rfl⟩
theorem right_long (A : Option Addr) (l : List UInt8) (c B : Nat) (w : World) (h : Rd w B A (bvs l)) (hc : l.length ≤ c) (ht : Tab w) (hm : l.length ≤ 9223372036854775807) (h4 : 4 ≤ l.length) :
    Calls Tryd.prog 44 #[.slice A l.length c] w fun e w' => e = .returned (.bool (Cx.right l)) ∧ w = w' := by
  obtain ⟨n, hn⟩ : ∃ n, l.length = n + 4 := ⟨l.length - 4, by omega⟩
  obtain ⟨b, o, rfl, hbB, hcell⟩ := h (by intro e; have := congrArg List.length e; simp [bvs] at this; subst this; simp at h4)
  have Hcell := Lib.hid hcell
  have Ht := Lib.hid ht
  clear hcell ht
  have hsum := sum_any (some ⟨b, o, none⟩) (l.take n) c B w (fun hx => ⟨b, o, rfl, hbB, fun j u hu => Hcell.out j u (by
    rw [bvs_take] at hu
    rw [List.getElem?_take] at hu
    split at hu
    · exact hu
    · cases hu)⟩) Ht.out (by rw [List.length_take]; omega)
  rw [List.length_take, show min n l.length = n by omega] at hsum
  have Hsum := Lib.hid hsum
  clear hsum
  have Hn := Lib.hid hn
  rw [hn] at hc hm ⊢
  clear hn h4 h
  have hnc : ¬ (c = n) := by omega
  go_enter Tryd.func44, Tryd.ntmps44
  go_wp2_with fail
  have Ht4 := Lib.hid (show (l.drop n).length = 4 by rw [List.length_drop, Hn.out]; omega)
  have Hct := Lib.hid (show ∀ j, j < 4 → w.cell? ⟨b, o + n + j, none⟩ = some (.int .u8 (((l.drop n).getD j 0).toNat : Int)) from fun j hj => by
    have hlt : n + j < l.length := by rw [Hn.out]; omega
    have := Hcell.out (n + j) _ (bvs_get l (n + j) hlt)
    rw [Nat.add_assoc, this]
    unfold bv
    have e : (l.drop n).getD j 0 = l[n + j] := by rw [List.getD_eq_getElem?_getD, List.getElem?_drop, List.getElem?_eq_getElem hlt]; rfl
    rw [e])
  have Hright := Lib.hid (show Cx.right l = (Cx.rdN (l.drop n) 4 == (Cx.sum (l.take n)).toNat) by
    unfold Cx.right
    rw [show l.length - 4 = n by rw [Hn.out]; omega]
    have : decide (4 ≤ l.length) = true := by simp; rw [Hn.out]; omega
    rw [this, Bool.true_and])
  generalize l.drop n = t at Ht4 Hct Hright
  generalize Cx.sum (l.take n) = s at Hsum Hright
  clear Hcell
  go_loopg [4, 17] 4 (fun k a i wr => w = wr ∧ ∃ j : Nat, j + k = 4 ∧ i = .int .i64 j ∧ a = .int .u32 (Cx.rdN t j : Nat))
  case atStart => exact ⟨rfl, 0, by omega, rfl, rfl⟩
  case round =>
    obtain ⟨rfl, j, hj, rfl, rfl⟩ := hrel
    by_cases hlt : j < 4
    · have hcj := Hct.out j hlt
      have hy := UInt8.toNat_lt (t.getD j 0)
      obtain ⟨z, hz, hz'⟩ := or_rd t j hlt
      have Hz := Lib.hid hz'
      clear hz'
      generalize t.getD j 0 = y at *
      go_wp2_with fail
      go_roundg (gk - 1)
      case measure => omega
      case rel => exact ⟨rfl, j + 1, by omega, by go_num, by rw [Hz.out]⟩
    · obtain rfl : j = 4 := by omega
      go_wp2_with fail
      refine Hsum.out.mono ?_
      rintro e w1 ⟨rfl, rfl⟩
      go_wp2_with fail
      go_ret
      exact ⟨ret_bool (by rw [Hright.out]; exact int_beq _ _), rfl⟩
theorem cover_b (v : Value) (l : List UInt8) (w : World) (h : Bs w w.heap.size v l) (ht : Tab w) (hm : l.length + 4 ≤ 140737488355328) :
    Calls Tryd.prog 55 #[v] w fun e w' => ∃ v, e = .returned v ∧ w'.ownsRow w.heap.size 5 1 v (l.length + 4) (bvs (Cx.cover l)) ∧ Below w.heap.size w w' := by
  obtain ⟨A, c, rfl, _, hr⟩ := h
  exact cover_any A l c w hr ht hm
theorem right_b (v : Value) (l : List UInt8) (B : Nat) (w : World) (h : Bs w B v l) (ht : Tab w) (hm : l.length ≤ 9223372036854775807) :
    Calls Tryd.prog 44 #[v] w fun e w' => e = .returned (.bool (Cx.right l)) ∧ w = w' := by
  obtain ⟨A, c, rfl, hc, hr⟩ := h
  rcases Nat.lt_or_ge l.length 4 with h4 | h4
  · have : Cx.right l = false := by
      unfold Cx.right
      have : decide (4 ≤ l.length) = false := by simp; omega
      rw [this, Bool.false_and]
    rw [this]
    exact right_short A l.length c w h4
  · exact right_long A l c B w hr hc ht hm h4
end Go.Proofs.YtkpkfgcbccaibaaDoor.Crc

/- RcPut -/

/-
  Layer 8: the walk of Put.
-/
set_option linter.unusedVariables false
set_option linter.unusedSimpArgs false
namespace Go.Proofs.YtkpkfgcbccaibaaDoor
open Go.RowKit

/-- the tables lie where they were laid -/
def RTab (w : World) : Prop := Crc.Tab w ∧ WTab w
theorem RTab.on {w w' : World} (h : RTab w) (hb : Below w.heap.size w w') : RTab w' := ⟨h.1.on hb, h.2.on hb⟩

end Go.Proofs.YtkpkfgcbccaibaaDoor

/- RcLaid -/

/-
  Layer 8: what the program's text lays for the two tables (of a half byte's steps, of the fields' widths), as the walks want it.
-/
set_option linter.unusedVariables false
set_option linter.unusedSimpArgs false
namespace Go.Proofs.YtkpkfgcbccaibaaDoor
open Go.ChangeShapes Go.WideShapes Go.ChangeAt Go.WideMaps Go.WideElems Go.RowKit

def laid1 : List (String × DataW Unit) := [("hourbook/crc.steps", Rows.laid_hourbook_crc_steps), ("hourbook/record.widths", Rows.laid_hourbook_record_widths)]
theorem gSteps : Tryd.prog.globalNamed "hourbook/crc.steps" = some 1 := by kernel_rfl
theorem tSteps : (Tryd.prog.globals[1]?).map (·.type) = some 128 := by kernel_rfl
theorem gWidths : Tryd.prog.globalNamed "hourbook/record.widths" = some 0 := by kernel_rfl
theorem tWidths : (Tryd.prog.globals[0]?).map (·.type) = some 118 := by kernel_rfl
set_option maxRecDepth 100000 in
/-- The door's own heap meets the condition. -/
theorem door_met (os : Os) (args : Array Value) : laidMetH Tryd.prog laid1 ((World.doorLaid Tryd.prog 19 os).forCall (fun _ _ => 0) ⟨#[], args, []⟩).memory :=
  laidMetH_of_parts3 (fuel := 8) (laidMet_of_run' 8 (by kernel_rfl) (by kernel_rfl)) (by kernel_rfl) (by kernel_rfl)
/-- the listed tables -/
def tabZ : List Int := (List.range 16).map fun i => ((Cx.tab i).toNat : Int)
theorem laid_tabZ : Rows.laid_hourbook_crc_steps (H := Unit) = Lib.tabData .u32 tabZ := by
  have : tabZ = [0, 274646895, 549293790, 820201905, 1098587580, 1361435347, 1640403810, 1905808397, 2197175160, 2460548119, 2722870694, 2987750089, 3280807620, 3553878443, 3811616794, 4084100981] := by decide +kernel
  rw [this]
  rfl
theorem laid_wid : Rows.laid_hourbook_record_widths (H := Unit) = Lib.tabData .i64 [1, 1, 2, 6, 3, 4] := rfl
theorem tab_cell {P : Program} {W : World} {name : String} {k : IntKind} {zs : List Int} {g : Nat} (hg : P.globalNamed name = some g) (h : Lib.TabIs P W name k zs) (i : Nat) (z : Int) (hz : zs[i]? = some z) : W.cell? ⟨g, i, none⟩ = some (.int k z) := by
  have hv := World.var?_cell hg h i
  rw [hv]
  simp [hz]
/-- WHAT THE CONDITION GIVES THE WALKS -/
theorem tab_of_laid {W : World} (h : laidMetH Tryd.prog laid1 W) : RTab W := by
  rw [MakeChecks.laidMetH_plain _ _ _ (by kernel_rfl)] at h
  unfold laid1 at h
  rw [laid_tabZ, laid_wid] at h
  have h1 := Lib.tabIs_of_head gSteps tSteps Tryd.underlying128 Tryd.underlying22 (by kernel_rfl) (by kernel_rfl) h
  have h2 := Lib.tabIs_of_head gWidths tWidths Tryd.underlying118 Tryd.underlying3 (by kernel_rfl) (by kernel_rfl) (laidMet.tail h)
  exact ⟨fun i hi => tab_cell gSteps h1 i _ (by simp [tabZ, hi]), tab_cell gWidths h2 0 _ rfl, tab_cell gWidths h2 1 _ rfl, tab_cell gWidths h2 2 _ rfl, tab_cell gWidths h2 3 _ rfl, tab_cell gWidths h2 4 _ rfl, tab_cell gWidths h2 5 _ rfl⟩
end Go.Proofs.YtkpkfgcbccaibaaDoor

