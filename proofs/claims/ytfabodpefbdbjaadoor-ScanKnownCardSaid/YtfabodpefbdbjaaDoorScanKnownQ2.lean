/-
  ScanKnown, part 2 of what the law's proof leans on: PxPlain, PxForm, PxPure, PxMem, PxFix, PxCon, LxPlain, CxPlain, CxRun, RcPlain, LxPure, KyMem, RcMem, RcHead, CxPure, CxMem, CxCov, RcPut, RcLaid, HdPlain, RcRead, RcRow, RcIn, RcBlank, RcFill, RcGet, RcKnows, RcMade, RcBox, DxPlain, DxMem, DxLeft, DxSum, DxCov, RcRef, RcRefPut, RcRefGet, HdMem, HdLook, HdRef, OrdR, ApZ.
-/
import Derived.Below
import Derived.Laws.BitsAllLaws
import Derived.Test.YtfabodpefbdbjaaDoorScanKnownQ1
import Derived.Lib.Bytealg
import Derived.Test.YtfabodpefbdbjaaDoorProg
import Derived.WalkKit
import Derived.WalkLawsBesides
import Derived.WalkSpells
import Derived.Outline
import Derived.Lib.Hide
import Derived.Deep.QuietTactic
import Derived.BigQuiet
import Derived.StillTailTactics
import Derived.Deep.DeepFit
import Derived.Deep.RegionHeld3
import Derived.Deep.RegionWith
import Derived.Lib.BytesEntry
import Derived.Laws.StructEq
import Derived.IntWalk
import Derived.Deep.LoopGhost
import Derived.OwnWalk
import Derived.Test.YtfabodpefbdbjaaDoorRows
import Derived.ProofKit
import Derived.LaidMore
import Derived.OpenShut
import Derived.Stop.Joined
import Derived.Lib.LaidTab
import Derived.Stop.LaidErr
import Derived.BigRegion
import Derived.RegionTactic
import Derived.Deep.OwnRows
import Derived.Laws.CopyOwn
import Derived.Laws.CopyRow
import Derived.Deep.RegionLaw
import Derived.Lib.SlBytesConst
import Derived.Laws.NewBlocks
import Derived.Deep.DeepCutAuto
import Derived.Deep.RegionHeldLaw
import Derived.OneCell
import Derived.Deep.MidRow
import Derived.DeepKeys
import Derived.RangeFuncCalls
import Derived.RangeFuncNested
import Derived.OrdersIn
import Derived.TacticsIn
import Derived.Lib.AppendZerosOnto
/- PxPlain -/

/-
  Layer 1 (numbers in bytes), as plain functions of natural numbers, without any program.
-/
set_option linter.unusedVariables false
set_option linter.unusedSimpArgs false
namespace Go.Proofs.YtfabodpefbdbjaaDoor.Px

/-- how many bytes the shortest form has -/
def sizeN (n : Nat) : Nat :=
  if n < 128 then 1 else if n < 16384 then 2 else if n < 2097152 then 3 else if n < 268435456 then 4 else if n < 34359738368 then 5
  else if n < 4398046511104 then 6 else if n < 562949953421312 then 7 else if n < 72057594037927936 then 8 else 9

/-- how many bytes a form has that begins with x -/
def toldN (x : Nat) : Nat :=
  if x < 128 then 1 else if x < 192 then 2 else if x < 224 then 3 else if x < 240 then 4 else if x < 248 then 5 else if x < 252 then 6
  else if x < 254 then 7 else if x < 255 then 8 else 9

/-- after k shifts to the left: the k highest bits of n were ones; y is what is left -/
def ToldAt (n k y : Nat) : Prop := k ≤ 8 ∧ y = n * 2 ^ k % 256 ∧ 256 - 256 / 2 ^ k ≤ n
theorem ToldAt.lt {n k y : Nat} (h : ToldAt n k y) (hn : n < 256) (hy : 128 ≤ y) : k < 8 := by
  obtain ⟨h1, h2, h3⟩ := h
  have : k = 0 ∨ k = 1 ∨ k = 2 ∨ k = 3 ∨ k = 4 ∨ k = 5 ∨ k = 6 ∨ k = 7 ∨ k = 8 := by omega
  rcases this with rfl | rfl | rfl | rfl | rfl | rfl | rfl | rfl | rfl <;> omega
theorem ToldAt.next {n k y : Nat} (h : ToldAt n k y) (hn : n < 256) (hy : 128 ≤ y) : ToldAt n (k + 1) (y * 2 % 256) := by
  have hk := h.lt hn hy
  obtain ⟨h1, h2, h3⟩ := h
  have : k = 0 ∨ k = 1 ∨ k = 2 ∨ k = 3 ∨ k = 4 ∨ k = 5 ∨ k = 6 ∨ k = 7 := by omega
  unfold ToldAt
  rcases this with rfl | rfl | rfl | rfl | rfl | rfl | rfl | rfl <;> omega
theorem ToldAt.done {n k y : Nat} (h : ToldAt n k y) (hn : n < 256) (hy : y < 128) : toldN n = k + 1 := by
  obtain ⟨h1, h2, h3⟩ := h
  have : k = 0 ∨ k = 1 ∨ k = 2 ∨ k = 3 ∨ k = 4 ∨ k = 5 ∨ k = 6 ∨ k = 7 ∨ k = 8 := by omega
  unfold toldN
  rcases this with rfl | rfl | rfl | rfl | rfl | rfl | rfl | rfl | rfl <;> (repeat' split) <;> omega

/-- a digit to the base 256 -/
def dg (n j : Nat) : UInt8 := UInt8.ofNat (n / 2 ^ (8 * j) % 256)
theorem dg_val (n : Int) (h0 : 0 ≤ n) (j : Nat) (i : Int) (hi : i = j) : n / 2 ^ (8 * i).toNat % 256 = ((dg n.toNat j).toNat : Int) := by
  subst hi
  obtain ⟨n, rfl⟩ := Int.eq_ofNat_of_zero_le h0
  unfold dg
  rw [Int.toNat_natCast, UInt8.toNat_ofNat_of_lt' (by simp only [UInt8.size]; exact Nat.mod_lt _ (by omega))]
  rw [show (8 * (j : Int)).toNat = 8 * j by omega]
  simp
/-- the number that k bytes of a form have after j rounds -/
def accN (l : List UInt8) (k : Nat) : Nat → Nat
  | 0 => (l.getD 0 0).toNat % 2 ^ (9 - k)
  | j + 1 => accN l k j * 256 + (l.getD (j + 1) 0).toNat
/-- what Get tells: the number, its size, the error -/
def getN (l : List UInt8) : Nat × Nat × Nat :=
  match l with
  | [] => (0, 0, 4)
  | x :: r => if (x :: r).length < toldN x.toNat then (0, 0, 4)
    else if sizeN (accN (x :: r) (toldN x.toNat) (toldN x.toNat - 1)) = toldN x.toNat then (accN (x :: r) (toldN x.toNat) (toldN x.toNat - 1), toldN x.toNat, 0) else (0, 0, 5)
/-- the k lowest digits, the lowest one first -/
def leL (n k : Nat) : List UInt8 := (List.range k).map fun t => dg n t
theorem leL_succ (n k : Nat) : leL n (k + 1) = leL n k ++ [dg n k] := by simp [leL, List.range_succ]
theorem leL_length (n k : Nat) : (leL n k).length = k := by simp [leL]

/-- the number that the first k bytes are -/
def rdN (l : List UInt8) : Nat → Nat
  | 0 => 0
  | k + 1 => rdN l k + (l.getD k 0).toNat * 2 ^ (8 * k)
theorem rdN_lt (l : List UInt8) (k : Nat) : rdN l k < 2 ^ (8 * k) := by
  induction k with
  | zero => simp [rdN]
  | succ k ih =>
    have := UInt8.toNat_lt (l.getD k 0)
    simp only [rdN]
    rw [show 8 * (k + 1) = 8 * k + 8 by omega, Nat.pow_add]
    have h2 : (l.getD k 0).toNat * 2 ^ (8 * k) ≤ 255 * 2 ^ (8 * k) := Nat.mul_le_mul_right _ (by omega)
    omega
theorem or_rd (l : List UInt8) (j : Nat) (hj : j < 8) : bits .or .u64 (rdN l j : Int) (IntKind.u64.wrap ((l.getD j 0).toNat * 2 ^ (8 * j))) = ((rdN l j + (l.getD j 0).toNat * 2 ^ (8 * j) : Nat) : Int) := by
  have h1 := rdN_lt l j
  have h2 := rdN_lt l (j + 1)
  have h4 : 2 ^ (8 * (j + 1)) ≤ 2 ^ 64 := Nat.pow_le_pow_right (by omega) (by omega)
  simp only [rdN] at h2
  have e : IntKind.u64.wrap ((l.getD j 0).toNat * 2 ^ (8 * j)) = (((l.getD j 0).toNat * 2 ^ (8 * j) : Nat) : Int) := by
    rw [IntKind.wrap_u64, show (((l.getD j 0).toNat : Int) * 2 ^ (8 * j)) = (((l.getD j 0).toNat * 2 ^ (8 * j) : Nat) : Int) by simp]
    omega
  rw [e, u64_or_nat _ _ (by omega) (by omega), Nat.or_comm, nat_join (8 * j) _ _ (Nat.mul_mod_left _ _) h1, Nat.add_comm]
end Go.Proofs.YtfabodpefbdbjaaDoor.Px

/- PxForm -/

/-
  Layer 1: what forms are like: their first byte, their digits, their order; what Get tells of them. Plain mathematics.
-/
set_option linter.unusedVariables false
set_option linter.unusedSimpArgs false
namespace Go.Proofs.YtfabodpefbdbjaaDoor.Px

theorem pow_step (j : Nat) : 2 ^ (8 * (j + 1)) = 256 * 2 ^ (8 * j) := by
  rw [show 8 * (j + 1) = 8 * j + 8 by omega, Nat.pow_add, Nat.mul_comm]

theorem dg_toNat (n j : Nat) : (dg n j).toNat = n / 2 ^ (8 * j) % 256 := by
  unfold dg
  exact UInt8.toNat_ofNat_of_lt' (by simp only [UInt8.size]; exact Nat.mod_lt _ (by omega))

/-! fixed numbers -/
theorem leL_get (n k j : Nat) (h : j < k) (r : List UInt8) : (leL n k ++ r).getD j 0 = dg n j := by
  rw [List.getD_eq_getElem?_getD, List.getElem?_append_left (by rw [leL_length]; exact h)]
  simp [leL, h]

theorem rdN_leL (n k : Nat) (r : List UInt8) (j : Nat) (hj : j ≤ k) : rdN (leL n k ++ r) j = n % 2 ^ (8 * j) := by
  induction j with
  | zero => simp [rdN, Nat.mod_one]
  | succ j ih =>
    rw [rdN, ih (by omega), leL_get n k j (by omega), dg_toNat, pow_step, Nat.mul_comm 256, Nat.mod_mul, Nat.mul_comm (2 ^ (8 * j)) (n / 2 ^ (8 * j) % 256)]

theorem rdN_fix (n k : Nat) (r : List UInt8) (h : n / 2 ^ (8 * k) = 0) : rdN (leL n k ++ r) k = n := by
  rw [rdN_leL n k r k (Nat.le_refl _)]
  apply Nat.mod_eq_of_lt
  rcases Nat.lt_or_ge n (2 ^ (8 * k)) with h1 | h1
  · exact h1
  · have := Nat.div_pos h1 (Nat.two_pow_pos _)
    omega

end Go.Proofs.YtfabodpefbdbjaaDoor.Px

/- PxPure -/

/-
  Layer 1: the walks of the functions that only compute with numbers.
-/
set_option linter.unusedVariables false
set_option linter.unusedSimpArgs false
namespace Go.Proofs.YtfabodpefbdbjaaDoor
open Go.RowKit

theorem digit_any (n i : Int) (w : World) (_h0 : 0 ≤ n) (_h1 : n < 18446744073709551616) (hi : 0 ≤ i) (hj : i ≤ 8) :
    Calls Tryd.prog 67 #[.int .u64 n, .int .i64 i] w fun e w' => e = .returned (.int .u8 (n / 2 ^ (8 * i).toNat % 256)) ∧ w = w' := by
  go_enter Tryd.func67, Tryd.ntmps67
  go_wp2
  go_ret
  exact ⟨rfl, rfl⟩

theorem ret_int {k : IntKind} {a b : Int} (h : a = b) : Ending.returned (.int k a) = .returned (.int k b) := by rw [h]

end Go.Proofs.YtfabodpefbdbjaaDoor

/- PxMem -/

/-
  Layer 1: the walks of the functions that read and make bytes.
-/
set_option linter.unusedVariables false
set_option linter.unusedSimpArgs false
namespace Go.Proofs.YtfabodpefbdbjaaDoor
open Go.RowKit

theorem byte_info : (Tryd.prog.info? 5).map (fun i => (i.zero, i.size, i.bytes)) = some (some (.int .u8 0), 1, 1) := by kernel_rfl

theorem room_any (A : Option Addr) (l : List UInt8) (c : Nat) (m : Int) (w : World) (h : Rd w w.heap.size A (bvs l)) (hm0 : 0 ≤ m) (hm : l.length + m.toNat ≤ 140737488355328) :
    Calls Tryd.prog 66 #[.slice A l.length c, .int .i64 m] w fun e w' => ∃ v, e = .returned v ∧ w'.ownsRow w.heap.size 5 1 v l.length (bvs l) ∧ Below w.heap.size w w' := by
  obtain ⟨i0, hi0, hz0, hz1, hz2⟩ := info_parts byte_info
  go_enter Tryd.func66, Tryd.ntmps66
  go_wp2_with (first
    | (at_make
       refine wpList_make_own _ rfl _ _ 23 rfl w.heap.size 5 i0 (.int .u8 0) 1 Tryd.underlying23 hi0 hz0 hz1 .i64 .i64 _ (l.length + m.toNat) rfl rfl (by omega) (by rw [hz2]; omega) (by unfold maxLen; omega) (Nat.le_refl _) ?_
       intro w0 hown0 hgrow0)
    | (at_builtin
       refine wpList_append_rd _ rfl _ _ 23 rfl w.heap.size 5 i0 (.int .u8 0) 1 1 Tryd.underlying23 hi0 hz0 hz1 hz2 rfl (by omega) (Value.slice (some { block := w.heap.size, off := 0 }) 0 (l.length + m.toNat)) 0 [] rfl hown0 w.heap.size A l.length c (bvs l) rfl (by simp [bvs]) (h.grown hgrow0 (Nat.le_refl _) (by simp)) (bvs_one l) (by unfold maxLen; omega) (by omega) hgrow0.size ?_
       intro v1 w1 hown1 hbw1 _ _))
  go_ret
  exact ⟨v1, rfl, by simpa using hown1, ((Below.refl _ _).grown hgrow0 (Nat.le_refl _) (by simp)).trans hbw1⟩

end Go.Proofs.YtfabodpefbdbjaaDoor

/- PxFix -/

/-
  Layer 1: the walks of Fixed, Read and Narrow.
-/
set_option linter.unusedVariables false
set_option linter.unusedSimpArgs false
namespace Go.Proofs.YtfabodpefbdbjaaDoor
open Go.RowKit

theorem fixed_ok (A : Option Addr) (l : List UInt8) (c : Nat) (n b : Int) (w : World) (h : Rd w w.heap.size A (bvs l)) (h0 : 0 ≤ n) (h1 : n < 18446744073709551616) (hb : 1 ≤ b) (hb2 : b ≤ 8) (hf : n / 2 ^ (8 * b).toNat = 0) (hm : l.length + 8 ≤ 140737488355328) :
    Calls Tryd.prog 56 #[.slice A l.length c, .int .u64 n, .int .i64 b] w fun e w' => ∃ v, e = .returned (.tuple #[v, .int .i64 0]) ∧ w'.ownsRow w.heap.size 5 1 v (l.length + b.toNat) (bvs (l ++ Px.leL n.toNat b.toNat)) ∧ Below w.heap.size w w' := by
  obtain ⟨i0, hi0, hz0, hz1, hz2⟩ := info_parts byte_info
  obtain ⟨k, rfl⟩ := Int.eq_ofNat_of_zero_le (by omega : 0 ≤ b)
  rw [Int.toNat_natCast]
  have d1 : decide ((k : Int) < 1) = false := by simp; omega
  have d2 : decide ((8 : Int) < (k : Int)) = false := by simp; omega
  have d3 : (n / 2 ^ (8 * (k : Int)).toNat != 0) = false := by simp [hf]
  go_enter Tryd.func56, Tryd.ntmps56
  go_wp2_with fail
  refine (room_any A l c _ _ h (by omega) (by omega)).mono ?_
  rintro e w1 ⟨v, rfl, hown, hbl⟩
  go_wp2_with fail
  go_loopw [8, 25] (fun o i wr => ∃ j : Nat, j ≤ k ∧ i = .int .i64 j ∧ wr.ownsRow w.heap.size 5 1 o (l.length + j) (bvs (l ++ Px.leL n.toNat j)) ∧ Below w.heap.size w wr) (fun _ i _ => k - (intOf i).toNat)
  case atStart => exact ⟨0, by omega, rfl, by simpa [Px.leL] using hown, hbl⟩
  case round =>
    obtain ⟨j, hj, rfl, hown1, hb1⟩ := hrel
    by_cases hlt : j < k
    · have hd : n / 2 ^ (8 * (j : Int)).toNat % 256 = ((Px.dg n.toNat j).toNat : Int) := Px.dg_val n h0 _ _ (by omega)
      have Hd := Lib.hid hd
      clear hd
      go_wp2_with fail
      refine (digit_any _ _ _ h0 h1 (by omega) (by omega)).mono ?_
      rintro e w2 ⟨rfl, rfl⟩
      rw [Hd.out]
      go_wp2_with (at_builtin; (refine wpList_append_1 _ rfl _ _ 23 rfl w.heap.size 5 i0 (.int .u8 0) 1 Tryd.underlying23 hi0 hz0 hz1 hz2 rfl u8 (l.length + j) (bvs (l ++ Px.leL n.toNat j)) rfl (hown1.alloc _) _ 1 (.int .u8 ((Px.dg n.toNat j).toNat : Int)) rfl (cell_new1 _ _ _) rfl (by unfold maxLen; omega) (by omega) (by have := hb1.size; simp; omega) ?_); intro v2 w2 hown2 hbw2 _ _)
      go_roundw
      case rel => exact ⟨j + 1, by omega, by go_num, by rw [Px.leL_succ, ← List.append_assoc, bvs_append]; exact hown2, (hb1.alloc hb1.size _).trans hbw2⟩
      case measure => simp [intOf]; omega
    · obtain rfl : j = k := by omega
      go_wp2_with fail
      go_ret2
      exact ⟨_, rfl, hown1, hb1⟩

theorem read_ok (A : Option Addr) (l : List UInt8) (c B : Nat) (b : Int) (w : World) (h : Rd w B A (bvs l)) (hb : 1 ≤ b) (hb2 : b ≤ 8) (hl : b.toNat ≤ l.length) (hm : l.length ≤ 9223372036854775807) :
    Calls Tryd.prog 44 #[.slice A l.length c, .int .i64 b] w fun e w' => e = .returned (.tuple #[.int .u64 (Px.rdN l b.toNat : Nat), .int .i64 0]) ∧ w = w' := by
  obtain ⟨k, rfl⟩ := Int.eq_ofNat_of_zero_le (by omega : 0 ≤ b)
  rw [Int.toNat_natCast] at hl ⊢
  obtain ⟨bb, o, rfl, hbb, hc⟩ := h (by intro e; have := congrArg List.length e; simp [bvs] at this; subst this; simp at hl; omega)
  have hcx : ∀ j, j < l.length → w.cell? ⟨bb, o + j, none⟩ = some (.int .u8 ((l.getD j 0).toNat : Int)) := fun j hj => by
    refine hc j _ ?_
    rw [bvs_get _ _ hj]
    simp [bv, List.getD_eq_getElem?_getD, List.getElem?_eq_getElem hj]
  have Hcx := Lib.hid hcx
  clear hc hcx
  have d1 : decide ((k : Int) < 1) = false := by simp; omega
  have d2 : decide ((8 : Int) < (k : Int)) = false := by simp; omega
  have d3 : decide (l.length < k) = false := by simp; omega
  go_enter Tryd.func44, Tryd.ntmps44
  go_wp2_with fail
  go_loop [6, 19] (fun a i => ∃ j : Nat, j ≤ k ∧ i = .int .i64 j ∧ a = .int .u64 (Px.rdN l j : Nat)) (fun _ i => k - (intOf i).toNat)
  case atStart => exact ⟨0, by omega, rfl, rfl⟩
  case round =>
    obtain ⟨j, hj, rfl, rfl⟩ := hrel
    by_cases hlt : j < k
    · have hcj := Hcx.out j (by omega)
      have hy := UInt8.toNat_lt (l.getD j 0)
      have hnx : Px.rdN l (j + 1) = Px.rdN l j + (l.getD j 0).toNat * 2 ^ (8 * j) := rfl
      have hor := Px.or_rd l j (by omega)
      have Hnx := Lib.hid hnx
      have Hor := Lib.hid hor
      clear hnx hor
      generalize l.getD j 0 = y at *
      go_wp2
      go_round
      case rel => exact ⟨j + 1, by omega, by go_num, by rw [Hor.out, Hnx.out]⟩
      case measure => simp [intOf]; omega
    · obtain rfl : j = k := by omega
      go_wp2
      go_ret2
      exact ⟨rfl, rfl⟩
end Go.Proofs.YtfabodpefbdbjaaDoor

/- PxCon -/

/-
  Layer 1: the contracts over slices that are values, and of 'wakes'.
-/
set_option linter.unusedVariables false
set_option linter.unusedSimpArgs false
namespace Go.Proofs.YtfabodpefbdbjaaDoor
open Go.RowKit

theorem fixed_b (v : Value) (l : List UInt8) (n b : Int) (w : World) (h : Bs w w.heap.size v l) (h0 : 0 ≤ n) (h1 : n < 18446744073709551616) (hb : 1 ≤ b) (hb2 : b ≤ 8) (hf : n / 2 ^ (8 * b).toNat = 0) (hm : l.length + 8 ≤ 140737488355328) :
    Calls Tryd.prog 56 #[v, .int .u64 n, .int .i64 b] w fun e w' => ∃ r, e = .returned (.tuple #[r, .int .i64 0]) ∧ w'.ownsRow w.heap.size 5 1 r (l.length + b.toNat) (bvs (l ++ Px.leL n.toNat b.toNat)) ∧ Below w.heap.size w w' := by
  obtain ⟨A, c, rfl, _, hr⟩ := h
  exact fixed_ok A l c n b w hr h0 h1 hb hb2 hf hm

theorem read_b (v : Value) (l : List UInt8) (B : Nat) (b : Int) (w : World) (h : Bs w B v l) (hb : 1 ≤ b) (hb2 : b ≤ 8) (hl : b.toNat ≤ l.length) (hm : l.length ≤ 9223372036854775807) :
    Calls Tryd.prog 44 #[v, .int .i64 b] w fun e w' => e = .returned (.tuple #[.int .u64 (Px.rdN l b.toNat : Nat), .int .i64 0]) ∧ w = w' := by
  obtain ⟨A, c, rfl, _, hr⟩ := h
  exact read_ok A l c B b w hr hb hb2 hl hm

end Go.Proofs.YtfabodpefbdbjaaDoor

/- LxPlain -/

/-
  Layer 3, plain mathematics: which locs may be, how they are packed, compared and written.
-/
set_option linter.unusedVariables false
set_option linter.unusedSimpArgs false
namespace Go.Proofs.YtfabodpefbdbjaaDoor
open Go.RowKit

/-- a loc as a value -/
def lv (s o : Int) : Value := .agg #[.int .u32 s, .int .u32 o]

namespace Lx
def noneB (s o : Int) : Bool := decide (s = 0 ∧ o = 0)
def standsB (s o : Int) : Bool := decide (1 ≤ s ∧ s ≤ 16777215 ∧ 16 ≤ o ∧ o ≤ 16777216)
def mayB (s o : Int) : Bool := noneB s o || standsB s o
/-- what bytes begin with: Seg, Off, how many bytes, the error's number -/
def getQ (l : List UInt8) : Int × Int × Int × Int :=
  if (Px.getN l).2.2 ≠ 0 then (0, 0, 0, (Px.getN l).2.2)
  else if (Px.getN l).1 = 0 then (0, 0, (Px.getN l).2.1, 0)
  else if (Px.getN (l.drop (Px.getN l).2.1)).2.2 ≠ 0 then (0, 0, 0, (Px.getN (l.drop (Px.getN l).2.1)).2.2)
  else if 16777215 < (Px.getN l).1 ∨ 16777200 < (Px.getN (l.drop (Px.getN l).2.1)).1 then (0, 0, 0, 5)
  else ((Px.getN l).1, (Px.getN (l.drop (Px.getN l).2.1)).1 + 16, ((Px.getN l).2.1 + (Px.getN (l.drop (Px.getN l).2.1)).2.1 : Nat), 0)
end Lx
end Go.Proofs.YtfabodpefbdbjaaDoor

/- CxPlain -/

/-
  Layer 2 (sums of bytes), as plain functions of 32 bits, without any program: polynomials by x, products, powers, sums.
-/
set_option linter.unusedVariables false
set_option linter.unusedSimpArgs false
namespace Go.Proofs.YtfabodpefbdbjaaDoor.Cx

/-- what x to 32 leaves -/
def md : BitVec 32 := 0x82f63b78#32
/-- x to 0 -/
def e0 : BitVec 32 := 0x80000000#32
/-- a polynomial by x -/
def tx (a : BitVec 32) : BitVec 32 := (a >>> 1) ^^^ (if a.getLsbD 0 then md else 0#32)

theorem x4 (a b c d : BitVec 32) : (a ^^^ b) ^^^ (c ^^^ d) = (a ^^^ c) ^^^ (b ^^^ d) := by
  rw [BitVec.xor_assoc, BitVec.xor_assoc, ← BitVec.xor_assoc b c d, BitVec.xor_comm b c, BitVec.xor_assoc c b d]

theorem tx_xor (a b : BitVec 32) : tx (a ^^^ b) = tx a ^^^ tx b := by
  unfold tx
  rw [BitVec.getLsbD_xor, BitVec.ushiftRight_xor_distrib, x4]
  congr 1
  cases a.getLsbD 0 <;> cases b.getLsbD 0 <;> simp
theorem tx_zero : tx 0#32 = 0#32 := by decide

theorem tx_eq_zero (a : BitVec 32) (h : tx a = 0#32) : a = 0#32 := by
  unfold tx at h
  rcases hb : a.getLsbD 0 with _ | _
  · rw [hb] at h
    simp at h
    have h1 : (a >>> 1).toNat = 0 := by rw [h]; rfl
    rw [BitVec.toNat_ushiftRight] at h1
    have h2 : a.toNat % 2 = 0 := by
      rw [BitVec.getLsbD] at hb
      simp [Nat.testBit_zero] at hb
      omega
    apply BitVec.eq_of_toNat_eq
    rw [Nat.shiftRight_eq_div_pow] at h1
    simp
    omega
  · rw [hb] at h
    have h1 := congrArg (BitVec.getLsbD · 31) h
    simp [md] at h1

/-- by x, n times -/
def tp : Nat → BitVec 32 → BitVec 32
  | 0, a => a
  | n + 1, a => tx (tp n a)
theorem tp_xor (n : Nat) (a b : BitVec 32) : tp n (a ^^^ b) = tp n a ^^^ tp n b := by
  induction n with
  | zero => rfl
  | succ n ih => simp only [tp, ih, tx_xor]
theorem tp_zero (n : Nat) : tp n 0#32 = 0#32 := by
  induction n with
  | zero => rfl
  | succ n ih => simp only [tp, ih, tx_zero]
theorem tp_add (m n : Nat) (a : BitVec 32) : tp (m + n) a = tp m (tp n a) := by
  induction m with
  | zero => rw [Nat.zero_add]; rfl
  | succ m ih => rw [Nat.succ_add]; simp only [tp, ih]
theorem tp_eq_zero (n : Nat) (a : BitVec 32) (h : tp n a = 0#32) : a = 0#32 := by
  induction n with
  | zero => exact h
  | succ n ih => exact ih (tx_eq_zero _ h)
theorem xor_eq_zero (a b : BitVec 32) (h : a ^^^ b = 0#32) : a = b := by
  have : (a ^^^ b) ^^^ b = 0#32 ^^^ b := by rw [h]
  rw [BitVec.xor_assoc, BitVec.xor_self] at this
  simpa using this
theorem tp_inj (n : Nat) (a b : BitVec 32) (h : tp n a = tp n b) : a = b := by
  apply xor_eq_zero
  apply tp_eq_zero n
  rw [tp_xor, h, BitVec.xor_self]
theorem tp_if (n : Nat) (c : Bool) (a : BitVec 32) : tp n (if c then a else 0#32) = if c then tp n a else 0#32 := by
  cases c
  · simp [tp_zero]
  · simp

/-- linear functions that agree at single bits agree -/
theorem lin_ext (f g : BitVec 32 → BitVec 32) (hf : ∀ a b, f (a ^^^ b) = f a ^^^ f b) (hg : ∀ a b, g (a ^^^ b) = g a ^^^ g b)
    (h : ∀ i : Fin 32, f (BitVec.twoPow 32 i) = g (BitVec.twoPow 32 i)) (a : BitVec 32) : f a = g a := by
  have key : ∀ n, n ≤ 32 → ∀ a : BitVec 32, (∀ i, n ≤ i → a.getLsbD i = false) → f a = g a := by
    intro n
    induction n with
    | zero =>
      intro _ a ha
      have h0 : a = 0#32 := by
        apply BitVec.eq_of_getLsbD_eq
        intro i _
        rw [ha i (Nat.zero_le _)]
        simp
      have z : ∀ f : BitVec 32 → BitVec 32, (∀ a b, f (a ^^^ b) = f a ^^^ f b) → f 0#32 = 0#32 := by
        intro f hf
        have := hf 0#32 0#32
        rw [BitVec.xor_self, BitVec.xor_self] at this
        exact this
      rw [h0, z f hf, z g hg]
    | succ n ih =>
      intro hn a ha
      rcases hb : a.getLsbD n with _ | _
      · exact ih (by omega) a (fun i hi => by
          rcases Nat.eq_or_lt_of_le hi with rfl | h1
          · exact hb
          · exact ha i h1)
      · have hs : a = (a ^^^ BitVec.twoPow 32 n) ^^^ BitVec.twoPow 32 n := by
          rw [BitVec.xor_assoc, BitVec.xor_self]
          simp
        have hl := ih (by omega) (a ^^^ BitVec.twoPow 32 n) (fun i hi => by
          rw [BitVec.getLsbD_xor, BitVec.getLsbD_twoPow]
          rcases Nat.eq_or_lt_of_le hi with rfl | h1
          · rw [hb]; simp; omega
          · rw [ha i h1]; simp; omega)
        rw [hs, hf, hg, hl, h ⟨n, by omega⟩]
  exact key 32 (Nat.le_refl _) a (fun i hi => BitVec.getLsbD_of_ge _ _ hi)

/-- the product, bit by bit: the highest bit of a is the coefficient of x to 0 -/
def mulL : Nat → BitVec 32 → BitVec 32 → BitVec 32
  | 0, _, _ => 0#32
  | n + 1, a, b => (if a.getLsbD 31 then b else 0#32) ^^^ mulL n (a <<< 1) (tx b)
/-- the product -/
def mul (a b : BitVec 32) : BitVec 32 := mulL 32 a b

theorem if_xor (c d : Bool) (b : BitVec 32) : (if (c ^^ d) then b else 0#32) = (if c then b else 0#32) ^^^ (if d then b else 0#32) := by
  cases c <;> cases d <;> simp
theorem if_xor' (c : Bool) (a b : BitVec 32) : (if c then a ^^^ b else 0#32) = (if c then a else 0#32) ^^^ (if c then b else 0#32) := by
  cases c <;> simp
theorem mulL_xor_left (n : Nat) : ∀ a a' b, mulL n (a ^^^ a') b = mulL n a b ^^^ mulL n a' b := by
  induction n with
  | zero => intro a a' b; simp [mulL]
  | succ n ih =>
    intro a a' b
    simp only [mulL, BitVec.getLsbD_xor, BitVec.shiftLeft_xor_distrib, ih, if_xor]
    exact x4 _ _ _ _
theorem mulL_xor_right (n : Nat) : ∀ a b b', mulL n a (b ^^^ b') = mulL n a b ^^^ mulL n a b' := by
  induction n with
  | zero => intro a b b'; simp [mulL]
  | succ n ih =>
    intro a b b'
    simp only [mulL, tx_xor, ih, if_xor']
    exact x4 _ _ _ _
theorem mulL_tx (n : Nat) : ∀ a b, mulL n a (tx b) = tx (mulL n a b) := by
  induction n with
  | zero => intro a b; exact tx_zero.symm
  | succ n ih =>
    intro a b
    simp only [mulL, tx_xor, ih]
    congr 1
    cases a.getLsbD 31
    · simp [tx_zero]
    · simp
theorem mulL_zero (n : Nat) (b : BitVec 32) : mulL n 0#32 b = 0#32 := by
  have := mulL_xor_left n 0#32 0#32 b
  rw [BitVec.xor_self, BitVec.xor_self] at this
  exact this
theorem mul_xor_left (a a' b : BitVec 32) : mul (a ^^^ a') b = mul a b ^^^ mul a' b := mulL_xor_left 32 a a' b
theorem mul_xor_right (a b b' : BitVec 32) : mul a (b ^^^ b') = mul a b ^^^ mul a b' := mulL_xor_right 32 a b b'
theorem mul_zero_right (a : BitVec 32) : mul a 0#32 = 0#32 := by
  have := mul_xor_right a 0#32 0#32
  rw [BitVec.xor_self, BitVec.xor_self] at this
  exact this
theorem mul_zero_left (b : BitVec 32) : mul 0#32 b = 0#32 := mulL_zero 32 b
theorem mul_tp (a : BitVec 32) (n : Nat) (b : BitVec 32) : mul a (tp n b) = tp n (mul a b) := by
  induction n with
  | zero => rfl
  | succ n ih =>
    show mulL 32 a (tx (tp n b)) = tx (tp n (mul a b))
    rw [mulL_tx, ← ih]
    rfl
theorem mul_one (a : BitVec 32) : mul a e0 = a :=
  lin_ext (fun a => mul a e0) (fun a => a) (fun a b => mul_xor_left a b e0) (fun _ _ => rfl) (by decide +kernel) a
theorem mul_mulL (a b : BitVec 32) (n : Nat) : ∀ c, mul a (mulL n b c) = mulL n b (mul a c) := by
  induction n generalizing b with
  | zero => intro c; exact mul_zero_right a
  | succ n ih =>
    intro c
    simp only [mulL, mul_xor_right, ih]
    congr 1
    · cases b.getLsbD 31
      · simp [mul_zero_right]
      · simp
    · have : mul a (tx c) = tx (mul a c) := mulL_tx 32 a c
      rw [this]
theorem mul_left_comm (a b c : BitVec 32) : mul a (mul b c) = mul b (mul a c) := mul_mulL a b 32 c
theorem mul_comm (a b : BitVec 32) : mul a b = mul b a := by
  conv => lhs; rw [← mul_one b]
  rw [mul_left_comm, mul_one]
/-- x to n -/
def xp (n : Nat) : BitVec 32 := tp n e0
theorem mul_xp (a : BitVec 32) (n : Nat) : mul a (xp n) = tp n a := by
  unfold xp
  rw [mul_tp, mul_one]
theorem xp_mul (a : BitVec 32) (n : Nat) : mul (xp n) a = tp n a := by rw [mul_comm, mul_xp]
/-- four bits at once -/
def tab (i : Nat) : BitVec 32 := tp 4 (BitVec.ofNat 32 i)
theorem tp4 (a : BitVec 32) : tp 4 a = (a >>> 4) ^^^ tab (a.toNat % 16) := by
  have h1 : tp 4 ((a >>> 4) <<< 4) = a >>> 4 :=
    lin_ext (fun a => tp 4 ((a >>> 4) <<< 4)) (fun a => a >>> 4) (fun a b => by simp only [BitVec.ushiftRight_xor_distrib, BitVec.shiftLeft_xor_distrib, tp_xor])
      (fun a b => by simp only [BitVec.ushiftRight_xor_distrib]) (by decide +kernel) a
  have h2 : a = ((a >>> 4) <<< 4) ^^^ BitVec.ofNat 32 (a.toNat % 16) := by
    apply BitVec.eq_of_getLsbD_eq
    intro i hi
    rw [BitVec.getLsbD_xor, BitVec.getLsbD_shiftLeft, BitVec.getLsbD_ushiftRight, BitVec.getLsbD_ofNat]
    rw [show a.toNat % 16 = a.toNat % 2 ^ 4 by rfl, Nat.testBit_mod_two_pow]
    rcases Nat.lt_or_ge i 4 with h | h
    · simp [h, hi, BitVec.getLsbD]
    · have : ¬ i < 4 := by omega
      simp [this, hi]
      congr 1
      omega
  conv => lhs; rw [h2]
  rw [tp_xor, h1]
  rfl

/-- a byte as a polynomial's eight last bits -/
def by8 (c : UInt8) : BitVec 32 := BitVec.ofNat 32 c.toNat
/-- the division goes on over bytes -/
def reg : BitVec 32 → List UInt8 → BitVec 32
  | r, [] => r
  | r, c :: l => reg (tp 8 (r ^^^ by8 c)) l
theorem reg_append (r : BitVec 32) (l m : List UInt8) : reg r (l ++ m) = reg (reg r l) m := by
  induction l generalizing r with
  | nil => rfl
  | cons c l ih => exact ih _
theorem reg_snoc (r : BitVec 32) (l : List UInt8) (c : UInt8) : reg r (l ++ [c]) = tp 8 (reg r l ^^^ by8 c) := by
  rw [reg_append]; rfl
theorem reg_xor (r s : BitVec 32) (l : List UInt8) : reg (r ^^^ s) l = reg r l ^^^ tp (8 * l.length) s := by
  induction l generalizing r s with
  | nil => rfl
  | cons c l ih =>
    show reg (tp 8 ((r ^^^ s) ^^^ by8 c)) l = reg (tp 8 (r ^^^ by8 c)) l ^^^ _
    have : (r ^^^ s) ^^^ by8 c = (r ^^^ by8 c) ^^^ s := by
      rw [BitVec.xor_assoc, BitVec.xor_comm s, ← BitVec.xor_assoc]
    rw [this, tp_xor, ih, ← tp_add, List.length_cons]
    congr 2
theorem reg_from (r : BitVec 32) (l : List UInt8) : reg r l = reg 0#32 l ^^^ tp (8 * l.length) r := by
  have := reg_xor 0#32 r l
  rwa [BitVec.zero_xor] at this

def ones : BitVec 32 := 0xffffffff#32
/-- the sum, going on -/
def more (s : BitVec 32) (l : List UInt8) : BitVec 32 := ~~~ (reg (~~~ s) l)
/-- the sum -/
def sum (l : List UInt8) : BitVec 32 := more 0#32 l
theorem not_xor (a : BitVec 32) : ~~~ a = a ^^^ ones := by
  apply BitVec.eq_of_getLsbD_eq
  intro i hi
  have : ones.getLsbD i = true := by
    have : ones = BitVec.allOnes 32 := by decide
    rw [this, BitVec.getLsbD_allOnes]
    simp [hi]
  rw [BitVec.getLsbD_xor, this, BitVec.getLsbD_not]
  simp [hi]
/-- three rows, xored -/
theorem by8_xor (a b : UInt8) : by8 (a ^^^ b) = by8 a ^^^ by8 b := by
  unfold by8
  apply BitVec.eq_of_toNat_eq
  have ha := a.toNat_lt
  have hb := b.toNat_lt
  have h := Nat.xor_lt_two_pow (x := a.toNat) (y := b.toNat) (n := 8) ha hb
  simp only [UInt8.toNat_xor, BitVec.toNat_xor, BitVec.toNat_ofNat]
  rw [Nat.mod_eq_of_lt (by omega), Nat.mod_eq_of_lt (by omega), Nat.mod_eq_of_lt (by omega)]
end Go.Proofs.YtfabodpefbdbjaaDoor.Cx

/- CxRun -/

/-
  Layer 2: runs (a row and its sum behind it), as plain functions; turned bits.
-/
set_option linter.unusedVariables false
set_option linter.unusedSimpArgs false
namespace Go.Proofs.YtfabodpefbdbjaaDoor.Cx

/-- a digit to the base 256 -/
def dg (n j : Nat) : UInt8 := UInt8.ofNat (n / 2 ^ (8 * j) % 256)
theorem dg_toNat (n j : Nat) : (dg n j).toNat = n / 2 ^ (8 * j) % 256 := by
  unfold dg
  rw [UInt8.toNat_ofNat_of_lt' (by simp only [UInt8.size]; exact Nat.mod_lt _ (by omega))]
/-- the first j digits, the lowest one first -/
def leL (n j : Nat) : List UInt8 := (List.range j).map (dg n)
theorem leL_succ (n j : Nat) : leL n (j + 1) = leL n j ++ [dg n j] := by simp [leL, List.range_succ]
theorem leL_length (n j : Nat) : (leL n j).length = j := by simp [leL]
/-- a run -/
def cover (l : List UInt8) : List UInt8 := l ++ leL (sum l).toNat 4
theorem cover_length (l : List UInt8) : (cover l).length = l.length + 4 := by simp [cover, leL_length]
/-- the number in the first j bytes, the lowest one first -/
def rdN (l : List UInt8) : Nat → Nat
  | 0 => 0
  | j + 1 => rdN l j + (l.getD j 0).toNat * 2 ^ (8 * j)
theorem rdN_lt (l : List UInt8) (j : Nat) : rdN l j < 2 ^ (8 * j) := by
  induction j with
  | zero => simp [rdN]
  | succ j ih =>
    have h := UInt8.toNat_lt (l.getD j 0)
    have e : 2 ^ (8 * (j + 1)) = 256 * 2 ^ (8 * j) := by rw [Nat.mul_add, Nat.pow_add, Nat.mul_comm]
    simp only [rdN]
    rw [e]
    have h2 : (l.getD j 0).toNat * 2 ^ (8 * j) ≤ 255 * 2 ^ (8 * j) := Nat.mul_le_mul_right _ (by omega)
    omega
/-- whether a run is right -/
def right (l : List UInt8) : Bool := decide (4 ≤ l.length) && (rdN (l.drop (l.length - 4)) 4 == (sum (l.take (l.length - 4))).toNat)

theorem rdN_leL (n : Nat) (h : n < 2 ^ 32) : rdN (leL n 4) 4 = n := by
  have e : leL n 4 = [dg n 0, dg n 1, dg n 2, dg n 3] := rfl
  rw [e]
  simp only [rdN, List.getD_cons_zero, List.getD_cons_succ, dg_toNat]
  omega
theorem right_cover (l : List UInt8) : right (cover l) = true := by
  unfold right
  rw [cover_length, Nat.add_sub_cancel]
  unfold cover
  rw [List.drop_left, List.take_left, rdN_leL _ (sum l).isLt]
  simp
theorem and_xor (a b c : BitVec 32) : (a ^^^ b) &&& c = (a &&& c) ^^^ (b &&& c) := by
  apply BitVec.eq_of_getLsbD_eq
  intro i _
  simp only [BitVec.getLsbD_xor, BitVec.getLsbD_and]
  cases a.getLsbD i <;> cases b.getLsbD i <;> cases c.getLsbD i <;> rfl
theorem tp8 (c : UInt8) : tp 8 (by8 c <<< 8) = by8 c := by
  have h := lin_ext (fun x => tp 8 ((x &&& 0xff#32) <<< 8)) (fun x => x &&& 0xff#32)
    (fun a b => by simp only [and_xor, BitVec.shiftLeft_xor_distrib, tp_xor]) (fun a b => by simp only [and_xor]) (by decide +kernel) (by8 c)
  have e : by8 c &&& 0xff#32 = by8 c := by
    apply BitVec.eq_of_toNat_eq
    have := c.toNat_lt
    unfold by8
    rw [BitVec.toNat_and, BitVec.toNat_ofNat, Nat.mod_eq_of_lt (by omega), show (0xff#32).toNat = 2 ^ 8 - 1 by rfl, Nat.and_two_pow_sub_one_eq_mod, Nat.mod_eq_of_lt (by omega)]
  simpa only [e] using h
theorem ofNat_add (x c j : Nat) (hx : x < 2 ^ (8 * j)) (hc : c < 256) (hj : j < 4) : BitVec.ofNat 32 (x + c * 2 ^ (8 * j)) = BitVec.ofNat 32 x ^^^ (BitVec.ofNat 32 c <<< (8 * j)) := by
  apply BitVec.eq_of_getLsbD_eq
  intro i hi
  rw [BitVec.getLsbD_xor, BitVec.getLsbD_shiftLeft, BitVec.getLsbD_ofNat, BitVec.getLsbD_ofNat, BitVec.getLsbD_ofNat, Nat.add_comm, Nat.mul_comm, Nat.testBit_two_pow_mul_add _ hx]
  rcases Nat.lt_or_ge i (8 * j) with h | h
  · simp [h, hi]
  · have h1 : ¬ i < 8 * j := by omega
    have h2 : x.testBit i = false := Nat.testBit_lt_two_pow (Nat.lt_of_lt_of_le hx (Nat.pow_le_pow_right (by omega) h))
    simp [h1, hi, h2]
    intro _
    omega
/-- four bytes behind are one number of 32 bits behind -/
theorem reg_four (r : BitVec 32) (t : List UInt8) (h : t.length = 4) : reg r t = tp 32 (r ^^^ BitVec.ofNat 32 (rdN t 4)) := by
  match t, h with
  | [a, b, c, d], _ =>
    have ha := a.toNat_lt
    have hb := b.toNat_lt
    have hc := c.toNat_lt
    have hd := d.toNat_lt
    have l1 := rdN_lt [a, b, c, d] 1
    have l2 := rdN_lt [a, b, c, d] 2
    have l3 := rdN_lt [a, b, c, d] 3
    have e1 : rdN [a, b, c, d] 1 = a.toNat := by simp [rdN]
    have e2 : rdN [a, b, c, d] 2 = rdN [a, b, c, d] 1 + b.toNat * 2 ^ (8 * 1) := rfl
    have e3 : rdN [a, b, c, d] 3 = rdN [a, b, c, d] 2 + c.toNat * 2 ^ (8 * 2) := rfl
    have e4 : rdN [a, b, c, d] 4 = rdN [a, b, c, d] 3 + d.toNat * 2 ^ (8 * 3) := rfl
    rw [e4, ofNat_add _ _ 3 l3 hd (by omega), e3, ofNat_add _ _ 2 l2 hc (by omega), e2, ofNat_add _ _ 1 l1 hb (by omega), e1]
    show tp 8 (tp 8 (tp 8 (tp 8 (r ^^^ by8 a) ^^^ by8 b) ^^^ by8 c) ^^^ by8 d) = tp 32 (r ^^^ (by8 a ^^^ by8 b <<< 8 ^^^ by8 c <<< 16 ^^^ by8 d <<< 24))
    have s1 : ∀ x : BitVec 32, tp 8 (tp 8 (tp 8 (tp 8 x))) = tp 32 x := fun x => by rw [← tp_add, ← tp_add, ← tp_add]
    have q1 : by8 b = tp 8 (by8 b <<< 8) := (tp8 b).symm
    have up : ∀ (y : UInt8) (k : Nat), k ≤ 16 → tp 8 (by8 y <<< (k + 8)) = by8 y <<< k := fun y k hk => by
      have h := lin_ext (fun x => tp 8 ((x &&& 0xff#32) <<< (k + 8))) (fun x => (x &&& 0xff#32) <<< k)
        (fun a b => by simp only [and_xor, BitVec.shiftLeft_xor_distrib, tp_xor]) (fun a b => by simp only [and_xor, BitVec.shiftLeft_xor_distrib])
        (by
          have : ∀ (k : Fin 17) (i : Fin 32), tp 8 ((BitVec.twoPow 32 i &&& 0xff#32) <<< (k.val + 8)) = (BitVec.twoPow 32 i &&& 0xff#32) <<< k.val := by decide +kernel
          exact this ⟨k, by omega⟩) (by8 y)
      have e : by8 y &&& 0xff#32 = by8 y := by
        apply BitVec.eq_of_toNat_eq
        have := y.toNat_lt
        unfold by8
        rw [BitVec.toNat_and, BitVec.toNat_ofNat, Nat.mod_eq_of_lt (by omega), show (0xff#32).toNat = 2 ^ 8 - 1 by rfl, Nat.and_two_pow_sub_one_eq_mod, Nat.mod_eq_of_lt (by omega)]
      simpa only [e] using h
    have q2 : by8 c = tp 8 (tp 8 (by8 c <<< 16)) := by rw [up c 8 (by omega), tp8]
    have q3 : by8 d = tp 8 (tp 8 (tp 8 (by8 d <<< 24))) := by rw [up d 16 (by omega), up d 8 (by omega), tp8]
    conv => lhs; rw [q1, q2, q3]
    simp only [← tp_xor, s1]
    congr 1
    simp only [BitVec.xor_assoc]
/-- a run is right if the division of all of it leaves what it leaves of any right run -/
theorem right_reg (l : List UInt8) (h : 4 ≤ l.length) : right l = (reg ones l == tp 32 ones) := by
  have h4 : (l.drop (l.length - 4)).length = 4 := by rw [List.length_drop]; omega
  unfold right
  conv => rhs; rw [← List.take_append_drop (l.length - 4) l, reg_append, reg_four _ _ h4]
  have hlt := rdN_lt (l.drop (l.length - 4)) 4
  generalize l.take (l.length - 4) = a at *
  generalize l.drop (l.length - 4) = t at *
  rw [Bool.eq_iff_iff]
  simp only [Bool.and_eq_true, decide_eq_true_eq, beq_iff_eq, h, true_and]
  unfold sum more
  have e2 : ~~~ 0#32 = ones := by decide
  rw [e2]
  constructor
  · intro e
    congr 1
    rw [e, BitVec.ofNat_toNat, BitVec.setWidth_eq, not_xor, ← BitVec.xor_assoc, BitVec.xor_self, BitVec.zero_xor]
  · intro e
    have e3 := tp_inj 32 _ _ e
    have e4 : BitVec.ofNat 32 (rdN t 4) = ~~~ (reg ones a) := by
      rw [not_xor]
      generalize reg ones a = z at e3
      rw [← e3, ← BitVec.xor_assoc, BitVec.xor_self, BitVec.zero_xor]
    rw [← e4, BitVec.toNat_ofNat, Nat.mod_eq_of_lt (by simpa using hlt)]

/-- one byte is turned -/
theorem reg_set (l : List UInt8) : ∀ (r : BitVec 32) (p : Nat) (c d : UInt8), l[p]? = some c → reg r (l.set p (c ^^^ d)) = reg r l ^^^ tp (8 * (l.length - p)) (by8 d) := by
  induction l with
  | nil => intro r p c d h; simp at h
  | cons x l ih =>
    intro r p c d h
    rcases p with _ | p
    · simp at h
      subst h
      show reg (tp 8 (r ^^^ by8 (x ^^^ d))) l = reg (tp 8 (r ^^^ by8 x)) l ^^^ tp (8 * (l.length + 1 - 0)) (by8 d)
      rw [by8_xor, ← BitVec.xor_assoc, tp_xor, reg_xor, ← tp_add]
      congr 2
    · simp at h
      show reg (tp 8 (r ^^^ by8 x)) (l.set p (c ^^^ d)) = reg (tp 8 (r ^^^ by8 x)) l ^^^ _
      rw [ih _ p c d h]
      congr 2
      simp
theorem tp_two (k : Nat) (h : k < 32) : tp k (BitVec.twoPow 32 k) = 1#32 := by
  have : ∀ k : Fin 32, tp k.val (BitVec.twoPow 32 k) = 1#32 := by decide +kernel
  exact this ⟨k, h⟩
theorem by8_two (q : Nat) (h : q < 8) : by8 (UInt8.ofNat (2 ^ q)) = BitVec.twoPow 32 q := by
  have : ∀ q : Fin 8, by8 (UInt8.ofNat (2 ^ q.val)) = BitVec.twoPow 32 q := by decide +kernel
  exact this ⟨q, h⟩
/-- one bit is turned: where it stands in the row of bits is all that counts -/
theorem turn_bit (l : List UInt8) (p q first k : Nat) (hp : p < l.length) (hq : q < 8) (hk : k < 32) (h : first + k = 8 * p + q) :
    tp (8 * (l.length - p)) (by8 (UInt8.ofNat (2 ^ q))) = tp (8 * l.length - first) (BitVec.twoPow 32 k) := by
  rw [by8_two q hq, show 8 * (l.length - p) = (8 * l.length - first - k) + q by omega, tp_add, tp_two q (by omega), show 8 * l.length - first = (8 * l.length - first - k) + k by omega, tp_add, tp_two k hk]
  congr 1
  omega
/-- the first k bits of what is turned -/
def low (b : BitVec 32) (k : Nat) : BitVec 32 := BitVec.ofNat 32 (b.toNat % 2 ^ k)
theorem low_succ (b : BitVec 32) (k : Nat) (h : k < 32) : low b (k + 1) = low b k ^^^ (if b.getLsbD k then BitVec.twoPow 32 k else 0#32) := by
  apply BitVec.eq_of_getLsbD_eq
  intro i hi
  unfold low
  rw [BitVec.getLsbD_xor, BitVec.getLsbD_ofNat, BitVec.getLsbD_ofNat, Nat.testBit_mod_two_pow, Nat.testBit_mod_two_pow]
  rcases hb : b.getLsbD k with _ | _
  · simp only [Bool.false_eq_true, if_false, BitVec.getLsbD_zero, Bool.xor_false]
    rcases Nat.lt_trichotomy i k with h1 | h1 | h1
    · simp [h1, show i < k + 1 by omega]
    · subst h1
      rw [BitVec.getLsbD] at hb
      simp [hb]
    · simp [show ¬ i < k by omega, show ¬ i < k + 1 by omega]
  · simp only [if_true, BitVec.getLsbD_twoPow]
    rcases Nat.lt_trichotomy i k with h1 | h1 | h1
    · simp [h1, show i < k + 1 by omega, show ¬ k = i by omega]
    · subst h1
      rw [BitVec.getLsbD] at hb
      simp [hb, hi]
    · simp [show ¬ i < k by omega, show ¬ i < k + 1 by omega, show ¬ k = i by omega]
theorem low_zero (b : BitVec 32) : low b 0 = 0#32 := by unfold low; rw [Nat.pow_zero, Nat.mod_one]
theorem low_ne (b : BitVec 32) (k : Nat) (h : k ≤ 32) (h0 : 0 < k) (hb : b.getLsbD 0 = true) : low b k ≠ 0#32 := fun e => by
  have e1 := congrArg (BitVec.getLsbD · 0) e
  unfold low at e1
  simp only [BitVec.getLsbD_ofNat, Nat.testBit_mod_two_pow] at e1
  rw [BitVec.getLsbD] at hb
  simp [hb, h0] at e1
/-- the row is turned, bit by bit, beginning at 'first' -/
def turned (r0 : List UInt8) (b : BitVec 32) (first k : Nat) (l : List UInt8) : Prop :=
  l.length = r0.length ∧ reg ones l = reg ones r0 ^^^ tp (8 * r0.length - first) (low b k)
theorem turned_zero (r0 : List UInt8) (b : BitVec 32) (first : Nat) : turned r0 b first 0 r0 := ⟨rfl, by rw [low_zero, tp_zero, BitVec.xor_zero]⟩
theorem turned_same {r0 l : List UInt8} {b : BitVec 32} {first k : Nat} (h : turned r0 b first k l) (hk : k < 32) (hb : b.getLsbD k = false) : turned r0 b first (k + 1) l :=
  ⟨h.1, by rw [low_succ b k hk, hb]; simp [h.2]⟩
theorem turned_bit {r0 l : List UInt8} {b : BitVec 32} {first k p q : Nat} {c : UInt8} (h : turned r0 b first k l) (hk : k < 32) (hb : b.getLsbD k = true) (hp : l[p]? = some c) (hq : q < 8) (hf : first + k = 8 * p + q) :
    turned r0 b first (k + 1) (l.set p (c ^^^ UInt8.ofNat (2 ^ q))) := by
  have hlt : p < l.length := (List.getElem?_eq_some_iff.1 hp).1
  refine ⟨by rw [List.length_set, h.1], ?_⟩
  rw [reg_set l ones p c _ hp, h.2, low_succ b k hk, hb, tp_xor, turn_bit l p q first k hlt hq hk hf, h.1, BitVec.xor_assoc]
  rfl
theorem turned_wrong {r0 l : List UInt8} {b : BitVec 32} {first k : Nat} (h : turned r0 b first k l) (h4 : 4 ≤ r0.length) (hr : right r0 = true) (hk : k ≤ 32) (h0 : 0 < k) (hb : b.getLsbD 0 = true) : right l = false := by
  rw [right_reg r0 h4] at hr
  rw [right_reg l (by rw [h.1]; exact h4), h.2]
  simp only [beq_iff_eq] at hr
  rw [hr]
  rcases hc : (tp 32 ones ^^^ tp (8 * r0.length - first) (low b k) == tp 32 ones) with _ | _
  · rfl
  · exfalso
    simp only [beq_iff_eq] at hc
    have e : tp (8 * r0.length - first) (low b k) = 0#32 := by
      have := congrArg (tp 32 ones ^^^ ·) hc
      simp only [← BitVec.xor_assoc, BitVec.xor_self, BitVec.zero_xor] at this
      exact this
    exact low_ne b k hk h0 hb (tp_eq_zero _ _ e)
end Go.Proofs.YtfabodpefbdbjaaDoor.Cx

/- RcPlain -/

/-
  Layer 8, plain mathematics: records as runs, what bytes begin with, turned bits.
-/
set_option linter.unusedVariables false
set_option linter.unusedSimpArgs false
namespace Go.Proofs.YtfabodpefbdbjaaDoor.Rc
open Go.RowKit

/-- a version of a key -/
structure Rec where
  seq : Int
  kind : Int
  key : List UInt8
  val : List UInt8
  seg : Int
  off : Int

theorem Rec.ext' {a b : Rec} (h1 : a.seq = b.seq) (h2 : a.kind = b.kind) (h3 : a.key = b.key) (h4 : a.val = b.val) (h5 : a.seg = b.seg) (h6 : a.off = b.off) : a = b := by
  cases a; cases b; simp_all

def none : Rec := ⟨0, 0, [], [], 0, 0⟩
/-- the kind, and the value that it may have -/
def kindB (r : Rec) : Bool := decide (r.kind = 1 ∧ r.val.length ≤ 1024) || decide (r.kind = 2 ∧ r.val.length = 0)
def mayB (r : Rec) : Bool := decide (1 ≤ r.seq ∧ r.seq ≤ 1099511627776) && decide (1 ≤ r.key.length ∧ r.key.length ≤ 64) && Lx.mayB r.seg r.off && kindB r
def sizeN (r : Rec) : Nat := 25 + r.key.length + r.val.length
/-- what a head tells, and in how many bytes -/
def told (r : Rec) : List (Nat × Nat) := [(r.kind.toNat, 1), (r.key.length, 1), (r.val.length, 2), (r.seq.toNat, 6), (r.seg.toNat, 3), (r.off.toNat, 4)]
def rowL (l : List (Nat × Nat)) : List UInt8 := l.flatMap fun p => Px.leL p.1 p.2
theorem rowL_snoc (l : List (Nat × Nat)) (p : Nat × Nat) : rowL (l ++ [p]) = rowL l ++ Px.leL p.1 p.2 := by simp [rowL]
def headL (r : Rec) : List UInt8 := rowL (told r)
theorem headL_eq (r : Rec) : headL r = Px.leL r.kind.toNat 1 ++ (Px.leL r.key.length 1 ++ (Px.leL r.val.length 2 ++ (Px.leL r.seq.toNat 6 ++ (Px.leL r.seg.toNat 3 ++ Px.leL r.off.toNat 4)))) := by
  simp [headL, rowL, told]
theorem headL_length (r : Rec) : (headL r).length = 17 := by
  rw [headL_eq]; simp [Px.leL_length]
/-- its run -/
def runL (r : Rec) : List UInt8 := Cx.cover (Cx.cover (headL r) ++ r.key ++ r.val)
theorem runL_length (r : Rec) : (runL r).length = sizeN r := by
  simp [runL, Cx.cover_length, headL_length, sizeN]; omega

/-- as a head tells it -/
def rdR (b : List UInt8) : Rec :=
  { seq := (Px.rdN (b.drop 4) 6 : Nat), kind := (Px.rdN b 1 : Nat), key := List.replicate (Px.rdN (b.drop 1) 1) 0, val := List.replicate (Px.rdN (b.drop 2) 2) 0,
    seg := (Px.rdN (b.drop 10) 3 : Nat), off := (Px.rdN (b.drop 13) 4 : Nat) }
/-- with its key and its value -/
def full (b : List UInt8) : Rec :=
  { rdR b with key := (b.drop 21).take (Px.rdN (b.drop 1) 1), val := (b.drop (21 + Px.rdN (b.drop 1) 1)).take (Px.rdN (b.drop 2) 2) }
/-- what bytes begin with: the record, how many bytes, the error's number -/
def getQ (b : List UInt8) : Rec × Nat × Nat :=
  if b.length < 21 then (none, 0, 22)
  else if Cx.right (b.take 21) = false then (none, 0, 23)
  else if mayB (rdR b) = false then (none, 0, 23)
  else if b.length < sizeN (rdR b) then (none, 0, 22)
  else if Cx.right (b.take (sizeN (rdR b))) = false then (none, sizeN (rdR b), 23)
  else (full b, sizeN (rdR b), 0)

/-- as long, and nothing in it -/
def blank (r : Rec) : Rec := { r with key := List.replicate r.key.length 0, val := List.replicate r.val.length 0 }
theorem mayB_blank (r : Rec) : mayB (blank r) = mayB r := by
  unfold mayB kindB
  rw [show (blank r).key.length = r.key.length by simp [blank], show (blank r).val.length = r.val.length by simp [blank]]
  rfl
theorem sizeN_blank (r : Rec) : sizeN (blank r) = sizeN r := by simp [sizeN, blank]

theorem may_bounds {r : Rec} (h : mayB r = true) : 1 ≤ r.seq ∧ r.seq ≤ 1099511627776 ∧ 1 ≤ r.key.length ∧ r.key.length ≤ 64 ∧ 0 ≤ r.seg ∧ r.seg ≤ 16777215 ∧ 0 ≤ r.off ∧ r.off ≤ 16777216 ∧
    1 ≤ r.kind ∧ r.kind ≤ 2 ∧ r.val.length ≤ 1024 := by
  simp only [mayB, kindB, Lx.mayB, Lx.noneB, Lx.standsB, Bool.and_eq_true, Bool.or_eq_true, decide_eq_true_eq] at h
  omega
theorem may_size {r : Rec} (h : mayB r = true) : 26 ≤ sizeN r ∧ sizeN r ≤ 1113 := by
  have := may_bounds h
  unfold sizeN
  omega

theorem rd_head {r : Rec} (h : mayB r = true) (m : List UInt8) : rdR (headL r ++ m) = blank r := by
  obtain ⟨h1, h2, h3, h4, h5, h6, h7, h8, h9, h10, h11⟩ := may_bounds h
  have e := headL_eq r
  have hl := Px.leL_length
  have d1 : (headL r ++ m).drop 1 = Px.leL r.key.length 1 ++ (Px.leL r.val.length 2 ++ (Px.leL r.seq.toNat 6 ++ (Px.leL r.seg.toNat 3 ++ (Px.leL r.off.toNat 4 ++ m)))) := by
    rw [e]; simp only [List.append_assoc]; exact List.drop_left' (hl _ _)
  have d2 : (headL r ++ m).drop 2 = Px.leL r.val.length 2 ++ (Px.leL r.seq.toNat 6 ++ (Px.leL r.seg.toNat 3 ++ (Px.leL r.off.toNat 4 ++ m))) := by
    rw [show 2 = 1 + 1 by rfl, ← List.drop_drop, d1]; exact List.drop_left' (hl _ _)
  have d4 : (headL r ++ m).drop 4 = Px.leL r.seq.toNat 6 ++ (Px.leL r.seg.toNat 3 ++ (Px.leL r.off.toNat 4 ++ m)) := by
    rw [show 4 = 2 + 2 by rfl, ← List.drop_drop, d2]; exact List.drop_left' (hl _ _)
  have d10 : (headL r ++ m).drop 10 = Px.leL r.seg.toNat 3 ++ (Px.leL r.off.toNat 4 ++ m) := by
    rw [show 10 = 4 + 6 by rfl, ← List.drop_drop, d4]; exact List.drop_left' (hl _ _)
  have d13 : (headL r ++ m).drop 13 = Px.leL r.off.toNat 4 ++ m := by
    rw [show 13 = 10 + 3 by rfl, ← List.drop_drop, d10]; exact List.drop_left' (hl _ _)
  have d0 : headL r ++ m = Px.leL r.kind.toNat 1 ++ (Px.leL r.key.length 1 ++ (Px.leL r.val.length 2 ++ (Px.leL r.seq.toNat 6 ++ (Px.leL r.seg.toNat 3 ++ (Px.leL r.off.toNat 4 ++ m))))) := by
    rw [e]; simp only [List.append_assoc]
  have r0 : Px.rdN (headL r ++ m) 1 = r.kind.toNat := by rw [d0]; exact Px.rdN_fix _ _ _ (Nat.div_eq_of_lt (by simp; omega))
  apply Rec.ext'
  · show ((Px.rdN ((headL r ++ m).drop 4) 6 : Nat) : Int) = r.seq
    rw [d4, Px.rdN_fix _ _ _ (Nat.div_eq_of_lt (by simp; omega))]; omega
  · show ((Px.rdN (headL r ++ m) 1 : Nat) : Int) = r.kind
    rw [r0]; omega
  · show List.replicate (Px.rdN ((headL r ++ m).drop 1) 1) 0 = List.replicate r.key.length 0
    rw [d1, Px.rdN_fix _ _ _ (Nat.div_eq_of_lt (by simp; omega))]
  · show List.replicate (Px.rdN ((headL r ++ m).drop 2) 2) 0 = List.replicate r.val.length 0
    rw [d2, Px.rdN_fix _ _ _ (Nat.div_eq_of_lt (by simp; omega))]
  · show ((Px.rdN ((headL r ++ m).drop 10) 3 : Nat) : Int) = r.seg
    rw [d10, Px.rdN_fix _ _ _ (Nat.div_eq_of_lt (by simp; omega))]; omega
  · show ((Px.rdN ((headL r ++ m).drop 13) 4 : Nat) : Int) = r.off
    rw [d13, Px.rdN_fix _ _ _ (Nat.div_eq_of_lt (by simp; omega))]; omega
theorem rd_lens {r : Rec} (h : mayB r = true) (m : List UInt8) : Px.rdN ((headL r ++ m).drop 1) 1 = r.key.length ∧ Px.rdN ((headL r ++ m).drop 2) 2 = r.val.length := by
  have e := rd_head h m
  have e1 := congrArg (fun r => r.key.length) e
  have e2 := congrArg (fun r => r.val.length) e
  simp [rdR, blank] at e1 e2
  simp [e1, e2]

/-- behind the head -/
def tailL (r : Rec) : List UInt8 := Cx.leL (Cx.sum (headL r)).toNat 4 ++ (r.key ++ (r.val ++ Cx.leL (Cx.sum (Cx.cover (headL r) ++ r.key ++ r.val)).toNat 4))
theorem runL_parts (r : Rec) : runL r = headL r ++ tailL r := by simp [runL, tailL, Cx.cover]
theorem runL_cover (r : Rec) : runL r = Cx.cover (headL r) ++ (r.key ++ (r.val ++ Cx.leL (Cx.sum (Cx.cover (headL r) ++ r.key ++ r.val)).toNat 4)) := by simp [runL, Cx.cover]
theorem cover_head_length (r : Rec) : (Cx.cover (headL r)).length = 21 := by rw [Cx.cover_length, headL_length]

theorem take_head (r : Rec) (k : Nat) (m : List UInt8) (h : 21 ≤ k) : ((runL r).take k ++ m).take 21 = Cx.cover (headL r) := by
  rw [List.take_append_of_le_length (by rw [List.length_take, runL_length]; unfold sizeN; omega), List.take_take, Nat.min_eq_left h, runL_cover]
  exact List.take_left' (cover_head_length r)
theorem take_head' (r : Rec) (m : List UInt8) : (runL r ++ m).take 21 = Cx.cover (headL r) := by
  have := take_head r (runL r).length m (by rw [runL_length]; unfold sizeN; omega)
  rwa [List.take_length] at this
theorem rd_run {r : Rec} (h : mayB r = true) (m : List UInt8) : rdR (runL r ++ m) = blank r := by
  rw [runL_parts, List.append_assoc]; exact rd_head h _
theorem rd_run_take {r : Rec} (h : mayB r = true) (k : Nat) (hk : 21 ≤ k) : rdR ((runL r).take k) = blank r := by
  rw [runL_parts, List.take_append, List.take_of_length_le (by rw [headL_length]; omega)]
  exact rd_head h _
theorem full_run {r : Rec} (h : mayB r = true) (m : List UInt8) : full (runL r ++ m) = r := by
  obtain ⟨l1, l2⟩ := rd_lens h (tailL r ++ m)
  have e : runL r ++ m = headL r ++ (tailL r ++ m) := by rw [runL_parts, List.append_assoc]
  have hd : (runL r ++ m).drop 21 = r.key ++ (r.val ++ (Cx.leL (Cx.sum (Cx.cover (headL r) ++ r.key ++ r.val)).toNat 4 ++ m)) := by
    rw [runL_cover]; simp only [List.append_assoc]; exact List.drop_left' (cover_head_length r)
  have hrd := rd_run h m
  rw [← e] at l1 l2
  unfold full
  rw [l1, l2, hrd, ← List.drop_drop, hd, List.drop_left' rfl, List.take_left' rfl, List.take_left' rfl]
  rfl
/-- a run, whatever stands behind -/
theorem get_run {r : Rec} (h : mayB r = true) (m : List UInt8) : getQ (runL r ++ m) = (r, sizeN r, 0) := by
  have hs := may_size h
  have hl : (runL r ++ m).length = sizeN r + m.length := by rw [List.length_append, runL_length]
  unfold getQ
  rw [rd_run h, mayB_blank, h, sizeN_blank, take_head' r m, Cx.right_cover, full_run h, hl, List.take_left' (runL_length r), if_neg (by omega), if_neg (by simp), if_neg (by simp), if_neg (by omega)]
  rw [show Cx.right (runL r) = true from Cx.right_cover _, if_neg (by simp)]
/-- a beginning of it -/
theorem get_torn {r : Rec} (h : mayB r = true) (k : Nat) (hk : k < sizeN r) : getQ ((runL r).take k) = (none, 0, 22) := by
  have hs := may_size h
  have hl : ((runL r).take k).length = k := by rw [List.length_take, runL_length]; omega
  unfold getQ
  rw [hl]
  by_cases h21 : k < 21
  · rw [if_pos h21]
  · have ht := take_head r k [] (by omega)
    rw [List.append_nil] at ht
    rw [if_neg h21, ht, Cx.right_cover, if_neg (by simp), rd_run_take h k (by omega), mayB_blank, h, if_neg (by simp), sizeN_blank, if_pos hk]

/-- the run is turned, bit by bit, beginning at 'first': the whole, and its head -/
def Turns (R : List UInt8) (b : BitVec 32) (first k : Nat) (l : List UInt8) : Prop :=
  Cx.turned R b first k l ∧ (first < 168 → ∃ k', k' ≤ k ∧ (0 < k → 0 < k') ∧ (first + k ≤ 168 → k' = k) ∧ Cx.turned (R.take 21) b first k' (l.take 21)) ∧ (168 ≤ first → l.take 21 = R.take 21)
theorem Turns.zero (R : List UInt8) (b : BitVec 32) (first : Nat) : Turns R b first 0 R :=
  ⟨Cx.turned_zero R b first, fun _ => ⟨0, by omega, by omega, by omega, Cx.turned_zero _ b first⟩, fun _ => rfl⟩
theorem Turns.same {R l : List UInt8} {b : BitVec 32} {first k : Nat} (h : Turns R b first k l) (hk : k < 32) (hb : b.getLsbD k = false) : Turns R b first (k + 1) l := by
  refine ⟨Cx.turned_same h.1 hk hb, fun hf => ?_, h.2.2⟩
  obtain ⟨k', h1, h2, h3, h4⟩ := h.2.1 hf
  by_cases hc : first + k < 168
  · have e := h3 (by omega)
    subst e
    exact ⟨k' + 1, by omega, by omega, by omega, Cx.turned_same h4 hk hb⟩
  · exact ⟨k', by omega, fun _ => h2 (by omega), by omega, h4⟩
theorem Turns.bit {R l : List UInt8} {b : BitVec 32} {first k p q : Nat} {c : UInt8} (h : Turns R b first k l) (hk : k < 32) (hb : b.getLsbD k = true) (hp : l[p]? = some c) (hq : q < 8) (hf : first + k = 8 * p + q) :
    Turns R b first (k + 1) (l.set p (c ^^^ UInt8.ofNat (2 ^ q))) := by
  have hset : (l.set p (c ^^^ UInt8.ofNat (2 ^ q))).take 21 = if p < 21 then (l.take 21).set p (c ^^^ UInt8.ofNat (2 ^ q)) else l.take 21 := by
    split
    · rw [List.take_set]
    · rw [List.take_set, List.set_eq_of_length_le (by rw [List.length_take]; omega)]
  refine ⟨Cx.turned_bit h.1 hk hb hp hq hf, fun hf1 => ?_, fun hf1 => ?_⟩
  · obtain ⟨k', h1, h2, h3, h4⟩ := h.2.1 hf1
    by_cases hc : first + k < 168
    · have e := h3 (by omega)
      subst e
      rw [hset, if_pos (by omega)]
      exact ⟨k' + 1, by omega, by omega, by omega, Cx.turned_bit h4 hk hb (by rw [List.getElem?_take, if_pos (by omega)]; exact hp) hq hf⟩
    · rw [hset, if_neg (by omega)]
      exact ⟨k', by omega, fun _ => h2 (by omega), by omega, h4⟩
  · rw [hset, if_neg (by omega)]
    exact h.2.2 hf1
/-- of a run of which bits are turned nothing is told but that it is bad -/
theorem get_turned {r : Rec} {b : BitVec 32} {first k : Nat} {l : List UInt8} (h : mayB r = true) (ht : Turns (runL r) b first k l) (hk : k ≤ 32) (h0 : 0 < k) (hb : b.getLsbD 0 = true) (m : List UInt8) :
    getQ (l ++ m) = (none, if first < 168 then 0 else sizeN r, 23) := by
  have hs := may_size h
  have hll : l.length = sizeN r := by rw [ht.1.1, runL_length]
  have hl : (l ++ m).length = sizeN r + m.length := by rw [List.length_append, hll]
  have hh : (runL r).take 21 = Cx.cover (headL r) := by
    have := take_head' r []
    rwa [List.append_nil] at this
  have ht21 : (l ++ m).take 21 = l.take 21 := List.take_append_of_le_length (by omega)
  unfold getQ
  rw [hl, if_neg (by omega), ht21]
  by_cases hf : first < 168
  · obtain ⟨k', h1, h2, _, h4⟩ := ht.2.1 hf
    rw [hh] at h4
    have := Cx.turned_wrong h4 (by rw [cover_head_length]; omega) (Cx.right_cover _) (by omega) (h2 h0) hb
    rw [if_pos this, if_pos hf]
  · have e := ht.2.2 (by omega)
    rw [hh] at e
    have hw := Cx.turned_wrong ht.1 (by rw [runL_length]; omega) (Cx.right_cover _) hk h0 hb
    have hr : rdR (l ++ m) = blank r := by
      have e2 : l ++ m = headL r ++ (Cx.leL (Cx.sum (headL r)).toNat 4 ++ (l.drop 21 ++ m)) := by
        rw [← List.append_assoc, ← List.append_assoc]
        have : headL r ++ Cx.leL (Cx.sum (headL r)).toNat 4 = l.take 21 := e.symm
        rw [this, List.take_append_drop]
      rw [e2]
      exact rd_head h _
    rw [e, Cx.right_cover, if_neg (by simp), hr, mayB_blank, h, if_neg (by simp), sizeN_blank, if_neg (by omega), List.take_left' hll, if_pos hw, if_neg hf]
end Go.Proofs.YtfabodpefbdbjaaDoor.Rc

/- LxPure -/

/-
  Layer 3: the contracts of the functions over locs alone.
-/
set_option linter.unusedVariables false
set_option linter.unusedSimpArgs false
namespace Go.Proofs.YtfabodpefbdbjaaDoor
open Go.RowKit

/-- '==' of locs -/
theorem run_eql_loc (s o s' o' : Int) (w : World) : (binOp .eql 48 (.agg #[.int .u32 s, .int .u32 o]) (.agg #[.int .u32 s', .int .u32 o'])).run Tryd.prog w = .ok (.bool (decide (s = s' ∧ o = o'))) w := by
  have u := Tryd.underlying22
  have a := Tryd.isAgg22
  have z := Tryd.sizeOf22
  have hS : Tryd.prog.underlying 48 = some (.struct (Tryd.prog.fieldsOf 48)) := by kernel_rfl
  have hp : Tryd.prog.stoodInHeld 48 = false := by kernel_rfl
  rw [run_eql_struct, show (10000 : Nat) = 9999 + 1 from rfl, run_equalIn_agg w 9999 48 _ _ hS hp]
  simp only [Program.fieldsOf, Tryd.underlying48]
  go_simp
  by_cases h1 : s = s' <;> by_cases h2 : o = o' <;> simp [h1, h2]

theorem guard_loc : Tryd.prog.eqGuardType Tryd.prog.depth 48 = false := by kernel_rfl

theorem ret_bool {a b : Bool} (h : a = b) : Ending.returned (.bool a) = .returned (.bool b) := by rw [h]
/-- what a box of two cells holds, a call later -/
theorem box2 {w w1 : World} {x y : Value} {t : TypeId} (hb : Below (w.heap.size + 1) (w.alloc (.cells #[x, y] t)) w1) : w1.cell? ⟨w.heap.size, 0, none⟩ = some x ∧ w1.cell? ⟨w.heap.size, 1, none⟩ = some y := by
  refine ⟨(hb.cell (p := ⟨w.heap.size, 0, none⟩) (by simp)).trans (by simp), (hb.cell (p := ⟨w.heap.size, 1, none⟩) (by simp)).trans (by simp)⟩

theorem none_any (s o : Int) (w : World) :
    Calls Tryd.prog 69 #[lv s o] w fun e w' => e = .returned (.bool (Lx.noneB s o)) ∧ Below w.heap.size w w' := by
  unfold lv
  have he := run_eql_loc
  have hg := guard_loc
  go_enter Tryd.func69, Tryd.ntmps69
  go_wp2
  go_ret
  exact ⟨ret_bool (by unfold Lx.noneB; simp), (Below.refl _ _).alloc (Nat.le_refl _) _⟩

set_option maxRecDepth 100000 in
theorem stands_any (s o : Int) (w : World) (h0 : 0 ≤ s) (h1 : s < 4294967296) (h2 : 0 ≤ o) (h3 : o < 4294967296) :
    Calls Tryd.prog 70 #[lv s o] w fun e w' => e = .returned (.bool (Lx.standsB s o)) ∧ Below w.heap.size w w' := by
  unfold lv
  go_enter Tryd.func70, Tryd.ntmps70
  go_wp2
  all_goals go_ret
  all_goals refine ⟨ret_bool ?_, (Below.refl _ _).alloc (Nat.le_refl _) _⟩
  all_goals (unfold Lx.standsB; rw [Bool.eq_iff_iff]; simp; omega)

theorem bstep {a w w' : World} (h : Below a.heap.size a w) (h' : Below w.heap.size w w') : Below a.heap.size a w' := h.trans (h'.mono h.size)
theorem balloc {a w : World} (h : Below a.heap.size a w) (o : Obj) : Below a.heap.size a (w.alloc o) := h.alloc h.size o
theorem bnew (w : World) (o : Obj) : Below w.heap.size w (w.alloc o) := (Below.refl _ _).alloc (Nat.le_refl _) _

theorem none_b (s o : Int) (w : World) (b : Bool) (h : Lx.noneB s o = b) :
    Calls Tryd.prog 69 #[lv s o] w fun e w' => e = .returned (.bool b) ∧ Below w.heap.size w w' := h ▸ none_any s o w
theorem may_any (s o : Int) (w : World) (h0 : 0 ≤ s) (h1 : s < 4294967296) (h2 : 0 ≤ o) (h3 : o < 4294967296) :
    Calls Tryd.prog 62 #[lv s o] w fun e w' => e = .returned (.bool (Lx.mayB s o)) ∧ Below w.heap.size w w' := by
  cases hn : Lx.noneB s o
  · have hm : Lx.mayB s o = Lx.standsB s o := by simp [Lx.mayB, hn]
    rw [hm]
    have Hn := Lib.hid hn
    clear hn hm
    unfold lv
    go_enter Tryd.func62, Tryd.ntmps62
    go_wp2_with fail
    have b0 := bnew w (.cells #[.int .u32 s, .int .u32 o] 48)
    refine (none_b s o _ false Hn.out).mono ?_
    rintro e w1 ⟨rfl, hb⟩
    have b1 := bstep b0 hb
    simp only [World.size_alloc] at hb
    obtain ⟨c0, c1⟩ := box2 hb
    clear hb b0
    go_wp2_with fail
    refine (stands_any s o _ h0 h1 h2 h3).mono ?_
    rintro e w2 ⟨rfl, hb2⟩
    go_wp2_with fail
    go_ret
    exact ⟨rfl, bstep b1 hb2⟩
  · have hm : Lx.mayB s o = true := by simp [Lx.mayB, hn]
    rw [hm]
    have Hn := Lib.hid hn
    clear hn hm
    unfold lv
    go_enter Tryd.func62, Tryd.ntmps62
    go_wp2_with fail
    have b0 := bnew w (.cells #[.int .u32 s, .int .u32 o] 48)
    refine (none_b s o _ true Hn.out).mono ?_
    rintro e w1 ⟨rfl, hb⟩
    have b1 := bstep b0 hb
    clear hb b0
    go_wp2_with fail
    go_ret
    exact ⟨rfl, b1⟩
theorem may_b (s o : Int) (w : World) (h0 : 0 ≤ s) (h1 : s < 4294967296) (h2 : 0 ≤ o) (h3 : o < 4294967296) (b : Bool) (h : Lx.mayB s o = b) :
    Calls Tryd.prog 62 #[lv s o] w fun e w' => e = .returned (.bool b) ∧ Below w.heap.size w w' := h ▸ may_any s o w h0 h1 h2 h3

end Go.Proofs.YtfabodpefbdbjaaDoor

/- KyMem -/

/-
  Layer 4: the walks of May, MayValue, MayName, word.
-/
set_option linter.unusedVariables false
set_option linter.unusedSimpArgs false
namespace Go.Proofs.YtfabodpefbdbjaaDoor
open Go.RowKit

theorem may_yes (A : Option Addr) (n c : Nat) (w : World) (h0 : 0 < n) (h1 : n ≤ 64) :
    Calls Tryd.prog 61 #[.slice A n c] w fun e w' => e = .returned (.bool true) ∧ w = w' := by
  have d0 : (1 : Int) ≤ n := by omega
  have d1 : (n : Int) ≤ 64 := by omega
  go_enter Tryd.func61, Tryd.ntmps61
  go_wp2
  go_ret
  exact ⟨rfl, rfl⟩
theorem may_no (A : Option Addr) (n c : Nat) (w : World) (h : n = 0 ∨ 64 < n) (hb : n ≤ 9223372036854775807) :
    Calls Tryd.prog 61 #[.slice A n c] w fun e w' => e = .returned (.bool false) ∧ w = w' := by
  rcases h with rfl | h
  · go_enter Tryd.func61, Tryd.ntmps61
    go_wp2
    go_ret
    exact ⟨rfl, rfl⟩
  · have d0 : (1 : Int) ≤ n := by omega
    have d1 : decide ((n : Int) ≤ 64) = false := by simp; omega
    go_enter Tryd.func61, Tryd.ntmps61
    go_wp2
    go_ret
    exact ⟨rfl, rfl⟩
/-- 's[:k]' of bytes -/
theorem kcut_h (A : Option Addr) (n c k : Nat) (hk : k ≤ n) (hn : n ≤ c) : ∃ A' c', (∀ w, (Instr.sliceAt 23 (.slice A n c) none (some (.int .i64 (k : Int))) none).run Tryd.prog w = .ok (.slice A' k c') w) ∧
    k ≤ c' ∧ ∀ w B l, l.length = n → Rd w B A (bvs l) → Rd w B A' (bvs (l.take k)) := by
  refine ⟨if c = 0 then A else A.map (·.add 0), c, fun w => ?_, by omega, fun w B l hl hr => ?_⟩
  · rw [run_sliceAt_slice _ 23 _ _ _ _ elBytes, run_slice_h _ 23 A n c elBytes .i64 k (by omega) (by omega)]
    have : (sizeOf (Tryd.prog.elem 23)).run Tryd.prog w = .ok 1 w := by kernel_rfl
    rw [this]
    simp [Result.andThen, sliced]
  · rw [bvs_take]
    have := (hr.cut (k := 0) (cap := c) (by rw [bvs_length]; omega)).take k
    simpa using this
/-- a row as a value that can be handed in -/
theorem may_yes_b (v : Value) (l : List UInt8) (B : Nat) (w : World) (h : Bs w B v l) (h0 : 0 < l.length) (h1 : l.length ≤ 64) :
    Calls Tryd.prog 61 #[v] w fun e w' => e = .returned (.bool true) ∧ w = w' := by
  obtain ⟨A, c, rfl, hc, hr⟩ := h
  exact may_yes _ _ _ _ h0 h1
theorem may_no_b (v : Value) (l : List UInt8) (B : Nat) (w : World) (h : Bs w B v l) (h0 : l.length = 0 ∨ 64 < l.length) (h1 : l.length ≤ 9223372036854775807) :
    Calls Tryd.prog 61 #[v] w fun e w' => e = .returned (.bool false) ∧ w = w' := by
  obtain ⟨A, c, rfl, hc, hr⟩ := h
  exact may_no _ _ _ _ h0 h1
theorem mayValue_any (A : Option Addr) (n c : Nat) (w : World) (b : Bool) (hd : decide ((n : Int) ≤ 1024) = b) (hb : n ≤ 9223372036854775807) :
    Calls Tryd.prog 60 #[.slice A n c] w fun e w' => e = .returned (.bool b) ∧ w = w' := by
  have Hd := Lib.hid hd
  clear hd
  go_enter Tryd.func60, Tryd.ntmps60
  go_wp2
  go_ret
  exact ⟨by rw [← Hd.out]; rfl, rfl⟩
end Go.Proofs.YtfabodpefbdbjaaDoor

/- RcMem -/

/-
  Layer 8: records as values; the walks of May, Size, Same.
-/
set_option linter.unusedVariables false
set_option linter.unusedSimpArgs false
namespace Go.Proofs.YtfabodpefbdbjaaDoor
open Go.RowKit

/-- a record as a value -/
def recV (seq kind : Int) (kv vv : Value) (seg off : Int) : Value := .agg #[.int .u64 seq, .int .i64 kind, kv, vv, .int .u32 seg, .int .u32 off]
/-- numbers that their types have -/
structure Rc.Fit (r : Rc.Rec) : Prop where
  seq0 : 0 ≤ r.seq
  seq1 : r.seq < 18446744073709551616
  kind0 : -9223372036854775808 ≤ r.kind
  kind1 : r.kind < 9223372036854775808
  seg0 : 0 ≤ r.seg
  seg1 : r.seg < 4294967296
  off0 : 0 ≤ r.off
  off1 : r.off < 4294967296
  key1 : r.key.length ≤ 9223372036854775807
  val1 : r.val.length ≤ 9223372036854775807
theorem Rc.fit_may {r : Rc.Rec} (h : Rc.mayB r = true) : Rc.Fit r := by
  have := Rc.may_bounds h
  constructor <;> omega
/-- the value v is the record r -/
def RecV (w : World) (B : Nat) (v : Value) (r : Rc.Rec) : Prop := ∃ kv vv, v = recV r.seq r.kind kv vv r.seg r.off ∧ Bs w B kv r.key ∧ Bs w B vv r.val
section
variable {w w' : World} {B B' : Nat} {v : Value} {r : Rc.Rec}
theorem RecV.mono (h : RecV w B v r) (hB : B ≤ B') : RecV w B' v r := by
  obtain ⟨kv, vv, e, h1, h2⟩ := h
  exact ⟨kv, vv, e, h1.mono hB, h2.mono hB⟩
theorem RecV.below {C : Nat} (h : RecV w B v r) (hb : Below C w w') (hC : B ≤ C) : RecV w' B v r := by
  obtain ⟨kv, vv, e, h1, h2⟩ := h
  exact ⟨kv, vv, e, h1.below hb hC, h2.below hb hC⟩
theorem RecV.on (h : RecV w w.heap.size v r) (hb : Below w.heap.size w w') : RecV w' w'.heap.size v r := (h.below hb (Nat.le_refl _)).mono hb.size
theorem RecV.none_ : RecV w B (recV 0 0 (.slice Option.none 0 0) (.slice Option.none 0 0) 0 0) Rc.none := ⟨_, _, rfl, Bs.none_, Bs.none_⟩
end

/-- what a box of a record holds, a call later -/
theorem box6 {w w1 : World} {C : Nat} {x0 x1 x2 x3 x4 x5 : Value} {t : TypeId} (hb : Below C (w.alloc (.cells #[x0, x1, x2, x3, x4, x5] t)) w1) (hC : w.heap.size < C) :
    w1.cell? ⟨w.heap.size, 0, none⟩ = some x0 ∧ w1.cell? ⟨w.heap.size, 1, none⟩ = some x1 ∧ w1.cell? ⟨w.heap.size, 2, none⟩ = some x2 ∧ w1.cell? ⟨w.heap.size, 3, none⟩ = some x3 ∧ w1.cell? ⟨w.heap.size, 4, none⟩ = some x4 ∧ w1.cell? ⟨w.heap.size, 5, none⟩ = some x5 := by
  refine ⟨?_, ?_, ?_, ?_, ?_, ?_⟩
  all_goals exact (hb.cell (p := ⟨w.heap.size, _, none⟩) hC).trans (by simp)
theorem box6f {w w1 : World} {C : Nat} {x0 x1 x2 x3 x4 x5 : Value} {t : TypeId} (hb : Below C (w.alloc (.cells #[x0, x1, x2, x3, x4, x5] t)) w1) (hC : w.heap.size < C) :
    w1.frozen? ⟨w.heap.size, 0, none⟩ = false ∧ w1.frozen? ⟨w.heap.size, 1, none⟩ = false ∧ w1.frozen? ⟨w.heap.size, 2, none⟩ = false ∧ w1.frozen? ⟨w.heap.size, 3, none⟩ = false ∧ w1.frozen? ⟨w.heap.size, 4, none⟩ = false ∧ w1.frozen? ⟨w.heap.size, 5, none⟩ = false := by
  refine ⟨?_, ?_, ?_, ?_, ?_, ?_⟩
  all_goals exact (hb.frozen (p := ⟨w.heap.size, _, none⟩) hC).trans (by simp)

/-- the closure -/
theorem wrong_any (r : Rc.Rec) (w : World) (b B : Nat) (vv : Value) (c1 : w.cell? ⟨b, 1, none⟩ = some (.int .i64 r.kind)) (c3 : w.cell? ⟨b, 3, none⟩ = some vv) (hv : Bs w B vv r.val) (hl : r.val.length ≤ 9223372036854775807) :
    Calls Tryd.prog 59 #[.pointer (some ⟨b, 0, none⟩)] w fun e w' => e = .returned (.bool (!Rc.kindB r)) ∧ w = w' := by
  obtain ⟨A, c, rfl, _, _⟩ := hv
  generalize hn : r.val.length = n at *
  by_cases k1 : r.kind = 1
  · rw [k1] at c1
    obtain ⟨q, hq⟩ : ∃ q, decide ((n : Int) ≤ 1024) = q := ⟨_, rfl⟩
    have hr : Rc.kindB r = q := by unfold Rc.kindB; rw [← hq, k1, hn, Bool.eq_iff_iff]; simp; omega
    rw [hr]
    have hc := mayValue_any A n c w q hq (by omega)
    clear hr hq
    go_enter Tryd.func59, Tryd.ntmps59
    go_wp2_with fail
    refine hc.mono ?_
    rintro e w1 ⟨rfl, rfl⟩
    go_wp2_with fail
    go_ret
    exact ⟨rfl, rfl⟩
  · by_cases k2 : r.kind = 2
    · rw [k2] at c1
      have hr : (!Rc.kindB r) = ((n : Int) != 0) := by unfold Rc.kindB; rw [k2, hn, Bool.eq_iff_iff]; simp
      rw [hr]
      clear hr
      go_enter Tryd.func59, Tryd.ntmps59
      go_wp2_with fail
      go_ret
      exact ⟨rfl, rfl⟩
    · have hr : (!Rc.kindB r) = true := by unfold Rc.kindB; simp [k1, k2]
      rw [hr]
      have e1 : (r.kind == 1) = false := by simp [k1]
      have e2 : (r.kind == 2) = false := by simp [k2]
      clear hr
      go_enter Tryd.func59, Tryd.ntmps59
      go_wp2_with fail
      go_ret
      exact ⟨rfl, rfl⟩

theorem may_false {r : Rc.Rec} (h : decide (1 ≤ r.seq) = false ∨ decide (r.seq ≤ 1099511627776) = false ∨ (r.key.length = 0 ∨ 64 < r.key.length) ∨ Lx.mayB r.seg r.off = false ∨ Rc.kindB r = false) : Rc.mayB r = false := by
  rcases h with h | h | h | h | h
  · simp [Rc.mayB] at h ⊢; omega
  · simp [Rc.mayB] at h ⊢; omega
  · unfold Rc.mayB
    have : decide (1 ≤ r.key.length ∧ r.key.length ≤ 64) = false := by simp; omega
    rw [this]; simp
  · unfold Rc.mayB; rw [h]; simp
  · unfold Rc.mayB; rw [h]; simp
theorem rmay_v (r : Rc.Rec) (w : World) (kv vv : Value) (hk : Bs w w.heap.size kv r.key) (hv : Bs w w.heap.size vv r.val) (f : Rc.Fit r) :
    Calls Tryd.prog 49 #[recV r.seq r.kind kv vv r.seg r.off] w fun e w' => e = .returned (.bool (Rc.mayB r)) ∧ Below w.heap.size w w' := by
  have b0 := bnew w (.cells #[.int .u64 r.seq, .int .i64 r.kind, kv, vv, .int .u32 r.seg, .int .u32 r.off] 50)
  have f0 := f.seq0
  have f1 := f.seq1
  by_cases s1 : 1 ≤ r.seq
  · by_cases s2 : r.seq ≤ 1099511627776
    · by_cases s3 : 1 ≤ r.key.length ∧ r.key.length ≤ 64
      · cases s4 : Lx.mayB r.seg r.off
        · rw [may_false (.inr (.inr (.inr (.inl s4))))]
          have S4 := Lib.hid s4
          clear s4
          unfold recV
          go_enter Tryd.func49, Tryd.ntmps49
          go_wp2_with fail
          refine (may_yes_b _ _ _ _ (hk.alloc (Nat.le_refl _) _) s3.1 s3.2).mono ?_
          rintro e w1 ⟨rfl, rfl⟩
          go_wp2_with fail
          refine (may_b _ _ _ f.seg0 f.seg1 f.off0 f.off1 _ S4.out).mono ?_
          rintro e w1 ⟨rfl, b1⟩
          go_wp2_with fail
          go_ret
          exact ⟨rfl, bstep b0 b1⟩
        · have hm : Rc.mayB r = Rc.kindB r := by
            unfold Rc.mayB
            rw [s4, show decide (1 ≤ r.seq ∧ r.seq ≤ 1099511627776) = true by simp; omega, show decide (1 ≤ r.key.length ∧ r.key.length ≤ 64) = true by simp; omega]
            simp
          rw [hm]
          have S4 := Lib.hid s4
          clear s4 hm
          unfold recV
          go_enter Tryd.func49, Tryd.ntmps49
          go_wp2_with fail
          refine (may_yes_b _ _ _ _ (hk.alloc (Nat.le_refl _) _) s3.1 s3.2).mono ?_
          rintro e w1 ⟨rfl, rfl⟩
          go_wp2_with fail
          refine (may_b _ _ _ f.seg0 f.seg1 f.off0 f.off1 _ S4.out).mono ?_
          rintro e w1 ⟨rfl, b1⟩
          go_wp2_with fail
          obtain ⟨c0, c1, c2, c3, c4, c5⟩ := box6 b1 (by simp)
          refine (wrong_any r _ _ _ vv c1 c3 ((hv.below b0 (Nat.le_refl _)).below b1 (by simp)) f.val1).mono ?_
          rintro e w2 ⟨rfl, rfl⟩
          go_wp2_with fail
          go_ret
          exact ⟨ret_bool (by simp), bstep b0 b1⟩
      · rw [may_false (.inr (.inr (.inl (by omega))))]
        have s4 : r.key.length = 0 ∨ 64 < r.key.length := by omega
        unfold recV
        go_enter Tryd.func49, Tryd.ntmps49
        go_wp2_with fail
        refine (may_no_b _ _ _ _ (hk.alloc (Nat.le_refl _) _) s4 (by have := f.key1; omega)).mono ?_
        rintro e w1 ⟨rfl, rfl⟩
        go_wp2_with fail
        go_ret
        exact ⟨rfl, b0⟩
    · have d2 : decide (r.seq ≤ 1099511627776) = false := by simp; omega
      rw [may_false (.inr (.inl d2))]
      unfold recV
      go_enter Tryd.func49, Tryd.ntmps49
      go_wp2_with fail
      go_ret
      exact ⟨rfl, b0⟩
  · have d1 : decide (1 ≤ r.seq) = false := by simp; omega
    rw [may_false (.inl d1)]
    unfold recV
    go_enter Tryd.func49, Tryd.ntmps49
    go_wp2_with fail
    go_ret
    exact ⟨rfl, b0⟩
theorem rmay_b (v : Value) (r : Rc.Rec) (B : Nat) (w : World) (h : RecV w B v r) (hB : B ≤ w.heap.size) (f : Rc.Fit r) :
    Calls Tryd.prog 49 #[v] w fun e w' => e = .returned (.bool (Rc.mayB r)) ∧ Below w.heap.size w w' := by
  obtain ⟨kv, vv, rfl, h1, h2⟩ := h.mono hB
  exact rmay_v r w kv vv h1 h2 f

/-- Size -/
theorem rsize_b (v : Value) (r : Rc.Rec) (B : Nat) (w : World) (h : RecV w B v r) (f1 : r.key.length ≤ 100000) (f2 : r.val.length ≤ 100000) :
    Calls Tryd.prog 50 #[v] w fun e w' => e = .returned (.int .i64 (Rc.sizeN r : Nat)) ∧ Below w.heap.size w w' := by
  obtain ⟨kv, vv, rfl, ⟨A, c, rfl, _, _⟩, ⟨A', c', rfl, _, _⟩⟩ := h
  have b0 := bnew w (.cells #[.int .u64 r.seq, .int .i64 r.kind, .slice A r.key.length c, .slice A' r.val.length c', .int .u32 r.seg, .int .u32 r.off] 50)
  unfold recV Rc.sizeN
  go_enter Tryd.func50, Tryd.ntmps50
  go_wp2_with fail
  go_ret
  exact ⟨ret_int (by omega), b0⟩
end Go.Proofs.YtfabodpefbdbjaaDoor

/- RcHead -/

/-
  Layer 8: the walk of head.
-/
set_option linter.unusedVariables false
set_option linter.unusedSimpArgs false
namespace Go.Proofs.YtfabodpefbdbjaaDoor
open Go.RowKit

/-- the table, read as a whole -/
theorem width_at (i : Nat) (z n : Int) (hz : z = i) (h : [(1 : Int), 1, 2, 6, 3, 4][i]? = some n) (w : World) : (Instr.index 119 (.agg #[.int .i64 1, .int .i64 1, .int .i64 2, .int .i64 6, .int .i64 3, .int .i64 4]) (.int .i64 z)).run Tryd.prog w = .ok (.int .i64 n) w := by
  subst hz
  rcases i with _ | _ | _ | _ | _ | _ | i
  · cases h; kernel_rfl
  · cases h; kernel_rfl
  · cases h; kernel_rfl
  · cases h; kernel_rfl
  · cases h; kernel_rfl
  · cases h; kernel_rfl
  · simp at h
/-- the table of the fields' widths -/
def WTab (w : World) : Prop := w.cell? ⟨0, 0, none⟩ = some (.int .i64 1) ∧ w.cell? ⟨0, 1, none⟩ = some (.int .i64 1) ∧ w.cell? ⟨0, 2, none⟩ = some (.int .i64 2) ∧
  w.cell? ⟨0, 3, none⟩ = some (.int .i64 6) ∧ w.cell? ⟨0, 4, none⟩ = some (.int .i64 3) ∧ w.cell? ⟨0, 5, none⟩ = some (.int .i64 4)
theorem WTab.lt {w : World} (h : WTab w) : 0 < w.heap.size := block_lt_of_cell h.1
theorem WTab.on {w w' : World} (h : WTab w) (hb : Below w.heap.size w w') : WTab w' := by
  have hl := h.lt
  obtain ⟨h0, h1, h2, h3, h4, h5⟩ := h
  exact ⟨(hb.cell (p := ⟨_, 0, none⟩) hl).trans h0, (hb.cell (p := ⟨_, 1, none⟩) hl).trans h1, (hb.cell (p := ⟨_, 2, none⟩) hl).trans h2, (hb.cell (p := ⟨_, 3, none⟩) hl).trans h3, (hb.cell (p := ⟨_, 4, none⟩) hl).trans h4, (hb.cell (p := ⟨_, 5, none⟩) hl).trans h5⟩

end Go.Proofs.YtfabodpefbdbjaaDoor

/- CxPure -/

/-
  Layer 2: the walks of the functions that only compute with numbers.
-/
set_option linter.unusedVariables false
set_option linter.unusedSimpArgs false
namespace Go.Proofs.YtfabodpefbdbjaaDoor.Crc
open Go.RowKit

theorem ret_int {k : IntKind} {a b : Int} (h : a = b) : Ending.returned (.int k a) = .returned (.int k b) := by rw [h]

/-- numbers of 32 bits, as the walk spells what is done with them -/
theorem b_xor (x y : BitVec 32) : bits .xor .u32 (x.toNat : Int) (y.toNat : Int) = ((x ^^^ y).toNat : Int) := by
  rw [u32_xor_nat _ _ x.isLt y.isLt, BitVec.toNat_xor]
theorem b_shr4 (x : BitVec 32) : (x.toNat : Int) / (16 : Int) = ((x >>> 4).toNat : Int) := by
  rw [BitVec.toNat_ushiftRight, Nat.shiftRight_eq_div_pow]; simp
end Go.Proofs.YtfabodpefbdbjaaDoor.Crc

/- CxMem -/

/-
  Layer 2: the walks of the functions that read and make rows: More, Sum, squares, product, Power, Join.
-/
set_option linter.unusedVariables false
set_option linter.unusedSimpArgs false
namespace Go.Proofs.YtfabodpefbdbjaaDoor.Crc
open Go.RowKit

theorem byte_info : (Tryd.prog.info? 5).map (fun i => (i.zero, i.size, i.bytes)) = some (some (.int .u8 0), 1, 1) := by kernel_rfl
/-- the table of a half byte's steps lies where it was laid -/
def Tab (w : World) : Prop := ∀ i, i < 16 → w.cell? ⟨1, i, none⟩ = some (.int .u32 ((Cx.tab i).toNat : Int))
theorem Tab.below {w w' : World} {B : Nat} (h : Tab w) (hb : Below B w w') (hB : 1 < B) : Tab w' := fun i hi =>
  (hb.cell (p := ⟨1, i, none⟩) hB).trans (h i hi)
theorem Tab.lt {w : World} (h : Tab w) : 1 < w.heap.size := block_lt_of_cell (h 0 (by omega))
theorem Tab.on {w w' : World} (h : Tab w) (hb : Below w.heap.size w w') : Tab w' := h.below hb h.lt

theorem b_and15 (x : BitVec 32) : bits .and .u32 (x.toNat : Int) 15 = ((x.toNat % 16 : Nat) : Int) := by
  rw [show (15 : Int) = ((15 : Nat) : Int) by rfl, u32_and_nat _ _ x.isLt (by omega), nat_mask4]
theorem b_by8 (c : UInt8) : (c.toNat : Int) = ((Cx.by8 c).toNat : Int) := by
  have := c.toNat_lt
  unfold Cx.by8
  rw [BitVec.toNat_ofNat, Nat.mod_eq_of_lt (by omega)]

/-- a half byte's step, as the walk meets it -/
theorem half_step (w : World) (ht : Tab w) (x : BitVec 32) : ∃ (k : Nat) (y t z : BitVec 32), k < 16 ∧ bits .and .u32 (x.toNat : Int) 15 = (k : Int) ∧ (x.toNat : Int) / 16 = (y.toNat : Int) ∧
    w.cell? ⟨1, k, none⟩ = some (.int .u32 (t.toNat : Int)) ∧ bits .xor .u32 (y.toNat : Int) (t.toNat : Int) = (z.toNat : Int) ∧ z = Cx.tp 4 x :=
  ⟨x.toNat % 16, x >>> 4, Cx.tab (x.toNat % 16), _, Nat.mod_lt _ (by omega), b_and15 x, b_shr4 x, ht _ (Nat.mod_lt _ (by omega)), b_xor _ _, (Cx.tp4 x).symm⟩
theorem b_not' (x : BitVec 32) : bits .xor .u32 IntKind.u32.max (x.toNat : Int) = ((~~~ x).toNat : Int) := by
  rw [show IntKind.u32.max = (Cx.ones.toNat : Int) by rfl, b_xor, Cx.not_xor, BitVec.xor_comm]
theorem not_letter (x : BitVec 32) : ∃ y : BitVec 32, bits .xor .u32 IntKind.u32.max (x.toNat : Int) = (y.toNat : Int) ∧ y = ~~~ x := ⟨_, b_not' x, rfl⟩

theorem more_any (A : Option Addr) (l : List UInt8) (c B : Nat) (s : BitVec 32) (w : World) (h : Rd w B A (bvs l)) (ht : Tab w) (hm : l.length ≤ 9223372036854775807) :
    Calls Tryd.prog 68 #[.int .u32 s.toNat, .slice A l.length c] w fun e w' => e = .returned (.int .u32 (Cx.more s l).toNat) ∧ w = w' := by
  have Hh := Lib.hid h
  have Ht := Lib.hid ht
  clear h ht
  have h0 := s.isLt
  obtain ⟨ns, hns, hns'⟩ := not_letter s
  have Hns := Lib.hid hns'
  clear hns'
  have hsg : IntKind.u32.signed = false := rfl
  go_enter Tryd.func68, Tryd.ntmps68
  go_wp2_with fail
  clear hns
  go_loopg [5, 12] l.length (fun k r i wr => w = wr ∧ ∃ (j : Nat), j + k = l.length ∧ i = .int .i64 j ∧ r = .int .u32 (Cx.reg ns (l.take j)).toNat)
  case atStart => exact ⟨rfl, 0, by omega, rfl, rfl⟩
  case round =>
    obtain ⟨rfl, j, hj, rfl, rfl⟩ := hrel
    by_cases hlt : j < l.length
    · obtain ⟨bb, o, rfl, hbb, hc⟩ := Hh.out (by intro e; have := congrArg List.length e; simp [bvs] at this; subst this; simp at hlt)
      have hcell := hc j _ (bvs_get l j hlt)
      unfold bv at hcell
      have hy := UInt8.toNat_lt l[j]
      generalize hr : Cx.reg ns (l.take j) = r
      have Hr := Lib.hid hr
      clear hr hc
      have h1 := b_xor r (Cx.by8 l[j])
      rw [← b_by8] at h1
      generalize hx1 : r ^^^ Cx.by8 l[j] = x1 at h1
      obtain ⟨k1, y1, t1, x2, a1, a2, a3, a4, a5, a6⟩ := half_step w Ht.out x1
      obtain ⟨k2, y2, t2, x3, b1, b2, b3, b4, b5, b6⟩ := half_step w Ht.out x2
      have Hx1 := Lib.hid hx1
      have A6 := Lib.hid a6
      have B6 := Lib.hid b6
      clear hx1 a6 b6
      go_wp2_with fail
      go_roundg (gk - 1)
      case measure => omega
      case rel =>
        refine ⟨rfl, j + 1, by omega, by go_num, ?_⟩
        rw [List.take_succ_eq_append_getElem hlt, Cx.reg_snoc, Hr.out, Hx1.out, B6.out, A6.out, ← Cx.tp_add]
    · obtain rfl : j = l.length := by omega
      rw [List.take_length]
      obtain ⟨nr, hnr, hnr'⟩ := not_letter (Cx.reg ns l)
      have Hnr := Lib.hid hnr'
      clear hnr'
      go_wp2_with fail
      go_ret
      refine ⟨ret_int ?_, rfl⟩
      rw [Hnr.out, Hns.out]
      rfl

theorem sum_any (A : Option Addr) (l : List UInt8) (c B : Nat) (w : World) (h : Rd w B A (bvs l)) (ht : Tab w) (hm : l.length ≤ 9223372036854775807) :
    Calls Tryd.prog 58 #[.slice A l.length c] w fun e w' => e = .returned (.int .u32 (Cx.sum l).toNat) ∧ w = w' := by
  have hc := more_any A l c B 0#32 w h ht hm
  go_enter Tryd.func58, Tryd.ntmps58
  go_wp2_with fail
  refine hc.mono ?_
  rintro e w' ⟨rfl, rfl⟩
  go_wp2_with fail
  go_ret
  exact ⟨rfl, rfl⟩

end Go.Proofs.YtfabodpefbdbjaaDoor.Crc

/- CxCov -/

/-
  Layer 2: the walks of Cover and Right, and of the chapter's rows ('knows').
-/
set_option linter.unusedVariables false
set_option linter.unusedSimpArgs false
namespace Go.Proofs.YtfabodpefbdbjaaDoor.Crc
open Go.RowKit

theorem dg_val (s : BitVec 32) (j : Nat) : ∃ d : UInt8, (s.toNat : Int) / 2 ^ (8 * j) % 256 = (d.toNat : Int) ∧ d = Cx.dg s.toNat j :=
  ⟨_, by rw [Cx.dg_toNat]; simp, rfl⟩

set_option maxRecDepth 100000 in
theorem cover_any (A : Option Addr) (l : List UInt8) (c : Nat) (w : World) (h : Rd w w.heap.size A (bvs l)) (ht : Tab w) (hm : l.length + 4 ≤ 140737488355328) :
    Calls Tryd.prog 57 #[.slice A l.length c] w fun e w' => ∃ v, e = .returned v ∧ w'.ownsRow w.heap.size 5 1 v (l.length + 4) (bvs (Cx.cover l)) ∧ Below w.heap.size w w' := by
  obtain ⟨i0, hi0, hz0, hz1, hz2⟩ := info_parts byte_info
  have Hh := Lib.hid h
  have Ht := Lib.hid ht
  clear h ht
  go_enter Tryd.func57, Tryd.ntmps57
  go_wp2_with (first
    | (at_make
       refine wpList_make_own _ rfl _ _ 23 rfl w.heap.size 5 i0 (.int .u8 0) 1 Tryd.underlying23 hi0 hz0 hz1 .i64 .i64 _ (l.length + 4) rfl rfl (by omega) (by rw [hz2]; omega) (by unfold maxLen; omega) (Nat.le_refl _) ?_
       intro w0 hown0 hgrow0)
    | (at_builtin
       refine wpList_append_rd _ rfl _ _ 23 rfl w.heap.size 5 i0 (.int .u8 0) 1 1 Tryd.underlying23 hi0 hz0 hz1 hz2 rfl (by omega) (Value.slice (some { block := w.heap.size, off := 0 }) 0 (l.length + 4)) 0 [] rfl hown0 w.heap.size A l.length c (bvs l) rfl (by simp [bvs]) (Hh.out.grown hgrow0 (Nat.le_refl _) (by simp)) (bvs_one l) (by unfold maxLen; omega) (by omega) hgrow0.size ?_
       intro v1 w1 hown1 hbw1 _ _))
  have hb0 : Below w.heap.size w w1 := ((Below.refl _ _).grown hgrow0 (Nat.le_refl _) (by simp)).trans hbw1
  rw [Nat.zero_add, List.nil_append] at hown1
  refine (sum_any A l c w.heap.size w1 (Hh.out.below hb0 (Nat.le_refl _)) (Ht.out.on hb0) (by omega)).mono ?_
  rintro e w2 ⟨rfl, rfl⟩
  generalize hs : Cx.sum l = s
  have Hs := Lib.hid hs
  clear hs hbw1 hgrow0 hown0
  go_wp2_with fail
  go_loopg [3, 15] 4 (fun k o i wr => ∃ j : Nat, j + k = 4 ∧ i = .int .i64 j ∧ wr.ownsRow w.heap.size 5 1 o (l.length + j) (bvs (l ++ Cx.leL s.toNat j)) ∧ Below w.heap.size w wr)
  case atStart => exact ⟨0, by omega, rfl, by simpa [Cx.leL] using hown1, hb0⟩
  case round =>
    obtain ⟨j, hj, rfl, hown2, hb2⟩ := hrel
    by_cases hlt : j < 4
    · obtain ⟨d, hd, hd'⟩ := dg_val s j
      have Hd := Lib.hid hd'
      clear hd'
      go_wp2_with (at_builtin; (refine wpList_append_1 _ rfl _ _ 23 rfl w.heap.size 5 i0 (.int .u8 0) 1 Tryd.underlying23 hi0 hz0 hz1 hz2 rfl u3 (l.length + j) (bvs (l ++ Cx.leL s.toNat j)) rfl (hown2.alloc _) _ 1 (.int .u8 (d.toNat : Int)) rfl (by first | exact cell_new1 _ _ _ | (rw [hd]; exact cell_new1 _ _ _)) rfl (by unfold maxLen; omega) (by omega) (by have := hb2.size; simp; omega) ?_); intro v2 w2 hown3 hbw2 _ _)
      go_roundg (gk - 1)
      case measure => omega
      case rel => exact ⟨j + 1, by omega, by go_num, by rw [Cx.leL_succ, ← List.append_assoc, bvs_append, ← Hd.out]; exact hown3, (hb2.alloc hb2.size _).trans hbw2⟩
    · obtain rfl : j = 4 := by omega
      go_wp2_with fail
      go_ret
      refine ⟨_, rfl, ?_, hb2⟩
      rw [Cx.cover, Hs.out]
      exact hown2

theorem ret_bool {a b : Bool} (h : a = b) : Ending.returned (.bool a) = .returned (.bool b) := by rw [h]
theorem int_beq (a b : Nat) : ((a : Int) == (b : Int)) = (a == b) := by
  rw [Bool.eq_iff_iff]
  simp
  omega
theorem or_rd (t : List UInt8) (j : Nat) (hj : j < 4) : ∃ z : Nat, bits .or .u32 (Cx.rdN t j : Int) (((t.getD j 0).toNat : Int) * 2 ^ (8 * j) % 4294967296) = (z : Int) ∧ z = Cx.rdN t (j + 1) := by
  have h1 := Cx.rdN_lt t j
  have h2 := Cx.rdN_lt t (j + 1)
  have h4 : 2 ^ (8 * (j + 1)) ≤ 2 ^ 32 := Nat.pow_le_pow_right (by omega) (by omega)
  simp only [Cx.rdN] at h2
  have e : ((t.getD j 0).toNat : Int) * 2 ^ (8 * j) % 4294967296 = (((t.getD j 0).toNat * 2 ^ (8 * j) : Nat) : Int) := by
    rw [show (((t.getD j 0).toNat : Int) * 2 ^ (8 * j)) = (((t.getD j 0).toNat * 2 ^ (8 * j) : Nat) : Int) by simp]
    omega
  refine ⟨_, ?_, rfl⟩
  rw [e, u32_or_nat _ _ (by omega) (by omega), Nat.or_comm, nat_join (8 * j) _ _ (Nat.mul_mod_left _ _) h1, Nat.add_comm]
  rfl

theorem right_short (A : Option Addr) (n c : Nat) (w : World) (h : n < 4) :
    Calls Tryd.prog 46 #[.slice A n c] w fun e w' => e = .returned (.bool false) ∧ w = w' := by
  go_enter Tryd.func46, Tryd.ntmps46
  go_wp2_with fail
  go_ret
  exact ⟨rfl, rfl⟩
theorem right_long (A : Option Addr) (l : List UInt8) (c B : Nat) (w : World) (h : Rd w B A (bvs l)) (hc : l.length ≤ c) (ht : Tab w) (hm : l.length ≤ 9223372036854775807) (h4 : 4 ≤ l.length) :
    Calls Tryd.prog 46 #[.slice A l.length c] w fun e w' => e = .returned (.bool (Cx.right l)) ∧ w = w' := by
  obtain ⟨n, hn⟩ : ∃ n, l.length = n + 4 := ⟨l.length - 4, by omega⟩
  obtain ⟨b, o, rfl, hbB, hcell⟩ := h (by intro e; have := congrArg List.length e; simp [bvs] at this; subst this; simp at h4)
  have Hcell := Lib.hid hcell
  have Ht := Lib.hid ht
  clear hcell ht
  have hsum := sum_any (some ⟨b, o, none⟩) (l.take n) c B w (fun hx => ⟨b, o, rfl, hbB, fun j u hu => Hcell.out j u (by
    rw [bvs_take] at hu
    rw [List.getElem?_take] at hu
    split at hu
    · exact hu
    · cases hu)⟩) Ht.out (by rw [List.length_take]; omega)
  rw [List.length_take, show min n l.length = n by omega] at hsum
  have Hsum := Lib.hid hsum
  clear hsum
  have Hn := Lib.hid hn
  rw [hn] at hc hm ⊢
  clear hn h4 h
  have hnc : ¬ (c = n) := by omega
  go_enter Tryd.func46, Tryd.ntmps46
  go_wp2_with fail
  have Ht4 := Lib.hid (show (l.drop n).length = 4 by rw [List.length_drop, Hn.out]; omega)
  have Hct := Lib.hid (show ∀ j, j < 4 → w.cell? ⟨b, o + n + j, none⟩ = some (.int .u8 (((l.drop n).getD j 0).toNat : Int)) from fun j hj => by
    have hlt : n + j < l.length := by rw [Hn.out]; omega
    have := Hcell.out (n + j) _ (bvs_get l (n + j) hlt)
    rw [Nat.add_assoc, this]
    unfold bv
    have e : (l.drop n).getD j 0 = l[n + j] := by rw [List.getD_eq_getElem?_getD, List.getElem?_drop, List.getElem?_eq_getElem hlt]; rfl
    rw [e])
  have Hright := Lib.hid (show Cx.right l = (Cx.rdN (l.drop n) 4 == (Cx.sum (l.take n)).toNat) by
    unfold Cx.right
    rw [show l.length - 4 = n by rw [Hn.out]; omega]
    have : decide (4 ≤ l.length) = true := by simp; rw [Hn.out]; omega
    rw [this, Bool.true_and])
  generalize l.drop n = t at Ht4 Hct Hright
  generalize Cx.sum (l.take n) = s at Hsum Hright
  clear Hcell
  go_loopg [4, 17] 4 (fun k a i wr => w = wr ∧ ∃ j : Nat, j + k = 4 ∧ i = .int .i64 j ∧ a = .int .u32 (Cx.rdN t j : Nat))
  case atStart => exact ⟨rfl, 0, by omega, rfl, rfl⟩
  case round =>
    obtain ⟨rfl, j, hj, rfl, rfl⟩ := hrel
    by_cases hlt : j < 4
    · have hcj := Hct.out j hlt
      have hy := UInt8.toNat_lt (t.getD j 0)
      obtain ⟨z, hz, hz'⟩ := or_rd t j hlt
      have Hz := Lib.hid hz'
      clear hz'
      generalize t.getD j 0 = y at *
      go_wp2_with fail
      go_roundg (gk - 1)
      case measure => omega
      case rel => exact ⟨rfl, j + 1, by omega, by go_num, by rw [Hz.out]⟩
    · obtain rfl : j = 4 := by omega
      go_wp2_with fail
      refine Hsum.out.mono ?_
      rintro e w1 ⟨rfl, rfl⟩
      go_wp2_with fail
      go_ret
      exact ⟨ret_bool (by rw [Hright.out]; exact int_beq _ _), rfl⟩
theorem cover_b (v : Value) (l : List UInt8) (w : World) (h : Bs w w.heap.size v l) (ht : Tab w) (hm : l.length + 4 ≤ 140737488355328) :
    Calls Tryd.prog 57 #[v] w fun e w' => ∃ v, e = .returned v ∧ w'.ownsRow w.heap.size 5 1 v (l.length + 4) (bvs (Cx.cover l)) ∧ Below w.heap.size w w' := by
  obtain ⟨A, c, rfl, _, hr⟩ := h
  exact cover_any A l c w hr ht hm
theorem right_b (v : Value) (l : List UInt8) (B : Nat) (w : World) (h : Bs w B v l) (ht : Tab w) (hm : l.length ≤ 9223372036854775807) :
    Calls Tryd.prog 46 #[v] w fun e w' => e = .returned (.bool (Cx.right l)) ∧ w = w' := by
  obtain ⟨A, c, rfl, hc, hr⟩ := h
  rcases Nat.lt_or_ge l.length 4 with h4 | h4
  · have : Cx.right l = false := by
      unfold Cx.right
      have : decide (4 ≤ l.length) = false := by simp; omega
      rw [this, Bool.false_and]
    rw [this]
    exact right_short A l.length c w h4
  · exact right_long A l c B w hr hc ht hm h4
end Go.Proofs.YtfabodpefbdbjaaDoor.Crc

/- RcPut -/

/-
  Layer 8: the walk of Put.
-/
set_option linter.unusedVariables false
set_option linter.unusedSimpArgs false
namespace Go.Proofs.YtfabodpefbdbjaaDoor
open Go.RowKit

/-- the tables lie where they were laid -/
def RTab (w : World) : Prop := Crc.Tab w ∧ WTab w
theorem RTab.on {w w' : World} (h : RTab w) (hb : Below w.heap.size w w') : RTab w' := ⟨h.1.on hb, h.2.on hb⟩

end Go.Proofs.YtfabodpefbdbjaaDoor

/- RcLaid -/

/-
  Layer 8: what the program's text lays for the two tables (of a half byte's steps, of the fields' widths), as the walks want it.
-/
set_option linter.unusedVariables false
set_option linter.unusedSimpArgs false
namespace Go.Proofs.YtfabodpefbdbjaaDoor
open Go.ChangeShapes Go.WideShapes Go.ChangeAt Go.WideMaps Go.WideElems Go.RowKit

def laid1 : List (String × DataW Unit) := [("hourbook/crc.steps", Rows.laid_hourbook_crc_steps), ("hourbook/record.widths", Rows.laid_hourbook_record_widths)]
theorem gSteps : Tryd.prog.globalNamed "hourbook/crc.steps" = some 1 := by kernel_rfl
theorem tSteps : (Tryd.prog.globals[1]?).map (·.type) = some 129 := by kernel_rfl
theorem gWidths : Tryd.prog.globalNamed "hourbook/record.widths" = some 0 := by kernel_rfl
theorem tWidths : (Tryd.prog.globals[0]?).map (·.type) = some 119 := by kernel_rfl
set_option maxRecDepth 100000 in
/-- The door's own heap meets the condition. -/
theorem door_met (os : Os) (args : Array Value) : laidMetH Tryd.prog laid1 ((World.doorLaid Tryd.prog 19 os).forCall (fun _ _ => 0) ⟨#[], args, []⟩).memory :=
  laidMetH_of_parts3 (fuel := 8) (laidMet_of_run' 8 (by kernel_rfl) (by kernel_rfl)) (by kernel_rfl) (by kernel_rfl)
/-- the listed tables -/
def tabZ : List Int := (List.range 16).map fun i => ((Cx.tab i).toNat : Int)
theorem laid_tabZ : Rows.laid_hourbook_crc_steps (H := Unit) = Lib.tabData .u32 tabZ := by
  have : tabZ = [0, 274646895, 549293790, 820201905, 1098587580, 1361435347, 1640403810, 1905808397, 2197175160, 2460548119, 2722870694, 2987750089, 3280807620, 3553878443, 3811616794, 4084100981] := by decide +kernel
  rw [this]
  rfl
theorem laid_wid : Rows.laid_hourbook_record_widths (H := Unit) = Lib.tabData .i64 [1, 1, 2, 6, 3, 4] := rfl
theorem tab_cell {P : Program} {W : World} {name : String} {k : IntKind} {zs : List Int} {g : Nat} (hg : P.globalNamed name = some g) (h : Lib.TabIs P W name k zs) (i : Nat) (z : Int) (hz : zs[i]? = some z) : W.cell? ⟨g, i, none⟩ = some (.int k z) := by
  have hv := World.var?_cell hg h i
  rw [hv]
  simp [hz]
/-- WHAT THE CONDITION GIVES THE WALKS -/
theorem tab_of_laid {W : World} (h : laidMetH Tryd.prog laid1 W) : RTab W := by
  rw [MakeChecks.laidMetH_plain _ _ _ (by kernel_rfl)] at h
  unfold laid1 at h
  rw [laid_tabZ, laid_wid] at h
  have h1 := Lib.tabIs_of_head gSteps tSteps Tryd.underlying129 Tryd.underlying22 (by kernel_rfl) (by kernel_rfl) h
  have h2 := Lib.tabIs_of_head gWidths tWidths Tryd.underlying119 Tryd.underlying3 (by kernel_rfl) (by kernel_rfl) (laidMet.tail h)
  exact ⟨fun i hi => tab_cell gSteps h1 i _ (by simp [tabZ, hi]), tab_cell gWidths h2 0 _ rfl, tab_cell gWidths h2 1 _ rfl, tab_cell gWidths h2 2 _ rfl, tab_cell gWidths h2 3 _ rfl, tab_cell gWidths h2 4 _ rfl, tab_cell gWidths h2 5 _ rfl⟩
end Go.Proofs.YtfabodpefbdbjaaDoor

/- HdPlain -/

/-
  Layer 10, plain mathematics: heads of files as bytes, what bytes begin with, turned bits.
-/
set_option linter.unusedVariables false
set_option linter.unusedSimpArgs false
namespace Go.Proofs.YtfabodpefbdbjaaDoor.Hd
open Go.RowKit

/-- the seven letters -/
def letters : List UInt8 := [104, 111, 117, 114, 98, 107, 49]
theorem letters_length : letters.length = 7 := rfl
/-- what is covered -/
def bodyL (k n : Nat) : List UInt8 := letters ++ (Px.leL k 1 ++ Px.leL n 4)
theorem bodyL_length (k n : Nat) : (bodyL k n).length = 12 := by simp [bodyL, letters_length, Px.leL_length]
/-- a file's head -/
def headL (k n : Nat) : List UInt8 := Cx.cover (bodyL k n)
theorem headL_length (k n : Nat) : (headL k n).length = 16 := by rw [headL, Cx.cover_length, bodyL_length]
/-- whether there is a head of that kind and id -/
def mayB (k n : Int) : Bool := decide ((k = 1 ∧ 1 ≤ n ∧ n ≤ 16777215) ∨ (k = 2 ∧ n = 0))
def kindN (l : List UInt8) : Nat := Px.rdN (l.drop 7) 1
def idN (l : List UInt8) : Nat := Px.rdN (l.drop 8) 4
/-- what bytes begin with: kind, id, error -/
def getQ (l : List UInt8) : Nat × Nat × Nat :=
  if l.length < 16 then (0, 0, 22)
  else if mayB (kindN l) (idN l) = true ∧ l.take 16 = headL (kindN l) (idN l) then (kindN l, idN l, 0) else (0, 0, 23)
/-- whether they begin with that kind and id: the error -/
def checkN (l : List UInt8) (k n : Int) : Nat :=
  if (getQ l).2.2 = 0 then (if ((getQ l).1 : Int) = k ∧ ((getQ l).2.1 : Int) = n then 0 else 23) else (getQ l).2.2

theorem may_lt {k n : Int} (h : mayB k n = true) : 1 ≤ k ∧ k ≤ 2 ∧ 0 ≤ n ∧ n ≤ 16777215 := by
  simp [mayB] at h
  omega
theorem kind_head {k n : Nat} (h : mayB k n = true) (m : List UInt8) : kindN (headL k n ++ m) = k := by
  have := may_lt h
  unfold kindN headL Cx.cover bodyL
  simp only [List.append_assoc]
  rw [List.drop_left' letters_length, Px.rdN_fix _ _ _ (Nat.div_eq_of_lt (by simp; omega))]
theorem id_head {k n : Nat} (h : mayB k n = true) (m : List UInt8) : idN (headL k n ++ m) = n := by
  have := may_lt h
  unfold idN headL Cx.cover bodyL
  simp only [List.append_assoc]
  rw [show 8 = 7 + 1 by rfl, ← List.drop_drop, List.drop_left' letters_length, List.drop_left' (Px.leL_length _ _), Px.rdN_fix _ _ _ (Nat.div_eq_of_lt (by simp; omega))]
/-- a head, whatever stands behind -/
theorem get_head {k n : Nat} (h : mayB k n = true) (m : List UInt8) : getQ (headL k n ++ m) = (k, n, 0) := by
  unfold getQ
  rw [kind_head h, id_head h, if_neg (by rw [List.length_append, headL_length]; omega), if_pos ⟨h, List.take_left' (headL_length k n)⟩]
/-- a beginning of bytes -/
theorem get_short {l : List UInt8} (h : l.length < 16) : getQ l = (0, 0, 22) := by
  unfold getQ
  rw [if_pos h]
/-- bits within 32 in a row are turned -/
theorem get_turned {k n : Nat} {b : BitVec 32} {first t : Nat} {l : List UInt8} (ht : Cx.turned (headL k n) b first t l) (hk : t ≤ 32) (h0 : 0 < t) (hb : b.getLsbD 0 = true) (m : List UInt8) :
    getQ (l ++ m) = (0, 0, 23) := by
  have hw := Cx.turned_wrong ht (by rw [headL_length]; omega) (Cx.right_cover _) hk h0 hb
  have hl : l.length = 16 := by rw [ht.1, headL_length]
  unfold getQ
  rw [if_neg (by rw [List.length_append]; omega), if_neg ?_]
  rintro ⟨_, e⟩
  rw [List.take_left' hl] at e
  rw [e, headL, Cx.right_cover] at hw
  cases hw
theorem check_head {k n : Nat} (h : mayB k n = true) (m : List UInt8) (k' n' : Int) : checkN (headL k n ++ m) k' n' = if (k : Int) = k' ∧ (n : Int) = n' then 0 else 23 := by
  unfold checkN
  rw [get_head h m]
  simp
end Go.Proofs.YtfabodpefbdbjaaDoor.Hd

/- RcRead -/

/-
  Layer 8: the walks of read, blank, fill.
-/
set_option linter.unusedVariables false
set_option linter.unusedSimpArgs false
namespace Go.Proofs.YtfabodpefbdbjaaDoor
open Go.RowKit

/-- one field of a head -/
def Rc.fieldN (l : List UInt8) (o n : Nat) : Nat := Px.rdN (l.drop o) n
/-- what a head tells, the first j fields of it -/
def toldA (l : List UInt8) (j : Nat) : Array Value :=
  match j with
  | 0 => #[.int .u64 0, .int .u64 0, .int .u64 0, .int .u64 0, .int .u64 0, .int .u64 0]
  | 1 => #[.int .u64 ((Rc.fieldN l 0 1 : Nat) : Int), .int .u64 0, .int .u64 0, .int .u64 0, .int .u64 0, .int .u64 0]
  | 2 => #[.int .u64 ((Rc.fieldN l 0 1 : Nat) : Int), .int .u64 ((Rc.fieldN l 1 1 : Nat) : Int), .int .u64 0, .int .u64 0, .int .u64 0, .int .u64 0]
  | 3 => #[.int .u64 ((Rc.fieldN l 0 1 : Nat) : Int), .int .u64 ((Rc.fieldN l 1 1 : Nat) : Int), .int .u64 ((Rc.fieldN l 2 2 : Nat) : Int), .int .u64 0, .int .u64 0, .int .u64 0]
  | 4 => #[.int .u64 ((Rc.fieldN l 0 1 : Nat) : Int), .int .u64 ((Rc.fieldN l 1 1 : Nat) : Int), .int .u64 ((Rc.fieldN l 2 2 : Nat) : Int), .int .u64 ((Rc.fieldN l 4 6 : Nat) : Int), .int .u64 0, .int .u64 0]
  | 5 => #[.int .u64 ((Rc.fieldN l 0 1 : Nat) : Int), .int .u64 ((Rc.fieldN l 1 1 : Nat) : Int), .int .u64 ((Rc.fieldN l 2 2 : Nat) : Int), .int .u64 ((Rc.fieldN l 4 6 : Nat) : Int), .int .u64 ((Rc.fieldN l 10 3 : Nat) : Int), .int .u64 0]
  | _ => #[.int .u64 ((Rc.fieldN l 0 1 : Nat) : Int), .int .u64 ((Rc.fieldN l 1 1 : Nat) : Int), .int .u64 ((Rc.fieldN l 2 2 : Nat) : Int), .int .u64 ((Rc.fieldN l 4 6 : Nat) : Int), .int .u64 ((Rc.fieldN l 10 3 : Nat) : Int), .int .u64 ((Rc.fieldN l 13 4 : Nat) : Int)]
def toldV (l : List UInt8) : Value := .agg #[.int .u64 ((Rc.fieldN l 0 1 : Nat) : Int), .int .u64 ((Rc.fieldN l 1 1 : Nat) : Int), .int .u64 ((Rc.fieldN l 2 2 : Nat) : Int), .int .u64 ((Rc.fieldN l 4 6 : Nat) : Int), .int .u64 ((Rc.fieldN l 10 3 : Nat) : Int), .int .u64 ((Rc.fieldN l 13 4 : Nat) : Int)]
def offN (j : Nat) : Nat := match j with | 0 => 0 | 1 => 1 | 2 => 2 | 3 => 4 | 4 => 10 | 5 => 13 | _ => 17
theorem cut_m {A : Option Addr} {m c : Nat} {l : List UInt8} {B : Nat} {w : World} (h : Bs w B (.slice A m c) l) (k : Nat) (z : Int) (hz : z = k) (hk : k ≤ l.length) : ∃ A' m' c', (∀ w, (Instr.sliceAt 23 (.slice A m c) (some (.int .i64 z)) none none).run Tryd.prog w = .ok (.slice A' m' c') w) ∧ Bs w B (.slice A' m' c') (l.drop k) := by
  subst hz
  obtain ⟨A2, c2, e, hc, hr⟩ := h
  injection e with e1 e2 e3
  subst e1 e2 e3
  obtain ⟨A', c', h1, h2, h3⟩ := cut_l A l.length c k (l.length - k) (by omega) hc
  exact ⟨_, _, _, h1, A', c', by rw [List.length_drop], by rw [List.length_drop]; exact h2, h3 w B l hc hr⟩
set_option maxRecDepth 100000 in
set_option maxHeartbeats 4000000 in
theorem rread_b (v : Value) (l : List UInt8) (B : Nat) (w : World) (h : Bs w B v l) (hB : B ≤ w.heap.size) (hl : 21 ≤ l.length) (hm : l.length ≤ 140737488355328) (ht : WTab w) :
    Calls Tryd.prog 48 #[v] w fun e w' => e = .returned (toldV l) ∧ Below w.heap.size w w' := by
  obtain ⟨ht0, ht1, ht2, ht3, ht4, ht5⟩ := ht
  have hlt : 0 < w.heap.size := block_lt_of_cell ht0
  have H := Lib.hid h
  obtain ⟨A, c, rfl, _, _⟩ := h
  go_enter Tryd.func48, Tryd.ntmps48
  go_wp2_with fail
  clear ht0 ht1 ht2 ht3 ht4 ht5
  go_loopg [0, 7] 6 (fun k b i wr => ∃ j : Nat, j + k = 6 ∧ i = .int .i64 j ∧ (∃ A m c, b = .slice A m c ∧ Bs w B (.slice A m c) (l.drop (offN j))) ∧ wr = (w.alloc (.cells #[.int .u64 0, .int .u64 0, .int .u64 0, .int .u64 0, .int .u64 0, .int .u64 0] 111)).alloc (.cells (toldA l j) 111))
  case atStart => exact ⟨0, by omega, rfl, ⟨_, _, _, rfl, H.out⟩, rfl⟩
  case round =>
    obtain ⟨j, hj, rfl, ⟨A1, m1, c1, rfl, hbs⟩, rfl⟩ := hrel
    by_cases hlt : j < 6
    · have hjj : j = 0 ∨ j = 1 ∨ j = 2 ∨ j = 3 ∨ j = 4 ∨ j = 5 := by omega
      rcases hjj with rfl | rfl | rfl | rfl | rfl | rfl
      · have hx := width_at 0 0 1 rfl rfl
        have hbw : Below w.heap.size w ((w.alloc (.cells #[.int .u64 0, .int .u64 0, .int .u64 0, .int .u64 0, .int .u64 0, .int .u64 0] 111)).alloc (.cells (toldA l 0) 111)) := balloc (bnew w _) _
        have hrd : Calls Tryd.prog 44 #[.slice A1 m1 c1, .int .i64 1] _ fun e w' => e = .returned (.tuple #[.int .u64 ((Rc.fieldN l 0 1 : Nat) : Int), .int .i64 0]) ∧ _ = w' := read_b _ _ B 1 _ (hbs.below hbw hB) (by omega) (by omega) (by simp [offN]; omega) (by simp; omega)
        obtain ⟨A2, m2, c2, hcut, hbs'⟩ := cut_m hbs 1 1 rfl (by simp [offN]; omega)
        have Hbs := Lib.hid hbs'
        clear hbs hbw hbs'
        unfold toldA at hrd ⊢
        go_wp2_with fail
        refine hrd.mono ?_
        rintro e w1 ⟨rfl, rfl⟩
        go_wp2_with fail
        go_roundg (gk - 1)
        case measure => omega
        case rel => exact ⟨1, by omega, by go_num, ⟨_, _, _, rfl, by have := Hbs.out; rw [List.drop_drop] at this; exact this⟩, rfl⟩
      · have hx := width_at 1 1 1 rfl rfl
        have hbw : Below w.heap.size w ((w.alloc (.cells #[.int .u64 0, .int .u64 0, .int .u64 0, .int .u64 0, .int .u64 0, .int .u64 0] 111)).alloc (.cells (toldA l 1) 111)) := balloc (bnew w _) _
        have hrd : Calls Tryd.prog 44 #[.slice A1 m1 c1, .int .i64 1] _ fun e w' => e = .returned (.tuple #[.int .u64 ((Rc.fieldN l 1 1 : Nat) : Int), .int .i64 0]) ∧ _ = w' := read_b _ _ B 1 _ (hbs.below hbw hB) (by omega) (by omega) (by simp [offN]; omega) (by simp; omega)
        obtain ⟨A2, m2, c2, hcut, hbs'⟩ := cut_m hbs 1 1 rfl (by simp [offN]; omega)
        have Hbs := Lib.hid hbs'
        clear hbs hbw hbs'
        unfold toldA at hrd ⊢
        go_wp2_with fail
        refine hrd.mono ?_
        rintro e w1 ⟨rfl, rfl⟩
        go_wp2_with fail
        go_roundg (gk - 1)
        case measure => omega
        case rel => exact ⟨2, by omega, by go_num, ⟨_, _, _, rfl, by have := Hbs.out; rw [List.drop_drop] at this; exact this⟩, rfl⟩
      · have hx := width_at 2 2 2 rfl rfl
        have hbw : Below w.heap.size w ((w.alloc (.cells #[.int .u64 0, .int .u64 0, .int .u64 0, .int .u64 0, .int .u64 0, .int .u64 0] 111)).alloc (.cells (toldA l 2) 111)) := balloc (bnew w _) _
        have hrd : Calls Tryd.prog 44 #[.slice A1 m1 c1, .int .i64 2] _ fun e w' => e = .returned (.tuple #[.int .u64 ((Rc.fieldN l 2 2 : Nat) : Int), .int .i64 0]) ∧ _ = w' := read_b _ _ B 2 _ (hbs.below hbw hB) (by omega) (by omega) (by simp [offN]; omega) (by simp; omega)
        obtain ⟨A2, m2, c2, hcut, hbs'⟩ := cut_m hbs 2 2 rfl (by simp [offN]; omega)
        have Hbs := Lib.hid hbs'
        clear hbs hbw hbs'
        unfold toldA at hrd ⊢
        go_wp2_with fail
        refine hrd.mono ?_
        rintro e w1 ⟨rfl, rfl⟩
        go_wp2_with fail
        go_roundg (gk - 1)
        case measure => omega
        case rel => exact ⟨3, by omega, by go_num, ⟨_, _, _, rfl, by have := Hbs.out; rw [List.drop_drop] at this; exact this⟩, rfl⟩
      · have hx := width_at 3 3 6 rfl rfl
        have hbw : Below w.heap.size w ((w.alloc (.cells #[.int .u64 0, .int .u64 0, .int .u64 0, .int .u64 0, .int .u64 0, .int .u64 0] 111)).alloc (.cells (toldA l 3) 111)) := balloc (bnew w _) _
        have hrd : Calls Tryd.prog 44 #[.slice A1 m1 c1, .int .i64 6] _ fun e w' => e = .returned (.tuple #[.int .u64 ((Rc.fieldN l 4 6 : Nat) : Int), .int .i64 0]) ∧ _ = w' := read_b _ _ B 6 _ (hbs.below hbw hB) (by omega) (by omega) (by simp [offN]; omega) (by simp; omega)
        obtain ⟨A2, m2, c2, hcut, hbs'⟩ := cut_m hbs 6 6 rfl (by simp [offN]; omega)
        have Hbs := Lib.hid hbs'
        clear hbs hbw hbs'
        unfold toldA at hrd ⊢
        go_wp2_with fail
        refine hrd.mono ?_
        rintro e w1 ⟨rfl, rfl⟩
        go_wp2_with fail
        go_roundg (gk - 1)
        case measure => omega
        case rel => exact ⟨4, by omega, by go_num, ⟨_, _, _, rfl, by have := Hbs.out; rw [List.drop_drop] at this; exact this⟩, rfl⟩
      · have hx := width_at 4 4 3 rfl rfl
        have hbw : Below w.heap.size w ((w.alloc (.cells #[.int .u64 0, .int .u64 0, .int .u64 0, .int .u64 0, .int .u64 0, .int .u64 0] 111)).alloc (.cells (toldA l 4) 111)) := balloc (bnew w _) _
        have hrd : Calls Tryd.prog 44 #[.slice A1 m1 c1, .int .i64 3] _ fun e w' => e = .returned (.tuple #[.int .u64 ((Rc.fieldN l 10 3 : Nat) : Int), .int .i64 0]) ∧ _ = w' := read_b _ _ B 3 _ (hbs.below hbw hB) (by omega) (by omega) (by simp [offN]; omega) (by simp; omega)
        obtain ⟨A2, m2, c2, hcut, hbs'⟩ := cut_m hbs 3 3 rfl (by simp [offN]; omega)
        have Hbs := Lib.hid hbs'
        clear hbs hbw hbs'
        unfold toldA at hrd ⊢
        go_wp2_with fail
        refine hrd.mono ?_
        rintro e w1 ⟨rfl, rfl⟩
        go_wp2_with fail
        go_roundg (gk - 1)
        case measure => omega
        case rel => exact ⟨5, by omega, by go_num, ⟨_, _, _, rfl, by have := Hbs.out; rw [List.drop_drop] at this; exact this⟩, rfl⟩
      · have hx := width_at 5 5 4 rfl rfl
        have hbw : Below w.heap.size w ((w.alloc (.cells #[.int .u64 0, .int .u64 0, .int .u64 0, .int .u64 0, .int .u64 0, .int .u64 0] 111)).alloc (.cells (toldA l 5) 111)) := balloc (bnew w _) _
        have hrd : Calls Tryd.prog 44 #[.slice A1 m1 c1, .int .i64 4] _ fun e w' => e = .returned (.tuple #[.int .u64 ((Rc.fieldN l 13 4 : Nat) : Int), .int .i64 0]) ∧ _ = w' := read_b _ _ B 4 _ (hbs.below hbw hB) (by omega) (by omega) (by simp [offN]; omega) (by simp; omega)
        obtain ⟨A2, m2, c2, hcut, hbs'⟩ := cut_m hbs 4 4 rfl (by simp [offN]; omega)
        have Hbs := Lib.hid hbs'
        clear hbs hbw hbs'
        unfold toldA at hrd ⊢
        go_wp2_with fail
        refine hrd.mono ?_
        rintro e w1 ⟨rfl, rfl⟩
        go_wp2_with fail
        go_roundg (gk - 1)
        case measure => omega
        case rel => exact ⟨6, by omega, by go_num, ⟨_, _, _, rfl, by have := Hbs.out; rw [List.drop_drop] at this; exact this⟩, rfl⟩
    · obtain rfl : j = 6 := by omega
      unfold toldA
      go_wp2_with fail
      exact bodyPost_ret (v := toldV l) (by simp [results, Tryd.results48, go_sem, toldV]) rfl ⟨rfl, balloc (bnew w _) _⟩
end Go.Proofs.YtfabodpefbdbjaaDoor

/- RcRow -/

/-
  Layer 8: blocks of bytes.
-/
set_option linter.unusedVariables false
set_option linter.unusedSimpArgs false
namespace Go.Proofs.YtfabodpefbdbjaaDoor
open Go.RowKit

/-- a new row of zeros -/
def zer (n : Nat) : Array Value := (bvs (List.replicate n 0)).toArray
theorem run_make_b (k1 k2 : IntKind) (n : Nat) (hn : n ≤ 100000) (w : World) :
    (Instr.makeSlice 23 (.int k1 (n : Int)) (.int k2 (n : Int))).run Tryd.prog w = .ok (.slice (some ⟨w.heap.size, 0, none⟩) n n) (w.alloc (.cells (zer n) 5)) := by
  have h := run_make_row' (P := Tryd.prog) 23 5 (.int .u8 0) 1 Tryd.underlying23 byte_info rfl k1 k2 n (by omega) (by omega) w
  have e : madeCells #[Value.int .u8 0] n = zer n := by
    unfold zer
    have := toList_madeCells_one (.int .u8 0) n
    rw [← Array.toList_inj, this]
    simp [bvs, bv]
  rw [e] at h
  exact h
/-- a block of bytes -/
def RowAt (w : World) (g : Nat) (l : List UInt8) : Prop := w.heap[g]? = some (.cells (bvs l).toArray 5 (0, 0))
theorem RowAt.bs {w : World} {g B : Nat} {l : List UInt8} (h : RowAt w g l) (hg : g < B) : Bs w B (.slice (some ⟨g, 0, none⟩) l.length l.length) l :=
  ⟨_, _, rfl, Nat.le_refl _, fun _ => ⟨g, 0, rfl, hg, fun j u hu => by
    rw [Nat.zero_add, cell_of_row w g j _ _ _ h]
    simpa using hu⟩⟩
theorem RowAt.below {w w' : World} {g C : Nat} {l : List UInt8} (h : RowAt w g l) (hb : Below C w w') (hC : g < C) : RowAt w' g l := (hb.block g hC).trans h
theorem RowAt.lt {w : World} {g : Nat} {l : List UInt8} (h : RowAt w g l) : g < w.heap.size := (Array.getElem?_eq_some_iff.1 h).1
theorem RowAt.on {w w' : World} {g : Nat} {l : List UInt8} (h : RowAt w g l) (hb : Below w.heap.size w w') : RowAt w' g l := h.below hb h.lt
theorem RowAt.new (w : World) (n : Nat) : RowAt (w.alloc (.cells (zer n) 5)) w.heap.size (List.replicate n 0) := heap_alloc_new w _
end Go.Proofs.YtfabodpefbdbjaaDoor

/- RcIn -/

/-
  Layer 8: bytes, and a record, in memory from a place on, each row a block of its own.
-/
set_option linter.unusedVariables false
set_option linter.unusedSimpArgs false
namespace Go.Proofs.YtfabodpefbdbjaaDoor
open Go Go.RowKit

/-- a slice that reads as these bytes, in memory from `lo` on -/
def RowIn (w : World) (lo : Nat) (v : Value) (l : List UInt8) : Prop := (v = .slice none 0 0 ∧ l = []) ∨ ∃ g, v = .slice (some ⟨g, 0, none⟩) l.length l.length ∧ lo ≤ g ∧ RowAt w g l
section
variable {w w' : World} {lo lo' : Nat} {v : Value} {l : List UInt8}
theorem RowIn.bs (h : RowIn w lo v l) : Bs w w.heap.size v l := by
  rcases h with ⟨rfl, rfl⟩ | ⟨g, rfl, _, h⟩
  · exact ⟨none, 0, rfl, Nat.le_refl _, fun h => absurd rfl h⟩
  · exact h.bs h.lt
theorem RowIn.on (h : RowIn w lo v l) (hb : Below w.heap.size w w') : RowIn w' lo v l := by
  rcases h with ⟨rfl, rfl⟩ | ⟨g, rfl, h1, h⟩
  · exact .inl ⟨rfl, rfl⟩
  · exact .inr ⟨g, rfl, h1, h.on hb⟩
theorem RowIn.mono (h : RowIn w lo v l) (hl : lo' ≤ lo) : RowIn w lo' v l := by
  rcases h with ⟨rfl, rfl⟩ | ⟨g, rfl, h1, h⟩
  · exact .inl ⟨rfl, rfl⟩
  · exact .inr ⟨g, rfl, Nat.le_trans hl h1, h⟩
end
def RecIn (w : World) (lo : Nat) (rv : Value) (r : Rc.Rec) : Prop := ∃ kv vv, rv = recV r.seq r.kind kv vv r.seg r.off ∧ RowIn w lo kv r.key ∧ RowIn w lo vv r.val
theorem RecIn.none_ {w : World} {lo : Nat} : RecIn w lo (recV 0 0 (.slice none 0 0) (.slice none 0 0) 0 0) Rc.none := ⟨_, _, rfl, .inl ⟨rfl, rfl⟩, .inl ⟨rfl, rfl⟩⟩
end Go.Proofs.YtfabodpefbdbjaaDoor

/- RcBlank -/

/-
  Layer 8: the walk of blank.
-/
set_option linter.unusedVariables false
set_option linter.unusedSimpArgs false
namespace Go.Proofs.YtfabodpefbdbjaaDoor
open Go.RowKit

theorem two_rows (w W1 : World) (n m s : Nat) (hW : Below w.heap.size w W1) (hs : W1.heap.size = s) :
    RowAt (((W1.alloc (.cells (zer n) 5)).alloc (.cells (zer m) 5)).drew) s (List.replicate n 0) ∧
    RowAt (((W1.alloc (.cells (zer n) 5)).alloc (.cells (zer m) 5)).drew) (s + 1) (List.replicate m 0) ∧
    Below w.heap.size w (((W1.alloc (.cells (zer n) 5)).alloc (.cells (zer m) 5)).drew) := by
  subst hs
  have h1 := RowAt.new W1 n
  have h2 := RowAt.new (W1.alloc (.cells (zer n) 5)) m
  have e : (W1.alloc (.cells (zer n) 5)).heap.size = W1.heap.size + 1 := by simp
  have b2 := (bnew (W1.alloc (.cells (zer n) 5)) (.cells (zer m) 5)).drew
  rw [e] at h2
  exact ⟨h1.on b2, h2, (balloc (balloc hW _) _).drew⟩
set_option maxRecDepth 100000 in
set_option maxHeartbeats 4000000 in
theorem blank_any (a0 a1 a2 a3 a4 a5 : Nat) (w : World) (h1 : a1 ≤ 255) (h2 : a2 ≤ 65535) (h0 : a0 ≤ 255) (h4 : a4 < 16777216) (h5 : a5 < 4294967296) (h3 : a3 < 18446744073709551616) :
    Calls Tryd.prog 47 #[.agg #[.int .u64 (a0 : Int), .int .u64 (a1 : Int), .int .u64 (a2 : Int), .int .u64 (a3 : Int), .int .u64 (a4 : Int), .int .u64 (a5 : Int)]] w fun e w' =>
      ∃ g1 g2, e = .returned (recV a3 a0 (.slice (some ⟨g1, 0, none⟩) a1 a1) (.slice (some ⟨g2, 0, none⟩) a2 a2) a4 a5) ∧ g1 ≠ g2 ∧ w.heap.size ≤ g1 ∧ w.heap.size ≤ g2 ∧
        RowAt w' g1 (List.replicate a1 0) ∧ RowAt w' g2 (List.replicate a2 0) ∧ Below w.heap.size w w' := by
  have m1 := run_make_b .u64 .u64 a1 (by omega)
  have m2 := run_make_b .u64 .u64 a2 (by omega)
  go_enter Tryd.func47, Tryd.ntmps47
  go_wp2_with fail
  go_region
  all_goals go_wp2_with fail
  · obtain ⟨o1, o2, ob⟩ := two_rows w _ a1 a2 (w.heap.size + 1 + 1) (balloc (bnew w _) _) (by simp)
    exact bodyPost_ret (v := recV a3 a0 (.slice (some ⟨w.heap.size + 1 + 1, 0, none⟩) a1 a1) (.slice (some ⟨w.heap.size + 1 + 1 + 1, 0, none⟩) a2 a2) a4 a5) (by simp [results, Tryd.results47, go_sem, recV]) rfl ⟨_, _, rfl, by omega, by omega, by omega, o1, o2, ob⟩
  · obtain ⟨o1, o2, ob⟩ := two_rows w _ a2 a1 (w.heap.size + 1 + 1) (balloc (bnew w _) _) (by simp)
    exact bodyPost_ret (v := recV a3 a0 (.slice (some ⟨w.heap.size + 1 + 1 + 1, 0, none⟩) a1 a1) (.slice (some ⟨w.heap.size + 1 + 1, 0, none⟩) a2 a2) a4 a5) (by simp [results, Tryd.results47, go_sem, recV]) rfl ⟨_, _, rfl, by omega, by omega, by omega, o2, o1, ob⟩
end Go.Proofs.YtfabodpefbdbjaaDoor

/- RcFill -/

/-
  Layer 8: the walk of fill.
-/
set_option linter.unusedVariables false
set_option linter.unusedSimpArgs false
namespace Go.Proofs.YtfabodpefbdbjaaDoor
open Go.RowKit

theorem byte_size : (Tryd.prog.info? 5).map (·.size) = some 1 := by kernel_rfl
/-- a copy onto a whole block, as one step of a region -/
theorem step_copy_row {P : Program} {ops : Array Oper} {o : Oper} {a : Act} {w : World} {K : Act → World → Prop} {Q : Exit → Act → World → Prop} {E : Prop} (hgd : o.guard = none) (d s : Operand) (dT sT : TypeId)
    (ho : o.op = .call { callee := .builtin .copy, args := #[d, s], argTypes := #[dT, sT] }) (elem : TypeId) (hu : P.underlying dT = some (.slice elem)) (hsz : (P.info? elem).map (·.size) = some 1)
    (g dLen dCap : Nat) (ad : Addr) (sLen sCap : Nat) (hd : a.eval d = .slice (some ⟨g, 0, none⟩) dLen dCap) (hs : a.eval s = .slice (some ad) sLen sCap)
    (l l' : List UInt8) (hg : RowAt w g l) (hn : l'.length = Nat.min sLen dLen) (hsrc : ∀ j v, (bvs l')[j]? = some v → w.cell? (ad.add j) = some v) (hl : l'.length = l.length)
    (h : ∀ w', RowAt w' g l' → (∀ k, k ≠ g → w'.heap[k]? = w.heap[k]?) → (∀ C, C ≤ g → Below C w w') → K (a.put o.dst (goInt (bvs l').length)) w') :
    if Region.wanted o (yielded ops a.tmps) = true then Oper.wp P o a w K Q else E := by
  have hw : Region.wanted o (yielded ops a.tmps) = true := by simp [Region.wanted, hgd]
  rw [if_pos hw]
  have hrun := run_copy_row (P := P) w dT sT o.type elem g 0 dLen dCap ad sLen sCap (bvs l).toArray _ (bvs l') hu hsz hg (by rw [bvs_length]; exact hn) hsrc (by simp [bvs_length, hl]) (bvs_one _)
  unfold Oper.wp
  simp [execOp, ho, resolve, invoke, builtin, hd, hs, hrun, Result.andThen]
  refine h _ ?_ (fun k hk => setRow_other w g k _ hk) (fun C hC => below_setRow (Below.refl _ _) hC _)
  have := setRow_heap w g (bvs l).toArray (bvs l').toArray _ (0, 0) hg
  have e : (bvs l).drop (bvs l').length = [] := List.drop_eq_nil_of_le (by simp [bvs_length, hl])
  rw [e, List.append_nil]
  exact this
theorem wpList_copy_b {P : Program} {w : World} {ops : Array Oper} {rest : List Oper} {o : Oper} {a : Act} {Q : Exit → Act → World → Prop} (hgd : o.guard = none) (d s : Operand) (dT sT : TypeId)
    (ho : o.op = .call { callee := .builtin .copy, args := #[d, s], argTypes := #[dT, sT] }) (elem : TypeId) (hu : P.underlying dT = some (.slice elem)) (hsz : (P.info? elem).map (·.size) = some 1)
    (g dLen dCap : Nat) (ad : Addr) (sLen sCap : Nat) (hd : a.eval d = .slice (some ⟨g, 0, none⟩) dLen dCap) (hs : a.eval s = .slice (some ad) sLen sCap)
    (l l' : List UInt8) (hg : RowAt w g l) (hn : l'.length = Nat.min sLen dLen) (hsrc : ∀ j v, (bvs l')[j]? = some v → w.cell? (ad.add j) = some v) (hl : l'.length = l.length)
    (h : ∀ w', RowAt w' g l' → (∀ k, k ≠ g → w'.heap[k]? = w.heap[k]?) → (∀ C, C ≤ g → Below C w w') → wpList P ops Q rest (a.put o.dst (goInt (bvs l').length)) w') : wpList P ops Q (o :: rest) a w := by
  refine wpList_plain hgd fun K hK => ?_
  have hrun := run_copy_row (P := P) w dT sT o.type elem g 0 dLen dCap ad sLen sCap (bvs l).toArray _ (bvs l') hu hsz hg (by rw [bvs_length]; exact hn) hsrc (by simp [bvs_length, hl]) (bvs_one _)
  unfold Oper.wp
  simp [execOp, ho, resolve, invoke, builtin, hd, hs, hrun, Result.andThen]
  refine hK _ _ (h _ ?_ (fun k hk => setRow_other w g k _ hk) (fun C hC => below_setRow (Below.refl _ _) hC _))
  have := setRow_heap w g (bvs l).toArray (bvs l').toArray _ (0, 0) hg
  have e : (bvs l).drop (bvs l').length = [] := List.drop_eq_nil_of_le (by simp [bvs_length, hl])
  rw [e, List.append_nil]
  exact this
theorem box6h {w : World} {g : Nat} {x0 x1 x2 x3 x4 x5 : Value} {t : TypeId} {fr : Nat × Nat} (h : w.heap[g]? = some (.cells #[x0, x1, x2, x3, x4, x5] t fr)) :
    w.cell? ⟨g, 0, none⟩ = some x0 ∧ w.cell? ⟨g, 1, none⟩ = some x1 ∧ w.cell? ⟨g, 2, none⟩ = some x2 ∧ w.cell? ⟨g, 3, none⟩ = some x3 ∧ w.cell? ⟨g, 4, none⟩ = some x4 ∧ w.cell? ⟨g, 5, none⟩ = some x5 := by
  refine ⟨?_, ?_, ?_, ?_, ?_, ?_⟩
  all_goals (rw [cell_of_row w g _ _ _ _ h]; simp)
theorem box6hf {w : World} {g : Nat} {x0 x1 x2 x3 x4 x5 : Value} {t : TypeId} (h : w.heap[g]? = some (.cells #[x0, x1, x2, x3, x4, x5] t (0, 0))) :
    w.frozen? ⟨g, 0, none⟩ = false ∧ w.frozen? ⟨g, 1, none⟩ = false ∧ w.frozen? ⟨g, 2, none⟩ = false ∧ w.frozen? ⟨g, 3, none⟩ = false ∧ w.frozen? ⟨g, 4, none⟩ = false ∧ w.frozen? ⟨g, 5, none⟩ = false := by
  refine ⟨?_, ?_, ?_, ?_, ?_, ?_⟩
  all_goals simp [World.frozen?, h]
set_option maxRecDepth 100000 in
set_option maxHeartbeats 4000000 in
theorem fill_any (seq kind seg off : Int) (g1 g2 n1 n2 : Nat) (v : Value) (l l1 l2 : List UInt8) (B C : Nat) (w : World) (h : Bs w B v l) (hl : n1 + n2 < l.length) (hm : l.length ≤ 140737488355328)
    (h1 : RowAt w g1 l1) (h2 : RowAt w g2 l2) (e1 : l1.length = n1) (e2 : l2.length = n2) (hg : g1 ≠ g2) (hB : B ≤ C) (hC : C ≤ w.heap.size) (hg1 : C ≤ g1) (hg2 : C ≤ g2) :
    Calls Tryd.prog 51 #[recV seq kind (.slice (some ⟨g1, 0, none⟩) n1 n1) (.slice (some ⟨g2, 0, none⟩) n2 n2) seg off, v] w fun e w' =>
      (∃ u, e = .returned u) ∧ RowAt w' g1 (l.take n1) ∧ RowAt w' g2 ((l.drop n1).take n2) ∧ (∀ k, k < w.heap.size → k ≠ g1 → k ≠ g2 → w'.heap[k]? = w.heap[k]?) ∧ Below C w w' := by
  have b0 : Below w.heap.size w (w.alloc (.cells #[.int .u64 seq, .int .i64 kind, .slice (some ⟨g1, 0, none⟩) n1 n1, .slice (some ⟨g2, 0, none⟩) n2 n2, .int .u32 seg, .int .u32 off] 50)) := bnew _ _
  have bx := heap_alloc_new w (.cells #[.int .u64 seq, .int .i64 kind, .slice (some ⟨g1, 0, none⟩) n1 n1, .slice (some ⟨g2, 0, none⟩) n2 n2, .int .u32 seg, .int .u32 off] 50)
  have hlt1 := h1.lt
  have hlt2 := h2.lt
  have K1 := Lib.hid (h1.on b0)
  have K2 := Lib.hid (h2.on b0)
  have BX := Lib.hid bx
  have B0 := Lib.hid b0
  have hs := h.below b0 (by omega)
  obtain ⟨A, c, rfl, hc, hr⟩ := hs
  obtain ⟨b, o, rfl, hbB, hcell⟩ := hr (by intro e; have := congrArg List.length e; simp [bvs] at this; subst this; simp at hl)
  obtain ⟨A', c', hcut, hc', hcr⟩ := cut_l (some ⟨b, o, none⟩) l.length c n1 (l.length - n1) (by omega) hc
  have L1 := Lib.hid (show (l.take n1).length = n1 by rw [List.length_take]; omega)
  have L2 := Lib.hid (show ((l.drop n1).take n2).length = n2 by rw [List.length_take, List.length_drop]; omega)
  have C1 := Lib.hid (show ∀ j u, (bvs (l.take n1))[j]? = some u → (w.alloc (.cells #[.int .u64 seq, .int .i64 kind, .slice (some ⟨g1, 0, none⟩) n1 n1, .slice (some ⟨g2, 0, none⟩) n2 n2, .int .u32 seg, .int .u32 off] 50)).cell? ((⟨b, o, none⟩ : Addr).add j) = some u from fun j u hu => by
    rw [add_none]
    refine hcell j u ?_
    rw [bvs_take, List.getElem?_take] at hu
    split at hu
    · exact hu
    · cases hu)
  have hne : bvs (l.drop n1) ≠ [] := by intro e; have := congrArg List.length e; rw [bvs_length, List.length_drop, List.length_nil] at this; omega
  obtain ⟨b2, o2, rfl, _, _⟩ := hcr _ B l hc hr hne
  have HNE := Lib.hid hne
  clear hne
  have HR := Lib.hid hr
  have HL := Lib.hid hl
  have HCR := Lib.hid hcr
  have HC := Lib.hid hc
  have E1 := Lib.hid e1
  have E2 := Lib.hid e2
  obtain ⟨m, hm'⟩ : ∃ m, m = l.length - n1 := ⟨_, rfl⟩
  rw [← hm'] at hcut hc'
  have HM := Lib.hid hm'
  have T1 := Lib.hid (show (l.take n1).length = Nat.min l.length n1 by rw [List.length_take]; exact Nat.min_comm _ _)
  have T2 := Lib.hid (show ((l.drop n1).take n2).length = Nat.min m n2 by rw [List.length_take, List.length_drop, ← hm']; exact Nat.min_comm _ _)
  clear hm' hr hcr b0 bx hcell h h1 h2 e1 e2 hc
  obtain ⟨la, hla⟩ : ∃ la, la = l.take n1 := ⟨_, rfl⟩
  obtain ⟨lb, hlb⟩ : ∃ lb, lb = (l.drop n1).take n2 := ⟨_, rfl⟩
  rw [← hla] at L1 C1 T1 ⊢
  rw [← hlb] at L2 T2 ⊢
  have HLA := Lib.hid hla
  have HLB := Lib.hid hlb
  clear hla hlb
  generalize hll : l.length = ll at *
  have HLL := Lib.hid hll
  clear hll
  unfold recV
  go_enter Tryd.func51, Tryd.ntmps51
  go_wp2_with ((refine wpList_copy_b rfl (.tmp 5) (.tmp 6) 23 23 rfl 5 Tryd.underlying23 byte_size g1 n1 n1 ⟨b, o, none⟩ ll c rfl rfl l1 la K1.out T1.out C1.out (L1.out.trans E1.out.symm) ?_); intro w1 r1 o1 b1; obtain ⟨d0, d1, d2, d3, d4, d5⟩ := box6h ((o1 w.heap.size (by omega)).trans BX.out))
  have k2 := (o1 g2 (Ne.symm hg)).trans K2.out
  have b1C := b1 C hg1
  have R2 := HCR.out w1 B l (by rw [HLL.out]; exact HC.out) (HR.out.below b1C hB)
  have hsrc : ∀ j u, (bvs lb)[j]? = some u → w1.cell? ((⟨b2, o2, none⟩ : Addr).add j) = some u := by
    intro j u hu
    obtain ⟨b3, o3, e3, _, hc3⟩ := R2 HNE.out
    injection e3 with e3
    injection e3 with e4 e5
    subst e4 e5
    rw [add_none]
    refine hc3 j u ?_
    rw [HLB.out, bvs_take, List.getElem?_take] at hu
    split at hu
    · exact hu
    · cases hu
  have HS := Lib.hid hsrc
  have HK2 := Lib.hid k2
  have HO1 := Lib.hid o1
  have HB1 := Lib.hid b1
  have HR1 := Lib.hid r1
  clear hsrc k2 o1 b1 r1 R2 b1C
  go_region_law (refine step_copy_row rfl (.tmp 9) (.tmp 14) 23 23 rfl 5 Tryd.underlying23 byte_size g2 n2 n2 ⟨b2, o2, none⟩ m c' (by simp [Act.eval, Act.put]) (by simp [Act.eval, Act.put]) l2 lb HK2.out T2.out HS.out (L2.out.trans E2.out.symm) ?_; intro w2 r2 oo2 bb2)
  all_goals go_wp2_with fail
  all_goals go_end0
  all_goals exact ⟨⟨_, rfl⟩, (oo2 g1 hg).trans HR1.out, r2, fun k hk h1 h2 => (oo2 k h2).trans ((HO1.out k h1).trans (B0.out.block k hk)), ((B0.out.mono hC).trans (HB1.out C hg1)).drew.trans (bb2 C hg2)⟩
end Go.Proofs.YtfabodpefbdbjaaDoor

/- RcGet -/

/-
  Layer 8: the walk of Get.
-/
set_option linter.unusedVariables false
set_option linter.unusedSimpArgs false
namespace Go.Proofs.YtfabodpefbdbjaaDoor
open Go.RowKit

/-- 's[:k]' -/
theorem cut_take {A : Option Addr} {m c : Nat} {l : List UInt8} {B : Nat} {w : World} (h : Bs w B (.slice A m c) l) (k : Nat) (z : Int) (hz : z = k) (hk : k ≤ l.length) : ∃ A' m' c', (∀ w, (Instr.sliceAt 23 (.slice A m c) none (some (.int .i64 z)) none).run Tryd.prog w = .ok (.slice A' m' c') w) ∧ (∀ w' B', Bs w' B' (.slice A m c) l → Bs w' B' (.slice A' m' c') (l.take k)) := by
  subst hz
  obtain ⟨A2, c2, e, hc, _⟩ := h
  injection e with e1 e2 e3
  subst e1 e2 e3
  obtain ⟨A', c', h1, h2, h3⟩ := kcut_h A l.length c k hk hc
  refine ⟨_, _, _, h1, ?_⟩
  rintro w' B' ⟨A2, c2, e2, _, hr2⟩
  injection e2 with e3 e4 e5
  subst e3
  exact ⟨A', c', by rw [List.length_take]; congr 1; omega, by rw [List.length_take]; omega, h3 w' B' l rfl hr2⟩
/-- 's[i:k]' -/
theorem cut_mid {A : Option Addr} {m c : Nat} {l : List UInt8} {B : Nat} {w : World} (h : Bs w B (.slice A m c) l) (i k : Nat) (y z : Int) (hy : y = i) (hz : z = k) (hik : i ≤ k) (hk : k ≤ l.length) : ∃ A' m' c', (∀ w, (Instr.sliceAt 23 (.slice A m c) (some (.int .i64 y)) (some (.int .i64 z)) none).run Tryd.prog w = .ok (.slice A' m' c') w) ∧ (∀ w' B', Bs w' B' (.slice A m c) l → Bs w' B' (.slice A' m' c') ((l.drop i).take (k - i))) := by
  subst hz hy
  obtain ⟨A2, c2, e, hc, _⟩ := h
  injection e with e1 e2 e3
  subst e1 e2 e3
  obtain ⟨A', c', h1, h2, h3⟩ := cut_lh A l.length c i k (k - i) (by omega) (by omega)
  refine ⟨_, _, _, h1, ?_⟩
  rintro w' B' ⟨A2, c2, e2, hc2, hr2⟩
  injection e2 with e3 e4 e5
  subst e3
  have hl : ((l.drop i).take (k - i)).length = k - i := by rw [List.length_take, List.length_drop]; omega
  exact ⟨A', c', by rw [hl], by rw [hl]; exact h2, h3 w' B' l hc hr2⟩

/-- the record told, in new memory -/
def NewRec (w w' : World) (rv : Value) (r : Rc.Rec) : Prop :=
  (rv = recV 0 0 (.slice none 0 0) (.slice none 0 0) 0 0 ∧ r = Rc.none) ∨
  ∃ g1 g2, rv = recV r.seq r.kind (.slice (some ⟨g1, 0, none⟩) r.key.length r.key.length) (.slice (some ⟨g2, 0, none⟩) r.val.length r.val.length) r.seg r.off ∧ g1 ≠ g2 ∧ w.heap.size ≤ g1 ∧ w.heap.size ≤ g2 ∧ RowAt w' g1 r.key ∧ RowAt w' g2 r.val
theorem below6 {B g : Nat} {w0 w : World} (hb : Below B w0 w) (hg : B ≤ g) (x0 x1 x2 x3 x4 x5 : Value) :
    Below B w0 ((((((w.setCell ⟨g, 0, none⟩ x0).setCell ⟨g, 1, none⟩ x1).setCell ⟨g, 2, none⟩ x2).setCell ⟨g, 3, none⟩ x3).setCell ⟨g, 4, none⟩ x4).setCell ⟨g, 5, none⟩ x5) :=
  (((((hb.setCell hg _).setCell hg _).setCell hg _).setCell hg _).setCell hg _).setCell hg _

theorem get_short (v : Value) (l : List UInt8) (B : Nat) (w : World) (h : Bs w B v l) (hl : l.length < 21) :
    Calls Tryd.prog 34 #[v] w fun e w' => ∃ rv, e = .returned (.tuple #[rv, .int .i64 0, .int .i64 22]) ∧ NewRec w w' rv Rc.none ∧ Below w.heap.size w w' := by
  obtain ⟨A, c, rfl, _, _⟩ := h
  go_enter Tryd.func34, Tryd.ntmps34
  go_wp2_with fail
  exact bodyPost_ret (v := .tuple #[recV 0 0 (.slice none 0 0) (.slice none 0 0) 0 0, .int .i64 0, .int .i64 22]) (by simp [results, Tryd.results34, go_sem, recV]) rfl ⟨_, rfl, .inl ⟨rfl, rfl⟩, bnew w _⟩
set_option maxRecDepth 100000 in
set_option maxHeartbeats 4000000 in
theorem get_bad (v : Value) (l : List UInt8) (B : Nat) (w : World) (h : Bs w B v l) (hB : B ≤ w.heap.size) (hl : 21 ≤ l.length) (hm : l.length ≤ 140737488355328) (ht : RTab w) (hr : Cx.right (l.take 21) = false) :
    Calls Tryd.prog 34 #[v] w fun e w' => ∃ rv, e = .returned (.tuple #[rv, .int .i64 0, .int .i64 23]) ∧ NewRec w w' rv Rc.none ∧ Below w.heap.size w w' := by
  obtain ⟨A, c, rfl, _, _⟩ := id h
  obtain ⟨A1, m1, c1, cut1, s1⟩ := cut_take h 21 21 rfl hl
  have b0 := bnew w (.cells #[.int .u64 0, .int .i64 0, .slice none 0 0, .slice none 0 0, .int .u32 0, .int .u32 0] 50)
  have hs := s1 _ _ (h.below b0 hB)
  have hc := Crc.right_b _ _ _ _ hs (ht.on b0).1 (by rw [List.length_take]; omega)
  rw [hr] at hc
  have HC := Lib.hid hc
  clear hc hs s1 hr ht h
  generalize l.length = n at *
  go_enter Tryd.func34, Tryd.ntmps34
  go_wp2_with fail
  refine HC.out.mono ?_
  rintro e w1 ⟨rfl, rfl⟩
  go_wp2_with fail
  exact bodyPost_ret (v := .tuple #[recV 0 0 (.slice none 0 0) (.slice none 0 0) 0 0, .int .i64 0, .int .i64 23]) (by simp [results, Tryd.results34, go_sem, recV]) rfl ⟨_, rfl, .inl ⟨rfl, rfl⟩, b0⟩
theorem RowAt.set6 {w : World} {g b : Nat} {l : List UInt8} (h : RowAt w g l) (hg : g ≠ b) (x0 x1 x2 x3 x4 x5 : Value) :
    RowAt ((((((w.setCell ⟨b, 0, none⟩ x0).setCell ⟨b, 1, none⟩ x1).setCell ⟨b, 2, none⟩ x2).setCell ⟨b, 3, none⟩ x3).setCell ⟨b, 4, none⟩ x4).setCell ⟨b, 5, none⟩ x5) g l := by
  unfold RowAt
  rw [Below.heap_setCell _ _ _ _ hg, Below.heap_setCell _ _ _ _ hg, Below.heap_setCell _ _ _ _ hg, Below.heap_setCell _ _ _ _ hg, Below.heap_setCell _ _ _ _ hg, Below.heap_setCell _ _ _ _ hg]
  exact h
theorem full_rest (l : List UInt8) (a1 a2 s : Nat) (hs : s = 25 + a1 + a2) (hl : s ≤ l.length) :
    ((l.drop 21).take (s - 21)).take a1 = (l.drop 21).take a1 ∧ (((l.drop 21).take (s - 21)).drop a1).take a2 = (l.drop (21 + a1)).take a2 ∧ ((l.drop 21).take a1).length = a1 ∧ ((l.drop (21 + a1)).take a2).length = a2 := by
  refine ⟨?_, ?_, ?_, ?_⟩
  · rw [List.take_take, Nat.min_eq_left (by omega)]
  · rw [List.drop_take, List.take_take, List.drop_drop, Nat.min_eq_left (by omega)]
  · rw [List.length_take, List.length_drop]; omega
  · rw [List.length_take, List.length_drop]; omega
theorem RowAt.bs' {w : World} {g B n : Nat} {l : List UInt8} (h : RowAt w g l) (hg : g < B) (hn : l.length = n) : Bs w B (.slice (some ⟨g, 0, none⟩) n n) l := by
  subst hn
  exact h.bs hg
theorem Rc.getQ_may {l : List UInt8} (h : 21 ≤ l.length) (hr : Cx.right (l.take 21) = true) (hm : Rc.mayB (Rc.rdR l) = false) : Rc.getQ l = (Rc.none, 0, 23) := by
  unfold Rc.getQ
  rw [if_neg (by omega), hr, if_neg (by simp), if_pos hm]
theorem Rc.getQ_torn {l : List UInt8} (h : 21 ≤ l.length) (hr : Cx.right (l.take 21) = true) (hm : Rc.mayB (Rc.rdR l) = true) (hs : l.length < Rc.sizeN (Rc.rdR l)) : Rc.getQ l = (Rc.none, 0, 22) := by
  unfold Rc.getQ
  rw [if_neg (by omega), hr, if_neg (by simp), hm, if_neg (by simp), if_pos hs]
theorem Rc.getQ_wrong {l : List UInt8} (h : 21 ≤ l.length) (hr : Cx.right (l.take 21) = true) (hm : Rc.mayB (Rc.rdR l) = true) (hs : ¬ l.length < Rc.sizeN (Rc.rdR l)) (hw : Cx.right (l.take (Rc.sizeN (Rc.rdR l))) = false) : Rc.getQ l = (Rc.none, Rc.sizeN (Rc.rdR l), 23) := by
  unfold Rc.getQ
  rw [if_neg (by omega), hr, if_neg (by simp), hm, if_neg (by simp), if_neg hs, if_pos hw]
theorem Rc.getQ_full {l : List UInt8} (h : 21 ≤ l.length) (hr : Cx.right (l.take 21) = true) (hm : Rc.mayB (Rc.rdR l) = true) (hs : ¬ l.length < Rc.sizeN (Rc.rdR l)) (hw : Cx.right (l.take (Rc.sizeN (Rc.rdR l))) = true) : Rc.getQ l = (Rc.full l, Rc.sizeN (Rc.rdR l), 0) := by
  unfold Rc.getQ
  rw [if_neg (by omega), hr, if_neg (by simp), hm, if_neg (by simp), if_neg hs, hw, if_neg (by simp)]
theorem Rc.fieldN_lt (l : List UInt8) (o n m : Nat) (h : 2 ^ (8 * n) = m) : Rc.fieldN l o n < m := by
  subst h
  exact Px.rdN_lt _ _
set_option maxRecDepth 100000 in
set_option maxHeartbeats 8000000 in
theorem get_rest (v : Value) (l : List UInt8) (B : Nat) (w : World) (h : Bs w B v l) (hB : B ≤ w.heap.size) (hl : 21 ≤ l.length) (hm : l.length ≤ 140737488355328) (ht : RTab w) (hr : Cx.right (l.take 21) = true) :
    Calls Tryd.prog 34 #[v] w fun e w' => ∃ rv, e = .returned (.tuple #[rv, .int .i64 ((Rc.getQ l).2.1 : Nat), .int .i64 ((Rc.getQ l).2.2 : Nat)]) ∧ NewRec w w' rv (Rc.getQ l).1 ∧ Below w.heap.size w w' := by
  obtain ⟨A, c, rfl, _, _⟩ := id h
  obtain ⟨A1, m1, c1, cut1, s1⟩ := cut_take h 21 21 rfl hl
  have b0 := bnew w (.cells #[.int .u64 0, .int .i64 0, .slice none 0 0, .slice none 0 0, .int .u32 0, .int .u32 0] 50)
  have hs := s1 _ _ (h.below b0 hB)
  have hc := Crc.right_b _ _ _ _ hs (ht.on b0).1 (by rw [List.length_take]; omega)
  rw [hr] at hc
  have HC := Lib.hid hc
  have H := Lib.hid h
  have HT := Lib.hid ht
  have HRd := Lib.hid (rread_b _ l B _ (h.below b0 hB) (Nat.le_trans hB b0.size) hl hm (ht.on b0).2)
  have q0 := Rc.fieldN_lt l 0 1 256 rfl
  have q1 := Rc.fieldN_lt l 1 1 256 rfl
  have q2 := Rc.fieldN_lt l 2 2 65536 rfl
  have q3 := Rc.fieldN_lt l 4 6 281474976710656 rfl
  have q4 := Rc.fieldN_lt l 10 3 16777216 rfl
  have q5 := Rc.fieldN_lt l 13 4 4294967296 rfl
  have hq : Hid (Rc.rdR l = { seq := (Rc.fieldN l 4 6 : Nat), kind := (Rc.fieldN l 0 1 : Nat), key := List.replicate (Rc.fieldN l 1 1) 0, val := List.replicate (Rc.fieldN l 2 2) 0, seg := (Rc.fieldN l 10 3 : Nat), off := (Rc.fieldN l 13 4 : Nat) }) := Lib.hid rfl
  have hfull : Hid (Rc.full l = { Rc.rdR l with key := (l.drop 21).take (Rc.fieldN l 1 1), val := (l.drop (21 + Rc.fieldN l 1 1)).take (Rc.fieldN l 2 2) }) := Lib.hid rfl
  have HR := Lib.hid hr
  clear hc hs s1 hr ht h
  unfold toldV at HRd
  generalize Rc.fieldN l 0 1 = a0 at *
  generalize Rc.fieldN l 1 1 = a1 at *
  generalize Rc.fieldN l 2 2 = a2 at *
  generalize Rc.fieldN l 4 6 = a3 at *
  generalize Rc.fieldN l 10 3 = a4 at *
  generalize Rc.fieldN l 13 4 = a5 at *
  generalize hn : l.length = n at *
  have HN := Lib.hid hn
  clear hn
  obtain ⟨q, Hq⟩ : ∃ q, Hid (q = Rc.getQ l) := ⟨_, Lib.hid rfl⟩
  rw [← Hq.out]
  have Hl := Lib.hid hl
  have HB := Lib.hid b0
  go_enter Tryd.func34, Tryd.ntmps34
  go_wp2_with fail
  refine HC.out.mono ?_
  rintro e w1 ⟨rfl, rfl⟩
  go_wp2_with fail
  refine HRd.out.mono ?_
  rintro e w1 ⟨rfl, b1⟩
  go_wp2_with fail
  refine (blank_any a0 a1 a2 a3 a4 a5 w1 (by omega) (by omega) (by omega) (by omega) (by omega) (by omega)).mono ?_
  rintro e w2 ⟨g1, g2, rfl, hg12, hg1, hg2, r1, r2, b2⟩
  unfold recV
  go_wp2_with fail
  have hb2 := bstep (bstep HB.out b1) b2
  have b12 := bstep b1 b2
  have hz1 := b1.size
  simp only [World.size_alloc] at hz1
  have HZ1 := Lib.hid hz1
  clear hz1
  simp only [World.size_alloc] at b12
  have b3 := bnew w2 (.cells #[.int .u64 (a3 : Int), .int .i64 (a0 : Int), .slice (some ⟨g1, 0, none⟩) a1 a1, .slice (some ⟨g2, 0, none⟩) a2 a2, .int .u32 (a4 : Int), .int .u32 (a5 : Int)] 50)
  have hb3 := bstep hb2 b3
  have b13 := b12.trans (b3.mono (by have := b12.size; simpa using this))
  have k1 := r1.on b3
  have k2 := r2.on b3
  have f0 : Rc.Fit ⟨a3, a0, List.replicate a1 0, List.replicate a2 0, a4, a5⟩ := by
    constructor <;> simp <;> omega
  have rV : RecV (w2.alloc (.cells #[.int .u64 (a3 : Int), .int .i64 (a0 : Int), .slice (some ⟨g1, 0, none⟩) a1 a1, .slice (some ⟨g2, 0, none⟩) a2 a2, .int .u32 (a4 : Int), .int .u32 (a5 : Int)] 50)) (w2.alloc (.cells #[.int .u64 (a3 : Int), .int .i64 (a0 : Int), .slice (some ⟨g1, 0, none⟩) a1 a1, .slice (some ⟨g2, 0, none⟩) a2 a2, .int .u32 (a4 : Int), .int .u32 (a5 : Int)] 50)).heap.size (recV a3 a0 (.slice (some ⟨g1, 0, none⟩) a1 a1) (.slice (some ⟨g2, 0, none⟩) a2 a2) a4 a5) ⟨a3, a0, List.replicate a1 0, List.replicate a2 0, a4, a5⟩ :=
    ⟨_, _, rfl, k1.bs' k1.lt (by simp), k2.bs' k2.lt (by simp)⟩
  have hmay := rmay_b _ _ _ _ rV (Nat.le_refl _) f0
  have HV := Lib.hid rV
  have HF := Lib.hid f0
  rw [← hq.out] at hmay
  have HG12 := Lib.hid hg12
  have HG1 := Lib.hid hg1
  have HG2 := Lib.hid hg2
  have R1 := Lib.hid r1
  have R2 := Lib.hid r2
  have B3 := Lib.hid b3
  have HB3 := Lib.hid hb3
  have B13 := Lib.hid b13
  have HB2 := Lib.hid hb2
  clear b1 b2 hb2 b12 b3 hb3 b13 k1 k2 f0 rV hg12 hg1 hg2 r1 r2 HRd HC
  unfold recV at hmay
  cases hmm : Rc.mayB (Rc.rdR l)
  · rw [hmm] at hmay
    have hqq := Lib.hid (Hq.out.trans (Rc.getQ_may (by rw [HN.out]; exact Hl.out) HR.out hmm))
    clear hmm
    refine hmay.mono ?_
    rintro e w4 ⟨rfl, b4⟩
    have b14 := B13.out.trans (b4.mono (by have := B13.out.size; simpa using this))
    have hb4 := bstep HB3.out b4
    obtain ⟨c0, c1, c2, c3, c4, c5⟩ := box6 b14 (by omega)
    obtain ⟨d0, d1, d2, d3, d4, d5⟩ := box6f b14 (by omega)
    clear b4 b14
    go_wp2_with fail
    exact bodyPost_ret (v := .tuple #[recV 0 0 (.slice none 0 0) (.slice none 0 0) 0 0, .int .i64 0, .int .i64 23]) (by simp [results, Tryd.results34, go_sem, recV, c0, c1, c2, c3, c4, c5]) rfl ⟨_, by rw [hqq.out]; rfl, by rw [hqq.out]; exact .inl ⟨rfl, rfl⟩, below6 hb4 (Nat.le_refl _) _ _ _ _ _ _⟩
  · rw [hmm] at hmay
    refine hmay.mono ?_
    rintro e w4 ⟨rfl, b4⟩
    have RV4 := HV.out.on b4
    have hsize := rsize_b _ _ _ w4 RV4 (by simp; omega) (by simp; omega)
    rw [← hq.out] at hsize
    have hsz : Hid (Rc.sizeN (Rc.rdR l) = 25 + a1 + a2) := Lib.hid (by rw [hq.out]; simp [Rc.sizeN])
    have hszL : 25 ≤ Rc.sizeN (Rc.rdR l) := by rw [hsz.out]; omega
    have hszU : Rc.sizeN (Rc.rdR l) ≤ 100000 := by rw [hsz.out]; omega
    have Hmm := Lib.hid hmm
    have hq1 := @Rc.getQ_torn l
    have hq2 := @Rc.getQ_wrong l
    have hq3 := @Rc.getQ_full l
    generalize Rc.sizeN (Rc.rdR l) = sz at *
    have HQ1 := Lib.hid hq1
    have HQ2 := Lib.hid hq2
    have HQ3 := Lib.hid hq3
    clear hq1 hq2 hq3 hmm
    have hb4 := bstep HB3.out b4
    have X4 := (b4.block w2.heap.size (by simp)).trans (heap_alloc_new w2 (.cells #[.int .u64 (a3 : Int), .int .i64 (a0 : Int), .slice (some ⟨g1, 0, none⟩) a1 a1, .slice (some ⟨g2, 0, none⟩) a2 a2, .int .u32 (a4 : Int), .int .u32 (a5 : Int)] 50))
    have b14 := B13.out.trans (b4.mono (by have := B13.out.size; simpa using this))
    have Y4 := (b14.block w.heap.size (by omega)).trans (heap_alloc_new w (.cells #[.int .u64 0, .int .i64 0, .slice none 0 0, .slice none 0 0, .int .u32 0, .int .u32 0] 50))
    obtain ⟨e0, e1, e2, e3, e4, e5⟩ := box6h X4
    have HX4 := Lib.hid X4
    have HY4 := Lib.hid Y4
    have HB4 := Lib.hid hb4
    have B4 := Lib.hid b4
    clear b4 b14 hb4 X4 Y4
    go_wp2_with fail
    clear e0 e1 e2 e3 e4 e5
    refine hsize.mono ?_
    rintro e w5 ⟨rfl, b5⟩
    have X5 := Lib.hid ((b5.block w2.heap.size (by have := HX4.out; exact (Array.getElem?_eq_some_iff.1 this).1)).trans HX4.out)
    have Y5 := Lib.hid ((b5.block w.heap.size (by have := HY4.out; exact (Array.getElem?_eq_some_iff.1 this).1)).trans HY4.out)
    have hb5 := bstep HB4.out b5
    have k1 := Lib.hid (((R1.out.on B3.out).on B4.out).on b5)
    have k2 := Lib.hid (((R2.out.on B3.out).on B4.out).on b5)
    have HB5 := Lib.hid hb5
    clear b5 hb5 hsize hmay RV4
    by_cases hlt : n < sz
    · have hqq := Lib.hid (Hq.out.trans (HQ1.out (by rw [HN.out]; exact Hl.out) HR.out Hmm.out (by rw [HN.out]; exact hlt)))
      obtain ⟨c0, c1, c2, c3, c4, c5⟩ := box6h Y5.out
      obtain ⟨d0, d1, d2, d3, d4, d5⟩ := box6hf Y5.out
      go_wp2_with fail
      exact bodyPost_ret (v := .tuple #[recV 0 0 (.slice none 0 0) (.slice none 0 0) 0 0, .int .i64 0, .int .i64 22]) (by simp [results, Tryd.results34, go_sem, recV, c0, c1, c2, c3, c4, c5]) rfl ⟨_, by rw [hqq.out]; rfl, by rw [hqq.out]; exact .inl ⟨rfl, rfl⟩, below6 HB5.out (Nat.le_refl _) _ _ _ _ _ _⟩
    · have hge : sz ≤ n := by omega
      obtain ⟨A3, m3, c3, cut3, s3⟩ := cut_take H.out sz sz rfl (by rw [HN.out]; exact hge)
      have hs3 := s3 _ _ (H.out.below HB5.out hB)
      have hc3 := Crc.right_b _ _ _ _ hs3 (HT.out.on HB5.out).1 (by rw [List.length_take]; omega)
      cases hw : Cx.right (l.take sz)
      · rw [hw] at hc3
        have hqq := Lib.hid (Hq.out.trans (HQ2.out (by rw [HN.out]; exact Hl.out) HR.out Hmm.out (by rw [HN.out]; exact hlt) hw))
        obtain ⟨c0, c1, c2, c3, c4, c5⟩ := box6h Y5.out
        obtain ⟨d0, d1, d2, d3, d4, d5⟩ := box6hf Y5.out
        have HC3 := Lib.hid hc3
        clear hc3 hw s3 hs3
        go_wp2_with fail
        refine HC3.out.mono ?_
        rintro e w6 ⟨rfl, rfl⟩
        go_wp2_with fail
        exact bodyPost_ret (v := .tuple #[recV 0 0 (.slice none 0 0) (.slice none 0 0) 0 0, .int .i64 (sz : Int), .int .i64 23]) (by simp [results, Tryd.results34, go_sem, recV, c0, c1, c2, c3, c4, c5]) rfl ⟨_, by rw [hqq.out]; rfl, by rw [hqq.out]; exact .inl ⟨rfl, rfl⟩, below6 HB5.out (Nat.le_refl _) _ _ _ _ _ _⟩
      · rw [hw] at hc3
        have hqq := Lib.hid (Hq.out.trans (HQ3.out (by rw [HN.out]; exact Hl.out) HR.out Hmm.out (by rw [HN.out]; exact hlt) hw))
        obtain ⟨A5, m5, c5, cut5, s5⟩ := cut_mid H.out 21 sz 21 sz rfl rfl (by omega) (by rw [HN.out]; exact hge)
        have hs5 := s5 _ _ (H.out.below HB5.out hB)
        obtain ⟨e0, e1, e2, e3, e4, e5⟩ := box6h X5.out
        have HC3 := Lib.hid hc3
        have hC1 : w.heap.size < g1 := by have := HG1.out; have := HZ1.out; omega
        have hC2 : w.heap.size < g2 := by have := HG2.out; have := HZ1.out; omega
        have hD1 := R1.out.lt
        have hD2 := R2.out.lt
        have hfl := fill_any a3 a0 a4 a5 g1 g2 a1 a2 _ _ _ _ B w.heap.size w5.drew hs5 (by rw [List.length_take, List.length_drop, HN.out]; have := hsz.out; omega) (by rw [List.length_take, List.length_drop, HN.out]; omega) k1.out k2.out (by simp) (by simp) HG12.out hB HB5.out.size (Nat.le_of_lt hC1) (Nat.le_of_lt hC2)
        unfold recV at hfl
        have HFl := Lib.hid hfl
        clear hc3 hw s3 hs3 s5 hs5 hfl
        go_wp2_with fail
        refine HC3.out.mono ?_
        rintro e w6 ⟨rfl, rfl⟩
        go_wp2_with fail
        clear e0 e1 e2 e3 e4 e5
        obtain ⟨e0, e1, e2, e3, e4, e5⟩ := box6h X5.out
        go_region_with (go_at_call 51; refine HFl.out.mono ?_; rintro e w7 ⟨⟨u, rfl⟩, r7, r8, o7, b7⟩)
        all_goals
          have X7 := (o7 w2.heap.size (Array.getElem?_eq_some_iff.1 X5.out).1 (by omega) (by omega)).trans X5.out
          have Y7 := (o7 w.heap.size (Array.getElem?_eq_some_iff.1 Y5.out).1 (by omega) (by omega)).trans Y5.out
          obtain ⟨x0, x1, x2, x3, x4, x5⟩ := box6h X7
          obtain ⟨c0, c1', c2, c3', c4, c5'⟩ := box6h Y7
          obtain ⟨d0, d1, d2, d3, d4, d5⟩ := box6hf Y7
          have hb7 := HB5.out.drew.trans b7
          obtain ⟨u1, u2, u3, u4⟩ := full_rest l a1 a2 sz hsz.out (by rw [HN.out]; exact hge)
          have hF : Rc.full l = ⟨a3, a0, (l.drop 21).take a1, (l.drop (21 + a1)).take a2, a4, a5⟩ := by rw [hfull.out, hq.out]
          have HV1 : Hid (recV a3 a0 (.slice (some ⟨g1, 0, none⟩) a1 a1) (.slice (some ⟨g2, 0, none⟩) a2 a2) a4 a5 = recV (Rc.full l).seq (Rc.full l).kind (.slice (some ⟨g1, 0, none⟩) (Rc.full l).key.length (Rc.full l).key.length) (.slice (some ⟨g2, 0, none⟩) (Rc.full l).val.length (Rc.full l).val.length) (Rc.full l).seg (Rc.full l).off) := Lib.hid (by rw [hF]; dsimp only; rw [u3, u4])
          have H7 := Lib.hid (show RowAt w7 g1 (Rc.full l).key by rw [hF]; dsimp only; rw [← u1]; exact r7)
          have H8 := Lib.hid (show RowAt w7 g2 (Rc.full l).val by rw [hF]; dsimp only; rw [← u2]; exact r8)
          clear u1 u2 u3 u4 hF
          clear X7 Y7 o7 b7 r7 r8
          go_wp2_with fail
          exact bodyPost_ret (v := .tuple #[recV a3 a0 (.slice (some ⟨g1, 0, none⟩) a1 a1) (.slice (some ⟨g2, 0, none⟩) a2 a2) a4 a5, .int .i64 (sz : Int), .int .i64 0]) (by simp [results, Tryd.results34, go_sem, recV, c0, c1', c2, c3', c4, c5']) rfl ⟨_, by rw [hqq.out]; rfl, by rw [hqq.out]; exact .inr ⟨g1, g2, HV1.out, HG12.out, by omega, by omega, H7.out.set6 (by omega) _ _ _ _ _ _, H8.out.set6 (by omega) _ _ _ _ _ _⟩, below6 hb7 (Nat.le_refl _) _ _ _ _ _ _⟩
theorem rget_b (v : Value) (l : List UInt8) (B : Nat) (w : World) (h : Bs w B v l) (hB : B ≤ w.heap.size) (hm : l.length ≤ 140737488355328) (ht : RTab w) :
    Calls Tryd.prog 34 #[v] w fun e w' => ∃ rv, e = .returned (.tuple #[rv, .int .i64 ((Rc.getQ l).2.1 : Nat), .int .i64 ((Rc.getQ l).2.2 : Nat)]) ∧ NewRec w w' rv (Rc.getQ l).1 ∧ Below w.heap.size w w' := by
  by_cases hl : l.length < 21
  · have e : Rc.getQ l = (Rc.none, 0, 22) := by unfold Rc.getQ; rw [if_pos hl]
    rw [e]
    exact get_short v l B w h hl
  · cases hr : Cx.right (l.take 21)
    · have e : Rc.getQ l = (Rc.none, 0, 23) := by unfold Rc.getQ; rw [if_neg hl, if_pos hr]
      rw [e]
      exact get_bad v l B w h hB (by omega) hm ht hr
    · exact get_rest v l B w h hB (by omega) hm ht hr
theorem rget_q (v : Value) (l : List UInt8) (B : Nat) (w : World) (h : Bs w B v l) (hB : B ≤ w.heap.size) (hm : l.length ≤ 140737488355328) (ht : RTab w) (q : Rc.Rec) (n e : Nat) (hq : Rc.getQ l = (q, n, e)) :
    Calls Tryd.prog 34 #[v] w fun x w' => ∃ rv, x = .returned (.tuple #[rv, .int .i64 (n : Int), .int .i64 (e : Int)]) ∧ NewRec w w' rv q ∧ Below w.heap.size w w' := by
  have := rget_b v l B w h hB hm ht
  rw [hq] at this
  exact this
end Go.Proofs.YtfabodpefbdbjaaDoor

/- RcKnows -/

/-
  Layer 8: the chapter's rows ('plain', 'knows').
-/
set_option linter.unusedVariables false
set_option linter.unusedSimpArgs false
namespace Go.Proofs.YtfabodpefbdbjaaDoor
open Go.RowKit

def Rc.plain : Rc.Rec := ⟨1, 1, [107], [118], 0, 0⟩
/-- a slice literal whose block bears a mark -/
theorem bs_newM (w : World) (l : List UInt8) (e : TypeId) (fr : Nat × Nat) : Bs (w.alloc (.cells (bvs l).toArray e fr)) (w.heap.size + 1) (.slice (some ⟨w.heap.size, 0, none⟩) l.length l.length) l := by
  refine ⟨_, _, rfl, Nat.le_refl _, fun _ => ⟨w.heap.size, 0, rfl, by omega, fun j u hu => ?_⟩⟩
  rw [Nat.zero_add, cell_of_row (w.alloc (.cells (bvs l).toArray e fr)) w.heap.size j _ e fr (heap_alloc_new w _)]
  simpa using hu
end Go.Proofs.YtfabodpefbdbjaaDoor

/- RcMade -/

/-
  Layer 8: the walk of the laws' own made (a record brought into bounds).
-/
set_option linter.unusedVariables false
set_option linter.unusedSimpArgs false
namespace Go.Proofs.YtfabodpefbdbjaaDoor
open Go.RowKit

/-- all blocks below B, and those from C on, are as they were -/
def Keeps (B C : Nat) (w w' : World) : Prop := ∀ k, k < w.heap.size → (k < B ∨ C ≤ k) → w'.heap[k]? = w.heap[k]?
theorem Keeps.refl (B C : Nat) (w : World) : Keeps B C w w := fun _ _ _ => rfl
end Go.Proofs.YtfabodpefbdbjaaDoor

/- RcBox -/

/-
  Layer 8: records in boxes.
-/
set_option linter.unusedVariables false
set_option linter.unusedSimpArgs false
namespace Go.Proofs.YtfabodpefbdbjaaDoor
open Go.RowKit

/-- block g holds the record r -/
def BoxR (w : World) (g : Nat) (r : Rc.Rec) : Prop := ∃ A c A' c', w.heap[g]? = some (.cells #[.int .u64 r.seq, .int .i64 r.kind, .slice A r.key.length c, .slice A' r.val.length c', .int .u32 r.seg, .int .u32 r.off] 50 (0, 0)) ∧
  Bs w w.heap.size (.slice A r.key.length c) r.key ∧ Bs w w.heap.size (.slice A' r.val.length c') r.val
theorem BoxR.lt {w : World} {g : Nat} {r : Rc.Rec} (h : BoxR w g r) : g < w.heap.size := by
  obtain ⟨_, _, _, _, h, _⟩ := h
  exact (Array.getElem?_eq_some_iff.1 h).1
theorem BoxR.on {w w' : World} {g : Nat} {r : Rc.Rec} (h : BoxR w g r) (hb : Below w.heap.size w w') : BoxR w' g r := by
  have hl := h.lt
  obtain ⟨A, c, A', c', h1, h2, h3⟩ := h
  exact ⟨A, c, A', c', (hb.block g hl).trans h1, h2.on hb, h3.on hb⟩
theorem RecV.form {w : World} {B : Nat} {v : Value} {r : Rc.Rec} (h : RecV w B v r) : ∃ A c A' c', v = .agg #[.int .u64 r.seq, .int .i64 r.kind, .slice A r.key.length c, .slice A' r.val.length c', .int .u32 r.seg, .int .u32 r.off] ∧ Bs w B (.slice A r.key.length c) r.key ∧ Bs w B (.slice A' r.val.length c') r.val := by
  obtain ⟨kv, vv, rfl, h1, h2⟩ := h
  obtain ⟨A, c, rfl, _, _⟩ := id h1
  obtain ⟨A', c', rfl, _, _⟩ := id h2
  exact ⟨A, c, A', c', rfl, h1, h2⟩
/-- a record stored into a box -/
def set6 (w : World) (g : Nat) (y0 y1 y2 y3 y4 y5 : Value) : World :=
  (((((w.setCell ⟨g, 0, none⟩ y0).setCell ⟨g, 1, none⟩ y1).setCell ⟨g, 2, none⟩ y2).setCell ⟨g, 3, none⟩ y3).setCell ⟨g, 4, none⟩ y4).setCell ⟨g, 5, none⟩ y5
theorem set1 {w : World} {g i : Nat} {cur : Array Value} {t : TypeId} (h : w.heap[g]? = some (.cells cur t (0, 0))) (v : Value) : (w.setCell ⟨g, i, none⟩ v).heap[g]? = some (.cells (cur.setIfInBounds i v) t (0, 0)) := by
  rw [setCell_eq_setRow w g i cur t (0, 0) v h]
  exact setRow_heap w g cur _ t (0, 0) h
theorem BoxR.cells {w : World} {g : Nat} {r : Rc.Rec} (h : BoxR w g r) : ∃ A c A' c', (w.cell? ⟨g, 0, none⟩ = some (.int .u64 r.seq) ∧ w.cell? ⟨g, 1, none⟩ = some (.int .i64 r.kind) ∧ w.cell? ⟨g, 2, none⟩ = some (.slice A r.key.length c) ∧ w.cell? ⟨g, 3, none⟩ = some (.slice A' r.val.length c') ∧
    w.cell? ⟨g, 4, none⟩ = some (.int .u32 r.seg) ∧ w.cell? ⟨g, 5, none⟩ = some (.int .u32 r.off)) ∧ RecV w w.heap.size (.agg #[.int .u64 r.seq, .int .i64 r.kind, .slice A r.key.length c, .slice A' r.val.length c', .int .u32 r.seg, .int .u32 r.off]) r := by
  obtain ⟨A, c, A', c', h1, h2, h3⟩ := h
  exact ⟨A, c, A', c', box6h h1, ⟨_, _, rfl, h2, h3⟩⟩

/-- an append as one step of a region, with what it leaves alone -/
theorem step_append_gr {P : Program} (w : World) {ops : Array Oper} {o : Oper} {a : Act} {K : Act → World → Prop} {Q : Exit → Act → World → Prop} {E : Prop} (hgd : o.guard = none) (s x : Operand) (t : TypeId)
    (ho : o.op = .call { callee := .builtin .append, args := #[s, x], argTypes := #[t, t] })
    (base : Nat) (e : TypeId) (i : TypeInfo) (z : Value) (size bytes : Nat) (ht : P.underlying t = some (.slice e)) (hi : P.info? e = some i) (hz : i.zero = some z)
    (hsize : i.size = size) (hby : i.bytes = bytes) (hzs : z.cells.size = size) (hsz : 0 < size)
    (v : Value) (n : Nat) (xs : List Value) (hs : a.eval s = v) (hown : w.ownsRow base e size v n xs)
    (B : Nat) (A : Option Addr) (m c : Nat) (news : List Value) (hx : a.eval x = .slice A m c) (hl : news.length = m * size) (hr : Rd w B A news) (h1 : ∀ u ∈ news, u.oneCell' = true)
    (h63 : n + m ≤ maxLen) (hbytes : (n + m) * bytes ≤ 140737488355328) (hbase : base ≤ w.heap.size)
    (h : ∀ v' w', w'.ownsRow base e size v' (n + m) (xs ++ news) → Below base w w' → w.grownBy w' v.ownBlock → (v'.ownBlock = v.ownBlock ∨ v'.ownBlock = some w.heap.size) → K (a.put o.dst v') w') :
    if Region.wanted o (yielded ops a.tmps) = true then Oper.wp P o a w K Q else E := by
  have hw : Region.wanted o (yielded ops a.tmps) = true := by simp [Region.wanted, hgd]
  rw [if_pos hw]
  exact wp_append_rd w s x t ho base e i z size bytes ht hi hz hsize hby hzs hsz v n xs hs hown B A m c news hx hl hr h1 h63 hbytes hbase fun v' w' h2 h3 h4 =>
    h v' w' h2 ((Below.refl _ _).grown h3 hbase fun k hk => (hown.lt k hk).1) h3 h4
end Go.Proofs.YtfabodpefbdbjaaDoor

/- DxPlain -/

/-
  Layer 2, the document's answer (rows of coefficients, divided as on paper), as plain functions of lists.
-/
set_option linter.unusedVariables false
set_option linter.unusedSimpArgs false
namespace Go.Proofs.YtfabodpefbdbjaaDoor.Cx

/-- what a row of coefficients, the greatest power first, leaves; with b in place of x to 0 -/
def mval (b : BitVec 32) : List Bool → BitVec 32
  | [] => 0#32
  | c :: r => (if c then tp r.length b else 0#32) ^^^ mval b r
def val (l : List Bool) : BitVec 32 := mval e0 l

theorem mval_append (b : BitVec 32) (l m : List Bool) : mval b (l ++ m) = tp m.length (mval b l) ^^^ mval b m := by
  induction l with
  | nil => simp [mval, tp_zero]
  | cons c l ih =>
    simp only [List.cons_append, mval, ih, tp_xor, tp_if, ← tp_add, List.length_append]
    rw [Nat.add_comm m.length l.length, BitVec.xor_assoc]
theorem mval_zeros (b : BitVec 32) (n : Nat) : mval b (List.replicate n false) = 0#32 := by
  induction n with
  | zero => rfl
  | succ n ih => simp [List.replicate_succ, mval, ih]
theorem val_zeros (l : List Bool) (n : Nat) : val (l ++ List.replicate n false) = tp n (val l) := by
  unfold val
  rw [mval_append, mval_zeros, List.length_replicate, BitVec.xor_zero]
/-- one coefficient is turned -/
theorem mval_set (b : BitVec 32) (l : List Bool) : ∀ (p : Nat) (c d : Bool), l[p]? = some c → mval b (l.set p (c ^^ d)) = mval b l ^^^ (if d then tp (l.length - 1 - p) b else 0#32) := by
  induction l with
  | nil => intro p c d h; simp at h
  | cons x l ih =>
    intro p c d h
    rcases p with _ | p
    · simp at h
      subst h
      simp only [List.set_cons_zero, mval, if_xor, List.length_cons]
      rw [BitVec.xor_assoc, BitVec.xor_comm (if d then tp l.length b else 0#32), ← BitVec.xor_assoc]
      simp
    · simp at h
      simp only [List.set_cons_succ, mval, ih p c d h, List.length_set, List.length_cons]
      rw [← BitVec.xor_assoc]
      congr 3
      omega
theorem val_set (l : List Bool) (p : Nat) (c d : Bool) (h : l[p]? = some c) : val (l.set p (c ^^ d)) = val l ^^^ (if d then tp (l.length - 1 - p) e0 else 0#32) := mval_set e0 l p c d h
theorem mval_drop (b : BitVec 32) (l : List Bool) (k : Nat) (c : Bool) (h : l[k]? = some c) : mval b (l.drop k) = (if c then tp (l.length - 1 - k) b else 0#32) ^^^ mval b (l.drop (k + 1)) := by
  have hk : k < l.length := (List.getElem?_eq_some_iff.1 h).1
  have hc : l[k] = c := (List.getElem?_eq_some_iff.1 h).2
  rw [List.drop_eq_getElem_cons hk, mval, hc, List.length_drop, show l.length - (k + 1) = l.length - 1 - k by omega]
/-- with b in place of x to 0: by b -/
theorem mval_mul (b : BitVec 32) (l : List Bool) : mval b l = mul (val l) b := by
  induction l with
  | nil => exact (mul_zero_left b).symm
  | cons c l ih =>
    unfold val at ih ⊢
    simp only [mval, mul_xor_left, ih]
    congr 1
    cases c
    · simp [mul_zero_left]
    · simp only [if_true]
      exact (xp_mul b l.length).symm

/-- a row's bits, where they stand -/
theorem val_bit (l : List Bool) : ∀ (k : Nat), l.length ≤ 32 → k < 32 → (val l.reverse).getLsbD k = (l.reverse.getD (k + l.length - 32) false && decide (32 ≤ k + l.length)) := by
  induction l with
  | nil => intro k h hk; simp [val, mval]
  | cons c l ih =>
    intro k h hk
    have hs : val ((c :: l).reverse) = tx (val l.reverse) ^^^ (if c then e0 else 0#32) := by
      unfold val
      rw [List.reverse_cons, mval_append]
      simp [mval, tp]
    rw [hs, BitVec.getLsbD_xor]
    simp only [List.length_cons] at h
    have hz : (val l.reverse).getLsbD 0 = false := by
      rw [ih 0 (by omega) (by omega)]
      simp
      intro _
      omega
    have ht : (tx (val l.reverse)).getLsbD k = if k = 31 then false else (val l.reverse).getLsbD (k + 1) := by
      unfold tx
      rw [hz]
      simp only [Bool.false_eq_true, if_false, BitVec.xor_zero, BitVec.getLsbD_ushiftRight]
      split
      · rename_i h31
        subst h31
        exact BitVec.getLsbD_of_ge _ _ (by omega)
      · rw [Nat.add_comm]
    rw [ht]
    have he : ∀ i, i < 32 → e0.getLsbD i = decide (i = 31) := by decide
    by_cases h31 : k = 31
    · subst h31
      simp only [if_true, List.reverse_cons, List.length_cons]
      rw [show 31 + (l.length + 1) - 32 = l.reverse.length by simp; omega]
      have hd : decide (32 ≤ 31 + (l.length + 1)) = true := by simp; omega
      rw [hd]
      have he31 : e0.getLsbD 31 = true := by decide
      cases c
      · simp
      · simp only [if_true, he31]
        simp
    · rw [if_neg h31, ih (k + 1) (by omega) (by omega)]
      have e1 : (if c then e0 else 0#32).getLsbD k = false := by
        cases c
        · simp
        · simp [he k hk, h31]
      rw [e1, Bool.xor_false]
      simp only [List.length_cons, List.reverse_cons]
      by_cases hle : 32 ≤ k + (l.length + 1)
      · have q1 : decide (32 ≤ k + 1 + l.length) = true := by simp; omega
        have q2 : decide (32 ≤ k + (l.length + 1)) = true := by simp; omega
        rw [q1, q2, show k + 1 + l.length - 32 = k + (l.length + 1) - 32 by omega]
        simp only [Bool.and_true]
        rw [List.getD_eq_getElem?_getD, List.getD_eq_getElem?_getD, List.getElem?_append_left (by simp; omega)]
      · have q1 : decide (32 ≤ k + 1 + l.length) = false := by simp; omega
        have q2 : decide (32 ≤ k + (l.length + 1)) = false := by simp; omega
        rw [q1, q2]
        simp
theorem val_bit32 (l : List Bool) (h : l.length = 32) (k : Nat) (hk : k < 32) : (val l).getLsbD k = l.getD k false := by
  have := val_bit l.reverse k (by simp; omega) hk
  rw [List.reverse_reverse] at this
  rw [this]
  simp [h]
/-- a polynomial of 32 bits as a row -/
def rowL (a : BitVec 32) (j : Nat) : List Bool := (List.range j).map a.getLsbD
theorem rowL_length (a : BitVec 32) (j : Nat) : (rowL a j).length = j := by simp [rowL]
theorem rowL_get (a : BitVec 32) (k : Nat) (h : k < 32) : (rowL a 32)[k]? = some (a.getLsbD k) := by simp [rowL, h]
theorem val_rowL (a : BitVec 32) : val (rowL a 32) = a := by
  apply BitVec.eq_of_getLsbD_eq
  intro i hi
  rw [val_bit32 _ (rowL_length a 32) i hi, List.getD_eq_getElem?_getD, rowL_get a i hi]
  rfl
/-- a row of bits, the lowest one first, as a number -/
def bitsN : List Bool → Nat
  | [] => 0
  | c :: r => 2 * bitsN r + (if c then 1 else 0)
theorem bitsN_lt (l : List Bool) : bitsN l < 2 ^ l.length := by
  induction l with
  | nil => simp [bitsN]
  | cons c l ih =>
    simp only [bitsN, List.length_cons, Nat.pow_succ]
    cases c <;> simp <;> omega
theorem bitsN_bit (l : List Bool) : ∀ k, (bitsN l).testBit k = l.getD k false := by
  induction l with
  | nil => intro k; simp [bitsN]
  | cons c l ih =>
    intro k
    rcases k with _ | k
    · simp only [bitsN, Nat.testBit_zero]
      cases c <;> simp <;> omega
    · rw [Nat.testBit_succ]
      have : bitsN (c :: l) / 2 = bitsN l := by simp only [bitsN]; cases c <;> simp <;> omega
      rw [this, ih]
      simp
theorem bitsN_val (l : List Bool) (h : l.length = 32) : bitsN l = (val l).toNat := by
  apply Nat.eq_of_testBit_eq
  intro k
  rw [bitsN_bit]
  rcases Nat.lt_or_ge k 32 with hk | hk
  · rw [← val_bit32 l h k hk]
    rfl
  · rw [List.getD_eq_getElem?_getD, List.getElem?_eq_none (by omega), Nat.testBit_lt_two_pow (Nat.lt_of_lt_of_le (val l).isLt (Nat.pow_le_pow_right (by omega) hk))]
    rfl
theorem bitsN_drop (l : List Bool) (k : Nat) (c : Bool) (h : l[k]? = some c) : bitsN (l.drop k) = 2 * bitsN (l.drop (k + 1)) + (if c then 1 else 0) := by
  have hk : k < l.length := (List.getElem?_eq_some_iff.1 h).1
  have hc : l[k] = c := (List.getElem?_eq_some_iff.1 h).2
  rw [List.drop_eq_getElem_cons hk, bitsN, hc]
theorem val_not (l : List Bool) (h : l.length = 32) : val (l.map not) = ~~~ (val l) := by
  apply BitVec.eq_of_getLsbD_eq
  intro i hi
  rw [val_bit32 _ (by simpa using h) i hi, BitVec.getLsbD_not, val_bit32 l h i hi, List.getD_eq_getElem?_getD, List.getD_eq_getElem?_getD, List.getElem?_map, List.getElem?_eq_getElem (by omega)]
  simp [hi]

/-- the modulus' coefficients of x to 31 down to x to 0 -/
def modL : List Bool := (List.range 32).map fun i => [28, 27, 26, 25, 23, 22, 20, 19, 18, 14, 13, 11, 10, 9, 8, 6, 0].contains (31 - i)
theorem modL_length : modL.length = 32 := by decide
theorem val_modL : val modL = tp 32 e0 := by decide +kernel
/-- a step of the division, under way: k coefficients of the modulus are taken off behind place i -/
def DivIn (l0 : List Bool) (i k : Nat) (l : List Bool) : Prop :=
  l.length = l0.length ∧ val (l.drop (i + 1)) ^^^ tp (l0.length - i - 33) (val (modL.drop k)) = val (l0.drop i)
theorem DivIn.zero {l0 : List Bool} {i : Nat} (hi : i + 32 < l0.length) (h : l0[i]? = some true) : DivIn l0 i 0 l0 := by
  refine ⟨rfl, ?_⟩
  rw [List.drop_zero, val_modL, ← tp_add]
  unfold val
  rw [mval_drop e0 l0 i true h, BitVec.xor_comm]
  simp only [if_true]
  congr 2
  omega
theorem DivIn.step {l0 l : List Bool} {i k : Nat} {c m : Bool} (hi : i + 32 < l0.length) (hk : k < 32) (h : DivIn l0 i k l) (hc : l[i + 1 + k]? = some c) (hm : modL[k]? = some m) : DivIn l0 i (k + 1) (l.set (i + 1 + k) (c ^^ m)) := by
  refine ⟨by rw [List.length_set]; exact h.1, ?_⟩
  have hd : (l.set (i + 1 + k) (c ^^ m)).drop (i + 1) = (l.drop (i + 1)).set k (c ^^ m) := by
    rw [List.drop_set, if_neg (by omega)]
    congr 1
    omega
  rw [hd, val_set (l.drop (i + 1)) k c m (by rw [List.getElem?_drop]; exact hc), ← h.2]
  have h2 : val (modL.drop k) = (if m then tp (31 - k) e0 else 0#32) ^^^ val (modL.drop (k + 1)) := by
    have := mval_drop e0 modL k m hm
    rw [modL_length] at this
    exact this
  rw [h2, tp_xor, tp_if, ← tp_add, List.length_drop, h.1, BitVec.xor_assoc]
  congr 4
  omega
theorem DivIn.done {l0 l : List Bool} {i : Nat} (h : DivIn l0 i 32 l) : val (l.drop (i + 1)) = val (l0.drop i) := by
  have := h.2
  rw [show modL.drop 32 = [] by decide] at this
  rw [← this]
  simp [val, mval, tp_zero]
theorem div_same {l : List Bool} {i : Nat} (h : l[i]? = some false) : val (l.drop (i + 1)) = val (l.drop i) := by
  unfold val
  rw [mval_drop e0 l i false h]
  simp

/-- a product's row, under way: of the first row's coefficient number i (which is there) the first k of the second's are laid -/
def MulIn (r0 : List Bool) (b : BitVec 32) (i k : Nat) (r : List Bool) : Prop :=
  r.length = 63 ∧ val r ^^^ tp (31 - i) (val ((rowL b 32).drop k)) = val r0 ^^^ tp (31 - i) b
theorem MulIn.zero {r0 : List Bool} {b : BitVec 32} {i : Nat} (h : r0.length = 63) : MulIn r0 b i 0 r0 := ⟨h, by rw [List.drop_zero, val_rowL]⟩
theorem MulIn.step {r0 r : List Bool} {b : BitVec 32} {i k : Nat} {c : Bool} (hi : i < 32) (hk : k < 32) (h : MulIn r0 b i k r) (hc : r[i + k]? = some c) : MulIn r0 b i (k + 1) (r.set (i + k) (c ^^ b.getLsbD k)) := by
  refine ⟨by rw [List.length_set]; exact h.1, ?_⟩
  rw [val_set r (i + k) c _ hc, ← h.2, h.1]
  have h2 : val ((rowL b 32).drop k) = (if b.getLsbD k then tp (31 - k) e0 else 0#32) ^^^ val ((rowL b 32).drop (k + 1)) := by
    have := mval_drop e0 (rowL b 32) k _ (rowL_get b k hk)
    rw [rowL_length] at this
    exact this
  rw [h2, tp_xor, tp_if, ← tp_add, BitVec.xor_assoc]
  congr 4
  omega
theorem MulIn.done {r0 r : List Bool} {b : BitVec 32} {i : Nat} (h : MulIn r0 b i 32 r) : val r = val r0 ^^^ tp (31 - i) b := by
  have := h.2
  rw [List.drop_eq_nil_of_le (by rw [rowL_length]; omega)] at this
  rw [← this]
  simp [val, mval, tp_zero]
/-- and the rows' beginning -/
def MulOut (a b : BitVec 32) (i : Nat) (r : List Bool) : Prop := r.length = 63 ∧ val r ^^^ mval b ((rowL a 32).drop i) = mul a b
theorem MulOut.zero (a b : BitVec 32) : MulOut a b 0 (List.replicate 63 false) := by
  refine ⟨by simp, ?_⟩
  rw [List.drop_zero, mval_mul, val_rowL]
  unfold val
  rw [mval_zeros, BitVec.zero_xor]
theorem MulOut.off {a b : BitVec 32} {i : Nat} {r : List Bool} (hi : i < 32) (h : MulOut a b i r) (hb : a.getLsbD i = false) : MulOut a b (i + 1) r := by
  refine ⟨h.1, ?_⟩
  rw [← h.2, mval_drop b (rowL a 32) i _ (rowL_get a i hi), hb]
  simp
theorem MulOut.on {a b : BitVec 32} {i : Nat} {r0 r : List Bool} (hi : i < 32) (h : MulOut a b i r0) (hb : a.getLsbD i = true) (hr : MulIn r0 b i 32 r) : MulOut a b (i + 1) r := by
  refine ⟨hr.1, ?_⟩
  rw [← h.2, mval_drop b (rowL a 32) i _ (rowL_get a i hi), hb, hr.done, rowL_length, BitVec.xor_assoc]
  rfl
theorem MulOut.done {a b : BitVec 32} {r : List Bool} (h : MulOut a b 32 r) : val r = mul a b := by
  have := h.2
  rw [List.drop_eq_nil_of_le (by rw [rowL_length]; omega)] at this
  rw [← this]
  simp [mval]

/-- bytes as a row of bits, of each byte the lowest one first -/
def bits8 (c : UInt8) (j : Nat) : List Bool := (List.range j).map fun k => c.toNat.testBit k
theorem bits8_succ (c : UInt8) (j : Nat) : bits8 c (j + 1) = bits8 c j ++ [c.toNat.testBit j] := by simp [bits8, List.range_succ]
theorem bits8_length (c : UInt8) (j : Nat) : (bits8 c j).length = j := by simp [bits8]
def bitsL : List UInt8 → List Bool
  | [] => []
  | c :: l => bits8 c 8 ++ bitsL l
theorem bitsL_length (l : List UInt8) : (bitsL l).length = 8 * l.length := by
  induction l with
  | nil => rfl
  | cons c l ih => simp only [bitsL, List.length_append, bits8_length, ih, List.length_cons]; omega
theorem bitsL_append (l m : List UInt8) : bitsL (l ++ m) = bitsL l ++ bitsL m := by
  induction l with
  | nil => rfl
  | cons c l ih => simp [bitsL, ih]
theorem val_byte (c : UInt8) : tp 32 (val (bits8 c 8)) = tp 8 (by8 c) := by
  have h : ∀ n : Fin 256, tp 32 (val ((List.range 8).map fun k => n.val.testBit k)) = tp 8 (BitVec.ofNat 32 n.val) := by decide +kernel
  exact h ⟨c.toNat, c.toNat_lt⟩
theorem reg_bits (l : List UInt8) : reg 0#32 l = tp 32 (val (bitsL l)) := by
  have key : ∀ (l : List UInt8) (r : BitVec 32), reg r l = tp (8 * l.length) r ^^^ tp 32 (val (bitsL l)) := by
    intro l
    induction l with
    | nil => intro r; simp only [reg, bitsL, val, mval, tp_zero, List.length_nil, Nat.mul_zero, BitVec.xor_zero]; rfl
    | cons c l ih =>
      intro r
      show reg (tp 8 (r ^^^ by8 c)) l = _
      have e1 : val (bitsL (c :: l)) = tp (8 * l.length) (val (bits8 c 8)) ^^^ val (bitsL l) := by
        unfold val
        rw [bitsL, mval_append, bitsL_length]
      rw [ih, e1, tp_xor, tp_xor, tp_xor, ← tp_add, ← tp_add, ← tp_add, Nat.add_comm 32, tp_add (8 * l.length) 32, val_byte, ← tp_add, ← BitVec.xor_assoc]
      congr 3
  rw [key, tp_zero, BitVec.zero_xor]
/-- the first k of the row's bits are turned -/
def FlipIn (l : List UInt8) (k : Nat) (r : List Bool) : Prop :=
  r.length = 8 * l.length + 32 ∧ val r ^^^ tp (8 * l.length) (val (List.replicate (32 - k) true)) = tp 32 (val (bitsL l)) ^^^ tp (8 * l.length) ones
theorem val_ones : val (List.replicate 32 true) = ones := by decide +kernel
theorem FlipIn.zero (l : List UInt8) : FlipIn l 0 (bitsL l ++ List.replicate 32 false) :=
  ⟨by rw [List.length_append, bitsL_length, List.length_replicate], by rw [val_zeros, Nat.sub_zero, val_ones]⟩
theorem FlipIn.step {l : List UInt8} {k : Nat} {r : List Bool} {c : Bool} (h : FlipIn l k r) (hk : k < 32) (hc : r[k]? = some c) : FlipIn l (k + 1) (r.set k (!c)) := by
  refine ⟨by rw [List.length_set]; exact h.1, ?_⟩
  have e : (!c) = (c ^^ true) := by cases c <;> rfl
  rw [e, val_set r k c true hc, ← h.2]
  obtain ⟨m, hm⟩ : ∃ m, 32 - k = m + 1 := ⟨31 - k, by omega⟩
  rw [hm, show 32 - (k + 1) = m by omega, List.replicate_succ]
  have e2 : val (true :: List.replicate m true) = tp m e0 ^^^ val (List.replicate m true) := by
    unfold val
    simp [mval]
  rw [e2, tp_xor, ← tp_add, h.1, BitVec.xor_assoc]
  simp only [if_true]
  congr 3
  omega
theorem FlipIn.done {l : List UInt8} {r : List Bool} (h : FlipIn l 32 r) : val r = reg ones l := by
  have := h.2
  simp only [Nat.sub_self, List.replicate_zero] at this
  rw [reg_from ones l, reg_bits, ← this]
  simp [val, mval, tp_zero]
end Go.Proofs.YtfabodpefbdbjaaDoor.Cx

/- DxMem -/

/-
  Layer 2, the document's answer: the walks of modulus, Row and Bits.
-/
set_option linter.unusedVariables false
set_option linter.unusedSimpArgs false
namespace Go.Proofs.YtfabodpefbdbjaaDoor.Crc
open Go.RowKit

theorem bool_info : (Tryd.prog.info? 4).map (fun i => (i.zero, i.size, i.bytes)) = some (some (.bool false), 1, 1) := by kernel_rfl
/-- bools as cells -/
def blvs (l : List Bool) : List Value := l.map Value.bool
theorem blvs_length (l : List Bool) : (blvs l).length = l.length := by simp [blvs]
theorem blvs_append (l m : List Bool) : blvs (l ++ m) = blvs l ++ blvs m := by simp [blvs]
theorem blvs_get (l : List Bool) (k : Nat) (h : k < l.length) : (blvs l)[k]? = some (.bool l[k]) := by simp [blvs, h]
theorem blvs_set (l : List Bool) (k : Nat) (b : Bool) : blvs (l.set k b) = (blvs l).set k (.bool b) := by simp [blvs, List.map_set]
theorem blvs_one (l : List Bool) : ∀ u ∈ blvs l, u.oneCell' = true := by
  intro u hu
  simp only [blvs, List.mem_map] at hu
  obtain ⟨b, _, rfl⟩ := hu
  rfl
/-- the modulus' powers -/
def pw : List Nat := [28, 27, 26, 25, 23, 22, 20, 19, 18, 14, 13, 11, 10, 9, 8, 6, 0]
theorem modL_take (j : Nat) (h : j < 32) : Cx.modL.take (j + 1) = Cx.modL.take j ++ [pw.contains (31 - j)] := by
  rw [List.take_succ_eq_append_getElem (by rw [Cx.modL_length]; exact h)]
  congr 2
  simp only [Cx.modL, List.getElem_map, List.getElem_range]
  rfl
theorem contains_succ (i k : Nat) (h : i < pw.length) : (pw.take (i + 1)).contains k = ((pw.take i).contains k || (pw[i] == k)) := by
  rw [List.take_succ_eq_append_getElem h, List.contains_append]
  simp
  rw [Bool.eq_iff_iff]
  simp
  constructor
  · rintro (h | h)
    · exact .inl h
    · exact .inr h.symm
  · rintro (h | h)
    · exact .inl h
    · exact .inr h.symm

set_option maxRecDepth 100000 in
theorem modulus_any (w : World) : Calls Tryd.prog 71 #[] w fun e w' => ∃ v, e = .returned v ∧ w'.ownsRow w.heap.size 4 1 v 32 (blvs Cx.modL) ∧ Below w.heap.size w w' := by
  obtain ⟨i0, hi0, hz0, hz1, hz2⟩ := info_parts bool_info
  go_enter Tryd.func71, Tryd.ntmps71
  go_wp2_with fail
  generalize hC : #[Value.int .i64 28, Value.int .i64 27, Value.int .i64 26, Value.int .i64 25, Value.int .i64 23, Value.int .i64 22, Value.int .i64 20, Value.int .i64 19, Value.int .i64 18, Value.int .i64 14, Value.int .i64 13, Value.int .i64 11, Value.int .i64 10, Value.int .i64 9, Value.int .i64 8, Value.int .i64 6, Value.int .i64 0] = C
  have hcells : ∀ i, (h : i < 17) → C[i]? = some (.int .i64 ((pw[i]'h : Nat) : Int)) := by
    intro i hi
    have e : C = (pw.map fun n : Nat => Value.int .i64 (n : Int)).toArray := by rw [← hC]; rfl
    rw [e]
    have : i < pw.length := hi
    simp [this]
    rfl
  have Hcells := Lib.hid hcells
  clear hC hcells
  go_loopg [1, 3] 32 (fun g o k wr => ∃ j : Nat, j + g = 32 ∧ k = .int .i64 (31 - (j : Int)) ∧ wr.ownsRow (w.heap.size + 1) 4 1 o j (blvs (Cx.modL.take j)) ∧ Below (w.heap.size + 1) (w.alloc (.cells C 3)) wr)
  case atStart => exact ⟨0, by omega, rfl, World.ownsRow_nil _ _ _ _, Below.refl _ _⟩
  case round =>
    obtain ⟨j, hj, rfl, hown, hb⟩ := hrel
    have hsz := hb.size
    simp only [World.size_alloc] at hsz
    by_cases hlt : j < 32
    · obtain ⟨k, hk⟩ : ∃ k : Nat, (31 - (j : Int)) = (k : Int) := ⟨31 - j, by omega⟩
      have Hkj := Lib.hid (show 31 - j = k by omega)
      rw [hk]
      have Hk := Lib.hid hk
      have Hown := Lib.hid hown
      have Hmod := Lib.hid (modL_take j hlt)
      rw [Hkj.out] at Hmod
      have hk0 : (0 : Int) ≤ (k : Int) := by omega
      have hk31 : (k : Int) ≤ 31 := by omega
      clear hk hown
      obtain ⟨G, rfl⟩ : ∃ G, G = gk := ⟨_, rfl⟩
      go_wp2_with fail
      go_loopg [4, 5] 17 (fun g t i wx => wr = wx ∧ ∃ m : Nat, m + g = 17 ∧ i = .int .i64 m ∧ t = .bool ((pw.take m).contains k))
      case atStart => exact ⟨rfl, 0, by omega, rfl, rfl⟩
      case round =>
        obtain ⟨rfl, m, hm, rfl, rfl⟩ := hrel
        by_cases hm17 : m < 17
        · have hc1 : wr.cell? ⟨w.heap.size, m, none⟩ = some (.int .i64 ((pw[m]'hm17 : Nat) : Int)) := by
            rw [hb.cell (p := ⟨w.heap.size, m, none⟩) (Nat.lt_succ_self _), World.cell?_alloc_mark]
            exact Hcells.out m hm17
          have Hs := Lib.hid (contains_succ m k hm17)
          generalize hpm : pw[m]'hm17 = pm at hc1
          have Hpm := Lib.hid hpm
          clear hpm
          have t17 : (m : Int) < 17 := by omega
          rcases hq : ((pm : Int) == (k : Int)) with _ | _
          all_goals
            have Hq := Lib.hid hq
            go_wp2_with fail
            go_roundg (gk - 1)
            case measure => omega
            case rel =>
              refine ⟨rfl, m + 1, by omega, by go_num, ?_⟩
              rw [Hs.out, Hpm.out]
              have hq2 := Hq.out
              first
                | (have e : (pm == k) = true := by (simp at hq2 ⊢; omega)
                   rw [e]; simp; done)
                | (have e : (pm == k) = false := by (simp at hq2 ⊢; omega)
                   rw [e]; simp; done)
        · obtain rfl : m = 17 := by omega
          rw [show pw.take 17 = pw by rfl]
          generalize hx : pw.contains k = x at *
          go_wp2_with (at_builtin; (refine wpList_append_1 _ rfl _ _ 121 rfl (w.heap.size + 1) 4 i0 (.bool false) 1 Tryd.underlying121 hi0 hz0 hz1 hz2 rfl u1 j (blvs (Cx.modL.take j)) rfl (Hown.out.alloc _) _ 1 (.bool x) rfl (cell_new1 _ _ _) rfl (by unfold maxLen; omega) (by omega) (by simp; omega) ?_); intro v2 w2 hown2 hbw2 _ _)
          go_roundg (G - 1)
          case measure => omega
          case rel => exact ⟨j + 1, by omega, by rw [← Hk.out]; congr 1; omega, by rw [Hmod.out, blvs_append]; exact hown2, (hb.alloc (by omega) _).trans hbw2⟩
    · obtain rfl : j = 32 := by omega
      go_wp2_with fail
      go_ret
      refine ⟨_, rfl, own_base hown (by omega), (((Below.refl _ _).alloc (Nat.le_refl _) _).trans (hb.mono (by omega)))⟩

theorem bits_any (A : Option Addr) (l : List Bool) (c B : Nat) (w : World) (h : Rd w B A (blvs l)) (hl : l.length = 32) :
    Calls Tryd.prog 65 #[.slice A 32 c] w fun e w' => e = .returned (.int .u32 (Cx.val l).toNat) ∧ w = w' := by
  have Hres := Lib.hid (Cx.bitsN_val l hl)
  have Hl := Lib.hid hl
  obtain ⟨b, o, rfl, hbB, hcell⟩ := h (by intro e; have := congrArg List.length e; simp [blvs] at this; subst this; simp at hl)
  have Hcell := Lib.hid hcell
  clear hcell hl h
  go_enter Tryd.func65, Tryd.ntmps65
  go_wp2_with fail
  go_loopg [3, 4] 32 (fun g x k wr => w = wr ∧ ∃ (j y : Nat), j + g = 32 ∧ k = .int .i64 (31 - (j : Int)) ∧ x = .int .u32 (y : Int) ∧ y = Cx.bitsN (l.drop (32 - j)))
  case atStart => exact ⟨rfl, 0, 0, by omega, rfl, rfl, by rw [List.drop_eq_nil_of_le (by rw [Hl.out]; omega)]; rfl⟩
  case round =>
    obtain ⟨rfl, j, y, hj, rfl, rfl, hy⟩ := hrel
    have Hy := Lib.hid hy
    clear hy
    by_cases hlt : j < 32
    · obtain ⟨k, hk⟩ : ∃ k : Nat, (31 - (j : Int)) = (k : Int) := ⟨31 - j, by omega⟩
      have Hkj := Lib.hid (show 31 - j = k by omega)
      have hk31 : k ≤ 31 := by omega
      have hk0 : (0 : Int) ≤ (k : Int) := by omega
      have hk32 : (k : Int) < 32 := by omega
      rw [hk]
      have Hk := Lib.hid hk
      clear hk
      obtain ⟨x, hx⟩ : ∃ x, l[k]? = some x := ⟨l[k]'(by rw [Hl.out]; omega), List.getElem?_eq_getElem _⟩
      have hcj := Hcell.out k _ (blvs_get? l k x hx)
      have hbl := Cx.bitsN_lt (l.drop (32 - j))
      rw [← Hy.out, List.length_drop, Hl.out, show 32 - (32 - j) = j by omega] at hbl
      have hpow : 2 ^ j ≤ 2 ^ 31 := Nat.pow_le_pow_right (by omega) (by omega)
      have hy31 : y < 2147483648 := by omega
      have Hnx := Lib.hid (show Cx.bitsN (l.drop (32 - (j + 1))) = 2 * y + (if x then 1 else 0) by
        rw [show 32 - (j + 1) = k by have := Hkj.out; omega, Cx.bitsN_drop l k x hx, Hy.out, show k + 1 = 32 - j by have := Hkj.out; omega])
      clear hx hbl hpow
      rcases x with _ | _
      all_goals
        go_wp2_with fail
        go_roundg (gk - 1)
        case measure => omega
        case rel => exact ⟨rfl, j + 1, _, by omega, by rw [← Hk.out]; congr 1; omega, by rw [Hnx.out]; simp; omega, rfl⟩
    · obtain rfl : j = 32 := by omega
      rw [show (32 - 32 : Nat) = 0 by rfl, List.drop_zero] at Hy
      go_wp2_with fail
      go_ret
      exact ⟨ret_int (by rw [← Hres.out, Hy.out]), rfl⟩
end Go.Proofs.YtfabodpefbdbjaaDoor.Crc

/- DxLeft -/

/-
  Layer 2, the document's answer: the walk of 'left' (the division).
-/
set_option linter.unusedVariables false
set_option linter.unusedSimpArgs false
namespace Go.Proofs.YtfabodpefbdbjaaDoor.Crc
open Go.RowKit

/-- a window of bools that may be written: block g from place o on -/
def OwnB (w : World) (base g o : Nat) (l : List Bool) : Prop := base ≤ g ∧ g < w.heap.size ∧ ∀ k c, l[k]? = some c → w.cell? ⟨g, o + k, none⟩ = some (.bool c) ∧ w.frozen? ⟨g, o + k, none⟩ = false
theorem OwnB.of_own {w : World} {base g n cap : Nat} {l : List Bool} (h : w.ownsRow base 4 1 (.slice (some ⟨g, 0, none⟩) n cap) n (blvs l)) : OwnB w base g 0 l := by
  have hlt := h.lt g rfl
  refine ⟨hlt.1, hlt.2, fun k c hk => ?_⟩
  have h1 := h.cells (g := g) rfl k _ (blvs_get? l k c hk)
  rw [add_none] at h1
  exact ⟨h1, by rw [Nat.zero_add]; exact h.frozenAt k⟩
theorem OwnB.drop {w : World} {base g o : Nat} {l : List Bool} (h : OwnB w base g o l) (m : Nat) : OwnB w base g (o + m) (l.drop m) :=
  ⟨h.1, h.2.1, fun k c hk => by
    rw [List.getElem?_drop] at hk
    have := h.2.2 (m + k) c hk
    rw [Nat.add_assoc]
    exact this⟩
theorem OwnB.rd {w : World} {base g o : Nat} {l : List Bool} (h : OwnB w base g o l) : Rd w w.heap.size (some ⟨g, o, none⟩) (blvs l) := fun _ =>
  ⟨g, o, rfl, h.2.1, fun j u hu => by
    simp only [blvs, List.getElem?_map] at hu
    rcases hj : l[j]? with _ | c
    · rw [hj] at hu; cases hu
    · rw [hj] at hu
      simp at hu
      rw [← hu]
      exact (h.2.2 j c hj).1⟩
theorem OwnB.set {w : World} {base g o : Nat} {l : List Bool} (h : OwnB w base g o l) (k : Nat) (b : Bool) (hk : k < l.length) : OwnB (w.setCell ⟨g, o + k, none⟩ (.bool b)) base g o (l.set k b) := by
  refine ⟨h.1, by simpa using h.2.1, fun j c hj => ?_⟩
  refine ⟨?_, ?_⟩
  · by_cases e : j = k
    · subst e
      rw [List.getElem?_set_self hk] at hj
      injection hj with hj
      subst hj
      obtain ⟨x, hx⟩ : ∃ x, l[j]? = some x := ⟨l[j], List.getElem?_eq_getElem hk⟩
      exact World.cell?_setCell_same _ _ _ (h.2.2 j x hx).1
    · rw [List.getElem?_set_ne (Ne.symm e)] at hj
      rw [World.cell?_setCell_other]
      · exact (h.2.2 j c hj).1
      · simp only [ne_eq, Addr.mk.injEq]; omega
  · rw [World.frozen?_setCell]
    by_cases e : j = k
    · subst e
      obtain ⟨x, hx⟩ : ∃ x, l[j]? = some x := ⟨l[j], List.getElem?_eq_getElem hk⟩
      exact (h.2.2 j x hx).2
    · rw [List.getElem?_set_ne (Ne.symm e)] at hj
      exact (h.2.2 j c hj).2
theorem OwnB.drew {w : World} {base g o : Nat} {l : List Bool} (h : OwnB w base g o l) : OwnB w.drew base g o l := h
theorem bne_xor (x y : Bool) : (!(x == y)) = (x ^^ y) := by cases x <;> cases y <;> rfl

set_option maxRecDepth 100000 in
set_option maxHeartbeats 2000000 in
theorem left_any (A : Option Addr) (row : List Bool) (c : Nat) (w : World) (h : Rd w w.heap.size A (blvs row)) (hl : 32 ≤ row.length) (hm : row.length ≤ 1000000) :
    Calls Tryd.prog 64 #[.slice A row.length c] w fun e w' => ∃ (g o cc : Nat) (r : List Bool), e = .returned (.slice (some ⟨g, o, none⟩) 32 cc) ∧ 32 ≤ cc ∧ OwnB w' w.heap.size g o r ∧ r.length = 32 ∧ Cx.val r = Cx.val row ∧ Below w.heap.size w w' := by
  obtain ⟨i0, hi0, hz0, hz1, hz2⟩ := info_parts bool_info
  have Hh := Lib.hid h
  clear h
  obtain ⟨n, hn⟩ : ∃ n, row.length = n := ⟨_, rfl⟩
  have Hn := Lib.hid hn
  rw [hn] at hl hm ⊢
  clear hn
  go_enter Tryd.func64, Tryd.ntmps64
  go_wp2_with fail
  refine (modulus_any _).mono ?_
  rintro e w1 ⟨vm, rfl, hmod, b1⟩
  obtain ⟨gm, capm, rfl, hgm1, hgm2⟩ := hmod.form (by omega)
  have Hmod := Lib.hid hmod
  clear hmod
  go_wp2_with (at_builtin; (refine wpList_append_rd _ rfl _ _ 121 rfl w1.heap.size 4 i0 (.bool false) 1 1 Tryd.underlying121 hi0 hz0 hz1 hz2 rfl (by omega) (.slice none 0 0) 0 [] rfl (World.ownsRow_nil _ _ _ _) w.heap.size A n c (blvs row) rfl (by rw [blvs_length, Hn.out]; omega) (Hh.out.below b1 (Nat.le_refl _)) (blvs_one row) (by unfold maxLen; omega) (by omega) (Nat.le_refl _) ?_); intro v2 w2 hown2 b2 _ _)
  rw [Nat.zero_add, List.nil_append] at hown2
  obtain ⟨g, cap, rfl, hg1, hg2⟩ := hown2.form (by omega)
  have Hown2 := Lib.hid hown2
  clear hown2
  go_loopg [4] 0 (fun k o wr => w2 = wr ∧ o = .slice (some ⟨g, 0, none⟩) n cap)
  case atStart => exact ⟨rfl, rfl⟩
  case round =>
    obtain ⟨rfl, rfl⟩ := hrel
    have hn32 : decide (n < 32) = false := by simp; omega
    go_wp2_with fail
    clear hn32
    go_loopg [5] (n - 32) (fun k i wr => ∃ (j : Nat) (lj : List Bool), j + k = n - 32 ∧ i = .int .i64 j ∧ wr.ownsRow w1.heap.size 4 1 (.slice (some ⟨g, 0, none⟩) n cap) n (blvs lj) ∧ lj.length = n ∧ Cx.val (lj.drop j) = Cx.val row ∧ Below w1.heap.size w1 wr)
    case atStart => exact ⟨0, row, by omega, rfl, Hown2.out, Hn.out, rfl, b2⟩
    case round =>
      obtain ⟨j, lj, hj, rfl, hown, hlj, hval, hb⟩ := hrel
      have Hlj := Lib.hid hlj
      have Hval := Lib.hid hval
      have Hown := Lib.hid hown
      clear hlj hval hown
      by_cases hlt : j + 32 < n
      · have t1 : (j : Int) + 32 < (n : Int) := by omega
        obtain ⟨x, hx⟩ : ∃ x, lj[j]? = some x := ⟨lj[j]'(by rw [Hlj.out]; omega), List.getElem?_eq_getElem _⟩
        have hcell := Hown.out.cellAt j (by omega)
        rw [blvs_get? lj j x hx] at hcell
        obtain ⟨G, rfl⟩ : ∃ G, G = gk := ⟨_, rfl⟩
        rcases x with _ | _
        · have Hx := Lib.hid hx
          clear hx
          go_wp2_with fail
          go_roundg (G - 1)
          case measure => omega
          case rel => exact ⟨j + 1, lj, by omega, by go_num, Hown.out, Hlj.out, by rw [Cx.div_same Hx.out, Hval.out], hb⟩
        · have Hx := Lib.hid hx
          clear hx
          go_wp2_with fail
          clear hcell
          go_loopg [6] 32 (fun k i wx => ∃ (m : Nat) (lm : List Bool), m + k = 32 ∧ i = .int .i64 m ∧ wx.ownsRow w1.heap.size 4 1 (.slice (some ⟨g, 0, none⟩) n cap) n (blvs lm) ∧ Cx.DivIn lj j m lm ∧ Below w1.heap.size w1 wx)
          case atStart => exact ⟨0, lj, by omega, rfl, Hown.out, Cx.DivIn.zero (by rw [Hlj.out]; exact hlt) Hx.out, hb⟩
          case round =>
            obtain ⟨m, lm, hm, rfl, hown, hdiv, hbx⟩ := hrel
            have Hdiv := Lib.hid hdiv
            have Hownm := Lib.hid hown
            clear hdiv hown
            have Hlm := Lib.hid (Hdiv.out.1.trans Hlj.out)
            by_cases hm32 : m < 32
            · obtain ⟨x, hx⟩ : ∃ x, lm[j + 1 + m]? = some x := ⟨lm[j + 1 + m]'(by rw [Hlm.out]; omega), List.getElem?_eq_getElem _⟩
              obtain ⟨y, hy⟩ : ∃ y, Cx.modL[m]? = some y := ⟨Cx.modL[m]'(by rw [Cx.modL_length]; omega), List.getElem?_eq_getElem _⟩
              have hc1 := Hownm.out.cellAt (j + 1 + m) (by omega)
              rw [blvs_get? lm _ x hx] at hc1
              have hf1 := Hownm.out.frozenAt (j + 1 + m)
              have hc2 := (hbx.cell (p := ⟨gm, m, none⟩) hgm2).trans (Hmod.out.cellAt m (by omega))
              rw [blvs_get? Cx.modL m y hy] at hc2
              have Hstep := Lib.hid (Cx.DivIn.step (by rw [Hlj.out]; exact hlt) hm32 Hdiv.out hx hy)
              have hxy := bne_xor x y
              generalize (x ^^ y) = z at hxy Hstep
              clear hx hy
              have t2 : (0 : Int) ≤ (j : Int) + 1 + (m : Int) := by omega
              have t3 : (j : Int) + 1 + (m : Int) < (n : Int) := by omega
              have t4 : ((j : Int) + 1 + (m : Int)).toNat = j + 1 + m := by omega
              have t5 : (m : Int) < 32 := by omega
              have hne : g ≠ gm := by omega
              go_wp2_with fail
              go_region
              go_wp2_with fail
              go_roundg (gk - 1)
              case measure => omega
              case rel =>
                obtain ⟨hst, _⟩ := Hownm.out.stored (j + 1 + m) (.bool z)
                rw [← blvs_set] at hst
                exact ⟨m + 1, _, by omega, by go_num, hst.drew, Hstep.out, (hbx.setCell hg1 _).drew⟩
            · obtain rfl : m = 32 := by omega
              go_wp2_with fail
              go_roundg (G - 1)
              case measure => omega
              case rel => exact ⟨j + 1, lm, by omega, by go_num, Hownm.out, Hlm.out, by rw [Hdiv.out.done, Hval.out], hbx⟩
      · obtain rfl : j = n - 32 := by omega
        obtain ⟨k, rfl⟩ : ∃ k, n = k + 32 := ⟨n - 32, by omega⟩
        rw [Nat.add_sub_cancel] at Hval
        obtain ⟨q, hq⟩ : ∃ q, k + 32 - 32 = q := ⟨_, rfl⟩
        have hq' : q = k := by omega
        rw [hq]
        subst hq'
        clear hq
        have hcap : q + 32 ≤ cap := by
          rcases Hown.out.2 with ⟨h0, _⟩ | ⟨g', cap', cur, hv, _, _, hc, _⟩
          · cases h0
          · injection hv with _ _ h3
            omega
        have t1 : ¬ cap = q := by omega
        go_wp2_with fail
        go_ret
        refine ⟨g, q, cap - q, lj.drop q, ?_, by omega, ?_, by rw [List.length_drop, Hlj.out]; omega, Hval.out, b1.trans (hb.mono b1.size)⟩
        · rfl
        · have := (OwnB.of_own Hown.out).drop q
          rw [Nat.zero_add] at this
          exact ⟨by have := b1.size; omega, this.2.1, this.2.2⟩
end Go.Proofs.YtfabodpefbdbjaaDoor.Crc

/- DxSum -/

/-
  Layer 2, the document's answer: the walk of Sum.
-/
set_option linter.unusedVariables false
set_option linter.unusedSimpArgs false
namespace Go.Proofs.YtfabodpefbdbjaaDoor.Crc
open Go.RowKit

/-- the first k places turned -/
def notL (r : List Bool) (k : Nat) : List Bool := (r.take k).map not ++ r.drop k
theorem notL_zero (r : List Bool) : notL r 0 = r := by simp [notL]
theorem notL_length (r : List Bool) (k : Nat) : (notL r k).length = r.length := by simp [notL]; omega
theorem notL_get (r : List Bool) (k : Nat) : (notL r k)[k]? = r[k]? := by
  unfold notL
  rcases Nat.lt_or_ge k r.length with h | h
  · rw [List.getElem?_append_right (by simp; omega), List.length_map, List.length_take, Nat.min_eq_left (by omega), Nat.sub_self, List.getElem?_drop, Nat.add_zero]
  · rw [List.getElem?_eq_none (by simp; omega), List.getElem?_eq_none (by omega)]
theorem notL_succ (r : List Bool) (k : Nat) (x : Bool) (h : r[k]? = some x) : (notL r k).set k (!x) = notL r (k + 1) := by
  obtain ⟨hk, hx⟩ := List.getElem?_eq_some_iff.1 h
  unfold notL
  rw [List.set_append_right _ _ (by simp; omega), List.length_map, List.length_take, Nat.min_eq_left (by omega), Nat.sub_self, List.drop_eq_getElem_cons hk, List.set_cons_zero, List.take_succ_eq_append_getElem hk, List.map_append, hx]
  simp
theorem notL_all (r : List Bool) (h : r.length = 32) : notL r 32 = r.map not := by
  unfold notL
  rw [List.take_of_length_le (by omega), List.drop_eq_nil_of_le (by omega), List.append_nil]

theorem byte_bit (c : UInt8) (k : Nat) : ((((c.toNat / 2 ^ k : Nat) : Int) % 2) == 1) = c.toNat.testBit k := by
  rw [Nat.testBit_eq_decide_div_mod_eq, Bool.eq_iff_iff]
  simp only [beq_iff_eq, decide_eq_true_eq]
  omega
theorem byte_next (n j : Nat) : ((n / 2 ^ j : Nat) : Int) / 2 = ((n / 2 ^ (j + 1) : Nat) : Int) := by
  rw [Nat.pow_succ, ← Nat.div_div_eq_div_mul]
  omega

set_option maxRecDepth 100000 in
set_option maxHeartbeats 2000000 in
theorem rsum_any (A : Option Addr) (l : List UInt8) (c : Nat) (w : World) (h : Rd w w.heap.size A (bvs l)) (hm : l.length ≤ 100000) :
    Calls Tryd.prog 54 #[.slice A l.length c] w fun e w' => e = .returned (.int .u32 (Cx.sum l).toNat) ∧ Below w.heap.size w w' := by
  obtain ⟨i0, hi0, hz0, hz1, hz2⟩ := info_parts bool_info
  have Hh := Lib.hid h
  clear h
  obtain ⟨n, hn⟩ : ∃ n, l.length = n := ⟨_, rfl⟩
  have Hn := Lib.hid hn
  rw [hn] at hm ⊢
  clear hn
  go_enter Tryd.func54, Tryd.ntmps54
  go_wp2_with fail
  go_loopg [3, 4] n (fun k o i wr => ∃ j : Nat, j + k = n ∧ i = .int .i64 j ∧ wr.ownsRow w.heap.size 4 1 o (8 * j) (blvs (Cx.bitsL (l.take j))) ∧ Below w.heap.size w wr)
  case atStart => exact ⟨0, by omega, rfl, World.ownsRow_nil _ _ _ _, Below.refl _ _⟩
  case round =>
    obtain ⟨j, hj, rfl, hown, hb⟩ := hrel
    obtain ⟨G, rfl⟩ : ∃ G, G = gk := ⟨_, rfl⟩
    by_cases hlt : j < n
    · obtain ⟨bb, o, rfl, hbb, hc⟩ := Hh.out (by intro e; have := congrArg List.length e; simp [bvs, Hn.out] at this; omega)
      have hjl : j < l.length := by rw [Hn.out]; exact hlt
      have hcell := (hb.cell (p := ⟨bb, o + j, none⟩) hbb).trans (hc j _ (bvs_get l j hjl))
      unfold bv at hcell
      have Htk := Lib.hid (List.take_succ_eq_append_getElem hjl)
      generalize l[j] = x at hcell Htk
      clear hc hjl
      have hx := UInt8.toNat_lt x
      have Hown := Lib.hid hown
      clear hown
      go_wp2_with fail
      clear hcell
      go_loopg [3, 5, 6] 8 (fun g o y i wx => ∃ (k z : Nat), k + g = 8 ∧ i = .int .i64 k ∧ y = .int .u8 (z : Int) ∧ z = x.toNat / 2 ^ k ∧ wx.ownsRow w.heap.size 4 1 o (8 * j + k) (blvs (Cx.bitsL (l.take j) ++ Cx.bits8 x k)) ∧ Below w.heap.size w wx)
      case atStart => exact ⟨0, x.toNat, by omega, rfl, rfl, by simp, by simpa [Cx.bits8] using Hown.out, hb⟩
      case round =>
        obtain ⟨k, z, hk, rfl, rfl, hz, hownk, hbx⟩ := hrel
        have hbit := byte_bit x k
        have hnx := byte_next x.toNat k
        rw [← hz] at hbit hnx
        have hz8 : z < 256 := by rw [hz]; exact Nat.lt_of_le_of_lt (Nat.div_le_self _ _) hx
        generalize hq : x.toNat.testBit k = q at hbit
        generalize hz2' : x.toNat / 2 ^ (k + 1) = z2 at hnx
        have Hq := Lib.hid hq
        have Hz2 := Lib.hid hz2'
        have hszx := hbx.size
        clear hq hz2' hz
        by_cases hk8 : k < 8
        · have t1 : (k : Int) < 8 := by omega
          go_wp2_with (at_builtin; (refine wpList_append_1 _ rfl _ _ 121 rfl w.heap.size 4 i0 (.bool false) 1 Tryd.underlying121 hi0 hz0 hz1 hz2 rfl u3 (8 * j + k) (blvs (Cx.bitsL (l.take j) ++ Cx.bits8 x k)) rfl (hownk.alloc _) _ 1 (.bool q) rfl (cell_new1 _ _ _) rfl (by unfold maxLen; omega) (by omega) (by simp; omega) ?_); intro v2 w2 hown2 hbw2 _ _)
          go_roundg (gk - 1)
          case measure => omega
          case rel => exact ⟨k + 1, z2, by omega, by go_num, rfl, Hz2.out.symm, by rw [Cx.bits8_succ, ← List.append_assoc, blvs_append, Hq.out]; exact hown2, (hbx.alloc hbx.size _).trans hbw2⟩
        · obtain rfl : k = 8 := by omega
          have Hownk := Lib.hid hownk
          clear hownk
          go_wp2_with fail
          go_roundg (G - 1)
          case measure => omega
          case rel =>
            refine ⟨j + 1, by omega, by go_num, ?_, hbx⟩
            rw [Htk.out, Cx.bitsL_append, show Cx.bitsL [x] = Cx.bits8 x 8 by simp [Cx.bitsL], show 8 * (j + 1) = 8 * j + 8 by omega]
            exact Hownk.out
    · obtain rfl : j = n := by omega
      rw [List.take_of_length_le (by rw [Hn.out]; omega)] at hown
      go_wp2_with fail
      go_loopg [3, 7] 32 (fun g o i wx => ∃ k : Nat, k + g = 32 ∧ i = .int .i64 k ∧ wx.ownsRow w.heap.size 4 1 o (8 * j + k) (blvs (Cx.bitsL l ++ List.replicate k false)) ∧ Below w.heap.size w wx)
      case atStart => exact ⟨0, by omega, rfl, by simpa using hown, hb⟩
      case round =>
        obtain ⟨k, hk, rfl, hownk, hbx⟩ := hrel
        have hszx := hbx.size
        by_cases hk32 : k < 32
        · have t1 : (k : Int) < 32 := by omega
          go_wp2_with (at_builtin; (refine wpList_append_1 _ rfl _ _ 121 rfl w.heap.size 4 i0 (.bool false) 1 Tryd.underlying121 hi0 hz0 hz1 hz2 rfl u3 (8 * j + k) (blvs (Cx.bitsL l ++ List.replicate k false)) rfl (hownk.alloc _) _ 1 (.bool false) rfl (cell_new1 _ _ _) rfl (by unfold maxLen; omega) (by omega) (by simp; omega) ?_); intro v2 w2 hown2 hbw2 _ _)
          go_roundg (gk - 1)
          case measure => omega
          case rel => exact ⟨k + 1, by omega, by go_num, by rw [List.replicate_succ', ← List.append_assoc, blvs_append]; exact hown2, (hbx.alloc hbx.size _).trans hbw2⟩
        · obtain rfl : k = 32 := by omega
          obtain ⟨g, cap, rfl, hg1, hg2⟩ := hownk.form (by omega)
          have Hownk := Lib.hid hownk
          clear hownk hown
          go_wp2_with fail
          go_loopg [8] 32 (fun kk i wy => ∃ (m : Nat) (r : List Bool), m + kk = 32 ∧ i = .int .i64 m ∧ wy.ownsRow w.heap.size 4 1 (.slice (some ⟨g, 0, none⟩) (8 * j + 32) cap) (8 * j + 32) (blvs r) ∧ Cx.FlipIn l m r ∧ Below w.heap.size w wy)
          case atStart => exact ⟨0, _, by omega, rfl, Hownk.out, Cx.FlipIn.zero l, hbx⟩
          case round =>
            obtain ⟨m, r, hm, rfl, hownm, hfl, hby⟩ := hrel
            have Hownm := Lib.hid hownm
            have Hfl := Lib.hid hfl
            clear hownm hfl
            have Hrl := Lib.hid (Hfl.out.1.trans (by rw [Hn.out]))
            by_cases hm32 : m < 32
            · obtain ⟨x, hx⟩ : ∃ x, r[m]? = some x := ⟨r[m]'(by rw [Hrl.out]; omega), List.getElem?_eq_getElem _⟩
              have hc1 := Hownm.out.cellAt m (by omega)
              rw [blvs_get? r _ x hx] at hc1
              have hf1 := Hownm.out.frozenAt m
              have Hst := Lib.hid (Hfl.out.step hm32 hx)
              have t1 : (m : Int) < 32 := by omega
              have t2 : (m : Int) < 8 * (j : Int) + 32 := by omega
              clear hx
              go_wp2_with fail
              go_roundg (gk - 1)
              case measure => omega
              case rel =>
                obtain ⟨hst, _⟩ := Hownm.out.stored m (.bool (!x))
                rw [← blvs_set] at hst
                exact ⟨m + 1, _, by omega, by go_num, hst, Hst.out, hby.setCell hg1 _⟩
            · obtain rfl : m = 32 := by omega
              have Hval := Lib.hid Hfl.out.done
              have Hrd := Lib.hid (Rd.of_own Hownm.out)
              go_wp2_with fail
              have hleft := left_any (some ⟨g, 0, none⟩) r cap wr Hrd.out (by rw [Hrl.out]; omega) (by rw [Hrl.out]; omega)
              rw [Hrl.out] at hleft
              refine hleft.mono ?_
              rintro e w4 ⟨g4, o4, c4, r4, rfl, hc4, hr4, hl4, hv4, b4⟩
              have Hr4 := Lib.hid hr4
              have Hl4 := Lib.hid hl4
              have Hv4 := Lib.hid (hv4.trans Hval.out)
              have hb4 := hby.trans (b4.mono hby.size)
              have hg4 : w.heap.size ≤ g4 := by have := hr4.1; have := hby.size; omega
              clear hr4 hl4 hv4 hleft
              go_wp2_with fail
              go_loopg [10] 32 (fun kk i wz => ∃ (m : Nat), m + kk = 32 ∧ i = .int .i64 m ∧ OwnB wz w.heap.size g4 o4 (notL r4 m) ∧ Below w.heap.size w wz)
              case atStart => exact ⟨0, by omega, rfl, by rw [notL_zero]; exact ⟨hg4, Hr4.out.2.1, Hr4.out.2.2⟩, hb4⟩
              case round =>
                obtain ⟨q, hq, rfl, hownq, hbz⟩ := hrel
                have Hownq := Lib.hid hownq
                clear hownq
                by_cases hq32 : q < 32
                · obtain ⟨x, hx⟩ : ∃ x, r4[q]? = some x := ⟨r4[q]'(by rw [Hl4.out]; omega), List.getElem?_eq_getElem _⟩
                  have hx2 : (notL r4 q)[q]? = some x := by rw [notL_get]; exact hx
                  obtain ⟨hc1, hf1⟩ := Hownq.out.2.2 q x hx2
                  have Hst := Lib.hid (notL_succ r4 q x hx)
                  have t1 : (q : Int) < 32 := by omega
                  clear hx hx2
                  go_wp2_with fail
                  go_roundg (gk - 1)
                  case measure => omega
                  case rel =>
                    have hs := Hownq.out.set q (!x) (by rw [notL_length, Hl4.out]; exact hq32)
                    rw [Hst.out] at hs
                    exact ⟨q + 1, by omega, by go_num, hs, hbz.setCell hg4 _⟩
                · obtain rfl : q = 32 := by omega
                  have Hrd5 := Lib.hid Hownq.out.rd
                  go_wp2_with fail
                  refine (bits_any _ (notL r4 32) _ _ _ Hrd5.out (by rw [notL_length, Hl4.out])).mono ?_
                  rintro e w6 ⟨rfl, rfl⟩
                  rw [notL_all r4 Hl4.out, Cx.val_not r4 Hl4.out, Hv4.out, show ~~~ (Cx.reg Cx.ones l) = Cx.sum l by unfold Cx.sum Cx.more; rw [show ~~~ (0#32) = Cx.ones by decide]]
                  go_wp2_with fail
                  go_ret
                  exact ⟨rfl, hbz⟩
end Go.Proofs.YtfabodpefbdbjaaDoor.Crc

/- DxCov -/

/-
  Layer 2, the document's answer: the walks of Cover and Right.
-/
set_option linter.unusedVariables false
set_option linter.unusedSimpArgs false
namespace Go.Proofs.YtfabodpefbdbjaaDoor.Crc
open Go.RowKit

theorem dg_step (n j : Nat) : ∃ d : UInt8, ((n / 2 ^ (8 * j) : Nat) : Int) % 256 = (d.toNat : Int) ∧ d = Cx.dg n j := ⟨_, by rw [Cx.dg_toNat]; simp, rfl⟩
theorem dg_next (n j : Nat) : ((n / 2 ^ (8 * j) : Nat) : Int) / 256 = ((n / 2 ^ (8 * (j + 1)) : Nat) : Int) := by
  rw [show 8 * (j + 1) = 8 * j + 8 by omega, Nat.pow_add, ← Nat.div_div_eq_div_mul]
  omega

theorem rcover_any (A : Option Addr) (l : List UInt8) (c : Nat) (w : World) (h : Rd w w.heap.size A (bvs l)) (hm : l.length ≤ 100000) :
    Calls Tryd.prog 41 #[.slice A l.length c] w fun e w' => ∃ v, e = .returned v ∧ w'.ownsRow w.heap.size 5 1 v (l.length + 4) (bvs (Cx.cover l)) ∧ Below w.heap.size w w' := by
  obtain ⟨i0, hi0, hz0, hz1, hz2⟩ := info_parts byte_info
  have Hh := Lib.hid h
  clear h
  go_enter Tryd.func41, Tryd.ntmps41
  go_wp2_with (at_builtin; (refine wpList_append_rd _ rfl _ _ 23 rfl w.heap.size 5 i0 (.int .u8 0) 1 1 Tryd.underlying23 hi0 hz0 hz1 hz2 rfl (by omega) (.slice none 0 0) 0 [] rfl (World.ownsRow_nil _ _ _ _) w.heap.size A l.length c (bvs l) rfl (by simp [bvs]) Hh.out (bvs_one l) (by unfold maxLen; omega) (by omega) (Nat.le_refl _) ?_); intro v1 w1 hown1 b1 _ _)
  rw [Nat.zero_add, List.nil_append] at hown1
  refine (rsum_any A l c w1 ((Hh.out.below b1 (Nat.le_refl _)).mono b1.size) hm).mono ?_
  rintro e w2 ⟨rfl, b2⟩
  have hown2 := own_below hown1 b2 (Nat.le_refl _)
  have hb2 := b1.trans (b2.mono b1.size)
  clear hown1 b1 b2
  generalize hs : Cx.sum l = s
  have Hs := Lib.hid hs
  have hs32 := s.isLt
  clear hs
  go_wp2_with fail
  go_loopg [3, 4, 5] 4 (fun k o y i wr => ∃ (j z : Nat), j + k = 4 ∧ i = .int .i64 j ∧ y = .int .u32 (z : Int) ∧ z = s.toNat / 2 ^ (8 * j) ∧ wr.ownsRow w.heap.size 5 1 o (l.length + j) (bvs (l ++ Cx.leL s.toNat j)) ∧ Below w.heap.size w wr)
  case atStart => exact ⟨0, s.toNat, by omega, rfl, rfl, by simp, by simpa [Cx.leL] using hown2, hb2⟩
  case round =>
    obtain ⟨j, z, hj, rfl, rfl, hz, hown, hb⟩ := hrel
    by_cases hlt : j < 4
    · obtain ⟨d, hd, hd'⟩ := dg_step s.toNat j
      have hnx := dg_next s.toNat j
      rw [← hz] at hd hnx
      have hz32 : z < 4294967296 := by rw [hz]; exact Nat.lt_of_le_of_lt (Nat.div_le_self _ _) hs32
      generalize hy2 : s.toNat / 2 ^ (8 * (j + 1)) = z2 at hnx
      have Hz2 := Lib.hid hy2
      have Hd := Lib.hid hd'
      have hsz := hb.size
      clear hy2 hd' hz
      have t1 : (j : Int) < 4 := by omega
      go_wp2_with (at_builtin; (refine wpList_append_1 _ rfl _ _ 23 rfl w.heap.size 5 i0 (.int .u8 0) 1 Tryd.underlying23 hi0 hz0 hz1 hz2 rfl u3 (l.length + j) (bvs (l ++ Cx.leL s.toNat j)) rfl (hown.alloc _) _ 1 (.int .u8 (d.toNat : Int)) rfl (cell_new1 _ _ _) rfl (by unfold maxLen; omega) (by omega) (by simp; omega) ?_); intro v2 w3 hown3 hbw3 _ _)
      go_roundg (gk - 1)
      case measure => omega
      case rel => exact ⟨j + 1, z2, by omega, by go_num, rfl, Hz2.out.symm, by rw [Cx.leL_succ, ← List.append_assoc, bvs_append, ← Hd.out]; exact hown3, (hb.alloc hb.size _).trans hbw3⟩
    · obtain rfl : j = 4 := by omega
      go_wp2_with fail
      go_ret
      refine ⟨_, rfl, ?_, hb⟩
      rw [Cx.cover, Hs.out]
      exact hown
end Go.Proofs.YtfabodpefbdbjaaDoor.Crc

/- RcRef -/

/-
  Layer 8, the document's answer: the walks of May, Same, lay, Put.
-/
set_option linter.unusedVariables false
set_option linter.unusedSimpArgs false
namespace Go.Proofs.YtfabodpefbdbjaaDoor
open Go.RowKit

theorem r4may_any (A : Option Addr) (n c : Nat) (w : World) (hn : n ≤ 9223372036854775807) :
    Calls Tryd.prog 52 #[.slice A n c] w fun e w' => e = .returned (.bool (decide (1 ≤ n ∧ n ≤ 64))) ∧ w = w' := by
  rcases (show n = 0 ∨ (0 < n ∧ n ≤ 64) ∨ 64 < n by omega) with h | h | h
  · have t1 : decide ((0 : Int) < (n : Int)) = false := by simp; omega
    rw [show decide (1 ≤ n ∧ n ≤ 64) = false by simp; omega]
    go_enter Tryd.func52, Tryd.ntmps52
    go_wp2_with fail
    go_ret
    exact ⟨ret_bool (by first | rfl | (simp; omega)), rfl⟩
  · have t1 : (0 : Int) < (n : Int) := by omega
    have t2 : (n : Int) < 65 := by omega
    rw [show decide (1 ≤ n ∧ n ≤ 64) = true by simp; omega]
    go_enter Tryd.func52, Tryd.ntmps52
    go_wp2_with fail
    go_ret
    exact ⟨ret_bool (by first | rfl | (simp; omega)), rfl⟩
  · have t1 : (0 : Int) < (n : Int) := by omega
    have t2 : decide ((n : Int) < 65) = false := by simp; omega
    rw [show decide (1 ≤ n ∧ n ≤ 64) = false by simp; omega]
    go_enter Tryd.func52, Tryd.ntmps52
    go_wp2_with fail
    go_ret
    exact ⟨ret_bool (by first | rfl | (simp; omega)), rfl⟩
theorem r3within_any (s o : Int) (w : World) (h0 : 0 ≤ s) (h1 : s < 4294967296) (h2 : 0 ≤ o) (h3 : o < 4294967296) :
    Calls Tryd.prog 63 #[.int .u64 s, .int .u64 o] w fun e w' => e = .returned (.bool (Lx.mayB s o)) ∧ w = w' := by
  by_cases z : s = 0
  · subst z
    have e : Lx.mayB 0 o = (o == 0) := by simp [Lx.mayB, Lx.noneB, Lx.standsB]; rw [Bool.eq_iff_iff]; simp
    rw [e]
    go_enter Tryd.func63, Tryd.ntmps63
    go_wp2_with fail
    go_ret
    exact ⟨rfl, rfl⟩
  · have z0 : (s == 0) = false := by simp [z]
    have hp : (decide (s ≤ 16777215) = false ∧ Lx.mayB s o = false) ∨ (s ≤ 16777215 ∧ decide (16 ≤ o) = false ∧ Lx.mayB s o = false) ∨ (s ≤ 16777215 ∧ 16 ≤ o ∧ decide (o ≤ 16777216) = false ∧ Lx.mayB s o = false) ∨
        (s ≤ 16777215 ∧ 16 ≤ o ∧ o ≤ 16777216 ∧ Lx.mayB s o = true) := by
      simp only [Lx.mayB, Lx.noneB, Lx.standsB, decide_eq_false_iff_not, decide_eq_true_eq, Bool.or_eq_false_iff, Bool.or_eq_true]
      omega
    rcases hp with ⟨t1, t2⟩ | ⟨t1, t3, t2⟩ | ⟨t1, t3, t4, t2⟩ | ⟨t1, t3, t4, t2⟩
    all_goals
      rw [t2]
      clear t2
      go_enter Tryd.func63, Tryd.ntmps63
      go_wp2_with fail
      go_ret
      exact ⟨rfl, rfl⟩
theorem r3may8 (s o : Int) (w : World) (h0 : 0 ≤ s) (h1 : s < 4294967296) (h2 : 0 ≤ o) (h3 : o < 4294967296) (b : Bool) (hb : Lx.mayB s o = b) :
    Calls Tryd.prog 53 #[lv s o] w fun e w' => e = .returned (.bool b) ∧ Below w.heap.size w w' := by
  have hc := fun w => r3within_any s o w h0 h1 h2 h3
  rw [hb] at hc
  unfold lv
  go_enter Tryd.func53, Tryd.ntmps53
  go_wp2_with fail
  refine (hc _).mono ?_
  rintro e w1 ⟨rfl, rfl⟩
  go_wp2_with fail
  go_ret
  exact ⟨rfl, bnew w _⟩
theorem ref8may (v : Value) (r : Rc.Rec) (B : Nat) (w : World) (h : RecV w B v r) (hB : B ≤ w.heap.size) (f : Rc.Fit r) :
    Calls Tryd.prog 38 #[v] w fun e w' => e = .returned (.bool (Rc.mayB r)) ∧ Below w.heap.size w w' := by
  obtain ⟨A, c, A', c', rfl, h1, h2⟩ := h.form
  have b0 := bnew w (.cells #[.int .u64 r.seq, .int .i64 r.kind, .slice A r.key.length c, .slice A' r.val.length c', .int .u32 r.seg, .int .u32 r.off] 50)
  have g1 := f.key1
  have g2 := f.val1
  have g3 := f.seq0
  have g4 := f.seq1
  have hkey := fun w => r4may_any A r.key.length c w g1
  have hloc := fun w b hb => r3may8 r.seg r.off w f.seg0 f.seg1 f.off0 f.off1 b hb
  have hm : Hid (Rc.mayB r = (decide (1 ≤ r.seq ∧ r.seq ≤ 1099511627776) && decide (1 ≤ r.key.length ∧ r.key.length ≤ 64) && Lx.mayB r.seg r.off && Rc.kindB r)) := Lib.hid rfl
  have hkd : Hid (Rc.kindB r = (decide (r.kind = 1 ∧ r.val.length ≤ 1024) || decide (r.kind = 2 ∧ r.val.length = 0))) := Lib.hid rfl
  generalize r.key.length = n at *
  generalize r.val.length = m at *
  unfold recV at *
  by_cases k1 : r.kind = 1
  · have e1 : (r.kind != 1) = false := by simp [k1]
    have e2 : (r.kind == 2) = false := by simp [k1]
    by_cases hv : m ≤ 1024
    · have hk : Rc.kindB r = true := by rw [hkd.out]; simp [k1, hv]
      have t1 : decide ((1024 : Int) < (m : Int)) = false := by simp; omega
      by_cases s1 : 0 < r.seq
      · by_cases s2 : r.seq ≤ 1099511627776
        · cases s3 : decide (1 ≤ n ∧ n ≤ 64)
          · rw [s3] at hkey
            rw [hm.out, s3, Bool.and_false, Bool.false_and, Bool.false_and]
            clear s3
            go_enter Tryd.func38, Tryd.ntmps38
            go_wp2_with fail
            refine (hkey _).mono ?_
            rintro e w1 ⟨rfl, rfl⟩
            go_wp2_with fail
            go_ret
            exact ⟨rfl, bnew _ _⟩
          · rw [s3] at hkey
            have q1 : decide (1 ≤ r.seq ∧ r.seq ≤ 1099511627776) = true := by simp; omega
            have hloc' := fun w => hloc w _ rfl
            rw [hm.out, s3, hk, q1, Bool.true_and, Bool.true_and, Bool.and_true]
            clear s3 q1 hk
            generalize Lx.mayB r.seg r.off = q at *
            go_enter Tryd.func38, Tryd.ntmps38
            go_wp2_with fail
            refine (hkey _).mono ?_
            rintro e w1 ⟨rfl, rfl⟩
            go_wp2_with fail
            refine (hloc' _).mono ?_
            rintro e w1 ⟨rfl, b1⟩
            go_wp2_with fail
            go_ret
            exact ⟨rfl, bstep (bnew _ _) b1⟩
        · have t9 : decide (r.seq ≤ 1099511627776) = false := by simp; omega
          have q1 : decide (1 ≤ r.seq ∧ r.seq ≤ 1099511627776) = false := by simp; omega
          rw [hm.out, q1, Bool.false_and, Bool.false_and, Bool.false_and]
          clear q1 hk
          go_enter Tryd.func38, Tryd.ntmps38
          go_wp2_with fail
          go_ret
          exact ⟨rfl, bnew _ _⟩
      · have t9 : decide (0 < r.seq) = false := by simp; omega
        have q1 : decide (1 ≤ r.seq ∧ r.seq ≤ 1099511627776) = false := by simp; omega
        rw [hm.out, q1, Bool.false_and, Bool.false_and, Bool.false_and]
        clear q1 hk
        go_enter Tryd.func38, Tryd.ntmps38
        go_wp2_with fail
        go_ret
        exact ⟨rfl, bnew _ _⟩
    · have hk : Rc.kindB r = false := by rw [hkd.out]; simp [k1]; omega
      have t1 : (1024 : Int) < (m : Int) := by omega
      rw [hm.out, hk, Bool.and_false]
      clear hk
      go_enter Tryd.func38, Tryd.ntmps38
      go_wp2_with fail
      go_ret
      exact ⟨rfl, bnew _ _⟩
  · have e1 : (r.kind != 1) = true := by simp [k1]
    by_cases k2 : r.kind = 2
    · have e2 : (r.kind != 2) = false := by simp [k2]
      have e3 : (r.kind == 2) = true := by simp [k2]
      by_cases hv : m = 0
      · have hk : Rc.kindB r = true := by rw [hkd.out]; simp [k2, hv]
        subst hv
        by_cases s1 : 0 < r.seq
        · by_cases s2 : r.seq ≤ 1099511627776
          · cases s3 : decide (1 ≤ n ∧ n ≤ 64)
            · rw [s3] at hkey
              rw [hm.out, s3, Bool.and_false, Bool.false_and, Bool.false_and]
              clear s3
              go_enter Tryd.func38, Tryd.ntmps38
              go_wp2_with fail
              refine (hkey _).mono ?_
              rintro e w1 ⟨rfl, rfl⟩
              go_wp2_with fail
              go_ret
              exact ⟨rfl, bnew _ _⟩
            · rw [s3] at hkey
              have q1 : decide (1 ≤ r.seq ∧ r.seq ≤ 1099511627776) = true := by simp; omega
              have hloc' := fun w => hloc w _ rfl
              rw [hm.out, s3, hk, q1, Bool.true_and, Bool.true_and, Bool.and_true]
              clear s3 q1 hk
              generalize Lx.mayB r.seg r.off = q at *
              go_enter Tryd.func38, Tryd.ntmps38
              go_wp2_with fail
              refine (hkey _).mono ?_
              rintro e w1 ⟨rfl, rfl⟩
              go_wp2_with fail
              refine (hloc' _).mono ?_
              rintro e w1 ⟨rfl, b1⟩
              go_wp2_with fail
              go_ret
              exact ⟨rfl, bstep (bnew _ _) b1⟩
          · have t9 : decide (r.seq ≤ 1099511627776) = false := by simp; omega
            have q1 : decide (1 ≤ r.seq ∧ r.seq ≤ 1099511627776) = false := by simp; omega
            rw [hm.out, q1, Bool.false_and, Bool.false_and, Bool.false_and]
            clear q1 hk
            go_enter Tryd.func38, Tryd.ntmps38
            go_wp2_with fail
            go_ret
            exact ⟨rfl, bnew _ _⟩
        · have t9 : decide (0 < r.seq) = false := by simp; omega
          have q1 : decide (1 ≤ r.seq ∧ r.seq ≤ 1099511627776) = false := by simp; omega
          rw [hm.out, q1, Bool.false_and, Bool.false_and, Bool.false_and]
          clear q1 hk
          go_enter Tryd.func38, Tryd.ntmps38
          go_wp2_with fail
          go_ret
          exact ⟨rfl, bnew _ _⟩
      · have hk : Rc.kindB r = false := by rw [hkd.out]; simp [k2, hv]
        have t1 : (0 : Int) < (m : Int) := by omega
        rw [hm.out, hk, Bool.and_false]
        clear hk
        go_enter Tryd.func38, Tryd.ntmps38
        go_wp2_with fail
        go_ret
        exact ⟨rfl, bnew _ _⟩
    · have e2 : (r.kind != 2) = true := by simp [k2]
      have hk : Rc.kindB r = false := by rw [hkd.out]; simp [k1, k2]
      rw [hm.out, hk, Bool.and_false]
      clear hk
      go_enter Tryd.func38, Tryd.ntmps38
      go_wp2_with fail
      go_ret
      exact ⟨rfl, bnew _ _⟩
end Go.Proofs.YtfabodpefbdbjaaDoor

/- RcRefPut -/

/-
  Layer 8, the document's answer: the walks of lay and Put.
-/
set_option linter.unusedVariables false
set_option linter.unusedSimpArgs false
namespace Go.Proofs.YtfabodpefbdbjaaDoor
open Go.RowKit

set_option maxRecDepth 100000 in
theorem lay_any (v : Value) (m : Nat) (xs : List UInt8) (n k base : Nat) (w : World) (h : w.ownsRow base 5 1 v m (bvs xs)) (hbase : base ≤ w.heap.size) (hn : n < 18446744073709551616) (hk : k ≤ 8) (hm : m ≤ 100000) :
    Calls Tryd.prog 42 #[v, .int .u64 (n : Int), .int .i64 (k : Int)] w fun e w' => ∃ v', e = .returned v' ∧ w'.ownsRow base 5 1 v' (m + k) (bvs (xs ++ Px.leL n k)) ∧ Below base w w' := by
  obtain ⟨i0, hi0, hz0, hz1, hz2⟩ := info_parts byte_info
  have H := Lib.hid h
  clear h
  go_enter Tryd.func42, Tryd.ntmps42
  go_wp2_with fail
  go_loopg [0, 1, 7] k (fun q b y i wr => ∃ (j z : Nat), j + q = k ∧ i = .int .i64 j ∧ y = .int .u64 (z : Int) ∧ z = n / 2 ^ (8 * j) ∧ wr.ownsRow base 5 1 b (m + j) (bvs (xs ++ Px.leL n j)) ∧ Below base w wr)
  case atStart => exact ⟨0, n, by omega, rfl, rfl, by simp, by simpa [Px.leL] using H.out, Below.refl _ _⟩
  case round =>
    obtain ⟨j, z, hj, rfl, rfl, hz, hown, hb⟩ := hrel
    by_cases hlt : j < k
    · obtain ⟨d, hd, hd'⟩ := Crc.dg_step n j
      have hnx := Crc.dg_next n j
      rw [← hz] at hd hnx
      have hz64 : z < 18446744073709551616 := by rw [hz]; exact Nat.lt_of_le_of_lt (Nat.div_le_self _ _) hn
      generalize hy2 : n / 2 ^ (8 * (j + 1)) = z2 at hnx
      have Hz2 := Lib.hid hy2
      have Hd := Lib.hid (show d = Px.dg n j from hd')
      have hsz := hb.size
      clear hy2 hd' hz
      go_wp2_with (at_builtin; (refine wpList_append_1 _ rfl _ _ 23 rfl base 5 i0 (.int .u8 0) 1 Tryd.underlying23 hi0 hz0 hz1 hz2 rfl u0 (m + j) (bvs (xs ++ Px.leL n j)) rfl (hown.alloc _) _ 1 (.int .u8 (d.toNat : Int)) rfl (cell_new1 _ _ _) rfl (by unfold maxLen; omega) (by omega) (by simp; omega) ?_); intro v2 w3 hown3 hbw3 _ _)
      go_roundg (gk - 1)
      case measure => omega
      case rel => exact ⟨j + 1, z2, by omega, by go_num, rfl, Hz2.out.symm, by rw [Px.leL_succ, ← List.append_assoc, bvs_append, ← Hd.out]; exact hown3, (hb.alloc (by omega) _).trans hbw3⟩
    · obtain rfl : j = k := by omega
      go_wp2_with fail
      go_ret
      exact ⟨_, rfl, hown, hb⟩
theorem lay_step {base m n k m' : Nat} {w' : World} {v : Value} {l : List (Nat × Nat)} (hm : m' = m + k)
    (h : w'.ownsRow base 5 1 v (m + k) (bvs (Rc.rowL l ++ Px.leL n k))) : w'.ownsRow base 5 1 v m' (bvs (Rc.rowL (l ++ [(n, k)]))) := by
  subst hm
  rw [Rc.rowL_snoc]
  exact h
set_option maxRecDepth 100000 in
set_option maxHeartbeats 4000000 in
theorem rput8_ok (v : Value) (r : Rc.Rec) (B : Nat) (w : World) (h : RecV w B v r) (hB : B ≤ w.heap.size) (hm : Rc.mayB r = true) :
    Calls Tryd.prog 31 #[v] w fun e w' => ∃ v', e = .returned (.tuple #[v', .int .i64 0]) ∧ w'.ownsRow w.heap.size 5 1 v' (Rc.sizeN r) (bvs (Rc.runL r)) ∧ Below w.heap.size w w' := by
  obtain ⟨i0, hi0, hz0, hz1, hz2⟩ := info_parts byte_info
  have f := Rc.fit_may hm
  obtain ⟨A, c, A', c', rfl, h1, h2⟩ := h.form
  have b0 := bnew w (.cells #[.int .u64 r.seq, .int .i64 r.kind, .slice A r.key.length c, .slice A' r.val.length c', .int .u32 r.seg, .int .u32 r.off] 50)
  have hc := ref8may _ r _ _ (h.below b0 hB) (Nat.le_trans hB b0.size) f
  rw [hm] at hc
  have HC := Lib.hid hc
  have H1 := Lib.hid h1
  have H2 := Lib.hid h2
  obtain ⟨p1, p2, p3, p4, p5, p6, p7, p8, p9, p10, p11⟩ := Rc.may_bounds hm
  have HR := Lib.hid (show Rc.runL r = Cx.cover (Cx.cover (Rc.headL r) ++ r.key ++ r.val) from rfl)
  have HT := Lib.hid (show Rc.headL r = Rc.rowL (Rc.told r) from rfl)
  have HN := Lib.hid (show Rc.sizeN r = 25 + r.key.length + r.val.length from rfl)
  have HL := Lib.hid (Rc.cover_head_length r)
  have HL17 := Lib.hid (Rc.headL_length r)
  obtain ⟨seq, hseq⟩ := Int.eq_ofNat_of_zero_le (show 0 ≤ r.seq by omega)
  obtain ⟨kind, hkind⟩ := Int.eq_ofNat_of_zero_le (show 0 ≤ r.kind by omega)
  obtain ⟨seg, hseg⟩ := Int.eq_ofNat_of_zero_le (show 0 ≤ r.seg by omega)
  obtain ⟨off, hoff⟩ := Int.eq_ofNat_of_zero_le (show 0 ≤ r.off by omega)
  have HTo : Hid (Rc.headL r = Rc.rowL [(kind, 1), (r.key.length, 1), (r.val.length, 2), (seq, 6), (seg, 3), (off, 4)]) := Lib.hid (by
    unfold Rc.headL Rc.told
    rw [hseq, hkind, hseg, hoff]
    rfl)
  rw [hseq] at p1 p2
  rw [hkind] at p9 p10
  rw [hseg] at p5 p6
  rw [hoff] at p7 p8
  rw [hseq, hkind, hseg, hoff] at HC b0 ⊢
  clear h h1 h2 hm hc f hseq hkind hseg hoff HT
  have B0 := Lib.hid b0
  clear b0
  generalize hkl : r.key.length = kl at *
  generalize hvl : r.val.length = vl at *
  have HKL := Lib.hid hkl
  have HVL := Lib.hid hvl
  clear hkl hvl
  go_enter Tryd.func31, Tryd.ntmps31
  go_wp2_with fail
  refine HC.out.mono ?_
  rintro e w0 ⟨rfl, b0⟩
  have hsz0 := b0.size
  simp only [World.size_alloc] at hsz0
  have hB0 := Lib.hid (show Below (w.heap.size + 1) (w.alloc (.cells #[.int .u64 (seq : Int), .int .i64 (kind : Int), .slice A kl c, .slice A' vl c', .int .u32 (seg : Int), .int .u32 (off : Int)] 50)) w0 from b0.mono (by simp))
  obtain ⟨e0, e1, e2, e3, e4, e5⟩ := box6 hB0.out (by omega)
  have o0 : Hid (w0.ownsRow (w.heap.size + 1) 5 1 (.slice none 0 0) 0 (bvs (Rc.rowL []))) := Lib.hid (World.ownsRow_nil _ _ _ _)
  clear b0
  go_wp2_with fail
  refine (lay_any (.slice none 0 0) 0 (Rc.rowL []) kind 1 (w.heap.size + 1) w0 o0.out hsz0 (by omega) (by omega) (by omega)).mono ?_
  rintro e w1 ⟨v1, rfl, ow1, b1⟩
  clear e0 e1 e2 e3 e4 e5
  have o1 := Lib.hid (lay_step (m' := 1) (l := []) rfl ow1)
  have hB1 := Lib.hid (hB0.out.trans b1)
  have hsz1 := Nat.le_trans hsz0 b1.size
  obtain ⟨e0, e1, e2, e3, e4, e5⟩ := box6 hB1.out (by omega)
  clear ow1 b1 o0 hB0
  go_wp2_with fail
  refine (lay_any v1 1 (Rc.rowL [(kind, 1)]) kl 1 (w.heap.size + 1) w1 o1.out hsz1 (by omega) (by omega) (by omega)).mono ?_
  rintro e w2 ⟨v2, rfl, ow2, b2⟩
  clear e0 e1 e2 e3 e4 e5
  have o2 := Lib.hid (lay_step (m' := 2) (l := [(kind, 1)]) rfl ow2)
  have hB2 := Lib.hid (hB1.out.trans b2)
  have hsz2 := Nat.le_trans hsz1 b2.size
  obtain ⟨e0, e1, e2, e3, e4, e5⟩ := box6 hB2.out (by omega)
  clear ow2 b2 o1 hB1
  go_wp2_with fail
  refine (lay_any v2 2 (Rc.rowL [(kind, 1), (kl, 1)]) vl 2 (w.heap.size + 1) w2 o2.out hsz2 (by omega) (by omega) (by omega)).mono ?_
  rintro e w3 ⟨v3, rfl, ow3, b3⟩
  clear e0 e1 e2 e3 e4 e5
  have o3 := Lib.hid (lay_step (m' := 4) (l := [(kind, 1), (kl, 1)]) rfl ow3)
  have hB3 := Lib.hid (hB2.out.trans b3)
  have hsz3 := Nat.le_trans hsz2 b3.size
  obtain ⟨e0, e1, e2, e3, e4, e5⟩ := box6 hB3.out (by omega)
  clear ow3 b3 o2 hB2
  go_wp2_with fail
  refine (lay_any v3 4 (Rc.rowL [(kind, 1), (kl, 1), (vl, 2)]) seq 6 (w.heap.size + 1) w3 o3.out hsz3 (by omega) (by omega) (by omega)).mono ?_
  rintro e w4 ⟨v4, rfl, ow4, b4⟩
  clear e0 e1 e2 e3 e4 e5
  have o4 := Lib.hid (lay_step (m' := 10) (l := [(kind, 1), (kl, 1), (vl, 2)]) rfl ow4)
  have hB4 := Lib.hid (hB3.out.trans b4)
  have hsz4 := Nat.le_trans hsz3 b4.size
  obtain ⟨e0, e1, e2, e3, e4, e5⟩ := box6 hB4.out (by omega)
  clear ow4 b4 o3 hB3
  go_wp2_with fail
  refine (lay_any v4 10 (Rc.rowL [(kind, 1), (kl, 1), (vl, 2), (seq, 6)]) seg 3 (w.heap.size + 1) w4 o4.out hsz4 (by omega) (by omega) (by omega)).mono ?_
  rintro e w5 ⟨v5, rfl, ow5, b5⟩
  clear e0 e1 e2 e3 e4 e5
  have o5 := Lib.hid (lay_step (m' := 13) (l := [(kind, 1), (kl, 1), (vl, 2), (seq, 6)]) rfl ow5)
  have hB5 := Lib.hid (hB4.out.trans b5)
  have hsz5 := Nat.le_trans hsz4 b5.size
  obtain ⟨e0, e1, e2, e3, e4, e5⟩ := box6 hB5.out (by omega)
  clear ow5 b5 o4 hB4
  go_wp2_with fail
  refine (lay_any v5 13 (Rc.rowL [(kind, 1), (kl, 1), (vl, 2), (seq, 6), (seg, 3)]) off 4 (w.heap.size + 1) w5 o5.out hsz5 (by omega) (by omega) (by omega)).mono ?_
  rintro e w6 ⟨v6, rfl, ow6, b6⟩
  clear e0 e1 e2 e3 e4 e5
  have o6 := Lib.hid (lay_step (m' := 17) (l := [(kind, 1), (kl, 1), (vl, 2), (seq, 6), (seg, 3)]) rfl ow6)
  have hB6 := Lib.hid (hB5.out.trans b6)
  have hsz6 := Nat.le_trans hsz5 b6.size
  obtain ⟨e0, e1, e2, e3, e4, e5⟩ := box6 hB6.out (by omega)
  clear ow6 b6 o5 hB5
  have o6' : Hid (w6.ownsRow (w.heap.size + 1) 5 1 v6 17 (bvs (Rc.headL r))) := Lib.hid (by rw [HTo.out]; exact o6.out)
  go_wp2_with fail
  obtain ⟨A7, c7, rfl, _, _, _⟩ := own_slice o6'.out
  refine (Crc.rcover_any A7 (Rc.headL r) c7 w6 (Rd.of_own o6'.out) (by rw [HL17.out]; omega)).mono ?_
  rintro e w7 ⟨v7, rfl, ow7, b7⟩
  clear e0 e1 e2 e3 e4 e5
  rw [HL17.out] at ow7
  have o7 := own_base (base' := w.heap.size + 1) ow7 hsz6
  have hB7 := Lib.hid (hB6.out.trans (b7.mono hsz6))
  have hsz7 := Nat.le_trans hsz6 b7.size
  obtain ⟨e0, e1, e2, e3, e4, e5⟩ := box6 hB7.out (by omega)
  have hw7 := Lib.hid (B0.out.trans (hB7.out.mono (Nat.le_succ _)))
  obtain ⟨A8, c8, e8, hkc, hrk⟩ := H1.out.below hw7.out hB
  obtain ⟨A9, c9, e9, hvc, hrv⟩ := H2.out.below hw7.out hB
  injection e8 with q1 q2 q3
  injection e9 with q4 q5 q6
  subst q1 q3 q4 q6
  clear q2 q5 ow7 b7 o6 o6' hB6
  have hl8 := HKL.out
  have hl9 := HVL.out
  go_wp2_with (first
    | (at_builtin; (refine wpList_append_rd _ rfl _ _ 23 rfl (w.heap.size + 1) 5 i0 (.int .u8 0) 1 1 Tryd.underlying23 hi0 hz0 hz1 hz2 rfl (by omega) v7 21 (bvs (Cx.cover (Rc.headL r))) rfl o7 B A kl c (bvs r.key) rfl (by rw [bvs_length, HKL.out, Nat.mul_one]) hrk (bvs_one _) (by unfold maxLen; omega) (by omega) hsz7 ?_); intro v10 w10 ow10 b10 hg10 _; obtain ⟨x0, x1, x2, x3, x4, x5⟩ := box6 (hB7.out.trans b10) (by omega); have hrv4 := hrv.below b10 (by omega))
    | (at_builtin; (refine wpList_append_rd _ rfl _ _ 23 rfl (w.heap.size + 1) 5 i0 (.int .u8 0) 1 1 Tryd.underlying23 hi0 hz0 hz1 hz2 rfl (by omega) v10 (21 + kl) _ rfl ow10 B A' vl c' (bvs r.val) rfl (by rw [bvs_length, HVL.out, Nat.mul_one]) hrv4 (bvs_one _) (by unfold maxLen; omega) (by omega) (by have := b10.size; omega) ?_); intro v11 w11 ow11 b11 hg11 _))
  rw [← bvs_append, ← bvs_append] at ow11
  have hb11 := hw7.out.trans ((b10.trans b11).mono (Nat.le_succ _))
  have hl : (Cx.cover (Rc.headL r) ++ r.key ++ r.val).length = 21 + kl + vl := by
    rw [List.length_append, List.length_append, Rc.cover_head_length, HKL.out, HVL.out]
  obtain ⟨A12, c12, rfl, _, _, _⟩ := own_slice ow11
  have hcov := Crc.rcover_any A12 (Cx.cover (Rc.headL r) ++ r.key ++ r.val) c12 w11 (Rd.of_own ow11) (by rw [hl]; omega)
  rw [hl] at hcov
  refine hcov.mono ?_
  rintro e w12 ⟨v12, rfl, ow12, b12⟩
  go_wp2_with fail
  go_ret2
  refine ⟨_, rfl, ?_, bstep hb11 b12⟩
  rw [HN.out, show 25 + kl + vl = 21 + kl + vl + 4 by omega]
  exact own_base ow12 hb11.size
end Go.Proofs.YtfabodpefbdbjaaDoor

/- RcRefGet -/

/-
  Layer 8, the document's answer: the walks of number and Get.
-/
set_option linter.unusedVariables false
set_option linter.unusedSimpArgs false
namespace Go.Proofs.YtfabodpefbdbjaaDoor
open Go.RowKit

theorem RowAt.put {w : World} {g : Nat} {l : List UInt8} (h : RowAt w g l) (i : Nat) (x : UInt8) : RowAt (w.setCell ⟨g, i, none⟩ (.int .u8 (x.toNat : Int))) g (l.set i x) := by
  have := set1 (i := i) h (.int .u8 (x.toNat : Int))
  unfold RowAt
  rw [this, bvs_set]
  simp [bv]
theorem RowAt.cell {w : World} {g : Nat} {l : List UInt8} (h : RowAt w g l) (i : Nat) (hi : i < l.length) : ∃ y : UInt8, w.cell? ⟨g, i, none⟩ = some (.int .u8 (y.toNat : Int)) ∧ w.frozen? ⟨g, i, none⟩ = false := by
  refine ⟨l[i], ?_, by simp [World.frozen?, show w.heap[g]? = _ from h]⟩
  rw [cell_of_row w g i _ _ _ h]
  simp [bvs, bv, hi]
end Go.Proofs.YtfabodpefbdbjaaDoor

/- HdMem -/

/-
  Layer 10: the walks of the program's heads: may, Put, Get, Check; '!=' of arrays of sixteen bytes.
-/
set_option linter.unusedVariables false
set_option linter.unusedSimpArgs false
namespace Go.Proofs.YtfabodpefbdbjaaDoor.Hd
open Go.RowKit

theorem hbstep {a w w' : World} (h : Below a.heap.size a w) (h' : Below w.heap.size w w') : Below a.heap.size a w' := h.trans (h'.mono h.size)
theorem hbnew (w : World) (o : Obj) : Below w.heap.size w (w.alloc o) := (Below.refl _ _).alloc (Nat.le_refl _) _
theorem hret_bool {a b : Bool} (h : a = b) : Ending.returned (.bool a) = .returned (.bool b) := by rw [h]

/-! '!=' of arrays of sixteen bytes -/
def hl (b : UInt8) : Lit := .int .u8 (b.toNat : Int)
theorem hl_inj {a b : UInt8} (h : hl a = hl b) : a = b := by
  unfold hl at h
  injection h with _ h
  exact UInt8.toNat_inj.1 (by omega)
theorem map_hl_inj : ∀ {a b : List UInt8}, a.map hl = b.map hl → a = b
  | [], [], _ => rfl
  | [], _ :: _, h => by simp at h
  | _ :: _, [], h => by simp at h
  | x :: a, y :: b, h => by
    simp only [List.map_cons, List.cons.injEq] at h
    rw [hl_inj h.1, map_hl_inj h.2]
theorem sixteen {α : Type} {a : List α} (ha : a.length = 16) : ∃ a0 a1 a2 a3 a4 a5 a6 a7 b0 b1 b2 b3 b4 b5 b6 b7, a = [a0, a1, a2, a3, a4, a5, a6, a7, b0, b1, b2, b3, b4, b5, b6, b7] := by
  match a, ha with
  | [a0, a1, a2, a3, a4, a5, a6, a7, b0, b1, b2, b3, b4, b5, b6, b7], _ => exact ⟨a0, a1, a2, a3, a4, a5, a6, a7, b0, b1, b2, b3, b4, b5, b6, b7, rfl⟩
theorem hlit1 (x : UInt8) : Tryd.prog.keyLits 2 5 [bv x] = some [hl x] := by
  have h : (Lit.int .u8 (x.toNat : Int)).wf = true := by
    have := UInt8.toNat_lt x
    have e1 : IntKind.u8.min = 0 := by decide
    have e2 : IntKind.u8.max = 255 := by decide
    simp only [Lit.wf, e1, e2, Bool.and_eq_true, decide_eq_true_eq]
    omega
  have e : Tryd.prog.keyLits 2 5 [bv x] = (if IntKind.u8 = IntKind.u8 ∧ (Lit.int .u8 (x.toNat : Int)).wf = true then some [hl x] else none) := by kernel_rfl
  rw [e, if_pos ⟨rfl, h⟩]
theorem hlits (a : List UInt8) (ha : a.length = 16) : Tryd.prog.keyLits 3 109 (bvs a) = some (a.map hl) := by
  obtain ⟨a0, a1, a2, a3, a4, a5, a6, a7, b0, b1, b2, b3, b4, b5, b6, b7, rfl⟩ := sixteen ha
  have e : Tryd.prog.keyLits 3 109 (bvs [a0, a1, a2, a3, a4, a5, a6, a7, b0, b1, b2, b3, b4, b5, b6, b7]) = ([Tryd.prog.keyLits 2 5 [bv a0], Tryd.prog.keyLits 2 5 [bv a1], Tryd.prog.keyLits 2 5 [bv a2], Tryd.prog.keyLits 2 5 [bv a3], Tryd.prog.keyLits 2 5 [bv a4], Tryd.prog.keyLits 2 5 [bv a5], Tryd.prog.keyLits 2 5 [bv a6], Tryd.prog.keyLits 2 5 [bv a7], Tryd.prog.keyLits 2 5 [bv b0], Tryd.prog.keyLits 2 5 [bv b1], Tryd.prog.keyLits 2 5 [bv b2], Tryd.prog.keyLits 2 5 [bv b3], Tryd.prog.keyLits 2 5 [bv b4], Tryd.prog.keyLits 2 5 [bv b5], Tryd.prog.keyLits 2 5 [bv b6], Tryd.prog.keyLits 2 5 [bv b7]].mapM id).map List.flatten := by kernel_rfl
  rw [e]
  simp only [hlit1]
  rfl
theorem neq_arr16 (a b : List UInt8) (ha : a.length = 16) (hb : b.length = 16) (w : World) : (binOp .neq 109 (.agg (bvs a).toArray) (.agg (bvs b).toArray)).run Tryd.prog w = .ok (.bool (!decide (a = b))) w := by
  have hk : Tryd.prog.keyTypeAt 3 109 = true := by kernel_rfl
  have fx : (Value.agg (bvs a).toArray).formed Tryd.prog 109 = true := by
    obtain ⟨a0, a1, a2, a3, a4, a5, a6, a7, b0, b1, b2, b3, b4, b5, b6, b7, rfl⟩ := sixteen ha
    kernel_rfl
  have fy : (Value.agg (bvs b).toArray).formed Tryd.prog 109 = true := by
    obtain ⟨a0, a1, a2, a3, a4, a5, a6, a7, b0, b1, b2, b3, b4, b5, b6, b7, rfl⟩ := sixteen hb
    kernel_rfl
  obtain ⟨r, hr, hiff⟩ := run_equalIn_deep 9997 3 109 hk w 3 3 _ _ _ _ fx fy (hlits a ha) (hlits b hb)
  rw [run_neq_struct, show (10000 : Nat) = 9997 + 3 from rfl, hr]
  have : r = decide (a = b) := by
    rw [Bool.eq_iff_iff, hiff]
    simp only [decide_eq_true_eq]
    exact ⟨map_hl_inj, fun h => by rw [h]⟩
  rw [this]
  rfl
/-- a slice that is long enough, as a pointer to an array -/
theorem arrayAt16 (A : Option Addr) (n c : Nat) (h : 16 ≤ n) (w : World) : (Instr.arrayAt 109 (.slice A n c)).run Tryd.prog w = .ok (.pointer A) w := by
  unfold Instr.arrayAt
  rw [Sem.run_bind, run_underlying Tryd.underlying109]
  simp [Result.andThen]
  omega

theorem bs_newM (w : World) (l : List UInt8) (e : TypeId) (fr : Nat × Nat) : Bs (w.alloc (.cells (bvs l).toArray e fr)) (w.heap.size + 1) (.slice (some ⟨w.heap.size, 0, none⟩) l.length l.length) l := by
  refine ⟨_, _, rfl, Nat.le_refl _, fun _ => ⟨w.heap.size, 0, rfl, by omega, fun j u hu => ?_⟩⟩
  rw [Nat.zero_add, cell_of_row (w.alloc (.cells (bvs l).toArray e fr)) w.heap.size j _ e fr (heap_alloc_new w _)]
  simpa using hu
theorem may_any (k n : Int) (w : World) (h0 : 0 ≤ n) (h1 : n < 4294967296) : Calls Tryd.prog 55 #[.int .i64 k, .int .u32 n] w fun e w' => e = .returned (.bool (mayB k n)) ∧ w = w' := by
  obtain ⟨r, hr⟩ : ∃ r, mayB k n = r := ⟨_, rfl⟩
  rw [hr]
  have H := Lib.hid hr
  clear hr
  by_cases k1 : k = 1
  · subst k1
    have H := Lib.hid (show r = (decide (1 ≤ n) && decide (n ≤ 16777215)) by rw [← H.out, Bool.eq_iff_iff]; simp [mayB])
    by_cases a : 1 ≤ n
    · go_enter Tryd.func55, Tryd.ntmps55
      go_wp2_with fail
      go_ret
      exact ⟨hret_bool (by rw [H.out, decide_eq_true a]; rfl), rfl⟩
    · have d : decide (1 ≤ n) = false := decide_eq_false a
      go_enter Tryd.func55, Tryd.ntmps55
      go_wp2_with fail
      go_ret
      exact ⟨hret_bool (by rw [H.out, d]; rfl), rfl⟩
  · have e1 : (k == 1) = false := by simp [k1]
    by_cases k2 : k = 2
    · subst k2
      have H := Lib.hid (show r = (n == 0) by rw [← H.out, Bool.eq_iff_iff]; simp [mayB])
      clear e1 k1
      go_enter Tryd.func55, Tryd.ntmps55
      go_wp2_with fail
      go_ret
      exact ⟨hret_bool (by rw [H.out]), rfl⟩
    · have e2 : (k == 2) = false := by simp [k2]
      have H := Lib.hid (show r = false by rw [← H.out]; simp [mayB, k1, k2])
      clear k1 k2
      go_enter Tryd.func55, Tryd.ntmps55
      go_wp2_with fail
      go_ret
      exact ⟨hret_bool (by rw [H.out]), rfl⟩
theorem put_no (k n : Int) (w : World) (h0 : 0 ≤ n) (h1 : n < 4294967296) (h : mayB k n = false) : Calls Tryd.prog 45 #[.int .i64 k, .int .u32 n] w fun e w' => e = .returned (.tuple #[.slice none 0 0, .int .i64 1]) ∧ w = w' := by
  have hm := may_any k n w h0 h1
  rw [h] at hm
  clear h
  go_enter Tryd.func45, Tryd.ntmps45
  go_wp2_with fail
  refine hm.mono ?_
  rintro e w1 ⟨rfl, rfl⟩
  go_wp2_with fail
  go_ret2
  exact ⟨rfl, rfl⟩
set_option maxRecDepth 100000 in
set_option maxHeartbeats 4000000 in
theorem put_ok (k n : Nat) (w : World) (h : mayB k n = true) (ht : Crc.Tab w) : Calls Tryd.prog 45 #[.int .i64 k, .int .u32 n] w fun e w' => ∃ v, e = .returned (.tuple #[v, .int .i64 0]) ∧ w'.ownsRow w.heap.size 5 1 v 16 (bvs (headL k n)) ∧ Below w.heap.size w w' := by
  obtain ⟨q1, q2, q3, q4⟩ := may_lt h
  have hm := may_any k n w q3 (by omega)
  rw [h] at hm
  clear h
  have z1 : IntKind.u64.wrap (k : Int) = (k : Int) := IntWalk.u64_in _ (by omega)
  have z2 : IntKind.u64.wrap (n : Int) = (n : Int) := IntWalk.u64_in _ (by omega)
  have kc := fun (w : World) (C : Array Value) (n c : Nat) => Lib.run_convert_bytes_const (P := Tryd.prog) w 23 5 C n c Tryd.underlying23 Tryd.underlying5
  go_enter Tryd.func45, Tryd.ntmps45
  go_wp2_with fail
  refine hm.mono ?_
  rintro e w1 ⟨rfl, rfl⟩
  go_wp2_with fail
  have hb0 := hbnew w (.cells #[.int .u8 104, .int .u8 111, .int .u8 117, .int .u8 114, .int .u8 98, .int .u8 107, .int .u8 49] 5 (7, 8))
  have hl0 : Bs (w.alloc (.cells #[.int .u8 104, .int .u8 111, .int .u8 117, .int .u8 114, .int .u8 98, .int .u8 107, .int .u8 49] 5 (7, 8))) (w.alloc (.cells #[.int .u8 104, .int .u8 111, .int .u8 117, .int .u8 114, .int .u8 98, .int .u8 107, .int .u8 49] 5 (7, 8))).heap.size (.slice (some ⟨w.heap.size, 0, none⟩) 7 7) letters := by
    rw [World.size_alloc]
    exact bs_newM w letters 5 (7, 8)
  refine (fixed_b _ letters k 1 _ hl0 (by omega) (by omega) (by omega) (by omega) (Int.ediv_eq_zero_of_lt (by omega) (by show (k : Int) < 2 ^ 8; omega)) (by simp [letters])).mono ?_
  rintro e w2 ⟨v2, rfl, hown2, hb2⟩
  rw [Int.toNat_natCast] at hown2
  have B2 := Lib.hid (hbstep hb0 hb2)
  have O2 := Lib.hid (Bs.of_own hown2)
  clear hb0 hb2 hown2
  go_wp2_with fail
  refine (fixed_b v2 (letters ++ Px.leL k 1) n 4 _ O2.out (by omega) (by omega) (by omega) (by omega) (Int.ediv_eq_zero_of_lt (by omega) (by show (n : Int) < 2 ^ 32; omega)) (by simp [letters, Px.leL_length])).mono ?_
  rintro e w3 ⟨v3, rfl, hown3, hb3⟩
  rw [Int.toNat_natCast, List.append_assoc] at hown3
  have B3 := Lib.hid (hbstep B2.out hb3)
  have O3 := Lib.hid (Bs.of_own hown3)
  clear hb3 hown3
  go_wp2_with fail
  refine (Crc.cover_b v3 (bodyL k n) _ O3.out (ht.on B3.out) (by rw [bodyL_length]; omega)).mono ?_
  rintro e w4 ⟨v4, rfl, hown4, hb4⟩
  rw [bodyL_length] at hown4
  have O4 := Lib.hid (own_base hown4 B3.out.size)
  have B4 := Lib.hid (hbstep B3.out hb4)
  clear hb4 hown4
  go_wp2_with fail
  go_ret2
  exact ⟨v4, rfl, O4.out, B4.out⟩
/-- what a closure looks at: the bytes that the box holds, from a place on -/
theorem look_any (A : Option Addr) (c : Nat) (l : List UInt8) (g B : Nat) (W : World) (a z : Nat) (hx : W.cell? ⟨g, 0, none⟩ = some (.slice A l.length c)) (hc : l.length ≤ c) (hr : Rd W B A (bvs l)) (h1 : 1 ≤ z) (h8 : z ≤ 8) (hl : a + z ≤ l.length) (hm : l.length ≤ 140737488355328) :
    Calls Tryd.prog 43 #[.int .i64 a, .int .i64 z, .pointer (some ⟨g, 0, none⟩)] W fun e w' => e = .returned (.int .u64 ((Px.rdN (l.drop a) z : Nat) : Int)) ∧ W = w' := by
  obtain ⟨A', c', hcut, hc', hcr⟩ := cut_l A l.length c a (l.length - a) (by omega) hc
  have hrd := read_b (.slice A' (l.length - a) c') (l.drop a) B z W ⟨A', c', by rw [List.length_drop], by rw [List.length_drop]; exact hc', hcr W B l hc hr⟩ (by omega) (by omega) (by rw [Int.toNat_natCast, List.length_drop]; omega) (by rw [List.length_drop]; omega)
  rw [Int.toNat_natCast] at hrd
  have Hrd := Lib.hid hrd
  clear hcr hr hrd
  go_enter Tryd.func43, Tryd.ntmps43
  go_wp2_with fail
  refine Hrd.out.mono ?_
  rintro e w1 ⟨rfl, rfl⟩
  go_wp2_with fail
  go_ret
  exact ⟨rfl, rfl⟩
set_option maxRecDepth 100000 in
set_option maxHeartbeats 4000000 in
theorem get_any (v : Value) (l : List UInt8) (B : Nat) (w : World) (h : Bs w B v l) (hB : B ≤ w.heap.size) (hm : l.length ≤ 140737488355328) (ht : Crc.Tab w) (q : Nat × Nat × Nat) (hq : getQ l = q) :
    Calls Tryd.prog 33 #[v] w fun e w' => e = .returned (.tuple #[.int .i64 q.1, .int .u32 q.2.1, .int .i64 q.2.2]) ∧ Below w.heap.size w w' := by
  obtain ⟨A, c, rfl, hc, hr⟩ := h
  have b0 := hbnew w (.cells #[.slice A l.length c] 23)
  have hR := hr.below b0 hB
  have HQ := Lib.hid hq
  have B0 := Lib.hid b0
  by_cases hs : l.length < 16
  · have hs' : (l.length : Int) < 16 := by omega
    have H := Lib.hid (show q = (0, 0, 22) by rw [← HQ.out, get_short hs])
    clear hr hR b0 hq
    go_enter Tryd.func33, Tryd.ntmps33
    go_wp2_with fail
    go_ret3
    rw [H.out]
    exact ⟨rfl, B0.out⟩
  · have hs' : ¬ (l.length : Int) < 16 := by omega
    have hx0 : (w.alloc (.cells #[.slice A l.length c] 23)).cell? ⟨w.heap.size, 0, none⟩ = some (.slice A l.length c) := by
      rw [cell_of_row _ w.heap.size 0 #[.slice A l.length c] 23 (0, 0) (heap_alloc_new w _)]
      rfl
    have hgo : q = if mayB (kindN l) (idN l) = true ∧ l.take 16 = headL (kindN l) (idN l) then (kindN l, idN l, 0) else (0, 0, 23) := by
      rw [← HQ.out]
      unfold getQ
      rw [if_neg hs]
    have k7 : Calls Tryd.prog 43 #[.int .i64 7, .int .i64 1, .pointer (some ⟨w.heap.size, 0, none⟩)] _ fun e w' => e = .returned (.int .u64 ((kindN l : Nat) : Int)) ∧ _ = w' := look_any A c l w.heap.size B _ 7 1 hx0 hc hR (by omega) (by omega) (by omega) hm
    have k8 : Calls Tryd.prog 43 #[.int .i64 8, .int .i64 4, .pointer (some ⟨w.heap.size, 0, none⟩)] _ fun e w' => e = .returned (.int .u64 ((idN l : Nat) : Int)) ∧ _ = w' := look_any A c l w.heap.size B _ 8 4 hx0 hc hR (by omega) (by omega) (by omega) hm
    have hK : kindN l < 256 := Px.rdN_lt (l.drop 7) 1
    have hI : idN l < 4294967296 := Px.rdN_lt (l.drop 8) 4
    generalize kindN l = K at hgo k7 hK
    generalize idN l = I at hgo k8 hI
    obtain ⟨b, o, rfl, hbB, hcell⟩ := hR (by intro e; have := congrArg List.length e; simp [bvs] at this; subst this; simp at hs)
    have HC := Lib.hid hcell
    have K7 := Lib.hid k7
    have K8 := Lib.hid k8
    have HG := Lib.hid hgo
    have hge : 16 ≤ l.length := by omega
    have HL : Hid ((l.take 16).length = 16) := Lib.hid (by rw [List.length_take]; omega)
    have z1 : IntKind.i64.wrap (K : Int) = (K : Int) := IntWalk.i64_in _ (by omega)
    have z2 : IntKind.u32.wrap (I : Int) = (I : Int) := IntWalk.u32_in _ (by omega)
    clear k7 k8 hr hR hq hgo hcell
    go_enter Tryd.func33, Tryd.ntmps33
    go_wp2_with fail
    refine K7.out.mono ?_
    rintro e w1 ⟨rfl, rfl⟩
    go_wp2_with fail
    refine K8.out.mono ?_
    rintro e w1 ⟨rfl, rfl⟩
    go_wp2_with fail
    cases hmb : mayB (K : Int) (I : Int)
    · refine (put_no K I _ (by omega) (by omega) hmb).mono ?_
      rintro e w1 ⟨rfl, rfl⟩
      have H := Lib.hid (show q = (0, 0, 23) by rw [HG.out, if_neg (by rw [hmb]; simp)])
      clear hmb
      go_wp2_with fail
      go_quiet (fail)
      go_wp2_with fail
      go_ret3
      rw [H.out]
      exact ⟨rfl, below_drewN B0.out _⟩
    · refine (put_ok K I _ hmb (ht.on B0.out)).mono ?_
      rintro e w2 ⟨v2, rfl, hown2, hb2⟩
      obtain ⟨g, cap, rfl, hgg, hgl⟩ := hown2.form (by omega)
      have hx2 : w2.cell? ⟨w.heap.size, 0, none⟩ = some (.slice (some ⟨b, o, none⟩) l.length c) := (hb2.cell (by simp)).trans hx0
      have r1 : w2.rangeAt b o (bvs (l.take 16)) := fun j u hu => by
        rw [hb2.cell (by simp; omega)]
        refine HC.out j u ?_
        rw [bvs_take, List.getElem?_take] at hu
        split at hu
        · exact hu
        · cases hu
      have r2 : w2.rangeAt g 0 (bvs (headL K I)) := fun j u hu => by
        have := hown2.cellAt j (by have h9 := (List.getElem?_eq_some_iff.1 hu).1; rw [bvs_length, headL_length] at h9; omega)
        rw [Nat.zero_add]
        rw [hu] at this
        exact this
      obtain ⟨a0, a1, a2, a3, a4, a5, a6, a7, a8, a9, a10, a11, a12, a13, a14, a15, ha⟩ := sixteen HL.out
      obtain ⟨d0, d1, d2, d3, d4, d5, d6, d7, d8, d9, d10, d11, d12, d13, d14, d15, hd⟩ := sixteen (headL_length K I)
      rw [ha] at r1
      rw [hd] at r2
      obtain ⟨x0, x1, x2, x3, x4, x5, x6, x7, x8, x9, x10, x11, x12, x13, x14, x15⟩ : w2.cell? ⟨b, o, none⟩ = some (.int .u8 (a0.toNat : Int)) ∧ w2.cell? ⟨b, o + 1, none⟩ = some (.int .u8 (a1.toNat : Int)) ∧ w2.cell? ⟨b, o + 2, none⟩ = some (.int .u8 (a2.toNat : Int)) ∧ w2.cell? ⟨b, o + 3, none⟩ = some (.int .u8 (a3.toNat : Int)) ∧ w2.cell? ⟨b, o + 4, none⟩ = some (.int .u8 (a4.toNat : Int)) ∧ w2.cell? ⟨b, o + 5, none⟩ = some (.int .u8 (a5.toNat : Int)) ∧ w2.cell? ⟨b, o + 6, none⟩ = some (.int .u8 (a6.toNat : Int)) ∧ w2.cell? ⟨b, o + 7, none⟩ = some (.int .u8 (a7.toNat : Int)) ∧ w2.cell? ⟨b, o + 8, none⟩ = some (.int .u8 (a8.toNat : Int)) ∧ w2.cell? ⟨b, o + 9, none⟩ = some (.int .u8 (a9.toNat : Int)) ∧ w2.cell? ⟨b, o + 10, none⟩ = some (.int .u8 (a10.toNat : Int)) ∧ w2.cell? ⟨b, o + 11, none⟩ = some (.int .u8 (a11.toNat : Int)) ∧ w2.cell? ⟨b, o + 12, none⟩ = some (.int .u8 (a12.toNat : Int)) ∧ w2.cell? ⟨b, o + 13, none⟩ = some (.int .u8 (a13.toNat : Int)) ∧ w2.cell? ⟨b, o + 14, none⟩ = some (.int .u8 (a14.toNat : Int)) ∧ w2.cell? ⟨b, o + 15, none⟩ = some (.int .u8 (a15.toNat : Int)) := ⟨by simpa [bv] using r1 0 _ rfl, r1 1 _ rfl, r1 2 _ rfl, r1 3 _ rfl, r1 4 _ rfl, r1 5 _ rfl, r1 6 _ rfl, r1 7 _ rfl, r1 8 _ rfl, r1 9 _ rfl, r1 10 _ rfl, r1 11 _ rfl, r1 12 _ rfl, r1 13 _ rfl, r1 14 _ rfl, r1 15 _ rfl⟩
      obtain ⟨y0, y1, y2, y3, y4, y5, y6, y7, y8, y9, y10, y11, y12, y13, y14, y15⟩ : w2.cell? ⟨g, 0, none⟩ = some (.int .u8 (d0.toNat : Int)) ∧ w2.cell? ⟨g, 1, none⟩ = some (.int .u8 (d1.toNat : Int)) ∧ w2.cell? ⟨g, 2, none⟩ = some (.int .u8 (d2.toNat : Int)) ∧ w2.cell? ⟨g, 3, none⟩ = some (.int .u8 (d3.toNat : Int)) ∧ w2.cell? ⟨g, 4, none⟩ = some (.int .u8 (d4.toNat : Int)) ∧ w2.cell? ⟨g, 5, none⟩ = some (.int .u8 (d5.toNat : Int)) ∧ w2.cell? ⟨g, 6, none⟩ = some (.int .u8 (d6.toNat : Int)) ∧ w2.cell? ⟨g, 7, none⟩ = some (.int .u8 (d7.toNat : Int)) ∧ w2.cell? ⟨g, 8, none⟩ = some (.int .u8 (d8.toNat : Int)) ∧ w2.cell? ⟨g, 9, none⟩ = some (.int .u8 (d9.toNat : Int)) ∧ w2.cell? ⟨g, 10, none⟩ = some (.int .u8 (d10.toNat : Int)) ∧ w2.cell? ⟨g, 11, none⟩ = some (.int .u8 (d11.toNat : Int)) ∧ w2.cell? ⟨g, 12, none⟩ = some (.int .u8 (d12.toNat : Int)) ∧ w2.cell? ⟨g, 13, none⟩ = some (.int .u8 (d13.toNat : Int)) ∧ w2.cell? ⟨g, 14, none⟩ = some (.int .u8 (d14.toNat : Int)) ∧ w2.cell? ⟨g, 15, none⟩ = some (.int .u8 (d15.toNat : Int)) := ⟨by simpa [bv] using r2 0 _ rfl, by simpa [bv] using r2 1 _ rfl, by simpa [bv] using r2 2 _ rfl, by simpa [bv] using r2 3 _ rfl, by simpa [bv] using r2 4 _ rfl, by simpa [bv] using r2 5 _ rfl, by simpa [bv] using r2 6 _ rfl, by simpa [bv] using r2 7 _ rfl, by simpa [bv] using r2 8 _ rfl, by simpa [bv] using r2 9 _ rfl, by simpa [bv] using r2 10 _ rfl, by simpa [bv] using r2 11 _ rfl, by simpa [bv] using r2 12 _ rfl, by simpa [bv] using r2 13 _ rfl, by simpa [bv] using r2 14 _ rfl, by simpa [bv] using r2 15 _ rfl⟩
      have n1 : ∀ w, (binOp .neq 109 (.agg #[.int .u8 (a0.toNat : Int), .int .u8 (a1.toNat : Int), .int .u8 (a2.toNat : Int), .int .u8 (a3.toNat : Int), .int .u8 (a4.toNat : Int), .int .u8 (a5.toNat : Int), .int .u8 (a6.toNat : Int), .int .u8 (a7.toNat : Int), .int .u8 (a8.toNat : Int), .int .u8 (a9.toNat : Int), .int .u8 (a10.toNat : Int), .int .u8 (a11.toNat : Int), .int .u8 (a12.toNat : Int), .int .u8 (a13.toNat : Int), .int .u8 (a14.toNat : Int), .int .u8 (a15.toNat : Int)]) (.agg #[.int .u8 (d0.toNat : Int), .int .u8 (d1.toNat : Int), .int .u8 (d2.toNat : Int), .int .u8 (d3.toNat : Int), .int .u8 (d4.toNat : Int), .int .u8 (d5.toNat : Int), .int .u8 (d6.toNat : Int), .int .u8 (d7.toNat : Int), .int .u8 (d8.toNat : Int), .int .u8 (d9.toNat : Int), .int .u8 (d10.toNat : Int), .int .u8 (d11.toNat : Int), .int .u8 (d12.toNat : Int), .int .u8 (d13.toNat : Int), .int .u8 (d14.toNat : Int), .int .u8 (d15.toNat : Int)])).run Tryd.prog w = .ok (.bool (!decide ([a0, a1, a2, a3, a4, a5, a6, a7, a8, a9, a10, a11, a12, a13, a14, a15] = [d0, d1, d2, d3, d4, d5, d6, d7, d8, d9, d10, d11, d12, d13, d14, d15]))) w := neq_arr16 [a0, a1, a2, a3, a4, a5, a6, a7, a8, a9, a10, a11, a12, a13, a14, a15] [d0, d1, d2, d3, d4, d5, d6, d7, d8, d9, d10, d11, d12, d13, d14, d15] rfl rfl
      rw [← ha, ← hd] at n1
      have a1 := arrayAt16 (some ⟨b, o, none⟩) l.length c hge
      have a2 := arrayAt16 (some ⟨g, 0, none⟩) 16 cap (Nat.le_refl _)
      have B2 := Lib.hid (hbstep B0.out hb2)
      by_cases he : l.take 16 = headL K I
      · rw [decide_eq_true he] at n1
        have H := Lib.hid (show q = (K, I, 0) by rw [HG.out, if_pos ⟨hmb, he⟩])
        clear he hmb hown2 r1 r2 ha hd
        go_wp2_with fail
        go_quiet (fail)
        go_wp2_with fail
        go_ret3
        rw [H.out]
        exact ⟨rfl, below_drewN B2.out _⟩
      · rw [decide_eq_false he] at n1
        have H := Lib.hid (show q = (0, 0, 23) by rw [HG.out, if_neg (fun h => he h.2)])
        clear he hmb hown2 r1 r2 ha hd
        go_wp2_with fail
        go_quiet (fail)
        go_wp2_with fail
        go_ret3
        rw [H.out]
        exact ⟨rfl, below_drewN B2.out _⟩
end Go.Proofs.YtfabodpefbdbjaaDoor.Hd

/- HdLook -/

/-
  Layer 10: the walks of Check and of the chapter's rows.
-/
set_option linter.unusedVariables false
set_option linter.unusedSimpArgs false
namespace Go.Proofs.YtfabodpefbdbjaaDoor.Hd
open Go.RowKit

theorem hret_int {k : IntKind} {a b : Int} (h : a = b) : Ending.returned (.int k a) = .returned (.int k b) := by rw [h]
theorem check_any (v : Value) (l : List UInt8) (B : Nat) (k n : Int) (w : World) (h : Bs w B v l) (hB : B ≤ w.heap.size) (hm : l.length ≤ 140737488355328) (ht : Crc.Tab w) (q : Nat) (hq : checkN l k n = q) :
    Calls Tryd.prog 20 #[v, .int .i64 k, .int .u32 n] w fun e w' => e = .returned (.int .i64 q) ∧ Below w.heap.size w w' := by
  obtain ⟨⟨K, I, E⟩, hg⟩ : ∃ p, getQ l = p := ⟨_, rfl⟩
  have hget := get_any v l B w h hB hm ht (K, I, E) hg
  unfold checkN at hq
  rw [hg] at hq
  simp only at hq hget
  obtain ⟨A, c, rfl, _, _⟩ := h
  have HQ := Lib.hid hq
  clear hq hg
  by_cases hE : E = 0
  · subst hE
    by_cases hk : (K : Int) = k
    · have e1 : ((K : Int) == k) = true := by simp [hk]
      by_cases hn : (I : Int) = n
      · have e2 : ((I : Int) == n) = true := by simp [hn]
        have H := Lib.hid (show q = 0 by rw [← HQ.out, if_pos rfl, if_pos ⟨hk, hn⟩])
        subst hk hn
        go_enter Tryd.func20, Tryd.ntmps20
        go_wp2_with fail
        refine hget.mono ?_
        rintro e w1 ⟨rfl, hb⟩
        go_wp2_with fail
        go_ret
        exact ⟨hret_int (by rw [H.out]; rfl), hb⟩
      · have e2 : ((I : Int) == n) = false := by simp [hn]
        have H := Lib.hid (show q = 23 by rw [← HQ.out, if_pos rfl, if_neg (fun h => hn h.2)])
        subst hk
        clear hn
        go_enter Tryd.func20, Tryd.ntmps20
        go_wp2_with fail
        refine hget.mono ?_
        rintro e w1 ⟨rfl, hb⟩
        go_wp2_with fail
        go_ret
        exact ⟨hret_int (by rw [H.out]; rfl), hb⟩
    · have e1 : ((K : Int) == k) = false := by simp [hk]
      have H := Lib.hid (show q = 23 by rw [← HQ.out, if_pos rfl, if_neg (fun h => hk h.1)])
      clear hk
      go_enter Tryd.func20, Tryd.ntmps20
      go_wp2_with fail
      refine hget.mono ?_
      rintro e w1 ⟨rfl, hb⟩
      go_wp2_with fail
      go_ret
      exact ⟨hret_int (by rw [H.out]; rfl), hb⟩
  · have e1 : ((E : Int) == 0) = false := by simp [hE]
    have H := Lib.hid (show q = E by rw [← HQ.out, if_neg hE])
    clear hE
    go_enter Tryd.func20, Tryd.ntmps20
    go_wp2_with fail
    refine hget.mono ?_
    rintro e w1 ⟨rfl, hb⟩
    go_wp2_with fail
    go_ret
    exact ⟨hret_int (by rw [H.out]), hb⟩
end Go.Proofs.YtfabodpefbdbjaaDoor.Hd

/- HdRef -/

/-
  Layer 10, the document's answer: the walks of Put, Get, Check.
-/
set_option linter.unusedVariables false
set_option linter.unusedSimpArgs false
namespace Go.Proofs.YtfabodpefbdbjaaDoor.Hd
open Go.RowKit

/-- append to a row that has no room left, whoever holds it: the result is new -/
theorem wpList_append_full {P : Program} (w : World) {ops : Array Oper} {rest : List Oper} {o : Oper} {a : Act} {Q : Exit → Act → World → Prop} (hgd : o.guard = none) (s x : Operand) (t : TypeId)
    (ho : o.op = .call { callee := .builtin .append, args := #[s, x], argTypes := #[t, t] })
    (e : TypeId) (i : TypeInfo) (z : Value) (ht : P.underlying t = some (.slice e)) (hi : P.info? e = some i) (hz : i.zero = some z)
    (hsize : i.size = 1) (hby : i.bytes = 1) (hzs : z.cells.size = 1)
    (b : Addr) (n cap : Nat) (xs : List Value) (hs : a.eval s = .slice (some b) n cap) (hlo : xs.length = n) (holds : ∀ j v, xs[j]? = some v → w.cell? (b.add j) = some v)
    (ad : Addr) (m c : Nat) (news : List Value) (hx : a.eval x = .slice (some ad) m c) (hl : news.length = m) (hnews : ∀ j v, news[j]? = some v → w.cell? (ad.add j) = some v)
    (hg : cap < n + m) (h63 : n + m ≤ maxLen) (hbytes : (n + m) * 1 ≤ 140737488355328)
    (h : ∀ v' w', w'.ownsRow w.heap.size e 1 v' (n + m) (xs ++ news) → Below w.heap.size w w' → wpList P ops Q rest (a.put o.dst v') w') : wpList P ops Q (o :: rest) a w := by
  have hr := run_append_grow (P := P) w t o.type e i z ht hi hz b n cap xs (by rw [hsize, Nat.mul_one]; exact hlo) holds ad m c news (by rw [hsize, Nat.mul_one]; exact hl) hnews hg (by simp only [maxLen] at h63; omega) (by rw [hby]; exact growslice_fits (by omega) hbytes)
  refine wpList_plain hgd fun K hK => ?_
  unfold Oper.wp execOp
  simp only [ho, resolve, invoke, builtin, Sem.run_bind, Sem.run_pure, Result.andThen_ok, List.map_toArray, List.map_cons, List.map_nil, hs, hx, hr]
  refine hK _ _ (h _ _ ?_ ?_)
  · have hge := grownCap_ge w (n + m) cap e
    have hcm : grownCap w (n + m) cap e ≤ maxLen := grownCap_le_maxLen w (n + m) cap e h63
    refine ⟨by rw [List.length_append, hlo, hl, Nat.mul_one], .inr ⟨w.heap.size, _, _, rfl, Nat.le_refl _, heap_alloc_new w.drew _, hge, hcm, ?_, ?_⟩⟩
    · simp only [Array.size_append, List.size_toArray, size_zeroCells, hzs, hlo, hl]
      omega
    · simp only [Array.toList_append, List.append_assoc]
      rw [← List.append_assoc, Nat.mul_one, show n + m = (xs ++ news).length by rw [List.length_append, hlo, hl]]
      exact List.take_left
  · exact (below_drewN (Below.refl _ _) 1).alloc (Nat.le_refl _) _

theorem rd_cells {w : World} {B b o : Nat} {xs : List Value} (h : Rd w B (some ⟨b, o, none⟩) xs) : ∀ j v, xs[j]? = some v → w.cell? ((⟨b, o, none⟩ : Addr).add j) = some v := by
  intro j v hv
  obtain ⟨b', o', e, _, hc⟩ := h (by intro e; subst e; simp at hv)
  injection e with e
  injection e with e1 e2
  subst e1 e2
  rw [Addr.add_mid]
  exact hc j v hv
/-- the seven letters and the five bytes, in two new blocks -/
theorem lit_cells (w : World) (ds : List UInt8) : (∀ j v, (bvs letters)[j]? = some v → ((w.alloc (.cells #[.int .u8 104, .int .u8 111, .int .u8 117, .int .u8 114, .int .u8 98, .int .u8 107, .int .u8 49] 5 (7, 8))).alloc (.cells (bvs ds).toArray 5)).cell? ((⟨w.heap.size, 0, none⟩ : Addr).add j) = some v) ∧
    (∀ j v, (bvs ds)[j]? = some v → ((w.alloc (.cells #[.int .u8 104, .int .u8 111, .int .u8 117, .int .u8 114, .int .u8 98, .int .u8 107, .int .u8 49] 5 (7, 8))).alloc (.cells (bvs ds).toArray 5)).cell? ((⟨w.heap.size + 1, 0, none⟩ : Addr).add j) = some v) := by
  constructor
  · obtain ⟨A, c, e, _, hr⟩ := bs_newM w letters 5 (7, 8)
    injection e with e1 e2 e3
    subst e1
    exact rd_cells (hr.alloc (by simp) _)
  · intro j v hv
    obtain ⟨A, c, e, _, hr⟩ := Bs.new (w.alloc (.cells #[.int .u8 104, .int .u8 111, .int .u8 117, .int .u8 114, .int .u8 98, .int .u8 107, .int .u8 49] 5 (7, 8))) ds 5
    injection e with e1 e2 e3
    subst e1
    have := rd_cells hr j v hv
    rw [World.size_alloc] at this
    exact this
set_option maxRecDepth 100000 in
set_option maxHeartbeats 4000000 in
theorem rput_one (n : Nat) (hn0 : ¬ n = 0) (hn1 : n ≤ 16777215) (w : World) : Calls Tryd.prog 30 #[.int .i64 1, .int .u32 (n : Int)] w fun e w' => ∃ v, e = .returned (.tuple #[v, .int .i64 0]) ∧ w'.ownsRow w.heap.size 5 1 v 16 (bvs (headL 1 n)) ∧ Below w.heap.size w w' := by
  obtain ⟨i0, hi0, hz0, hz1, hz2⟩ := info_parts byte_info
  have kc := fun (w : World) (C : Array Value) (n c : Nat) => Lib.run_convert_bytes_const (P := Tryd.prog) w 23 5 C n c Tryd.underlying23 Tryd.underlying5
  obtain ⟨c0, h0⟩ : ∃ c, Px.dg n 0 = c := ⟨_, rfl⟩
  obtain ⟨c1, h1⟩ : ∃ c, Px.dg n 1 = c := ⟨_, rfl⟩
  obtain ⟨c2, h2⟩ : ∃ c, Px.dg n 2 = c := ⟨_, rfl⟩
  obtain ⟨c3, h3⟩ : ∃ c, Px.dg n 3 = c := ⟨_, rfl⟩
  have g0 : (n : Int) % 256 = (c0.toNat : Int) := by rw [← h0, Px.dg_toNat]; simp
  have g1 : (n : Int) / 256 % 256 = (c1.toNat : Int) := by rw [← h1, Px.dg_toNat]; simp
  have g2 : (n : Int) / 65536 % 256 = (c2.toNat : Int) := by rw [← h2, Px.dg_toNat]; simp
  have g3 : (n : Int) / 16777216 = (c3.toNat : Int) := by rw [← h3, Px.dg_toNat]; simp; omega
  have e1 : ((n : Int) == 0) = false := by simp; omega
  have e2 : ¬ (16777215 : Int) < (n : Int) := by omega
  have HD : Hid (bodyL 1 n = letters ++ [1, c0, c1, c2, c3]) := Lib.hid (by rw [← h0, ← h1, ← h2, ← h3]; rfl)
  clear h0 h1 h2 h3
  have hlc := Lib.hid (lit_cells w [1, c0, c1, c2, c3])
  have b0 := hbnew w (.cells #[.int .u8 104, .int .u8 111, .int .u8 117, .int .u8 114, .int .u8 98, .int .u8 107, .int .u8 49] 5 (7, 8))
  have B1 := Lib.hid (b0.alloc (by simp) (.cells (bvs [1, c0, c1, c2, c3]).toArray 5))
  clear b0
  go_enter Tryd.func30, Tryd.ntmps30
  go_wp2_with (at_builtin; (refine wpList_append_full _ rfl _ _ 23 rfl 5 i0 (.int .u8 0) Tryd.underlying23 hi0 hz0 hz1 hz2 rfl ⟨w.heap.size, 0, none⟩ 7 7 (bvs letters) rfl rfl hlc.out.1 ⟨w.heap.size + 1, 0, none⟩ 5 5 (bvs [1, c0, c1, c2, c3]) rfl rfl hlc.out.2 (by omega) (by unfold maxLen; omega) (by omega) ?_); intro v2 w2 hown2 hb2)
  rw [← bvs_append] at hown2
  have B2 := Lib.hid (B1.out.trans (hb2.mono B1.out.size))
  have O2 : Hid (Bs w2 w2.heap.size v2 (bodyL 1 n)) := Lib.hid (by have := Bs.of_own hown2; rw [HD.out]; exact this)
  clear hown2 hb2
  obtain ⟨A2, c2, rfl, hc2, hr2⟩ := id O2.out
  have hcv := Crc.rcover_any A2 (bodyL 1 n) c2 w2 hr2 (by rw [bodyL_length]; omega)
  rw [bodyL_length] at hcv ⊢
  clear hr2
  refine hcv.mono ?_
  rintro e w4 ⟨v4, rfl, hown4, hb4⟩
  have O4 := Lib.hid (own_base hown4 B2.out.size)
  have B4 := Lib.hid (hbstep B2.out hb4)
  clear hb4 hown4
  go_wp2_with fail
  go_ret2
  exact ⟨v4, rfl, O4.out, B4.out⟩
end Go.Proofs.YtfabodpefbdbjaaDoor.Hd

/- OrdR -/

/-
  A region that draws its order, in a round of a loop over an iterator: what the plain laws tell of it holds there too (it defers nothing).
-/
set_option linter.unusedVariables false
set_option linter.unusedSimpArgs false
namespace Go.Proofs.YtfabodpefbdbjaaDoor.OrdR
open Go

/-- Q where it goes on, else 'False' -/
def OnlyN (Q : Exit → Act → World → Prop) : Exit → Act → World → Prop
  | .normal, a, w => Q .normal a w
  | _, _, _ => False
theorem OnlyN.normal {Q : Exit → Act → World → Prop} {a : Act} {w : World} (h : Q .normal a w) : OnlyN Q .normal a w := h
theorem OnlyN.lets {Q : Exit → Act → World → Prop} (h : LetsOut (OnlyN Q)) : False := by obtain ⟨a, w, h⟩ := h; exact h
def noDefer (ops : Array Oper) : Bool := ops.all fun o => match o.op with | .defer _ => false | _ => true
theorem noDefer_spec {ops : Array Oper} (h : noDefer ops = true) {i : Nat} {o : Oper} (ho : ops[i]? = some o) : ∀ c, o.op ≠ .defer c := by
  intro c e
  unfold noDefer at h
  rw [Array.all_eq_true] at h
  obtain ⟨hi, hh⟩ := Array.getElem?_eq_some_iff.1 ho
  have := h i hi
  rw [hh, e] at this
  cases this
theorem rows_in {P : Program} {row : String} {args : Array Value} {w : World} {R : Value → World → Prop} {n l : Nat} (h : Rows P row args w R) : RowsIn (Fence.wide.inRound l) n P row args w R := fun c cs _ => by
  obtain ⟨v, w', r, s⟩ := h c cs
  exact ⟨v, w', r, by rw [fenced_inRound]; exact stepsIn_wide.2 s⟩
section
variable {P : Program} {ops : Array Oper} {Q : Exit → Act → World → Prop} {md : Region.Mode}
theorem upon_in {o : Oper} {a : Act} {K : Act → World → Prop} {n l : Nat} : ∀ r : Result Next, o.upon P a K (OnlyN Q) r → o.uponIn (Fence.wide.inRound l) n P a K Q r := by
  intro r h
  have hd : ¬ ((Fence.wide.inRound l).depth.isSome = true) := by simp [Fence.wide]
  unfold Oper.upon at h
  unfold Oper.uponIn
  split at h
  · exact h
  · exact h
  · exact h
  · refine ⟨fun hh => absurd hh hd, (CallsIn.inRound l (callsIn_wide.2 h)).mono fun e w' hh => ?_⟩
    cases e with
    | returned v => exact hh
    | panicked c => exact (hh : False).elim
    | outgrown => exact (OnlyN.lets hh).elim
  · exact ⟨fun hh => absurd hh hd, rows_in h⟩
  · exact (h : False).elim
  · exact h.elim
theorem any_in (hnd : noDefer ops = true) {n l : Nat} : ∀ (f : Nat) (li : Array Bool) (a : Act) (w : World), wpAny P md ops (OnlyN Q) f li a w → wpAnyIn (Fence.wide.inRound l) n P md ops Q f li a w := by
  intro f
  induction f with
  | zero => intro li a w h; exact ⟨h.1, h.2⟩
  | succ f ih =>
    intro li a w h
    refine ⟨fun hr => h.1 hr, fun i hi => ?_⟩
    have h1 := h.2 i hi
    unfold wpOp at h1
    unfold wpOpIn
    cases ho : ops[i]? with
    | none => rw [ho] at h1; exact ih _ _ _ h1
    | some o =>
      rw [ho] at h1
      simp only at h1 ⊢
      split at h1
      · rename_i hw
        rw [if_pos hw]
        rcases h1 with h1 | h1
        · refine ⟨fun _ _ => trivial, ?_⟩
          rw [Fence.inRound_round, Oper.semAt_some _ _ _ (noDefer_spec hnd ho)]
          have h2 : o.wp P a w (wpAnyIn (Fence.wide.inRound l) n P md ops Q f (li.setIfInBounds i true)) (OnlyN Q) := Oper.wp_mono (fun a w hh => ih _ a w hh) h1
          exact upon_in _ h2
        · exact (OnlyN.lets h1.2).elim
      · rename_i hw
        rw [if_neg hw]
        exact ⟨fun _ _ => trivial, ih _ _ _ h1⟩
theorem region_in {id n l : Nat} {a : Act} {w : World} (hm : P.follows .mixedOrders = true) (hnd : noDefer ops = true) (S : World → Prop) (t : Nat)
    (h : OrdL.wpL P .any ops (OnlyN Q) S t ops.size (Array.replicate ops.size false) a w.drew) : (Code.region id ops true).wpIn (Fence.wide.inRound l) n P Q a w :=
  wpIn_region_any hm (any_in hnd _ _ _ _ (OrdL.wpL_any _ _ _ _ h))
end
end Go.Proofs.YtfabodpefbdbjaaDoor.OrdR

/- ApZ -/

/-
  'append(b, make([]T, k)...)' onto a row of the call's own, whatever its room (nil, in place, grown).
-/
set_option linter.unusedVariables false
set_option linter.unusedSimpArgs false
namespace Go.Proofs.YtfabodpefbdbjaaDoor
open Go.RowKit

/-- k elements of zero -/
def zerosL (z : Value) (k : Nat) : List Value := (Builtin.zeroCells z.cells k).toList

theorem zerosL_length (z : Value) (k : Nat) : (zerosL z k).length = k * z.cells.size := by
  simp [zerosL, Builtin.zeroCells]

theorem zerosL_one (b : Value) (z : Value) (hz : z.cells = #[b]) (k : Nat) : zerosL z k = List.replicate k b := by
  apply List.ext_getElem
  · simp [zerosL_length, hz]
  · intro j h1 h2
    simp [zerosL, Builtin.zeroCells, hz, Nat.mod_one]

section
variable {P : Program} (w : World)

theorem run_append_zeros_own (base : Nat) (t tn ty e : TypeId) (i : TypeInfo) (z : Value) (kq kn : IntKind) (size bytes : Nat) (ht : P.underlying t = some (.slice e)) (htn : P.underlying tn = some (.int kn)) (hi : P.info? e = some i) (hz : i.zero = some z)
    (hsize : i.size = size) (hby : i.bytes = bytes) (hzs : z.cells.size = size) (hsz : 0 < size)
    (v : Value) (n : Nat) (xs : List Value) (hown : w.ownsRow base e size v n xs)
    (k : Nat) (h0 : 0 < k) (h1 : ∀ u ∈ zerosL z k, u.oneCell' = true)
    (h63 : n + k ≤ maxLen) (hbytes : (n + k) * bytes ≤ 140737488355328) (hbase : base ≤ w.heap.size) :
    ∃ v' w', (Builtin.append_ #[t, tn] ty #[v, .int kq k]).run P w = .ok v' w' ∧ w'.ownsRow base e size v' (n + k) (xs ++ zerosL z k) ∧ w.grownBy w' v.ownBlock ∧
      (v'.ownBlock = v.ownBlock ∨ v'.ownBlock = some w.heap.size) := by
  subst hsize
  subst hby
  have hsmall : n + k ≤ 9223372036854775807 := by simp only [maxLen] at h63; omega
  have hl : (zerosL z k).length = k * i.size := by rw [zerosL_length, hzs]
  have hlen : (xs ++ zerosL z k).length = (n + k) * i.size := by rw [List.length_append, hown.1, hl, Nat.add_mul]
  have hkb : k * i.bytes ≤ (n + k) * i.bytes := Nat.mul_le_mul_right _ (by omega)
  have grown : ∀ (old : Nat), old < n + k → ∀ (row : Option Nat),
      (w.drew.alloc (.cells (xs.toArray ++ Builtin.zeroCells z.cells k ++ Builtin.zeroCells z.cells (grownCap w (n + k) old e - (n + k))) e)).ownsRow base e i.size
        (.slice (some ⟨w.heap.size, 0, none⟩) (n + k) (grownCap w (n + k) old e)) (n + k) (xs ++ zerosL z k) ∧
      w.grownBy (w.drew.alloc (.cells (xs.toArray ++ Builtin.zeroCells z.cells k ++ Builtin.zeroCells z.cells (grownCap w (n + k) old e - (n + k))) e)) row := by
    intro old ho row
    have hge := grownCap_ge w (n + k) old e
    have hcm : grownCap w (n + k) old e ≤ maxLen := grownCap_le_maxLen w (n + k) old e h63
    refine ⟨⟨hlen, .inr ⟨w.heap.size, _, _, rfl, hbase, heap_alloc_new w.drew _, hge, hcm, ?_, ?_⟩⟩, ⟨rfl, rfl, rfl, by simp, fun j hk _ => heap_alloc_old w.drew _ hk⟩⟩
    · simp only [Array.size_append, List.size_toArray, size_zeroCells, hzs, hown.1, ← Nat.add_mul]
      congr 1
      omega
    · simp only [Array.toList_append, List.append_assoc, zerosL] at hlen ⊢
      rw [← List.append_assoc, ← hlen]
      exact List.take_left
  rcases hown.2 with ⟨rfl, rfl⟩ | ⟨g, cap, cur, rfl, hbg, hg, hnc, hcm, hcs, htake⟩
  · have hx : xs = [] := List.eq_nil_of_length_eq_zero (by simpa using hown.1)
    subst hx
    have hr := Lib.run_append_nil_zeros (P := P) w t tn ty e i z kq kn ht htn hi hz k h0 hsz (by omega) (by omega)
    have hgr := grown 0 (by omega) (Value.ownBlock (.slice none 0 0))
    simp only [Nat.zero_add, List.nil_append, Array.empty_append] at hgr ⊢
    exact ⟨_, _, hr, hgr.1, hgr.2, .inr rfl⟩
  · by_cases hroom : n + k ≤ cap
    · have hfit : n * i.size + (zerosL z k).length ≤ cur.size := by rw [hl, hcs, ← Nat.add_mul]; exact Nat.mul_le_mul_right _ hroom
      have hst := run_storeCells_at P g (n * i.size) e (zerosL z k) 0 cur w hg (by simpa using hfit) h1
      simp only [Nat.add_zero] at hst
      have hw : IntKind.i64.wrap (k : Int) = k := by rw [IntKind.wrap_i64]; omega
      have h48i : ¬ (281474976710656 < (k : Int) * (i.bytes : Int)) := by
        rw [← Int.natCast_mul]
        omega
      have hneg : ¬ ((k : Int) < 0) := by omega
      have hns : ¬ (k * i.size = 0) := Nat.mul_ne_zero (by omega) (by omega)
      have hr : (Builtin.append_ #[t, tn] ty #[.slice (some ⟨g, 0, none⟩) n cap, .int kq k]).run P w =
          .ok (.slice (some ⟨g, 0, none⟩) (n + k) cap) (w.setRow g (cur.toList.take (n * i.size) ++ zerosL z k ++ cur.toList.drop (n * i.size + (zerosL z k).length)).toArray) := by
        simp only [zerosL] at hst ⊢
        simp [Builtin.append_, run_underlying ht, run_underlying htn, sizeOf, typeInfo, zeroValue, hi, hz, asInt, asIntOf, hw, hneg, hns, h48i, hroom, Addr.add_lit, hst]
      refine ⟨_, _, hr, ⟨hlen, .inr ⟨g, cap, _, rfl, hbg, setRow_heap w g cur _ e _ hg, hroom, hcm, ?_, ?_⟩⟩, ⟨rfl, rfl, rfl, by simp, fun j _ hk => setRow_other w g j _ (fun e => hk (by simp [Value.ownBlock, e]))⟩, .inl rfl⟩
      · simp only [List.size_toArray, List.length_append, List.length_take, List.length_drop, Array.length_toList]
        omega
      · rw [htake, ← hlen]
        exact List.take_left
    · have holds : ∀ j u, xs[j]? = some u → w.drew.cell? ((⟨g, 0, none⟩ : Addr).add j) = some u := by simpa using hown.cells (g := g) rfl
      have hold := run_firstCells_some (P := P) w.drew i.size n ⟨g, 0, none⟩ n cap xs hown.1 holds
      have hr := Lib.run_append_grow_zeros (P := P) w t tn ty e i z kq kn ht htn hi hz (some ⟨g, 0, none⟩) n cap xs hold k h0 hsz (by omega) (by omega) (by omega) (growslice_fits (by omega) hbytes)
      have hgr := grown cap (by omega) (Value.ownBlock (.slice (some ⟨g, 0, none⟩) n cap))
      exact ⟨_, _, hr, hgr.1, hgr.2, .inr rfl⟩

/-- the operation -/
theorem wpList_append_zeros {ops : Array Oper} {rest : List Oper} {o : Oper} {a : Act} {Q : Exit → Act → World → Prop} (hgd : o.guard = none) (s x : Operand) (t tn : TypeId)
    (ho : o.op = .call { callee := .builtin .append, args := #[s, x], argTypes := #[t, tn] })
    (base : Nat) (e : TypeId) (i : TypeInfo) (z : Value) (kq kn : IntKind) (size bytes : Nat) (ht : P.underlying t = some (.slice e)) (htn : P.underlying tn = some (.int kn)) (hi : P.info? e = some i) (hz : i.zero = some z)
    (hsize : i.size = size) (hby : i.bytes = bytes) (hzs : z.cells.size = size) (hsz : 0 < size)
    (v : Value) (n : Nat) (xs : List Value) (hs : a.eval s = v) (hown : w.ownsRow base e size v n xs)
    (k : Nat) (hx : a.eval x = .int kq k) (h0 : 0 < k) (h1 : ∀ u ∈ zerosL z k, u.oneCell' = true)
    (h63 : n + k ≤ maxLen) (hbytes : (n + k) * bytes ≤ 140737488355328) (hbase : base ≤ w.heap.size)
    (h : ∀ v' w', w'.ownsRow base e size v' (n + k) (xs ++ zerosL z k) → Below base w w' → w.grownBy w' v.ownBlock → (v'.ownBlock = v.ownBlock ∨ v'.ownBlock = some w.heap.size) → wpList P ops Q rest (a.put o.dst v') w') : wpList P ops Q (o :: rest) a w := by
  obtain ⟨v', w', hr, h2, h3, h4⟩ := run_append_zeros_own (P := P) w base t tn o.type e i z kq kn size bytes ht htn hi hz hsize hby hzs hsz v n xs hown k h0 h1 h63 hbytes hbase
  exact Lib.wpList_append_run w hgd s x t tn ho v (.int kq k) hs hx v' w' hr (h v' w' h2 ((Below.refl _ _).grown h3 hbase fun k hk => (hown.lt k hk).1) h3 h4)
end
end Go.Proofs.YtfabodpefbdbjaaDoor

