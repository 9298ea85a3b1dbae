
/-
  Layer 2: the walks of the functions that read and make rows: More, Sum, squares, product, Power, Join.
-/
import Derived.Test.YtggijjknfcofoaaDoorCxPure
import Derived.Deep.QuietTactic
import Derived.BigQuiet
import Derived.StillTailTactics
import Derived.Deep.DeepFit
import Derived.Deep.RegionHeld3
import Derived.Deep.RegionWith
set_option linter.unusedVariables false
set_option linter.unusedSimpArgs false
namespace Go.Proofs.YtggijjknfcofoaaDoor.Crc
open Go.RowKit

theorem byte_info : (Tryd.prog.info? 5).map (fun i => (i.zero, i.size, i.bytes)) = some (some (.int .u8 0), 1, 1) := by kernel_rfl
theorem u32_info : (Tryd.prog.info? 23).map (fun i => (i.zero, i.size, i.bytes)) = some (some (.int .u32 0), 1, 4) := by kernel_rfl

/-- the table of a half byte's steps lies where it was laid -/
def Tab (w : World) : Prop := ∀ i, i < 16 → w.cell? ⟨1, i, none⟩ = some (.int .u32 ((Cx.tab i).toNat : Int))
theorem Tab.below {w w' : World} {B : Nat} (h : Tab w) (hb : Below B w w') (hB : 1 < B) : Tab w' := fun i hi =>
  (hb.cell (p := ⟨1, i, none⟩) hB).trans (h i hi)
theorem Tab.lt {w : World} (h : Tab w) : 1 < w.heap.size := block_lt_of_cell (h 0 (by omega))
theorem Tab.on {w w' : World} (h : Tab w) (hb : Below w.heap.size w w') : Tab w' := h.below hb h.lt

theorem b_not (x : BitVec 32) : 4294967295 - (x.toNat : Int) = ((~~~ x).toNat : Int) := by
  have := x.isLt
  rw [BitVec.toNat_not]; omega
theorem b_and15 (x : BitVec 32) : bits .and .u32 (x.toNat : Int) 15 = ((x.toNat % 16 : Nat) : Int) := by
  rw [show (15 : Int) = ((15 : Nat) : Int) by rfl, u32_and_nat _ _ x.isLt (by omega), nat_mask4]
theorem b_by8 (c : UInt8) : (c.toNat : Int) = ((Cx.by8 c).toNat : Int) := by
  have := c.toNat_lt
  unfold Cx.by8
  rw [BitVec.toNat_ofNat, Nat.mod_eq_of_lt (by omega)]

/-- a half byte's step, as the walk meets it -/
theorem half_step (w : World) (ht : Tab w) (x : BitVec 32) : ∃ (k : Nat) (y t z : BitVec 32), k < 16 ∧ bits .and .u32 (x.toNat : Int) 15 = (k : Int) ∧ (x.toNat : Int) / 16 = (y.toNat : Int) ∧
    w.cell? ⟨1, k, none⟩ = some (.int .u32 (t.toNat : Int)) ∧ bits .xor .u32 (y.toNat : Int) (t.toNat : Int) = (z.toNat : Int) ∧ z = Cx.tp 4 x :=
  ⟨x.toNat % 16, x >>> 4, Cx.tab (x.toNat % 16), _, Nat.mod_lt _ (by omega), b_and15 x, b_shr4 x, ht _ (Nat.mod_lt _ (by omega)), b_xor _ _, (Cx.tp4 x).symm⟩
theorem b_not' (x : BitVec 32) : bits .xor .u32 IntKind.u32.max (x.toNat : Int) = ((~~~ x).toNat : Int) := by
  rw [show IntKind.u32.max = (Cx.ones.toNat : Int) by rfl, b_xor, Cx.not_xor, BitVec.xor_comm]
theorem not_letter (x : BitVec 32) : ∃ y : BitVec 32, bits .xor .u32 IntKind.u32.max (x.toNat : Int) = (y.toNat : Int) ∧ y = ~~~ x := ⟨_, b_not' x, rfl⟩

theorem more_any (A : Option Addr) (l : List UInt8) (c B : Nat) (s : BitVec 32) (w : World) (h : Rd w B A (bvs l)) (ht : Tab w) (hm : l.length ≤ 9223372036854775807) :
    Calls Tryd.prog 71 #[.int .u32 s.toNat, .slice A l.length c] w fun e w' => e = .returned (.int .u32 (Cx.more s l).toNat) ∧ w = w' := by
  have Hh := Lib.hid h
  have Ht := Lib.hid ht
  clear h ht
  have h0 := s.isLt
  obtain ⟨ns, hns, hns'⟩ := not_letter s
  have Hns := Lib.hid hns'
  clear hns'
  have hsg : IntKind.u32.signed = false := rfl
  go_enter Tryd.func71, Tryd.ntmps71
  go_wp2_with fail
  clear hns
  go_loopg [5, 12] l.length (fun k r i wr => w = wr ∧ ∃ (j : Nat), j + k = l.length ∧ i = .int .i64 j ∧ r = .int .u32 (Cx.reg ns (l.take j)).toNat)
  case atStart => exact ⟨rfl, 0, by omega, rfl, rfl⟩
  case round =>
    obtain ⟨rfl, j, hj, rfl, rfl⟩ := hrel
    by_cases hlt : j < l.length
    · obtain ⟨bb, o, rfl, hbb, hc⟩ := Hh.out (by intro e; have := congrArg List.length e; simp [bvs] at this; subst this; simp at hlt)
      have hcell := hc j _ (bvs_get l j hlt)
      unfold bv at hcell
      have hy := UInt8.toNat_lt l[j]
      generalize hr : Cx.reg ns (l.take j) = r
      have Hr := Lib.hid hr
      clear hr hc
      have h1 := b_xor r (Cx.by8 l[j])
      rw [← b_by8] at h1
      generalize hx1 : r ^^^ Cx.by8 l[j] = x1 at h1
      obtain ⟨k1, y1, t1, x2, a1, a2, a3, a4, a5, a6⟩ := half_step w Ht.out x1
      obtain ⟨k2, y2, t2, x3, b1, b2, b3, b4, b5, b6⟩ := half_step w Ht.out x2
      have Hx1 := Lib.hid hx1
      have A6 := Lib.hid a6
      have B6 := Lib.hid b6
      clear hx1 a6 b6
      go_wp2_with fail
      go_roundg (gk - 1)
      case measure => omega
      case rel =>
        refine ⟨rfl, j + 1, by omega, by go_num, ?_⟩
        rw [List.take_succ_eq_append_getElem hlt, Cx.reg_snoc, Hr.out, Hx1.out, B6.out, A6.out, ← Cx.tp_add]
    · obtain rfl : j = l.length := by omega
      rw [List.take_length]
      obtain ⟨nr, hnr, hnr'⟩ := not_letter (Cx.reg ns l)
      have Hnr := Lib.hid hnr'
      clear hnr'
      go_wp2_with fail
      go_ret
      refine ⟨ret_int ?_, rfl⟩
      rw [Hnr.out, Hns.out]
      rfl

theorem sum_any (A : Option Addr) (l : List UInt8) (c B : Nat) (w : World) (h : Rd w B A (bvs l)) (ht : Tab w) (hm : l.length ≤ 9223372036854775807) :
    Calls Tryd.prog 61 #[.slice A l.length c] w fun e w' => e = .returned (.int .u32 (Cx.sum l).toNat) ∧ w = w' := by
  have hc := more_any A l c B 0#32 w h ht hm
  go_enter Tryd.func61, Tryd.ntmps61
  go_wp2_with fail
  refine hc.mono ?_
  rintro e w' ⟨rfl, rfl⟩
  go_wp2_with fail
  go_ret
  exact ⟨rfl, rfl⟩

theorem more_b (v : Value) (l : List UInt8) (B : Nat) (s : BitVec 32) (w : World) (h : Bs w B v l) (ht : Tab w) (hm : l.length ≤ 9223372036854775807) :
    Calls Tryd.prog 71 #[.int .u32 s.toNat, v] w fun e w' => e = .returned (.int .u32 (Cx.more s l).toNat) ∧ w = w' := by
  obtain ⟨A, c, rfl, _, hr⟩ := h
  exact more_any A l c B s w hr ht hm
theorem sum_b (v : Value) (l : List UInt8) (B : Nat) (w : World) (h : Bs w B v l) (ht : Tab w) (hm : l.length ≤ 9223372036854775807) :
    Calls Tryd.prog 61 #[v] w fun e w' => e = .returned (.int .u32 (Cx.sum l).toNat) ∧ w = w' := by
  obtain ⟨A, c, rfl, _, hr⟩ := h
  exact sum_any A l c B w hr ht hm

/-- numbers of 32 bits as cells -/
def uv (x : BitVec 32) : Value := .int .u32 (x.toNat : Int)
def uvs (l : List (BitVec 32)) : List Value := l.map uv
theorem uvs_get (l : List (BitVec 32)) (k : Nat) (h : k < l.length) : (uvs l)[k]? = some (uv l[k]) := by simp [uvs, h]

/-- the product of a row -/
def prod (l : List (BitVec 32)) : BitVec 32 := l.foldl Cx.mul Cx.e0
theorem prod_snoc (l : List (BitVec 32)) (x : BitVec 32) : prod (l ++ [x]) = Cx.mul (prod l) x := by simp [prod]

theorem i64_bit0 (m : Nat) (h : m < 9223372036854775808) : (bits .and .i64 (m : Int) 1 != 0) = decide (m % 2 = 1) := by
  have e0 : bits .and .i64 (m : Int) 1 = ((m % 2 : Nat) : Int) := by
    show IntKind.i64.wrap ((BitVec.ofInt 64 (m : Int) &&& BitVec.ofInt 64 1).toNat : Int) = _
    have e : (BitVec.ofInt 64 (m : Int)).toNat = m := by
      rw [BitVec.ofInt_natCast, BitVec.toNat_ofNat]; exact Nat.mod_eq_of_lt (by omega)
    have e2 : (BitVec.ofInt 64 1).toNat = 1 := by decide
    rw [BitVec.toNat_and, e, e2, nat_mask1, IntKind.wrap_i64]
    omega
  rw [e0, Bool.eq_iff_iff]
  simp
  omega

theorem half_even (N k m : Nat) (hm : m = N / 2 ^ k) (h : decide (m % 2 = 1) = false) : N % 2 ^ (k + 1) = N % 2 ^ k := by
  rw [Nat.mod_pow_succ, ← hm]
  have : m % 2 = 0 := by simp at h; omega
  rw [this]; simp
theorem half_odd (N k m : Nat) (hm : m = N / 2 ^ k) (h : decide (m % 2 = 1) = true) : N % 2 ^ (k + 1) = N % 2 ^ k + 2 ^ k := by
  rw [Nat.mod_pow_succ, ← hm]
  have : m % 2 = 1 := by simpa using h
  rw [this]; simp
theorem half_next (N k m : Nat) (hm : m = N / 2 ^ k) : m / 2 = N / 2 ^ (k + 1) := by
  rw [hm, Nat.div_div_eq_div_mul, Nat.pow_succ]

theorem squares_more (N k m g : Nat) (hm : m = N / 2 ^ k) (hk : k + g = 64) (h1 : (N : Int) < 9223372036854775808) (hz : 0 < m) : 0 < g := by
  rcases Nat.eq_zero_or_pos g with h | h
  · exfalso
    obtain rfl : k = 64 := by omega
    rw [Nat.div_eq_of_lt (by omega)] at hm
    omega
  · exact h
end Go.Proofs.YtggijjknfcofoaaDoor.Crc
