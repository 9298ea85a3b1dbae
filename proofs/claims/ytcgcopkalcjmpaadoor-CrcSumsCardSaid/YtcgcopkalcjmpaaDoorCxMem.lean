/-
  Layer 2: the walks of the functions that read and make rows: More, Sum, squares, product, Power, Join.
-/
import Derived.Test.YtcgcopkalcjmpaaDoorCxPure
import Derived.Deep.QuietTactic
import Derived.BigQuiet
import Derived.StillTailTactics
import Derived.Deep.DeepFit
import Derived.Deep.RegionHeld3
import Derived.Deep.RegionWith
set_option linter.unusedVariables false
set_option linter.unusedSimpArgs false
namespace Go.Proofs.YtcgcopkalcjmpaaDoor
open Go.RowKit

theorem byte_info : (Tryd.prog.info? 5).map (fun i => (i.zero, i.size, i.bytes)) = some (some (.int .u8 0), 1, 1) := by kernel_rfl
theorem u32_info : (Tryd.prog.info? 24).map (fun i => (i.zero, i.size, i.bytes)) = some (some (.int .u32 0), 1, 4) := by kernel_rfl

/-- the table of a half byte's steps lies where it was laid -/
def Tab (w : World) : Prop := ∀ i, i < 16 → w.cell? ⟨0, i, none⟩ = some (.int .u32 ((Cx.tab i).toNat : Int))
theorem Tab.below {w w' : World} {B : Nat} (h : Tab w) (hb : Below B w w') (hB : 0 < B) : Tab w' := fun i hi =>
  (hb.cell (p := ⟨0, i, none⟩) hB).trans (h i hi)
theorem Tab.lt {w : World} (h : Tab w) : 0 < w.heap.size := block_lt_of_cell (h 0 (by omega))
theorem Tab.on {w w' : World} (h : Tab w) (hb : Below w.heap.size w w') : Tab w' := h.below hb h.lt

theorem b_not (x : BitVec 32) : 4294967295 - (x.toNat : Int) = ((~~~ x).toNat : Int) := by
  have := x.isLt
  rw [BitVec.toNat_not]; omega
theorem b_and15 (x : BitVec 32) : bits .and .u32 (x.toNat : Int) 15 = ((x.toNat % 16 : Nat) : Int) := by
  rw [show (15 : Int) = ((15 : Nat) : Int) by rfl, u32_and_nat _ _ x.isLt (by omega), nat_mask4]
theorem b_by8 (c : UInt8) : (c.toNat : Int) = ((Cx.by8 c).toNat : Int) := by
  have := c.toNat_lt
  unfold Cx.by8
  rw [BitVec.toNat_ofNat, Nat.mod_eq_of_lt (by omega)]

/-- a half byte's step, as the walk meets it -/
theorem half_step (w : World) (ht : Tab w) (x : BitVec 32) : ∃ (k : Nat) (y t z : BitVec 32), k < 16 ∧ bits .and .u32 (x.toNat : Int) 15 = (k : Int) ∧ (x.toNat : Int) / 16 = (y.toNat : Int) ∧
    w.cell? ⟨0, k, none⟩ = some (.int .u32 (t.toNat : Int)) ∧ bits .xor .u32 (y.toNat : Int) (t.toNat : Int) = (z.toNat : Int) ∧ z = Cx.tp 4 x :=
  ⟨x.toNat % 16, x >>> 4, Cx.tab (x.toNat % 16), _, Nat.mod_lt _ (by omega), b_and15 x, b_shr4 x, ht _ (Nat.mod_lt _ (by omega)), b_xor _ _, (Cx.tp4 x).symm⟩
theorem b_not' (x : BitVec 32) : bits .xor .u32 IntKind.u32.max (x.toNat : Int) = ((~~~ x).toNat : Int) := by
  rw [show IntKind.u32.max = (Cx.ones.toNat : Int) by rfl, b_xor, Cx.not_xor, BitVec.xor_comm]
theorem not_letter (x : BitVec 32) : ∃ y : BitVec 32, bits .xor .u32 IntKind.u32.max (x.toNat : Int) = (y.toNat : Int) ∧ y = ~~~ x := ⟨_, b_not' x, rfl⟩

theorem more_any (A : Option Addr) (l : List UInt8) (c B : Nat) (s : BitVec 32) (w : World) (h : Rd w B A (bvs l)) (ht : Tab w) (hm : l.length ≤ 9223372036854775807) :
    Calls Tryd.prog 16 #[.int .u32 s.toNat, .slice A l.length c] w fun e w' => e = .returned (.int .u32 (Cx.more s l).toNat) ∧ w = w' := by
  have Hh := Lib.hid h
  have Ht := Lib.hid ht
  clear h ht
  have h0 := s.isLt
  obtain ⟨ns, hns, hns'⟩ := not_letter s
  have Hns := Lib.hid hns'
  clear hns'
  have hsg : IntKind.u32.signed = false := rfl
  go_enter Tryd.func16, Tryd.ntmps16
  go_wp2_with fail
  clear hns
  go_loopg [5, 12] l.length (fun k r i wr => w = wr ∧ ∃ (j : Nat), j + k = l.length ∧ i = .int .i64 j ∧ r = .int .u32 (Cx.reg ns (l.take j)).toNat)
  case atStart => exact ⟨rfl, 0, by omega, rfl, rfl⟩
  case round =>
    obtain ⟨rfl, j, hj, rfl, rfl⟩ := hrel
    by_cases hlt : j < l.length
    · obtain ⟨bb, o, rfl, hbb, hc⟩ := Hh.out (by intro e; have := congrArg List.length e; simp [bvs] at this; subst this; simp at hlt)
      have hcell := hc j _ (bvs_get l j hlt)
      unfold bv at hcell
      have hy := UInt8.toNat_lt l[j]
      generalize hr : Cx.reg ns (l.take j) = r
      have Hr := Lib.hid hr
      clear hr hc
      have h1 := b_xor r (Cx.by8 l[j])
      rw [← b_by8] at h1
      generalize hx1 : r ^^^ Cx.by8 l[j] = x1 at h1
      obtain ⟨k1, y1, t1, x2, a1, a2, a3, a4, a5, a6⟩ := half_step w Ht.out x1
      obtain ⟨k2, y2, t2, x3, b1, b2, b3, b4, b5, b6⟩ := half_step w Ht.out x2
      have Hx1 := Lib.hid hx1
      have A6 := Lib.hid a6
      have B6 := Lib.hid b6
      clear hx1 a6 b6
      go_wp2_with fail
      go_roundg (gk - 1)
      case measure => omega
      case rel =>
        refine ⟨rfl, j + 1, by omega, by go_num, ?_⟩
        rw [List.take_succ_eq_append_getElem hlt, Cx.reg_snoc, Hr.out, Hx1.out, B6.out, A6.out, ← Cx.tp_add]
    · obtain rfl : j = l.length := by omega
      rw [List.take_length]
      obtain ⟨nr, hnr, hnr'⟩ := not_letter (Cx.reg ns l)
      have Hnr := Lib.hid hnr'
      clear hnr'
      go_wp2_with fail
      go_ret
      refine ⟨ret_int ?_, rfl⟩
      rw [Hnr.out, Hns.out]
      rfl

theorem sum_any (A : Option Addr) (l : List UInt8) (c B : Nat) (w : World) (h : Rd w B A (bvs l)) (ht : Tab w) (hm : l.length ≤ 9223372036854775807) :
    Calls Tryd.prog 15 #[.slice A l.length c] w fun e w' => e = .returned (.int .u32 (Cx.sum l).toNat) ∧ w = w' := by
  have hc := more_any A l c B 0#32 w h ht hm
  go_enter Tryd.func15, Tryd.ntmps15
  go_wp2_with fail
  refine hc.mono ?_
  rintro e w' ⟨rfl, rfl⟩
  go_wp2_with fail
  go_ret
  exact ⟨rfl, rfl⟩

theorem more_b (v : Value) (l : List UInt8) (B : Nat) (s : BitVec 32) (w : World) (h : Bs w B v l) (ht : Tab w) (hm : l.length ≤ 9223372036854775807) :
    Calls Tryd.prog 16 #[.int .u32 s.toNat, v] w fun e w' => e = .returned (.int .u32 (Cx.more s l).toNat) ∧ w = w' := by
  obtain ⟨A, c, rfl, _, hr⟩ := h
  exact more_any A l c B s w hr ht hm
theorem sum_b (v : Value) (l : List UInt8) (B : Nat) (w : World) (h : Bs w B v l) (ht : Tab w) (hm : l.length ≤ 9223372036854775807) :
    Calls Tryd.prog 15 #[v] w fun e w' => e = .returned (.int .u32 (Cx.sum l).toNat) ∧ w = w' := by
  obtain ⟨A, c, rfl, _, hr⟩ := h
  exact sum_any A l c B w hr ht hm

/-- numbers of 32 bits as cells -/
def uv (x : BitVec 32) : Value := .int .u32 (x.toNat : Int)
def uvs (l : List (BitVec 32)) : List Value := l.map uv
theorem uvs_get (l : List (BitVec 32)) (k : Nat) (h : k < l.length) : (uvs l)[k]? = some (uv l[k]) := by simp [uvs, h]

/-- the product of a row -/
def prod (l : List (BitVec 32)) : BitVec 32 := l.foldl Cx.mul Cx.e0
theorem prod_snoc (l : List (BitVec 32)) (x : BitVec 32) : prod (l ++ [x]) = Cx.mul (prod l) x := by simp [prod]

theorem product_any (A : Option Addr) (l : List (BitVec 32)) (c B : Nat) (w : World) (h : Rd w B A (uvs l)) (hm : l.length ≤ 9223372036854775807) :
    Calls Tryd.prog 26 #[.slice A l.length c] w fun e w' => e = .returned (.int .u32 (prod l).toNat) ∧ w = w' := by
  have Hh := Lib.hid h
  clear h
  go_enter Tryd.func26, Tryd.ntmps26
  go_wp2_with fail
  go_loopg [3, 8] l.length (fun k r i wr => w = wr ∧ ∃ (j : Nat), j + k = l.length ∧ i = .int .i64 j ∧ r = .int .u32 (prod (l.take j)).toNat)
  case atStart => exact ⟨rfl, 0, by omega, rfl, rfl⟩
  case round =>
    obtain ⟨rfl, j, hj, rfl, rfl⟩ := hrel
    by_cases hlt : j < l.length
    · obtain ⟨bb, o, rfl, hbb, hc⟩ := Hh.out (by intro e; have := congrArg List.length e; simp [uvs] at this; subst this; simp at hlt)
      have hcell := hc j _ (uvs_get l j hlt)
      unfold uv at hcell
      generalize hr : prod (l.take j) = r
      have Hr := Lib.hid hr
      clear hr hc
      generalize hx : l[j] = x at hcell
      have Hx := Lib.hid hx
      clear hx
      go_wp2_with fail
      refine (times_any _ _ _).mono ?_
      rintro e w' ⟨rfl, rfl⟩
      go_wp2_with fail
      go_roundg (gk - 1)
      case measure => omega
      case rel =>
        refine ⟨rfl, j + 1, by omega, by go_num, ?_⟩
        rw [List.take_succ_eq_append_getElem hlt, prod_snoc, Hr.out, Hx.out]
    · obtain rfl : j = l.length := by omega
      rw [List.take_length]
      go_wp2_with fail
      go_ret
      exact ⟨rfl, rfl⟩

theorem i64_bit0 (m : Nat) (h : m < 9223372036854775808) : (bits .and .i64 (m : Int) 1 != 0) = decide (m % 2 = 1) := by
  have e0 : bits .and .i64 (m : Int) 1 = ((m % 2 : Nat) : Int) := by
    show IntKind.i64.wrap ((BitVec.ofInt 64 (m : Int) &&& BitVec.ofInt 64 1).toNat : Int) = _
    have e : (BitVec.ofInt 64 (m : Int)).toNat = m := by
      rw [BitVec.ofInt_natCast, BitVec.toNat_ofNat]; exact Nat.mod_eq_of_lt (by omega)
    have e2 : (BitVec.ofInt 64 1).toNat = 1 := by decide
    rw [BitVec.toNat_and, e, e2, nat_mask1, IntKind.wrap_i64]
    omega
  rw [e0, Bool.eq_iff_iff]
  simp
  omega

theorem half_even (N k m : Nat) (hm : m = N / 2 ^ k) (h : decide (m % 2 = 1) = false) : N % 2 ^ (k + 1) = N % 2 ^ k := by
  rw [Nat.mod_pow_succ, ← hm]
  have : m % 2 = 0 := by simp at h; omega
  rw [this]; simp
theorem half_odd (N k m : Nat) (hm : m = N / 2 ^ k) (h : decide (m % 2 = 1) = true) : N % 2 ^ (k + 1) = N % 2 ^ k + 2 ^ k := by
  rw [Nat.mod_pow_succ, ← hm]
  have : m % 2 = 1 := by simpa using h
  rw [this]; simp
theorem half_next (N k m : Nat) (hm : m = N / 2 ^ k) : m / 2 = N / 2 ^ (k + 1) := by
  rw [hm, Nat.div_div_eq_div_mul, Nat.pow_succ]

theorem squares_more (N k m g : Nat) (hm : m = N / 2 ^ k) (hk : k + g = 64) (h1 : (N : Int) < 9223372036854775808) (hz : 0 < m) : 0 < g := by
  rcases Nat.eq_zero_or_pos g with h | h
  · exfalso
    obtain rfl : k = 64 := by omega
    rw [Nat.div_eq_of_lt (by omega)] at hm
    omega
  · exact h
theorem squares_any (n : Int) (w : World) (h0 : 0 ≤ n) (h1 : n < 9223372036854775808) :
    Calls Tryd.prog 27 #[.int .i64 n] w fun e w' => ∃ (v : Value) (l : List (BitVec 32)), e = .returned v ∧ w'.ownsRow w.heap.size 24 1 v l.length (uvs l) ∧ l.length ≤ 64 ∧ prod l = Cx.xp (8 * n.toNat) ∧ Below w.heap.size w w' := by
  obtain ⟨i0, hi0, hz0, hz1, hz2⟩ := info_parts u32_info
  obtain ⟨N, rfl⟩ := Int.eq_ofNat_of_zero_le h0
  rw [Int.toNat_natCast]
  have H1 := Lib.hid h1
  clear h1
  go_enter Tryd.func27, Tryd.ntmps27
  go_wp2_with fail
  go_loopg [0, 3, 4] 64 (fun g p o q wr => ∃ (k m : Nat) (l : List (BitVec 32)) (x : BitVec 32), k + g = 64 ∧ m = N / 2 ^ k ∧ p = .int .i64 (m : Nat) ∧ l.length ≤ k ∧ wr.ownsRow w.heap.size 24 1 o l.length (uvs l) ∧ prod l = Cx.xp (8 * (N % 2 ^ k)) ∧ q = .int .u32 x.toNat ∧ x = Cx.xp (8 * 2 ^ k) ∧ Below w.heap.size w wr)
  case atStart => exact ⟨0, N, [], _, by omega, by simp, rfl, by simp, ⟨rfl, .inl ⟨rfl, rfl⟩⟩, by rw [Nat.pow_zero, Nat.mod_one]; rfl, rfl, by rw [Nat.pow_zero, Nat.mul_one, Cx.xp_8], Below.refl _ _⟩
  case round =>
    obtain ⟨k, m, l, x, hk, hm, rfl, hl, hown, hp, rfl, hx, hb⟩ := hrel
    have Hm := Lib.hid hm
    have Hp := Lib.hid hp
    have Hx := Lib.hid hx
    clear hm hp hx
    have hmN : m ≤ N := by rw [Hm.out]; exact Nat.div_le_self _ _
    have hbit := i64_bit0 m (by have := H1.out; omega)
    have Hk := Lib.hid hk
    clear hk
    by_cases hz : 0 < m
    · have hmb : (m : Int) ≤ 9223372036854775807 := by have := H1.out; omega
      rcases hbb : decide (m % 2 = 1) with _ | _
      all_goals
        rw [hbb] at hbit
        have Hbb := Lib.hid hbb
        clear hbb
      · go_wp2_with fail
        refine (times_any _ _ _).mono ?_
        rintro e w' ⟨rfl, rfl⟩
        go_wp2_with fail
        have hg : 0 < gk := squares_more N k m gk Hm.out Hk.out H1.out hz
        go_roundg (gk - 1)
        case measure => omega
        case rel =>
          refine ⟨k + 1, m / 2, l, Cx.mul x x, by have := Hk.out; omega, half_next N k m Hm.out, by simp, by omega, hown, ?_, rfl, ?_, hb⟩
          · rw [Hp.out, half_even N k m Hm.out Hbb.out]
          · rw [Hx.out, Cx.xp_add]; congr 1; rw [Nat.pow_succ]; omega
      · go_wp2_with (at_builtin; (refine wpList_append_1 _ rfl _ _ 51 rfl w.heap.size 24 i0 (.int .u32 0) 4 Tryd.underlying51 hi0 hz0 hz1 hz2 rfl u3 l.length (uvs l) rfl (hown.alloc _) _ 1 (.int .u32 (x.toNat : Int)) rfl (cell_new1 _ _ _) rfl (by unfold maxLen; have := Hk.out; omega) (by have := Hk.out; omega) (by have := hb.size; simp; omega) ?_); intro v2 w2 hown2 hbw2 _ _)
        refine (times_any _ _ _).mono ?_
        rintro e w' ⟨rfl, rfl⟩
        go_wp2_with fail
        have hg : 0 < gk := squares_more N k m gk Hm.out Hk.out H1.out hz
        go_roundg (gk - 1)
        case measure => omega
        case rel =>
          refine ⟨k + 1, m / 2, l ++ [x], Cx.mul x x, by have := Hk.out; omega, half_next N k m Hm.out, by simp, by simp; omega, ?_, ?_, rfl, ?_, (hb.alloc hb.size _).trans hbw2⟩
          · have e1 : (l ++ [x]).length = l.length + 1 := by simp
            have e2 : uvs (l ++ [x]) = uvs l ++ [.int .u32 (x.toNat : Int)] := by simp [uvs, uv]
            rw [e1, e2]
            exact hown2
          · rw [prod_snoc, Hp.out, Hx.out, Cx.xp_add, half_odd N k m Hm.out Hbb.out]; congr 1; omega
          · rw [Hx.out, Cx.xp_add]; congr 1; rw [Nat.pow_succ]; omega
    · go_wp2_with fail
      go_ret
      refine ⟨_, l, rfl, hown, by have := Hk.out; omega, ?_, hb⟩
      rw [Hp.out]
      have h2 : N < 2 ^ k := by
        rcases Nat.lt_or_ge N (2 ^ k) with h3 | h3
        · exact h3
        · have := Nat.div_pos h3 (Nat.two_pow_pos k)
          rw [← Hm.out] at this
          omega
      rw [Nat.mod_eq_of_lt h2]

theorem power_ok (n : Int) (w : World) (h0 : 0 ≤ n) (h1 : n < 9223372036854775808) :
    Calls Tryd.prog 18 #[.int .i64 n] w fun e w' => e = .returned (.tuple #[.int .u32 (Cx.xp (8 * n.toNat)).toNat, .int .i64 0]) ∧ Below w.heap.size w w' := by
  go_enter Tryd.func18, Tryd.ntmps18
  go_wp2_with fail
  refine (squares_any _ _ h0 h1).mono ?_
  rintro e w1 ⟨v, l, rfl, hown, hl, hp, hb⟩
  obtain ⟨A, c, rfl, _⟩ := own_slice hown
  have hr := Rd.of_own hown
  have Hp := Lib.hid hp
  have Hr := Lib.hid hr
  clear hp hr hown
  go_wp2_with fail
  refine (product_any A l c _ _ Hr.out (by omega)).mono ?_
  rintro e w2 ⟨rfl, rfl⟩
  rw [Hp.out]
  go_wp2_with fail
  go_ret2
  exact ⟨rfl, hb⟩
theorem power_arg (n : Int) (w : World) (h0 : n < 0) :
    Calls Tryd.prog 18 #[.int .i64 n] w fun e w' => e = .returned (.tuple #[.int .u32 0, .int .i64 1]) ∧ w = w' := by
  go_enter Tryd.func18, Tryd.ntmps18
  go_wp2_with fail
  go_ret2
  exact ⟨rfl, rfl⟩
theorem join_ok (a b : BitVec 32) (n : Int) (w : World) (h0 : 0 ≤ n) (h1 : n < 9223372036854775808) :
    Calls Tryd.prog 20 #[.int .u32 a.toNat, .int .u32 b.toNat, .int .i64 n] w fun e w' => e = .returned (.tuple #[.int .u32 (Cx.join a b n.toNat).toNat, .int .i64 0]) ∧ Below w.heap.size w w' := by
  have hp := power_ok n w h0 h1
  go_enter Tryd.func20, Tryd.ntmps20
  go_wp2_with fail
  refine hp.mono ?_
  rintro e w1 ⟨rfl, hb⟩
  generalize hx : Cx.xp (8 * n.toNat) = x
  have Hx := Lib.hid hx
  clear hx
  go_wp2_with fail
  refine (times_any _ _ _).mono ?_
  rintro e w2 ⟨rfl, rfl⟩
  have h2 := b_xor (Cx.mul a x) b
  generalize hy : Cx.mul a x ^^^ b = y at h2
  have Hy := Lib.hid hy
  clear hy
  go_wp2_with fail
  go_ret2
  refine ⟨?_, hb⟩
  rw [Cx.join, Hx.out, Hy.out]
  rfl
theorem join_arg (a b : Int) (n : Int) (w : World) (h0 : n < 0) :
    Calls Tryd.prog 20 #[.int .u32 a, .int .u32 b, .int .i64 n] w fun e w' => e = .returned (.tuple #[.int .u32 0, .int .i64 1]) ∧ w = w' := by
  have hp := power_arg n w h0
  go_enter Tryd.func20, Tryd.ntmps20
  go_wp2_with fail
  refine hp.mono ?_
  rintro e w1 ⟨rfl, rfl⟩
  go_wp2_with fail
  go_ret2
  exact ⟨rfl, rfl⟩
end Go.Proofs.YtcgcopkalcjmpaaDoor
