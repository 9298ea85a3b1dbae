/-
  The document's own answer for layer 1: the walk of Read.
-/
import Derived.Test.YtaocibomejjfjaaRxSmall
set_option linter.unusedVariables false
set_option linter.unusedSimpArgs false
namespace Go.Proofs.Ytaocibomejjfjaa
open Go.RowKit

theorem dg_rdN (l : List UInt8) (k t : Nat) (ht : t < k) (hk : k ≤ l.length) : Px.dg (Px.rdN l k) t = l.getD t 0 := by
  have h := congrArg (fun x => x[t]?) (Px.leL_rdN l k hk)
  simp only [Px.leL, List.getElem?_map, List.getElem?_range ht, Option.map_some, List.getElem?_take, if_pos ht] at h
  rw [List.getElem?_eq_getElem (by omega)] at h
  rw [List.getD_eq_getElem?_getD, List.getElem?_eq_getElem (by omega)]
  injection h

theorem rread_arg (A : Option Addr) (m c : Nat) (b : Int) (w : World) (hb : b < 1 ∨ 8 < b) :
    Calls Try.prog 15 #[.slice A m c, .int .i64 b] w fun e w' => e = .returned (.tuple #[.int .u64 0, .int .i64 1]) ∧ w = w' := by
  rcases hb with hb | hb
  · go_enter Try.func15, Try.ntmps15
    go_wp2
    go_ret2
    exact ⟨rfl, rfl⟩
  · have hb' : 1 ≤ b := by omega
    go_enter Try.func15, Try.ntmps15
    go_wp2
    go_ret2
    exact ⟨rfl, rfl⟩
theorem rread_short (A : Option Addr) (m c : Nat) (b : Int) (w : World) (hb : 1 ≤ b) (hb2 : b ≤ 8) (hs : (m : Int) < b) :
    Calls Try.prog 15 #[.slice A m c, .int .i64 b] w fun e w' => e = .returned (.tuple #[.int .u64 0, .int .i64 4]) ∧ w = w' := by
  go_enter Try.func15, Try.ntmps15
  go_wp2
  go_ret2
  exact ⟨rfl, rfl⟩
theorem rread_ok (v : Value) (l : List UInt8) (B k : Nat) (w : World) (h : Bs w B v l) (hk1 : 1 ≤ k) (hk8 : k ≤ 8) (hl : k ≤ l.length) (hm : l.length ≤ 9223372036854775807) :
    Calls Try.prog 15 #[v, .int .i64 k] w fun e w' => e = .returned (.tuple #[.int .u64 (Px.rdN l k : Nat), .int .i64 0]) ∧ w = w' := by
  obtain ⟨A, c, rfl, hc, hr⟩ := h
  obtain ⟨bb, o, rfl, hbb, hcc⟩ := hr (by intro e; have := congrArg List.length e; simp [bvs] at this; subst this; simp at hl; omega)
  have hcx : ∀ j, j < l.length → w.cell? ⟨bb, o + j, none⟩ = some (.int .u8 ((l.getD j 0).toNat : Int)) := fun j hj => by
    refine hcc j _ ?_
    rw [bvs_get _ _ hj]
    simp [bv, List.getD_eq_getElem?_getD, List.getElem?_eq_getElem hj]
  have Hcx := Lib.hid hcx
  clear hcc hcx hr
  have d1 : decide ((k : Int) < 1) = false := by simp; omega
  have d2 : decide ((8 : Int) < (k : Int)) = false := by simp; omega
  have d3 : decide (l.length < k) = false := by simp; omega
  go_enter Try.func15, Try.ntmps15
  go_wp2_with fail
  go_loop [6, 7] (fun a i => ∃ j : Nat, j ≤ k ∧ i = .int .i64 ((k : Int) - 1 - j) ∧ a = .int .u64 (Px.rdN l k / 2 ^ (8 * (k - j)) : Nat)) (fun _ i => (intOf i + 1).toNat)
  case atStart =>
    refine ⟨0, by omega, by simp, ?_⟩
    rw [Nat.sub_zero, Nat.div_eq_of_lt (Px.rdN_lt l k)]
    rfl
  case round =>
    obtain ⟨j, hj, rfl, rfl⟩ := hrel
    by_cases hlt : j < k
    · have hcj := Hcx.out (k - 1 - j) (by omega)
      have hy := UInt8.toNat_lt (l.getD (k - 1 - j) 0)
      have hst := Px.div_step (Px.rdN l k) (k - 1 - j)
      have hdg := congrArg UInt8.toNat (dg_rdN l k (k - 1 - j) (by omega) hl)
      rw [Px.dg_toNat] at hdg
      rw [hdg, show k - 1 - j + 1 = k - j by omega] at hst
      have hlt2 : Px.rdN l k / 2 ^ (8 * (k - j)) < 72057594037927936 := by
        rw [Nat.div_lt_iff_lt_mul (Nat.two_pow_pos _)]
        have h1 := Px.rdN_lt l k
        have h2 : 2 ^ (8 * k) = 2 ^ (8 * j) * 2 ^ (8 * (k - j)) := by rw [← Nat.pow_add]; congr 1; omega
        have h3 : 2 ^ (8 * j) ≤ 2 ^ 56 := Nat.pow_le_pow_right (by omega) (by omega)
        have h4 := Nat.mul_le_mul_right (2 ^ (8 * (k - j))) h3
        rw [h2] at h1
        exact Nat.lt_of_lt_of_le h1 h4
      generalize l.getD (k - 1 - j) 0 = y at *
      obtain ⟨X, hX⟩ : ∃ X : Int, ((Px.rdN l k / 2 ^ (8 * (k - j)) : Nat) : Int) = X := ⟨_, rfl⟩
      have hX0 : 0 ≤ X := by rw [← hX]; exact Int.natCast_nonneg _
      have hX1 : X < 72057594037927936 := by rw [← hX]; exact Int.ofNat_lt.2 hlt2
      rw [hX]
      have HX := Lib.hid hX
      have Hst := Lib.hid hst
      clear hX hlt2 hst hdg
      have x1 : (0 : Int) ≤ (k : Int) - 1 - (j : Int) := by omega
      have x2 : (k : Int) - 1 - (j : Int) < (l.length : Int) := by omega
      have x3 : ((k : Int) - 1 - (j : Int)).toNat = k - 1 - j := by omega
      go_wp2_with fail
      go_round
      case rel =>
        refine ⟨j + 1, by omega, by go_num, ?_⟩
        rw [show k - (j + 1) = k - 1 - j by omega, Hst.out]
        congr 1
        rw [← HX.out, Int.natCast_add, Int.natCast_mul]
        generalize ((Px.rdN l k / 2 ^ (8 * (k - j)) : Nat) : Int) = q
        omega
      case measure => simp [intOf]; omega
    · obtain rfl : j = k := by omega
      rw [Nat.sub_self, Nat.mul_zero, Nat.pow_zero, Nat.div_one]
      go_wp2_with fail
      go_ret2
      exact ⟨rfl, rfl⟩
end Go.Proofs.Ytaocibomejjfjaa
