
/-
  Layer 1: the walk of Get.
-/
import Derived.Test.YtggijjknfcofoaaDoorPxMem
set_option linter.unusedVariables false
set_option linter.unusedSimpArgs false
namespace Go.Proofs.YtggijjknfcofoaaDoor
open Go.RowKit

/-- what Get tells, as a value -/
def getV (l : List UInt8) : Value := .tuple #[.int .u64 (Px.getN l).1, .int .i64 (Px.getN l).2.1, .int .i64 (Px.getN l).2.2]

theorem get_any (A : Option Addr) (l : List UInt8) (c B : Nat) (w : World) (h : Rd w B A (bvs l)) (hl : l.length ≤ 9223372036854775807) :
    Calls Tryd.prog 75 #[.slice A l.length c] w fun e w' => e = .returned (getV l) ∧ ∃ m, w' = w.drewN m := by
  rcases l with _ | ⟨x, r⟩
  · go_enter Tryd.func75, Tryd.ntmps75
    go_wp2
    go_ret3
    exact ⟨rfl, 0, rfl⟩
  · obtain ⟨b, o, rfl, hb, hc⟩ := h (by simp [bvs])
    have hc0 : w.cell? ⟨b, o, none⟩ = some (.int .u8 (x.toNat : Int)) := hc 0 _ rfl
    have hxl := UInt8.toNat_lt x
    generalize hlen : (x :: r).length = n at *
    have hn0 : 0 < n := by rw [← hlen]; simp
    have Hlen := Lib.hid hlen
    clear hlen
    have hne : ((n : Int) == 0) = false := by simp; omega
    generalize hk : Px.toldN x.toNat = k at *
    have hkp : 1 ≤ k ∧ k ≤ 9 := by rw [← hk]; exact Px.toldN_pos _
    have Hk := Lib.hid hk
    clear hk
    by_cases hs : n < k
    · have e : getV (x :: r) = .tuple #[.int .u64 0, .int .i64 0, .int .i64 4] := by
        simp [getV, Px.getN, Hk.out, Hlen.out, hs]
      rw [e]
      clear e hc
      go_enter Tryd.func75, Tryd.ntmps75
      go_wp2_with fail
      refine (told_any _ _ (by omega) (by omega)).mono ?_
      rintro e w1 ⟨rfl, rfl⟩
      rw [Int.toNat_natCast, Hk.out]
      go_wp2
      go_ret3
      exact ⟨rfl, 0, rfl⟩
    · have hcx : ∀ j, j < n → w.cell? ⟨b, o + j, none⟩ = some (.int .u8 (((x :: r).getD j 0).toNat : Int)) := fun j hj => by
        refine hc j _ ?_
        have hj' : j < (x :: r).length := by rw [Hlen.out]; exact hj
        rw [bvs_get _ _ hj']
        simp [bv, List.getD_eq_getElem?_getD, List.getElem?_eq_getElem hj']
      have Hcx := Lib.hid hcx
      clear hc hcx
      have hand := Px.andNot_val x k hkp.1 hkp.2
      have Hand := Lib.hid hand
      clear hand
      go_enter Tryd.func75, Tryd.ntmps75
      go_wp2_with fail
      refine (told_any _ _ (by omega) (by omega)).mono ?_
      rintro e w1 ⟨rfl, rfl⟩
      rw [Int.toNat_natCast, Hk.out]
      go_wp2_with fail
      go_quiet ((go_at_call 64; exact quiet_left (ones_any _ _ (by omega) (by omega))))
      go_wp2_with fail
      have ha0 : Value.int IntKind.u64 (IntKind.u64.wrap (bits BinOp.andNot IntKind.u8 x.toNat (Px.onesN k))) = .int .u64 (Px.accN (x :: r) k 0 : Nat) := by
        rw [Hand.out, IntKind.wrap_u64]
        have := Px.accN_lt (x :: r) k 0
        have h256 : 2 ^ (9 - k) ≤ 2 ^ 8 := Nat.pow_le_pow_right (by omega) (by omega)
        simp only [Px.accN, List.getD_cons_zero] at this ⊢
        rw [Int.emod_eq_of_lt (by omega) (by omega)]
      rw [ha0]
      clear ha0
      go_loop [6, 28] (fun a i => ∃ j : Nat, j ≤ k - 1 ∧ i = .int .i64 j ∧ a = .int .u64 (Px.accN (x :: r) k j : Nat)) (fun _ i => k - 1 - (intOf i).toNat)
      case atStart => exact ⟨0, by omega, rfl, rfl⟩
      case round =>
        obtain ⟨j, hj, rfl, rfl⟩ := hrel
        by_cases hlt : j < k - 1
        · have hcj := Hcx.out (j + 1) (by omega)
          have hy := UInt8.toNat_lt ((x :: r).getD (j + 1) 0)
          have hac := Px.accN_small (x :: r) k j hkp.1 hkp.2 hlt
          have hnx : Px.accN (x :: r) k (j + 1) = Px.accN (x :: r) k j * 256 + ((x :: r).getD (j + 1) 0).toNat := rfl
          generalize (x :: r).getD (j + 1) 0 = y at *
          generalize Px.accN (x :: r) k j = a at *
          have Hnx := Lib.hid hnx
          clear hnx
          have hor := Px.or_acc a y.toNat hac (by omega)
          have Hor := Lib.hid hor
          clear hor
          go_wp2
          go_round
          case rel =>
            refine ⟨j + 1, by omega, by go_num, ?_⟩
            rw [Hor.out, Hnx.out]
          case measure => simp [intOf]; omega
        · obtain rfl : j = k - 1 := by omega
          have hae := Px.accN_end (x :: r) k hkp.1 hkp.2
          generalize ha : Px.accN (x :: r) k (k - 1) = a at *
          have Ha := Lib.hid ha
          clear ha
          by_cases hz : Px.sizeN a = k
          · have e : getV (x :: r) = .tuple #[.int .u64 a, .int .i64 k, .int .i64 0] := by
              simp only [getV, Px.getN, Hk.out, Hlen.out, if_neg hs, Ha.out, hz, if_true]
              rfl
            have He := Lib.hid e
            have Hz := Lib.hid hz
            clear hz e
            go_wp2_with fail
            refine (size_any _ _ (by omega) (by omega)).mono ?_
            rintro e w1 ⟨rfl, rfl⟩
            rw [Int.toNat_natCast, Hz.out]
            go_wp2
            go_ret3
            exact ⟨by rw [He.out]; rfl, nq, rfl⟩
          · have e : getV (x :: r) = .tuple #[.int .u64 0, .int .i64 0, .int .i64 5] := by
              simp only [getV, Px.getN, Hk.out, Hlen.out, if_neg hs, Ha.out, hz, if_false]
              rfl
            have He := Lib.hid e
            clear e
            have hnb : ((Px.sizeN a : Int) != (k : Int)) = true := by simp; omega
            clear hz
            go_wp2_with fail
            refine (size_any _ _ (by omega) (by omega)).mono ?_
            rintro e w1 ⟨rfl, rfl⟩
            rw [Int.toNat_natCast]
            go_wp2
            go_ret3
            exact ⟨by rw [He.out]; rfl, nq, rfl⟩
end Go.Proofs.YtggijjknfcofoaaDoor
