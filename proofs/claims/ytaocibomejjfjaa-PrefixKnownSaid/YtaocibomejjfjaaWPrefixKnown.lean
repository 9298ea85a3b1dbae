/-
  The walk of the law PrefixKnown: it returns true, and writes nothing that was there.
-/
import Derived.Test.YtaocibomejjfjaaPxClone
import Derived.OpenShut
import Derived.IntWalk
set_option linter.unusedVariables false
set_option linter.unusedSimpArgs false
namespace Go.Proofs.Ytaocibomejjfjaa.prefixKnown
open Go.RowKit

/-- the form of 2^(7 k) - 1: its first byte with one bit more is 255 -/
theorem most (k : Nat) (h1 : 1 ≤ k) (h2 : k ≤ 8) : Px.sizeN (2 ^ (7 * k) - 1) = k ∧ Px.sizeN (2 ^ (7 * k)) = k + 1 ∧
    (∃ (x : UInt8) (r : List UInt8), Px.formL (2 ^ (7 * k) - 1) = x :: r ∧ bits .or .u8 (x.toNat : Int) ((2 ^ (8 - k) : Nat) : Int) = 255) := by
  have : k = 1 ∨ k = 2 ∨ k = 3 ∨ k = 4 ∨ k = 5 ∨ k = 6 ∨ k = 7 ∨ k = 8 := by omega
  rcases this with rfl | rfl | rfl | rfl | rfl | rfl | rfl | rfl
  all_goals exact ⟨by decide, by decide, _, _, by rfl, by decide⟩

set_option maxRecDepth 100000 in
set_option maxHeartbeats 8000000 in
theorem walk (w : World) :
    Calls Try.prog 8 #[] w fun e w' => e = .returned (.bool true) ∧ Below w.heap.size w w' := by
  go_enter Try.func8, Try.ntmps8
  go_wp2_with fail
  go_loopw [1] (fun i wr => ∃ k : Nat, 1 ≤ k ∧ k ≤ 9 ∧ i = .int .i64 k ∧ Below w.heap.size w wr) (fun i _ => 9 - (intOf i).toNat)
  case atStart => exact ⟨1, by omega, by omega, rfl, Below.refl _ _⟩
  case round =>
    obtain ⟨k, hk1, hk9, rfl, hb⟩ := hrel
    by_cases hlt : k ≤ 8
    · obtain ⟨m1, m2, x, r, m3, m4⟩ := most k hk1 hlt
      have hp1 : 1 ≤ 2 ^ (7 * k) := Nat.two_pow_pos _
      have hp2 : 2 ^ (7 * k) ≤ 2 ^ 56 := Nat.pow_le_pow_right (by omega) (by omega)
      obtain ⟨M, hM⟩ : ∃ M, 2 ^ (7 * k) = M + 1 := ⟨2 ^ (7 * k) - 1, by omega⟩
      have e1 : IntKind.u64.wrap (IntKind.u64.wrap (2 ^ (7 * k)) - 1) = (M : Int) := by
        have e : ((2 : Int) ^ (7 * k)) = ((2 ^ (7 * k) : Nat) : Int) := by simp
        rw [e, IntKind.wrap_u64, IntKind.wrap_u64]
        omega
      rw [hM] at m1 m2 m3 hp2
      rw [Nat.add_sub_cancel] at m1 m3
      have E1 := Lib.hid e1
      have M1 := Lib.hid m1
      have M2 := Lib.hid m2
      have M3 := Lib.hid m3
      have m5 : (Px.formL M).length = k := by rw [Px.formL_length, m1]
      have M5 := Lib.hid m5
      have m4' : bits .or .u8 (x.toNat : Int) (2 ^ (8 - k)) = 255 := by simpa using m4
      have M4 := Lib.hid m4'
      clear m1 m2 m3 m4 m4' m5 hM hp1 e1
      go_wp2_with fail
      rw [E1.out]
      refine (size_any _ _ (by omega) (by omega)).mono ?_
      rintro e w1 ⟨rfl, rfl⟩
      rw [Int.toNat_natCast, M1.out]
      go_wp2_with fail
      refine (size_any _ _ (by omega) (by omega)).mono ?_
      rintro e w1 ⟨rfl, rfl⟩
      rw [show ((M : Int) + 1).toNat = M + 1 by omega, M2.out]
      go_wp2_with fail
      refine (put_b _ [] _ wr (by exact Bs.none_) (by omega) (by omega) (by simp)).mono ?_
      rintro e w1 ⟨r1, rfl, hown, hb1⟩
      rw [Int.toNat_natCast, List.nil_append, M3.out, M1.out] at hown
      simp only [List.length_nil, Nat.zero_add] at hown
      obtain ⟨g, cap, rfl, hge, hgl⟩ := hown.form (by omega)
      have hcell := hown.cellAt 0 (by omega)
      rw [bvs_cons, List.getElem?_cons_zero] at hcell
      unfold bv at hcell
      have b1 := hb.trans (hb1.mono hb.size)
      clear hown hb1 hge hgl
      have d0 : ((k : Int) == 0) = false := by simp; omega
      have m4 := M4.out
      clear m4 d0 E1 M1 M2 M3 M5
      have hk : k = 1 ∨ k = 2 ∨ k = 3 ∨ k = 4 ∨ k = 5 ∨ k = 6 ∨ k = 7 ∨ k = 8 := by omega
      go_wp2_with fail
      rcases hk with rfl | rfl | rfl | rfl | rfl | rfl | rfl | rfl
      all_goals
        have m4 := M4.out
        simp only [Nat.reduceSub, Int.reducePow] at m4
        have t5 := congrArg (fun z : Int => z != 255) m4
        simp only [show ((255 : Int) != 255) = false from rfl] at t5
        clear m4
        go_quiet (fail)
        go_wp2_with fail
        go_roundw
        case rel => first | exact ⟨2, by omega, by omega, rfl, below_drewN b1 _⟩ | exact ⟨3, by omega, by omega, rfl, below_drewN b1 _⟩ | exact ⟨4, by omega, by omega, rfl, below_drewN b1 _⟩ | exact ⟨5, by omega, by omega, rfl, below_drewN b1 _⟩ | exact ⟨6, by omega, by omega, rfl, below_drewN b1 _⟩ | exact ⟨7, by omega, by omega, rfl, below_drewN b1 _⟩ | exact ⟨8, by omega, by omega, rfl, below_drewN b1 _⟩ | exact ⟨9, by omega, by omega, rfl, below_drewN b1 _⟩
        case measure => simp [intOf]
    · obtain rfl : k = 9 := by omega
      clear hlt hk1 hk9
      go_wp2_with fail
      refine (get_b _ [] 0 _ (by exact Bs.none_) (by simp)).mono ?_
      rintro e w1 ⟨rfl, hb1⟩
      rw [show getV [] = .tuple #[.int .u64 0, .int .i64 0, .int .i64 4] by rfl]
      have b1 := hb.trans (hb1.mono hb.size)
      clear hb hb1
      go_wp2_with fail
      have b0 := b1.alloc b1.size (Obj.cells #[.int .u8 255, .int .u8 0, .int .u8 255, .int .u8 255, .int .u8 255, .int .u8 255, .int .u8 255, .int .u8 255, .int .u8 255] 5)
      refine (get_b _ [255, 0, 255, 255, 255, 255, 255, 255, 255] (w1.heap.size + 1) _ (by exact Bs.new w1 [255, 0, 255, 255, 255, 255, 255, 255, 255] 5) (by simp)).mono ?_
      rintro e w2 ⟨rfl, hb⟩
      rw [show getV [255, 0, 255, 255, 255, 255, 255, 255, 255] = .tuple #[.int .u64 0, .int .i64 0, .int .i64 5] by rfl]
      have b2 := b0.trans (hb.mono b0.size)
      clear b0 hb b1
      go_wp2_with fail
      have b0 := b2.alloc b2.size (Obj.cells #[.int .u8 255, .int .u8 255, .int .u8 255, .int .u8 255, .int .u8 255, .int .u8 255, .int .u8 255, .int .u8 255, .int .u8 255, .int .u8 7] 5)
      refine (get_b _ [255, 255, 255, 255, 255, 255, 255, 255, 255, 7] (w2.heap.size + 1) _ (by exact Bs.new w2 [255, 255, 255, 255, 255, 255, 255, 255, 255, 7] 5) (by simp)).mono ?_
      rintro e w3 ⟨rfl, hb⟩
      rw [show getV [255, 255, 255, 255, 255, 255, 255, 255, 255, 7] = .tuple #[.int .u64 18446744073709551615, .int .i64 9, .int .i64 0] by rfl]
      have b3 := b0.trans (hb.mono b0.size)
      clear b0 hb b2
      go_wp2_with fail
      refine (fixed_arg _ _ _ _ _ _ (by omega)).mono ?_
      rintro e w4 ⟨rfl, rfl⟩
      go_wp2_with fail
      refine (fixed_arg _ _ _ _ _ _ (by omega)).mono ?_
      rintro e w4 ⟨rfl, rfl⟩
      obtain ⟨i0, hi0, hz0, hz1, hz2⟩ := info_parts byte_info
      have hmk : ∃ o : Obj, (Instr.makeSlice 22 (.int .i64 20) (.int .i64 20)).run Try.prog w3 = .ok (.slice (some ⟨w3.heap.size, 0, none⟩) 20 20) (w3.alloc o) :=
        ⟨_, run_make (P := Try.prog) w3 22 5 i0 (.int .u8 0) Try.underlying22 hi0 hz0 .i64 .i64 20 20 (by omega) (by omega) (by rw [hz2]; omega) (by omega)⟩
      obtain ⟨o, hmk⟩ := hmk
      clear hi0 hz0 hz1 hz2
      have b4 := b3.alloc b3.size o
      go_wp2_with fail
      clear hmk
      refine (read_arg _ _ _ _ _ (by omega)).mono ?_
      rintro e w4 ⟨rfl, hw⟩
      have b5 : Below w.heap.size w w4 := by rw [← hw]; exact b4
      clear hw b4 b3
      go_wp2_with fail
      refine (narrow_arg _ _ _ (by omega)).mono ?_
      rintro e w5 ⟨rfl, rfl⟩
      go_wp2_with fail
      refine (narrow_arg _ _ _ (by omega)).mono ?_
      rintro e w5 ⟨rfl, rfl⟩
      go_wp2_with fail
      refine (narrow_ok _ _ _ (by omega) (by omega) (by omega) (by omega) (by decide) (by omega)).mono ?_
      rintro e w5 ⟨rfl, rfl⟩
      go_wp2_with fail
      refine (fold_any _ _ (by omega) (by omega)).mono ?_
      rintro e w5 ⟨rfl, rfl⟩
      rw [show foldI (-9223372036854775808) = 18446744073709551615 by rfl]
      go_wp2_with fail
      refine (unfold_any _ _ (by omega) (by omega)).mono ?_
      rintro e w5 ⟨rfl, rfl⟩
      rw [show unfoldI 18446744073709551615 = -9223372036854775808 by rfl]
      go_wp2_with fail
      refine (size_any _ _ (by omega) (by omega)).mono ?_
      rintro e w5 ⟨rfl, rfl⟩
      rw [show Px.sizeN (0 : Int).toNat = 1 by rfl]
      go_wp2_with fail
      refine (put_b _ [] _ w4 (by exact Bs.none_) (by omega) (by omega) (by simp)).mono ?_
      rintro e w6 ⟨r6, rfl, hown, hb⟩
      have b6 := b5.trans (hb.mono b5.size)
      have hs : Bs w6 w6.heap.size r6 [254, 255, 255, 255, 255, 255, 255, 255] := Bs.of_own hown
      have Hs := Lib.hid hs
      clear hs hown hb b5
      go_wp2_with fail
      refine (equal_b _ _ [254, 255, 255, 255, 255, 255, 255, 255] [254, 255, 255, 255, 255, 255, 255, 255] _ (w6.heap.size + 1) _ (by exact (Hs.out.alloc (Nat.le_refl _) _)) (by exact Bs.new w6 [254, 255, 255, 255, 255, 255, 255, 255] 5)).mono ?_
      rintro e w7 ⟨rfl, hw⟩
      rw [show ([254, 255, 255, 255, 255, 255, 255, 255] == ([254, 255, 255, 255, 255, 255, 255, 255] : List UInt8)) = true by decide]
      have b7 : Below w.heap.size w w7 := by rw [← hw]; exact b6.alloc b6.size _
      clear hw b6 Hs
      go_wp2_with fail
      refine (wakes_any _).mono ?_
      rintro e w8 ⟨rfl, hb⟩
      go_wp2_with fail
      go_ret
      exact ⟨rfl, b7.trans (hb.mono b7.size)⟩
end Go.Proofs.Ytaocibomejjfjaa.prefixKnown
