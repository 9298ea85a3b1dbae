
/-
  The walk of the law KeyLong: it returns true, and writes nothing that was there.
-/
import Derived.Test.YtaekndhchdpobaaKyKnows
import Derived.OpenShut
import Derived.IntWalk
set_option linter.unusedVariables false
set_option linter.unusedSimpArgs false
namespace Go.Proofs.Ytaekndhchdpobaa.keyLong
open Go.RowKit

set_option maxRecDepth 100000 in
set_option maxHeartbeats 8000000 in
theorem walk (a0 : Int) (w : World) (w0 : (Lit.int .u16 a0).wf = true) :
    Calls Try.prog 4 #[.int .u16 a0] w fun e w' => e = .returned (.bool true) ∧ Below w.heap.size w w' := by
  obtain ⟨i0, hi0, hz0, hz1, hz2⟩ := info_parts byte_info
  obtain ⟨p0, q0⟩ := bounds_u16 w0
  obtain ⟨k, hk⟩ := Int.eq_ofNat_of_zero_le (by omega : 0 ≤ a0 % 5000)
  have hk5 : k < 5000 := by omega
  obtain ⟨w1, hrun, hown, hgr⟩ := run_make_full (P := Try.prog) w w.heap.size 53 5 i0 (.int .u8 0) 1 Try.underlying53 hi0 hz0 hz1 .i64 .i64 k (by rw [hz2]; omega) (by unfold maxLen; omega) (Nat.le_refl _)
  have b1 : Below w.heap.size w w1 := (Below.refl _ _).grown hgr (Nat.le_refl _) (by simp)
  have hd : (k = 0 ∧ decide ((1 : Int) ≤ k) = false ∧ decide ((k : Int) ≤ 1024) = true) ∨ (0 < k ∧ k ≤ 64 ∧ decide ((1 : Int) ≤ k) = true ∧ decide ((k : Int) ≤ 64) = true ∧ decide ((k : Int) ≤ 1024) = true) ∨
      (64 < k ∧ decide ((1 : Int) ≤ k) = true ∧ decide ((k : Int) ≤ 64) = false ∧ decide ((k : Int) ≤ 1024) = true) ∨ (64 < k ∧ decide ((1 : Int) ≤ k) = true ∧ decide ((k : Int) ≤ 64) = false ∧ decide ((k : Int) ≤ 1024) = false) := by
    simp
    omega
  clear w0 hown hgr
  have HB := Lib.hid b1
  clear b1
  rcases hd with ⟨d0, d1, d2⟩ | ⟨d0, d1, d2, d3, d4⟩ | ⟨d0, d1, d2, d3⟩ | ⟨d0, d1, d2, d3⟩
  · have D := Lib.hid d2
    have D0 := Lib.hid d0
    clear d2 d0
    go_enter Try.func4, Try.ntmps4
    go_wp2_with fail
    refine (may_no _ _ _ _ (.inl D0.out) (by omega)).mono ?_
    rintro e w2 ⟨rfl, rfl⟩
    go_wp2_with fail
    refine (mayValue_any _ _ _ _ true D.out (by omega)).mono ?_
    rintro e w2 ⟨rfl, rfl⟩
    have d2 := D.out
    go_wp2_with fail
    refine (knows4 _).mono ?_
    rintro e w3 ⟨rfl, hb3⟩
    go_wp2_with fail
    go_ret
    exact ⟨rfl, HB.out.trans (hb3.mono HB.out.size)⟩
  · have D := Lib.hid d4
    clear d4
    go_enter Try.func4, Try.ntmps4
    go_wp2_with fail
    refine (may_yes _ _ _ _ d0 d1).mono ?_
    rintro e w2 ⟨rfl, rfl⟩
    go_wp2_with fail
    refine (mayValue_any _ _ _ _ true D.out (by omega)).mono ?_
    rintro e w2 ⟨rfl, rfl⟩
    have d4 := D.out
    go_wp2_with fail
    refine (knows4 _).mono ?_
    rintro e w3 ⟨rfl, hb3⟩
    go_wp2_with fail
    go_ret
    exact ⟨rfl, HB.out.trans (hb3.mono HB.out.size)⟩
  all_goals
    have D := Lib.hid d3
    clear d3
    go_enter Try.func4, Try.ntmps4
    go_wp2_with fail
    refine (may_no _ _ _ _ (.inr d0) (by omega)).mono ?_
    rintro e w2 ⟨rfl, rfl⟩
    go_wp2_with fail
    refine (mayValue_any _ _ _ _ _ D.out (by omega)).mono ?_
    rintro e w2 ⟨rfl, rfl⟩
    have d3 := D.out
    go_wp2_with fail
    refine (knows4 _).mono ?_
    rintro e w3 ⟨rfl, hb3⟩
    go_wp2_with fail
    go_ret
    exact ⟨rfl, HB.out.trans (hb3.mono HB.out.size)⟩
end Go.Proofs.Ytaekndhchdpobaa.keyLong
