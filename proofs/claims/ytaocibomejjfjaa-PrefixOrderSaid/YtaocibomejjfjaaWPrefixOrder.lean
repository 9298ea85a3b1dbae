/-
  The walk of the law PrefixOrder: it returns true, and writes nothing that was there.
-/
import Derived.Test.YtaocibomejjfjaaPxOrd
import Derived.OpenShut
set_option linter.unusedVariables false
set_option linter.unusedSimpArgs false
namespace Go.Proofs.Ytaocibomejjfjaa.prefixOrder
open Go.RowKit

set_option maxHeartbeats 4000000 in
theorem walk (a0 : Int) (a1 : Int) (w0 : (Lit.int .u64 a0).wf = true) (w1 : (Lit.int .u64 a1).wf = true) (w : World) :
    Calls Try.prog 5 #[.int .u64 a0, .int .u64 a1] w fun e w' => e = .returned (.bool true) ∧ Below w.heap.size w w' := by
  obtain ⟨p0, q0⟩ := bounds_u64 w0
  obtain ⟨p1, q1⟩ := bounds_u64 w1
  clear w0 w1
  have hc := Lib.hid (Px.cmp_form a0.toNat a1.toNat (by omega) (by omega))
  have hp1 : a0 ≠ a1 → Px.hpB (Px.formL a0.toNat) (Px.formL a1.toNat) = false := fun h => Px.form_prefix _ _ (by omega) (by omega) (by omega)
  have hp2 : a0 ≠ a1 → Px.hpB (Px.formL a1.toNat) (Px.formL a0.toNat) = false := fun h => Px.form_prefix _ _ (by omega) (by omega) (by omega)
  have Hp1 := Lib.hid hp1
  have Hp2 := Lib.hid hp2
  clear hp1 hp2
  have hl0 := Px.formL_length a0.toNat
  have hl1 := Px.formL_length a1.toNat
  have hs0 := Px.sizeN_pos a0.toNat
  have hs1 := Px.sizeN_pos a1.toNat
  have Hl0 := Lib.hid hl0
  have Hl1 := Lib.hid hl1
  clear hl0 hl1
  have hmono := Px.sizeN_mono a0.toNat a1.toNat
  have Hmono := Lib.hid hmono
  clear hmono
  go_enter Try.func5, Try.ntmps5
  go_wp2_with fail
  refine (put_b _ [] _ w (by exact Bs.none_) (by omega) (by omega) (by simp)).mono ?_
  rintro e w1 ⟨r1, rfl, hown, hb⟩
  have hx : Bs w1 w1.heap.size r1 (Px.formL a0.toNat) := Bs.of_own hown
  have Hx := Lib.hid hx
  have b1 := hb
  clear hown hx hb
  go_wp2_with fail
  refine (put_b _ [] _ w1 (by exact Bs.none_) (by omega) (by omega) (by simp)).mono ?_
  rintro e w2 ⟨r2, rfl, hown, hb⟩
  have hy : Bs w2 w2.heap.size r2 (Px.formL a1.toNat) := Bs.of_own hown
  have Hy := Lib.hid hy
  have Hx2 := Lib.hid (Hx.out.on hb)
  have b2 := b1.trans (hb.mono b1.size)
  clear hown hy Hx hb b1
  go_wp2_with fail
  refine (compare_b _ _ _ _ _ _ _ Hx2.out Hy.out).mono ?_
  rintro e w3 ⟨rfl, rfl⟩
  rw [hc.out]
  clear hc
  have hhi := Px.sizeN_hi a0.toNat
  have hlo := Px.sizeN_lo a0.toNat
  generalize hk0 : Px.sizeN a0.toNat = k0 at *
  generalize hk1 : Px.sizeN a1.toNat = k1 at *
  have Hk0 := Lib.hid hk0
  have Hk1 := Lib.hid hk1
  clear hk0 hk1
  have fhi : k0 < 9 → (a0 / 2 ^ (7 * k0) == 0) = true := fun h => by
    have := hhi h
    rw [shr_zero' a0 p0]
    simpa using this
  have flo : 1 < k0 → (a0 / 2 ^ (7 * (k0 - 1)) != 0) = true := fun h => by
    have := hlo h
    have e := shr_zero' a0 p0 (7 * (k0 - 1))
    rw [bne, e]
    simpa using this
  have Fhi := Lib.hid fhi
  have Flo := Lib.hid flo
  clear hhi hlo fhi flo
  have hcmp : Px.cmpN a0.toNat a1.toNat = if a0 < a1 then -1 else if a1 < a0 then 1 else 0 := by
    unfold Px.cmpN
    rcases Int.lt_trichotomy a0 a1 with h | h | h
    · rw [if_pos (by omega), if_pos h]
    · rw [if_neg (by omega), if_neg (by omega), if_neg (by omega), if_neg (by omega)]
    · rw [if_neg (by omega), if_pos (by omega), if_neg (by omega), if_pos h]
  rw [hcmp]
  clear hcmp
  have hk : (((k0 : Int) == 9) = true ∧ ((k0 : Int) == 1) = false ∧ (a0 / 2 ^ (7 * (k0 - 1)) != 0) = true) ∨
      (((k0 : Int) == 9) = false ∧ (a0 / 2 ^ (7 * k0) == 0) = true ∧ ((k0 : Int) == 1) = true) ∨
      (((k0 : Int) == 9) = false ∧ (a0 / 2 ^ (7 * k0) == 0) = true ∧ ((k0 : Int) == 1) = false ∧ (a0 / 2 ^ (7 * (k0 - 1)) != 0) = true) := by
    by_cases h9 : k0 = 9
    · exact .inl ⟨by simp; omega, by simp; omega, Flo.out (by omega)⟩
    · by_cases h1 : k0 = 1
      · exact .inr (.inl ⟨by simp; omega, Fhi.out (by omega), by simp; omega⟩)
      · exact .inr (.inr ⟨by simp; omega, Fhi.out (by omega), by simp; omega, Flo.out (by omega)⟩)
  have Hk := Lib.hid hk
  clear hk
  rcases Int.lt_trichotomy a0 a1 with h | h | h
  · have hle := Hmono.out (by omega)
    have hne : ((a0 : Int) == a1) = false := by simp; omega
    have hne2 : ((a0 : Int) != a1) = true := by simp; omega
    rw [if_pos h]
    go_wp2_with fail
    refine (hasPrefix_b _ _ _ _ _ _ _ Hx2.out Hy.out (by rw [Hl0.out]; omega) (by rw [Hl1.out]; omega)).mono ?_
    rintro e w3 ⟨rfl, rfl⟩
    rw [Hp1.out (by omega)]
    go_wp2_with fail
    refine (hasPrefix_b _ _ _ _ _ _ _ Hy.out Hx2.out (by rw [Hl1.out]; omega) (by rw [Hl0.out]; omega)).mono ?_
    rintro e w3 ⟨rfl, rfl⟩
    rw [Hp2.out (by omega)]
    go_wp2_with fail
    refine (size_any _ _ p0 (by omega)).mono ?_
    rintro e w3 ⟨rfl, rfl⟩
    rw [Hk0.out]
    go_wp2_with fail
    refine (size_any _ _ p1 (by omega)).mono ?_
    rintro e w3 ⟨rfl, rfl⟩
    rw [Hk1.out]
    go_wp2_with fail
    refine (size_any _ _ p0 (by omega)).mono ?_
    rintro e w3 ⟨rfl, rfl⟩
    rw [Hk0.out]
    rcases Hk.out with ⟨k1, k2, k3⟩ | ⟨k1, k2, k3⟩ | ⟨k1, k2, k3, k4⟩
    all_goals
      go_wp2_with fail
      refine (wakes_any _).mono ?_
      rintro e w3 ⟨rfl, hb⟩
      go_wp2_with fail
      go_ret
      exact ⟨rfl, b2.trans (hb.mono b2.size)⟩
  · subst h
    rw [if_neg (by omega), if_neg (by omega)]
    go_wp2_with fail
    refine (size_any _ _ p0 (by omega)).mono ?_
    rintro e w3 ⟨rfl, rfl⟩
    rw [Hk0.out]
    rcases Hk.out with ⟨k1, k2, k3⟩ | ⟨k1, k2, k3⟩ | ⟨k1, k2, k3, k4⟩
    all_goals
      go_wp2_with fail
      refine (wakes_any _).mono ?_
      rintro e w3 ⟨rfl, hb⟩
      go_wp2_with fail
      go_ret
      exact ⟨rfl, b2.trans (hb.mono b2.size)⟩
  · have hne : ((a0 : Int) == a1) = false := by simp; omega
    have hne2 : ((a0 : Int) != a1) = true := by simp; omega
    rw [if_neg (by omega), if_pos h]
    go_wp2_with fail
    refine (hasPrefix_b _ _ _ _ _ _ _ Hx2.out Hy.out (by rw [Hl0.out]; omega) (by rw [Hl1.out]; omega)).mono ?_
    rintro e w3 ⟨rfl, rfl⟩
    rw [Hp1.out (by omega)]
    go_wp2_with fail
    refine (hasPrefix_b _ _ _ _ _ _ _ Hy.out Hx2.out (by rw [Hl1.out]; omega) (by rw [Hl0.out]; omega)).mono ?_
    rintro e w3 ⟨rfl, rfl⟩
    rw [Hp2.out (by omega)]
    go_wp2_with fail
    refine (size_any _ _ p0 (by omega)).mono ?_
    rintro e w3 ⟨rfl, rfl⟩
    rw [Hk0.out]
    rcases Hk.out with ⟨k1, k2, k3⟩ | ⟨k1, k2, k3⟩ | ⟨k1, k2, k3, k4⟩
    all_goals
      go_wp2_with fail
      refine (wakes_any _).mono ?_
      rintro e w3 ⟨rfl, hb⟩
      go_wp2_with fail
      go_ret
      exact ⟨rfl, b2.trans (hb.mono b2.size)⟩
end Go.Proofs.Ytaocibomejjfjaa.prefixOrder
