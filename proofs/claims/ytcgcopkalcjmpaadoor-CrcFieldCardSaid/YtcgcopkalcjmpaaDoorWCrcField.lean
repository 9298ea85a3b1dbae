/-
  The walk of the law CrcField: it returns true, and writes nothing that was there.
-/
import Derived.Test.YtcgcopkalcjmpaaDoorCxKnows
import Derived.OpenShut
set_option linter.unusedVariables false
set_option linter.unusedSimpArgs false
namespace Go.Proofs.YtcgcopkalcjmpaaDoor
open Go.RowKit
/-- a number of 32 bits, as a letter -/
theorem u32_letter {a : Int} (h : (Lit.int .u32 a).wf = true) : ∃ v : BitVec 32, a = (v.toNat : Int) := by
  obtain ⟨p, q⟩ := bounds_u32 h
  obtain ⟨n, rfl⟩ := Int.eq_ofNat_of_zero_le p
  exact ⟨BitVec.ofNat 32 n, by rw [BitVec.toNat_ofNat, Nat.mod_eq_of_lt (by omega)]⟩
end Go.Proofs.YtcgcopkalcjmpaaDoor
namespace Go.Proofs.YtcgcopkalcjmpaaDoor.crcField
open Go.RowKit
set_option maxRecDepth 100000 in
set_option maxHeartbeats 4000000 in
theorem walk (a0 : Int) (a1 : Int) (a2 : Int) (a3 : Int) (a4 : Int) (w : World) (w0 : (Lit.int .u32 a0).wf = true) (w1 : (Lit.int .u32 a1).wf = true) (w2 : (Lit.int .u32 a2).wf = true) (w3 : (Lit.int .u32 a3).wf = true) (w4 : (Lit.int .u32 a4).wf = true) (ht : Tab w) :
    Calls Tryd.prog 8 #[.int .u32 a0, .int .u32 a1, .int .u32 a2, .int .u32 a3, .int .u32 a4] w fun e w' => e = .returned (.bool true) ∧ Below w.heap.size w w' := by
  obtain ⟨a, rfl⟩ := u32_letter w0
  obtain ⟨b, rfl⟩ := u32_letter w1
  obtain ⟨c, rfl⟩ := u32_letter w2
  have h3 := bounds_u32 w3
  have h4 := bounds_u32 w4
  obtain ⟨m, rfl⟩ := Int.eq_ofNat_of_zero_le h3.1
  obtain ⟨n, rfl⟩ := Int.eq_ofNat_of_zero_le h4.1
  obtain ⟨_, hm⟩ := h3
  obtain ⟨_, hn⟩ := h4
  clear w0 w1 w2 w3 w4
  have Ht := Lib.hid ht
  clear ht
  go_enter Tryd.func8, Tryd.ntmps8
  go_wp2_with fail
  refine (power_ok _ _ (by omega) (by omega)).mono ?_
  rintro e w1 ⟨rfl, b1⟩
  rw [Int.toNat_natCast]
  go_wp2_with fail
  refine (power_ok _ _ (by omega) (by omega)).mono ?_
  rintro e w2 ⟨rfl, b2⟩
  rw [Int.toNat_natCast]
  have hb2 := b1.trans (b2.mono b1.size)
  clear b1 b2
  go_wp2_with fail
  refine (power_ok _ _ (by omega) (by omega)).mono ?_
  rintro e w3 ⟨rfl, b3⟩
  rw [show ((m : Int) + (n : Int)).toNat = m + n by omega]
  have hb3 := hb2.trans (b3.mono hb2.size)
  clear b3 hb2
  have Hpq := Lib.hid (show Cx.mul (Cx.xp (8 * m)) (Cx.xp (8 * n)) = Cx.xp (8 * (m + n)) by rw [Cx.xp_add]; congr 1; omega)
  have hp0 : (((Cx.xp (8 * m)).toNat : Int) == 0) = false := by
    have := Cx.xp_ne (8 * m)
    rcases hh : (((Cx.xp (8 * m)).toNat : Int) == 0) with _ | _
    · rfl
    · exfalso; apply this; apply BitVec.eq_of_toNat_eq; simpa using hh
  generalize Cx.xp (8 * (m + n)) = r at *
  generalize Cx.xp (8 * m) = p at *
  generalize Cx.xp (8 * n) = q at *
  go_wp2_with fail
  refine (times_any _ _ _).mono ?_
  rintro e w4 ⟨rfl, rfl⟩
  rw [Hpq.out]
  go_wp2_with fail
  refine (times_any _ _ _).mono ?_
  rintro e w4 ⟨rfl, rfl⟩
  have Hc := Lib.hid (Cx.mul_comm b a)
  have Ha := Lib.hid (Cx.mul_assoc a b c)
  have Hd := Lib.hid (Cx.mul_xor_right a b c)
  generalize hab : Cx.mul a b = ab at *
  have Hab := Lib.hid hab
  clear hab
  go_wp2_with fail
  refine (times_any _ _ _).mono ?_
  rintro e w4 ⟨rfl, rfl⟩
  rw [Hc.out]
  go_wp2_with fail
  refine (times_any _ _ _).mono ?_
  rintro e w4 ⟨rfl, rfl⟩
  go_wp2_with fail
  refine (times_any _ _ _).mono ?_
  rintro e w4 ⟨rfl, rfl⟩
  go_wp2_with fail
  refine (times_any _ _ _).mono ?_
  rintro e w4 ⟨rfl, rfl⟩
  rw [Ha.out]
  have hx := b_xor b c
  generalize hbc : b ^^^ c = bc at *
  go_wp2_with fail
  refine (times_any _ _ _).mono ?_
  rintro e w4 ⟨rfl, rfl⟩
  go_wp2_with fail
  refine (times_any _ _ _).mono ?_
  rintro e w4 ⟨rfl, rfl⟩
  have hx2 := b_xor ab (Cx.mul a c)
  rw [← Hd.out] at hx2
  go_wp2_with fail
  refine (times_any a Cx.e0 _).mono ?_
  rintro e w4 ⟨rfl, rfl⟩
  rw [Cx.mul_one]
  go_wp2_with fail
  refine (times_any a 0#32 _).mono ?_
  rintro e w4 ⟨rfl, rfl⟩
  rw [Cx.mul_zero_right]
  go_wp2_with fail
  refine (knows_any _ (Ht.out.on hb3)).mono ?_
  rintro e w5 ⟨rfl, b5⟩
  go_wp2_with fail
  go_ret
  exact ⟨rfl, hb3.trans (b5.mono hb3.size)⟩
end Go.Proofs.YtcgcopkalcjmpaaDoor.crcField
