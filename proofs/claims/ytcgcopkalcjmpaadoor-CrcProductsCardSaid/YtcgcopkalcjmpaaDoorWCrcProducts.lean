/-
  The walk of the law CrcProducts: it returns true, and writes nothing that was there.
-/
import Derived.Test.YtcgcopkalcjmpaaDoorCxKnows
import Derived.Test.YtcgcopkalcjmpaaDoorDxMul
import Derived.OpenShut
set_option linter.unusedVariables false
set_option linter.unusedSimpArgs false
namespace Go.Proofs.YtcgcopkalcjmpaaDoor.crcProducts
open Go.RowKit
theorem u32_letter {a : Int} (h : (Lit.int .u32 a).wf = true) : ∃ v : BitVec 32, a = (v.toNat : Int) := by
  obtain ⟨p, q⟩ := bounds_u32 h
  obtain ⟨n, rfl⟩ := Int.eq_ofNat_of_zero_le p
  exact ⟨BitVec.ofNat 32 n, by rw [BitVec.toNat_ofNat, Nat.mod_eq_of_lt (by omega)]⟩
set_option maxRecDepth 100000 in
set_option maxHeartbeats 4000000 in
theorem walk (a0 : Int) (a1 : Int) (a2 : Int) (w : World) (w0 : (Lit.int .u32 a0).wf = true) (w1 : (Lit.int .u32 a1).wf = true) (w2 : (Lit.int .i64 a2).wf = true) (ht : Tab w) :
    Calls Tryd.prog 4 #[.int .u32 a0, .int .u32 a1, .int .i64 a2] w fun e w' => e = .returned (.bool true) ∧ Below w.heap.size w w' := by
  obtain ⟨a, rfl⟩ := u32_letter w0
  obtain ⟨b, rfl⟩ := u32_letter w1
  obtain ⟨p2, q2⟩ := bounds_i64 w2
  clear w0 w1 w2
  have Ht := Lib.hid ht
  clear ht
  by_cases hn : 0 ≤ a2
  · go_enter Tryd.func4, Tryd.ntmps4
    go_wp2_with fail
    refine (power_ok _ _ (by omega) (by omega)).mono ?_
    rintro e w1 ⟨rfl, b1⟩
    go_wp2_with fail
    refine (rpower_ok _ _ (by omega) (by omega)).mono ?_
    rintro e w2 ⟨rfl, b2⟩
    have hb2 := b1.trans (b2.mono b1.size)
    clear b1 b2
    generalize Cx.xp (8 * a2.toNat) = p
    go_wp2_with fail
    refine (join_ok _ _ _ _ (by omega) (by omega)).mono ?_
    rintro e w3 ⟨rfl, b3⟩
    have hb3 := hb2.trans (b3.mono hb2.size)
    clear b3 hb2
    go_wp2_with fail
    refine (rjoin_ok _ _ _ _ (by omega) (by omega)).mono ?_
    rintro e w4 ⟨rfl, b4⟩
    have hb4 := hb3.trans (b4.mono hb3.size)
    clear b4 hb3
    generalize Cx.join a b a2.toNat = j
    go_wp2_with fail
    refine (times_any _ _ _).mono ?_
    rintro e w5 ⟨rfl, rfl⟩
    go_wp2_with fail
    refine (rtimes_any _ _ _).mono ?_
    rintro e w5 ⟨rfl, b5⟩
    have hb5 := hb4.trans (b5.mono hb4.size)
    clear b5 hb4
    generalize Cx.mul a b = m
    go_wp2_with fail
    refine (knows_any _ (Ht.out.on hb5)).mono ?_
    rintro e w6 ⟨rfl, b6⟩
    go_wp2_with fail
    go_ret
    exact ⟨rfl, hb5.trans (b6.mono hb5.size)⟩
  · have hn' : a2 < 0 := by omega
    clear hn
    go_enter Tryd.func4, Tryd.ntmps4
    go_wp2_with fail
    refine (power_arg _ _ hn').mono ?_
    rintro e w1 ⟨rfl, rfl⟩
    go_wp2_with fail
    refine (rpower_arg _ _ hn').mono ?_
    rintro e w2 ⟨rfl, rfl⟩
    go_wp2_with fail
    refine (join_arg _ _ _ _ hn').mono ?_
    rintro e w3 ⟨rfl, rfl⟩
    go_wp2_with fail
    refine (rjoin_arg _ _ _ _ hn').mono ?_
    rintro e w4 ⟨rfl, rfl⟩
    go_wp2_with fail
    refine (times_any _ _ _).mono ?_
    rintro e w5 ⟨rfl, rfl⟩
    go_wp2_with fail
    refine (rtimes_any _ _ _).mono ?_
    rintro e w5 ⟨rfl, b5⟩
    generalize Cx.mul a b = m
    go_wp2_with fail
    refine (knows_any _ (Ht.out.on b5)).mono ?_
    rintro e w6 ⟨rfl, b6⟩
    go_wp2_with fail
    go_ret
    exact ⟨rfl, b5.trans (b6.mono b5.size)⟩
end Go.Proofs.YtcgcopkalcjmpaaDoor.crcProducts
