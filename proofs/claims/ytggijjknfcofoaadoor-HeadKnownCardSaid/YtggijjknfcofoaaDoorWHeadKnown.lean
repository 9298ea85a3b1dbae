
/-
  The walk of the law HeadKnown: it returns true, and writes nothing that was there.
-/
import Derived.Test.YtggijjknfcofoaaDoorHdKn
import Derived.OpenShut
set_option linter.unusedVariables false
set_option linter.unusedSimpArgs false
namespace Go.Proofs.YtggijjknfcofoaaDoor.headKnown
open Go.RowKit
open Go.Proofs.YtggijjknfcofoaaDoor.Hd
set_option maxRecDepth 100000 in
set_option maxHeartbeats 8000000 in
theorem walk (w : World) (ht : Crc.Tab w) :
    Calls Tryd.prog 7 #[] w fun e w' => e = .returned (.bool true) ∧ Below w.heap.size w w' := by
  have m1 : mayB 0 0 = false := by decide
  have m2 : mayB 3 1 = false := by decide
  have m3 : mayB 1 0 = false := by decide
  have m4 : mayB 1 16777216 = false := by decide
  have m5 : mayB 2 1 = false := by decide
  have m6 : mayB (-255) 1 = false := by decide
  have m7 : mayB ((2 : Nat) : Int) ((0 : Nat) : Int) = true := by decide
  have hp : Calls Tryd.prog 22 #[.int .i64 2, .int .u32 0] w _ := put_ok 2 0 w m7 ht
  have c1 : checkN [] 2 0 = 22 := by rfl
  have c2 : checkN (headL 2 0) 2 0 = 0 := by
    have := check_head m7 [] 2 0
    rw [List.append_nil] at this
    rw [this]
    rfl
  have c3 : checkN (headL 2 0) 1 0 = 23 := by
    have := check_head m7 [] 1 0
    rw [List.append_nil] at this
    rw [this]
    rfl
  have hRl := headL_length 2 0
  generalize headL 2 0 = R at hp c2 c3 hRl
  have HP := Lib.hid hp
  have M := Lib.hid (And.intro m1 (And.intro m2 (And.intro m3 (And.intro m4 (And.intro m5 m6)))))
  have C1 := Lib.hid c1
  have C2 := Lib.hid c2
  have C3 := Lib.hid c3
  have HR := Lib.hid hRl
  have HT := Lib.hid ht
  clear hp ht c1 c2 c3 hRl m1 m2 m3 m4 m5 m6 m7
  go_enter Tryd.func7, Tryd.ntmps7
  go_wp2_with fail
  refine (put_no 0 0 w (by omega) (by omega) M.out.1).mono ?_
  rintro e w1 ⟨rfl, rfl⟩
  go_wp2_with fail
  refine (put_no 3 1 w (by omega) (by omega) M.out.2.1).mono ?_
  rintro e w1 ⟨rfl, rfl⟩
  go_wp2_with fail
  refine (put_no 1 0 w (by omega) (by omega) M.out.2.2.1).mono ?_
  rintro e w1 ⟨rfl, rfl⟩
  go_wp2_with fail
  refine (put_no 1 16777216 w (by omega) (by omega) M.out.2.2.2.1).mono ?_
  rintro e w1 ⟨rfl, rfl⟩
  go_wp2_with fail
  refine (put_no 2 1 w (by omega) (by omega) M.out.2.2.2.2.1).mono ?_
  rintro e w1 ⟨rfl, rfl⟩
  go_wp2_with fail
  refine (put_no (-255) 1 w (by omega) (by omega) M.out.2.2.2.2.2).mono ?_
  rintro e w1 ⟨rfl, rfl⟩
  go_wp2_with fail
  refine HP.out.mono ?_
  rintro e w1 ⟨v1, rfl, hown1, hb1⟩
  obtain ⟨g, cap, rfl, hgg, hgl⟩ := hown1.form (by omega)
  have O1 := Lib.hid (Bs.of_own hown1)
  have B1 := Lib.hid hb1
  clear hown1 hb1
  go_wp2_with fail
  refine (check_any (.slice none 0 0) [] 0 2 0 w1 Bs.none_ (by omega) (by simp) (HT.out.on B1.out) 22 C1.out).mono ?_
  rintro e w2 ⟨rfl, hb2⟩
  have O2 := Lib.hid (O1.out.below hb2 (Nat.le_refl _))
  have B2 := Lib.hid (hbstep B1.out hb2)
  have S2 := Lib.hid hb2.size
  clear hb2
  go_wp2_with fail
  refine (check_any _ R w1.heap.size 2 0 w2 O2.out S2.out (by rw [HR.out]; omega) (HT.out.on B2.out) 0 C2.out).mono ?_
  rintro e w3 ⟨rfl, hb3⟩
  have O3 := Lib.hid (O2.out.below hb3 S2.out)
  have B3 := Lib.hid (hbstep B2.out hb3)
  have S3 := Lib.hid (Nat.le_trans S2.out hb3.size)
  clear hb3
  go_wp2_with fail
  refine (check_any _ R w1.heap.size 1 0 w3 O3.out S3.out (by rw [HR.out]; omega) (HT.out.on B3.out) 23 C3.out).mono ?_
  rintro e w4 ⟨rfl, hb4⟩
  have B4 := Lib.hid (hbstep B3.out hb4)
  clear hb4
  go_wp2_with fail
  refine (knows_any w4 (HT.out.on B4.out)).mono ?_
  rintro e w5 ⟨rfl, hb5⟩
  go_wp2_with fail
  go_ret
  exact ⟨rfl, hbstep B4.out hb5⟩
end Go.Proofs.YtggijjknfcofoaaDoor.headKnown
