
/-
  Layer 5: Size, Safe, Loose.
-/
import Derived.Test.YtmlbhconbabdhaaFxAt
import Derived.Test.YtmlbhconbabdhaaRegion
set_option linter.unusedVariables false
set_option linter.unusedSimpArgs false
namespace Go.Proofs.Ytmlbhconbabdhaa
open Go.RowKit

theorem fbdrewN {n : Nat} {w w' : World} (h : Below n w w') (q : Nat) : Below n w (w'.drewN q) := ⟨h.os, h.tape, h.output, h.size, h.block⟩
theorem fsize_nil (w : World) : Calls Try.prog 15 #[.pointer none] w fun e w' => e = .returned (.int .i64 0) ∧ Below w.heap.size w w' := by
  go_enter Try.func15, Try.ntmps15
  go_wp2
  go_ret
  exact ⟨rfl, Below.refl _ _⟩
theorem fsafe_nil (w : World) : Calls Try.prog 14 #[.pointer none] w fun e w' => e = .returned (.int .i64 0) ∧ Below w.heap.size w w' := by
  go_enter Try.func14, Try.ntmps14
  go_wp2
  go_ret
  exact ⟨rfl, Below.refl _ _⟩
theorem floose_nil (w : World) : Calls Try.prog 10 #[.pointer none] w fun e w' => e = .returned (.int .i64 0) ∧ Below w.heap.size w w' := by
  go_enter Try.func10, Try.ntmps10
  go_wp2
  go_ret
  exact ⟨rfl, Below.refl _ _⟩
theorem fsize_c {w : World} {F kept loose n c : Nat} {A : Option Addr} {vs vd : Value} (h : FCells w F vs (.slice A n c) vd kept loose) (hb : kept + n ≤ 1000000000) :
    Calls Try.prog 15 #[.pointer (some ⟨F, 0, none⟩)] w fun e w' => e = .returned (.int .i64 ((kept + n : Nat) : Int)) ∧ Below w.heap.size w w' := by
  obtain ⟨c0, c1, c2, c3, c4, f0, f1, f2, f3, f4⟩ := h
  go_enter Try.func15, Try.ntmps15
  go_wp2_with fail
  go_quiet (fail)
  go_wp2_with fail
  go_ret
  exact ⟨by push_cast; rfl, fbdrewN (Below.refl _ _) _⟩
theorem fsafe_c {w : World} {F kept loose n c : Nat} {A : Option Addr} {vt vd : Value} (h : FCells w F (.slice A n c) vt vd kept loose) :
    Calls Try.prog 14 #[.pointer (some ⟨F, 0, none⟩)] w fun e w' => e = .returned (.int .i64 (n : Int)) ∧ Below w.heap.size w w' := by
  obtain ⟨c0, c1, c2, c3, c4, f0, f1, f2, f3, f4⟩ := h
  go_enter Try.func14, Try.ntmps14
  go_wp2
  go_ret
  exact ⟨rfl, Below.refl _ _⟩
theorem floose_c {w : World} {F kept loose : Nat} {vs vt vd : Value} (h : FCells w F vs vt vd kept loose) :
    Calls Try.prog 10 #[.pointer (some ⟨F, 0, none⟩)] w fun e w' => e = .returned (.int .i64 (loose : Int)) ∧ Below w.heap.size w w' := by
  obtain ⟨c0, c1, c2, c3, c4, f0, f1, f2, f3, f4⟩ := h
  go_enter Try.func10, Try.ntmps10
  go_wp2
  go_ret
  exact ⟨rfl, Below.refl _ _⟩
section
variable {w : World} {F : Nat} {M R : Nat → Prop} {s : FSt}
theorem fsize_m (h : FileM w F M R s) (hb : s.big ≤ 10000000) (n : Nat) (hn : s.bytes.length = n) :
    Calls Try.prog 15 #[.pointer (some ⟨F, 0, none⟩)] w fun e w' => e = .returned (.int .i64 (n : Int)) ∧ Below w.heap.size w w' := by
  obtain ⟨ho, _, _, _, vs, vt, vd, dvs, h, _⟩ := h
  have h1 := FSt.bytes_length ho
  have h2 := FSt.length_bytes ho
  obtain ⟨A, c, rfl, _⟩ := own_slice h.tail
  subst hn
  rw [h2]
  exact fsize_c h.cells (by omega)
theorem fsafe_m (h : FileM w F M R s) (n : Nat) (hn : s.safe.length = n) :
    Calls Try.prog 14 #[.pointer (some ⟨F, 0, none⟩)] w fun e w' => e = .returned (.int .i64 (n : Int)) ∧ Below w.heap.size w w' := by
  obtain ⟨ho, _, _, _, vs, vt, vd, dvs, h, _⟩ := h
  obtain ⟨A, c, rfl, _⟩ := own_slice h.safe
  subst hn
  exact fsafe_c h.cells
theorem floose_m (h : FileM w F M R s) (n : Nat) (hn : s.loose = n) :
    Calls Try.prog 10 #[.pointer (some ⟨F, 0, none⟩)] w fun e w' => e = .returned (.int .i64 (n : Int)) ∧ Below w.heap.size w w' := by
  obtain ⟨ho, _, _, _, vs, vt, vd, dvs, h, _⟩ := h
  subst hn
  exact floose_c h.cells
end
end Go.Proofs.Ytmlbhconbabdhaa
