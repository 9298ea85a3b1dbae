
/-
  's[:min(len(s), m)]' of bytes, as letters.
-/
import Derived.Test.YtggijjknfcofoaaDoorKyMem
set_option linter.unusedVariables false
set_option linter.unusedSimpArgs false
namespace Go.Proofs.YtggijjknfcofoaaDoor
open Go.RowKit

theorem cut_min (v : Value) (l : List UInt8) (B m : Nat) (w : World) (h : Bs w B v l) : ∃ (A : Option Addr) (c k : Nat) (A' : Option Addr) (c' : Nat), v = .slice A l.length c ∧ min (l.length : Int) (m : Int) = (k : Int) ∧ k ≤ l.length ∧
    (∀ w, (Instr.sliceAt 30 (.slice A l.length c) none (some (.int .i64 (k : Int))) none).run Tryd.prog w = .ok (.slice A' k c') w) ∧ (∀ w', (∀ B', Bs w' B' v l → Bs w' B' (.slice A' k c') (l.take m))) := by
  obtain ⟨A, c, rfl, hc, hr⟩ := h
  obtain ⟨A', c', h1, h2, h3⟩ := cut_h A l.length c (min l.length m) (by omega) hc
  refine ⟨A, c, min l.length m, A', c', rfl, by omega, by omega, h1, ?_⟩
  rintro w' B' ⟨A2, c2, e2, _, hr2⟩
  injection e2 with e3 e4 e5
  subst e3
  have := h3 w' B' l rfl hr2
  have e : l.take (min l.length m) = l.take m := by
    rcases Nat.le_total l.length m with h | h
    · rw [Nat.min_eq_left h, List.take_of_length_le (Nat.le_refl _), List.take_of_length_le h]
    · rw [Nat.min_eq_right h]
  rw [e] at this
  exact ⟨A', c', by rw [List.length_take, Nat.min_comm], by rw [List.length_take]; omega, this⟩

end Go.Proofs.YtggijjknfcofoaaDoor
