
/-
  Layer 4: the law's own cut: a key that may be, of any bytes.
-/
import Derived.Test.YtaekndhchdpobaaKyKey
set_option linter.unusedVariables false
set_option linter.unusedSimpArgs false
namespace Go.Proofs.Ytaekndhchdpobaa
open Go.RowKit

theorem cut_any (v : Value) (l : List UInt8) (w : World) (h : Bs w w.heap.size v l) (hm : l.length ≤ 9223372036854775807) :
    Calls Try.prog 27 #[v] w fun e w' => ∃ r m, e = .returned r ∧ Bs w' w'.heap.size r m ∧ (1 ≤ m.length ∧ m.length ≤ 64) ∧ Below w.heap.size w w' := by
  obtain ⟨A, c, rfl, hc, hr⟩ := h
  by_cases h0 : l.length = 0
  · have d0 : ((l.length : Int) == 0) = true := by simp; exact List.eq_nil_of_length_eq_zero h0
    go_enter Try.func27, Try.ntmps27
    go_wp2_with fail
    go_ret
    exact ⟨_, [0], rfl, bs_new w [0] #[.int .u8 0] 5 rfl, ⟨by simp, by simp⟩, bnew4 w _⟩
  · obtain ⟨k, hk⟩ : ∃ k, k = min l.length 64 := ⟨_, rfl⟩
    have d0 : ((l.length : Int) == 0) = false := by simp; intro e; exact h0 (by rw [e]; rfl)
    have hmin : min (l.length : Int) 64 = (k : Int) := by omega
    obtain ⟨A', c', hrun, hkc, hrd⟩ := cut_h A l.length c k (by omega) hc
    have hb : Bs w w.heap.size (.slice A' k c') (l.take k) := ⟨A', c', by rw [List.length_take]; congr 1; omega, by rw [List.length_take]; omega, hrd w _ l rfl hr⟩
    have hl : (l.take k).length = k := by rw [List.length_take]; omega
    have HB := Lib.hid hb
    have HL := Lib.hid hl
    have hk1 : 1 ≤ k := by omega
    have hk2 : k ≤ 64 := by omega
    clear hb hl hr hrd hk
    go_enter Try.func27, Try.ntmps27
    go_wp2_with fail
    go_ret
    exact ⟨_, l.take k, rfl, HB.out, ⟨by rw [HL.out]; omega, by rw [HL.out]; omega⟩, Below.refl _ _⟩
end Go.Proofs.Ytaekndhchdpobaa
