
/-
  Layer 4: the law's argument opened: a print.
-/
import Derived.Test.YtaekndhchdpobaaKyEqP
import Derived.OpenShut
import Derived.Lib.SmallJoins
import Derived.ChangeArms
set_option linter.unusedVariables false
set_option linter.unusedSimpArgs false
namespace Go.Proofs.Ytaekndhchdpobaa
open Go.ChangeShapes Go.WideShapes Go.ChangeAt Go.RowKit Go.Joins Go.Deep

theorem nine {α : Type} {a : List α} (ha : a.length = 9) : ∃ c a0 a1 a2 a3 a4 a5 a6 a7, a = [c, a0, a1, a2, a3, a4, a5, a6, a7] := by
  match a, ha with
  | [c, a0, a1, a2, a3, a4, a5, a6, a7], _ => exact ⟨c, a0, a1, a2, a3, a4, a5, a6, a7, rfl⟩
def fOf (a0 a1 a2 a3 a4 a5 a6 a7 : Nat) : Nat → Nat
  | 0 => a0 | 1 => a1 | 2 => a2 | 3 => a3 | 4 => a4 | 5 => a5 | 6 => a6 | 7 => a7 | _ => 0

section
variable {H : Type} {enc : TypeId × Value → H} {W : World} {base base' : Nat} {spare : Nat → Bool} {held : Bool} {r : Reach}
theorem cell_u64 {n : Nat} {c : Value} {y : DataW H × List MemPlace} (h : DataW.trod enc Try.prog W base' spare held n 32 [c] = some y) : ∃ x : Nat, c = .int .u64 (x : Int) ∧ x < 18446744073709551616 := by
  obtain ⟨a, e, _, hw⟩ := DataW.trod_int Try.underlying32 h
  injection e with e
  obtain ⟨h0, h1⟩ := bounds_u64 hw
  obtain ⟨x, rfl⟩ := Int.eq_ofNat_of_zero_le h0
  exact ⟨x, e, by omega⟩
set_option maxRecDepth 100000 in
theorem open_pr {v : Value} {d : DataW H} {p : List MemPlace} (hv : Value.okWide Try.prog W r base 58 v) (h : DataW.Trod enc Try.prog W base' spare held 58 v d p) :
    ∃ (n : Nat) (f : Nat → Nat), v = prv n f ∧ Fit n f := by
  have hs := Try.underlying58
  obtain ⟨cs, rfl, hsz⟩ := okWide_struct hs hv
  obtain ⟨fuel, hf⟩ := h
  obtain ⟨xs, m, _, _, _, hlen, hel⟩ := DataW.trod_struct hs hf
  have hC : Try.prog.cellsOf 58 = 9 := by kernel_rfl
  have h1 : Try.prog.cellsOf 5 = 1 := by kernel_rfl
  have h8 : Try.prog.cellsOf 56 = 8 := by kernel_rfl
  have h64 : Try.prog.cellsOf 32 = 1 := by kernel_rfl
  obtain ⟨c, a0, a1, a2, a3, a4, a5, a6, a7, hcs⟩ := nine (a := cs.toList) (by simpa using hsz.trans hC)
  obtain rfl : cs = #[c, a0, a1, a2, a3, a4, a5, a6, a7] := by apply Array.toList_inj.1; exact hcs
  have e0 : DataW.trod enc Try.prog W base' spare held m 5 ([c, a0, a1, a2, a3, a4, a5, a6, a7].take (Try.prog.cellsOf 5)) = xs[0]? := hel 0 _ rfl
  have e1 : DataW.trod enc Try.prog W base' spare held m 56 ([a0, a1, a2, a3, a4, a5, a6, a7].take (Try.prog.cellsOf 56)) = xs[1]? := hel 1 _ rfl
  rw [h1] at e0
  rw [h8] at e1
  replace e0 : DataW.trod enc Try.prog W base' spare held m 5 [c] = xs[0]? := e0
  replace e1 : DataW.trod enc Try.prog W base' spare held m 56 [a0, a1, a2, a3, a4, a5, a6, a7] = xs[1]? := e1
  obtain ⟨y0, y1, rfl⟩ : ∃ y0 y1, xs = [y0, y1] := by
    match xs, hlen with
    | [y0, y1], _ => exact ⟨y0, y1, rfl⟩
  obtain ⟨x, ex, _, hw⟩ := DataW.trod_int Try.underlying5 e0
  injection ex with ex
  obtain ⟨b0, b1⟩ := bounds_u8 hw
  obtain ⟨n, rfl⟩ := Int.eq_ofNat_of_zero_le b0
  obtain ⟨ys, m', _, _, _, hn, hey⟩ := DataW.trod_array Try.underlying56 e1
  have cell : ∀ i c', ([a0, a1, a2, a3, a4, a5, a6, a7].drop (i * 1)).take 1 = [c'] → i < 8 → ∃ x : Nat, c' = .int .u64 (x : Int) ∧ x < 18446744073709551616 := by
    intro i c' hc hi
    have := hey i hi
    rw [h64, hc] at this
    rcases hys : ys[i]? with _ | y
    · rw [List.getElem?_eq_none_iff] at hys
      omega
    · rw [hys] at this
      exact cell_u64 this
  obtain ⟨x0, rfl, k0⟩ := cell 0 a0 rfl (by omega)
  obtain ⟨x1, rfl, k1⟩ := cell 1 a1 rfl (by omega)
  obtain ⟨x2, rfl, k2⟩ := cell 2 a2 rfl (by omega)
  obtain ⟨x3, rfl, k3⟩ := cell 3 a3 rfl (by omega)
  obtain ⟨x4, rfl, k4⟩ := cell 4 a4 rfl (by omega)
  obtain ⟨x5, rfl, k5⟩ := cell 5 a5 rfl (by omega)
  obtain ⟨x6, rfl, k6⟩ := cell 6 a6 rfl (by omega)
  obtain ⟨x7, rfl, k7⟩ := cell 7 a7 rfl (by omega)
  subst ex
  refine ⟨n, fOf x0 x1 x2 x3 x4 x5 x6 x7, rfl, by omega, fun i hi => ?_⟩
  have : i = 0 ∨ i = 1 ∨ i = 2 ∨ i = 3 ∨ i = 4 ∨ i = 5 ∨ i = 6 ∨ i = 7 := by omega
  rcases this with rfl | rfl | rfl | rfl | rfl | rfl | rfl | rfl <;> assumption
end
end Go.Proofs.Ytaekndhchdpobaa
