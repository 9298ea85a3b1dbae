
/-
  Layer 3: the laws' arguments opened: a loc; a number and bytes.
-/
import Derived.Test.YtikdpldfklbdoaaRows
import Derived.Test.YtikdpldfklbdoaaLxPlain
import Derived.WalkKit
import Derived.ProofKit
import Derived.OpenShut
import Derived.ChangeOld
import Derived.Below
import Derived.SizedLaws
import Derived.Lib.SmallJoins
set_option linter.unusedVariables false
set_option linter.unusedSimpArgs false
namespace Go.Proofs.Ytikdpldfklbdoaa
open Go.ChangeShapes Go.WideShapes Go.ChangeAt Go.RowKit Go.Joins Go.Deep

section
variable {H : Type} {enc : TypeId × Value → H} {W : World} {base base' : Nat} {spare : Nat → Bool} {held : Bool} {r : Reach}
set_option maxRecDepth 100000 in
theorem open_loc {v : Value} {d : DataW H} {p : List MemPlace} (hv : Value.okWide Try.prog W r base 24 v) (h : DataW.Trod enc Try.prog W base' spare held 24 v d p) :
    ∃ s o : Int, v = lv s o ∧ (0 ≤ s ∧ s < 4294967296) ∧ (0 ≤ o ∧ o < 4294967296) := by
  obtain ⟨v0, v1, y0, y1, n, rfl, rfl, rfl, h0, h1⟩ := open_agg2 Try.underlying24 (by kernel_rfl) (by kernel_rfl) hv h
  obtain ⟨s, e0, _, w0⟩ := DataW.trod_int Try.underlying22 h0
  obtain ⟨o, e1, _, w1⟩ := DataW.trod_int Try.underlying22 h1
  injection e0 with e0
  injection e1 with e1
  subst e0 e1
  have b0 := bounds_u32 w0
  have b1 := bounds_u32 w1
  exact ⟨s, o, rfl, by omega, by omega⟩

set_option maxRecDepth 100000 in
theorem open_any3 {v : Value} {d : DataW H} {p : List MemPlace} (hv : Value.okWide Try.prog W r base 28 v) (h : DataW.Trod enc Try.prog W 0 (fun _ => true) held 28 v d p)
    (hs : ∀ k ∈ d.weights Try.prog 28, (decide (k ≤ reachBytes)) = true) :
    ∃ (n : Int) (b : Value) (l : List UInt8), v = .agg #[.int .u64 n, b] ∧ (0 ≤ n ∧ n < 18446744073709551616) ∧ Bs W W.heap.size b l ∧ l.length ≤ 140737488351232 := by
  obtain ⟨v0, v1, y0, y1, n, rfl, rfl, rfl, h0, h1⟩ := open_agg2 Try.underlying28 (by kernel_rfl) (by kernel_rfl) hv h
  obtain ⟨s, e0, _, w0⟩ := DataW.trod_int Try.underlying25 h0
  injection e0 with e0
  subst e0
  have b0 := bounds_u64 w0
  rcases open_ints Try.underlying26 Try.underlying5 (by kernel_rfl) h1 with ⟨hcs, _⟩ | ⟨x, l, c, zs, hcs, _, hl, hm, hz, hx, hcell, hwz⟩
  · injection hcs with hcs
    subst hcs
    exact ⟨s, _, [], rfl, by omega, Bs.none_, by simp⟩
  · injection hcs with hcs
    subst hcs
    have hz' : zs.length = c := by simpa using hz
    have hi : Ints W W.heap.size .u8 (.slice (some x) l c) (zs.take l) := ints_of_row hl hz' hcell
    refine ⟨s, _, _, rfl, by omega, bs_of_ints hi (fun z hz => bounds_u8 (hwz z (List.mem_of_mem_take hz))), ?_⟩
    have hd : y1.1 = _ := congrArg Prod.fst hx
    have := hs ((lits .u8 (zs.take l)).length + (lits .u8 (zs.drop l)).length) (by
      simp [DataW.weights, DataW.weightsEach, Try.underlying28, hd, Try.underlying26, show Try.prog.bytesOf 5 = 1 by kernel_rfl]
      exact Or.inr (Or.inl rfl))
    simp only [lits, List.length_map, List.length_take, List.length_drop, reachBytes, decide_eq_true_eq] at this
    rw [List.length_map, List.length_take]
    omega
end
end Go.Proofs.Ytikdpldfklbdoaa
