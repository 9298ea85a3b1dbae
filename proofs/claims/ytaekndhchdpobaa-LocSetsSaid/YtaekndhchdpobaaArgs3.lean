
/-
  Layer 3: the laws' arguments opened: a loc; a number and bytes.
-/
import Derived.Test.YtaekndhchdpobaaRows
import Derived.Test.YtaekndhchdpobaaLxPlain
import Derived.WalkKit
import Derived.ProofKit
import Derived.OpenShut
import Derived.ChangeOld
import Derived.Below
import Derived.SizedLaws
import Derived.Lib.SmallJoins
set_option linter.unusedVariables false
set_option linter.unusedSimpArgs false
namespace Go.Proofs.Ytaekndhchdpobaa
open Go.ChangeShapes Go.WideShapes Go.ChangeAt Go.RowKit Go.Joins Go.Deep

section
variable {H : Type} {enc : TypeId × Value → H} {W : World} {base base' : Nat} {spare : Nat → Bool} {held : Bool} {r : Reach}
set_option maxRecDepth 100000 in
theorem open_loc {v : Value} {d : DataW H} {p : List MemPlace} (hv : Value.okWide Try.prog W r base 31 v) (h : DataW.Trod enc Try.prog W base' spare held 31 v d p) :
    ∃ s o : Int, v = lv s o ∧ (0 ≤ s ∧ s < 4294967296) ∧ (0 ≤ o ∧ o < 4294967296) := by
  obtain ⟨v0, v1, y0, y1, n, rfl, rfl, rfl, h0, h1⟩ := open_agg2 Try.underlying31 (by kernel_rfl) (by kernel_rfl) hv h
  obtain ⟨s, e0, _, w0⟩ := DataW.trod_int Try.underlying29 h0
  obtain ⟨o, e1, _, w1⟩ := DataW.trod_int Try.underlying29 h1
  injection e0 with e0
  injection e1 with e1
  subst e0 e1
  have b0 := bounds_u32 w0
  have b1 := bounds_u32 w1
  exact ⟨s, o, rfl, by omega, by omega⟩

end
end Go.Proofs.Ytaekndhchdpobaa
