
/-
  Layer 6: the laws' argument opened: a slice of calls (a number, two names, a number).
-/
import Derived.Test.YtboeiadfmknidaaGreatRows
import Derived.Test.YtboeiadfmknidaaGreatWords
import Derived.WalkKit
import Derived.ProofKit
import Derived.OpenShut
import Derived.ShutString
import Derived.ChangeOld
import Derived.Below
import Derived.SizedLaws
import Derived.Lib.SmallJoins
import Derived.Deep.Slices
set_option linter.unusedVariables false
set_option linter.unusedSimpArgs false
namespace Go.Proofs.YtboeiadfmknidaaGreat
open Go.ChangeShapes Go.WideShapes Go.ChangeAt Go.RowKit Go.Joins Go.Deep

/-- a call -/
structure Call6 where
  what : Int
  name : ByteArray
  to : ByteArray
  keep : Int
def Call6.cells (a : Call6) : List Value := [.int .i64 a.what, .string a.name, .string a.to, .int .i64 a.keep]
def Call6.ok (a : Call6) : Prop := a.name.size ≤ 9223372036854775807 ∧ a.to.size ≤ 9223372036854775807
/-- The value v is a slice that reads as the calls l, and lies below block B. -/
def Calls6 (w : World) (B : Nat) (v : Value) (l : List Call6) : Prop := ∃ A c, v = .slice A l.length c ∧ l.length ≤ c ∧ c ≤ maxLen ∧ (∀ a ∈ l, a.ok) ∧
  ∀ (i : Nat) a, l[i]? = some a → ∃ b o, A = some ⟨b, o, none⟩ ∧ b < B ∧ ∀ j u, a.cells[j]? = some u → w.cell? ⟨b, o + i * 4 + j, none⟩ = some u

section
variable {H : Type} {enc : TypeId × Value → H} {W : World} {held : Bool} {r : Reach} {base : Nat}
end
end Go.Proofs.YtboeiadfmknidaaGreat
