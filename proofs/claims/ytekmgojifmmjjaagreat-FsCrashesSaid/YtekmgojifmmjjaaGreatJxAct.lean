
/-
  Layer 7: a call of the laws.
-/
import Derived.Test.YtekmgojifmmjjaaGreatWords
set_option linter.unusedVariables false
set_option linter.unusedSimpArgs false
namespace Go.Proofs.YtekmgojifmmjjaaGreat

/-- a call of the laws -/
structure Act7 where
  what : Int
  name : ByteArray
  dst : ByteArray
  n : Int
  m : Int
  b : List UInt8
  picks : List Int
end Go.Proofs.YtekmgojifmmjjaaGreat
