
/-
  Layer 7: a call of the laws.
-/
import Derived.Test.YtboeiadfmknidaaGreatWords
set_option linter.unusedVariables false
set_option linter.unusedSimpArgs false
namespace Go.Proofs.YtboeiadfmknidaaGreat

/-- a call of the laws -/
structure Act7 where
  what : Int
  name : ByteArray
  dst : ByteArray
  n : Int
  m : Int
  b : List UInt8
  picks : List Int
end Go.Proofs.YtboeiadfmknidaaGreat
