
/-
  Layer 3, plain mathematics: which locs may be, how they are packed, compared and written.
-/
import Derived.Test.YtmiljicohnfejaaDoorPxOrd
set_option linter.unusedVariables false
set_option linter.unusedSimpArgs false
namespace Go.Proofs.YtmiljicohnfejaaDoor
open Go.RowKit

/-- a loc as a value -/
def lv (s o : Int) : Value := .agg #[.int .u32 s, .int .u32 o]

namespace Lx
def noneB (s o : Int) : Bool := decide (s = 0 ∧ o = 0)
def standsB (s o : Int) : Bool := decide (1 ≤ s ∧ s ≤ 16777215 ∧ 16 ≤ o ∧ o ≤ 16777216)
def mayB (s o : Int) : Bool := noneB s o || standsB s o
/-- what Unpack tells -/
def unS (n : Int) : Int := if mayB (n / 4294967296) (n % 4294967296) then n / 4294967296 else 0
def unO (n : Int) : Int := if mayB (n / 4294967296) (n % 4294967296) then n % 4294967296 else 0
def unE (n : Int) : Int := if mayB (n / 4294967296) (n % 4294967296) then 0 else 1
/-- packed -/
def pkN (s o : Int) : Int := if mayB s o then s * 4294967296 + o else 0
def pkE (s o : Int) : Int := if mayB s o then 0 else 1
def cmpI (a b : Int) : Int := if a < b then -1 else if b < a then 1 else 0
def cmpL (s o s' o' : Int) : Int := if s = s' then cmpI o o' else cmpI s s'
/-- a loc's bytes -/
def putL (s o : Int) : List UInt8 := if s = 0 then Px.formL 0 else Px.formL s.toNat ++ Px.formL (o - 16).toNat
/-- what bytes begin with: Seg, Off, how many bytes, the error's number -/
def getQ (l : List UInt8) : Int × Int × Int × Int :=
  if (Px.getN l).2.2 ≠ 0 then (0, 0, 0, (Px.getN l).2.2)
  else if (Px.getN l).1 = 0 then (0, 0, (Px.getN l).2.1, 0)
  else if (Px.getN (l.drop (Px.getN l).2.1)).2.2 ≠ 0 then (0, 0, 0, (Px.getN (l.drop (Px.getN l).2.1)).2.2)
  else if 16777215 < (Px.getN l).1 ∨ 16777200 < (Px.getN (l.drop (Px.getN l).2.1)).1 then (0, 0, 0, 5)
  else ((Px.getN l).1, (Px.getN (l.drop (Px.getN l).2.1)).1 + 16, ((Px.getN l).2.1 + (Px.getN (l.drop (Px.getN l).2.1)).2.1 : Nat), 0)
end Lx
end Go.Proofs.YtmiljicohnfejaaDoor
