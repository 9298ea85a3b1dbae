
/-
  Layer 3: calls of a set, as the laws are handed them.
-/
import Derived.Test.YtaekndhchdpobaaLxPlain
set_option linter.unusedVariables false
set_option linter.unusedSimpArgs false
namespace Go.Proofs.Ytaekndhchdpobaa
open Go.RowKit

/-- a call -/
structure Act3 where
  what : Int
  s : Int
  o : Int
  t : Int
  p : Int
  n : Int
def Act3.cells (a : Act3) : List Value := [.int .i64 a.what, .int .u32 a.s, .int .u32 a.o, .int .u32 a.t, .int .u32 a.p, .int .u64 a.n]
structure Act3.ok (a : Act3) : Prop where
  s0 : 0 ≤ a.s
  s1 : a.s < 4294967296
  o0 : 0 ≤ a.o
  o1 : a.o < 4294967296
  t0 : 0 ≤ a.t
  t1 : a.t < 4294967296
  p0 : 0 ≤ a.p
  p1 : a.p < 4294967296
  n0 : 0 ≤ a.n
  n1 : a.n < 18446744073709551616
/-- The value v is a slice that reads as the calls l, and lies below block B. -/
def Acts3 (w : World) (B : Nat) (v : Value) (l : List Act3) : Prop := ∃ A c, v = .slice A l.length c ∧ l.length ≤ c ∧ c ≤ maxLen ∧ (∀ a ∈ l, a.ok) ∧
  ∀ i a, l[i]? = some a → ∃ b o, A = some ⟨b, o, none⟩ ∧ b < B ∧ ∀ j u, a.cells[j]? = some u → w.cell? ⟨b, o + i * 6 + j, none⟩ = some u
end Go.Proofs.Ytaekndhchdpobaa
