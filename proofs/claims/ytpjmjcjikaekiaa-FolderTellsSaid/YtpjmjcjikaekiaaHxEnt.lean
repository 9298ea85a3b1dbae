
/-
  Layer 6: '==' of entries.
-/
import Derived.Test.YtpjmjcjikaekiaaHxLive
import Derived.Laws.StructEq
set_option linter.unusedVariables false
set_option linter.unusedSimpArgs false
namespace Go.Proofs.Ytpjmjcjikaekiaa
open Go.RowKit Go.Maps

theorem equalIn_ent (a b : ByteArray) (i j : Int) (w : World) : (Op.equalIn (9999 + 1) 52 (.agg #[.string a, .int .u64 i]) (.agg #[.string b, .int .u64 j])).run Try.prog w = .ok (a.toList == b.toList && i == j) w := by
  have us := Try.underlying9
  have ut := Try.underlying29
  have ags := Try.isAgg9
  have zs := Try.sizeOf9
  have agu := Try.isAgg29
  have zu := Try.sizeOf29
  have hS : Try.prog.underlying 52 = some (.struct (Try.prog.fieldsOf 52)) := by kernel_rfl
  have hp : Try.prog.stoodInHeld 52 = false := by kernel_rfl
  rw [run_equalIn_struct w 9999 52 _ _ hS hp]
  simp only [Program.fieldsOf, Try.underlying52]
  go_simp
  by_cases h1 : a.toList = b.toList <;> by_cases h2 : i = j <;> simp [h1, h2]
theorem eql_ent (a b : ByteArray) (i j : Int) (w : World) : (binOp .eql 52 (.agg #[.string a, .int .u64 i]) (.agg #[.string b, .int .u64 j])).run Try.prog w = .ok (.bool (a.toList == b.toList && i == j)) w := by
  rw [run_eql_struct, show (10000 : Nat) = 9999 + 1 from rfl, equalIn_ent]
  rfl
theorem neq_ent (a b : ByteArray) (i j : Int) (w : World) : (binOp .neq 52 (.agg #[.string a, .int .u64 i]) (.agg #[.string b, .int .u64 j])).run Try.prog w = .ok (.bool (!(a.toList == b.toList && i == j))) w := by
  rw [run_neq_struct, show (10000 : Nat) = 9999 + 1 from rfl, equalIn_ent]
  rfl
end Go.Proofs.Ytpjmjcjikaekiaa
