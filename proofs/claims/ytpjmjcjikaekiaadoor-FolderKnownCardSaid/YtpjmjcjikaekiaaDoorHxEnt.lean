
/-
  Layer 6: '==' of entries.
-/
import Derived.Test.YtpjmjcjikaekiaaDoorHxLive
import Derived.Laws.StructEq
set_option linter.unusedVariables false
set_option linter.unusedSimpArgs false
namespace Go.Proofs.YtpjmjcjikaekiaaDoor
open Go.RowKit Go.Maps

theorem equalIn_ent (a b : ByteArray) (i j : Int) (w : World) : (Op.equalIn (9999 + 1) 56 (.agg #[.string a, .int .u64 i]) (.agg #[.string b, .int .u64 j])).run Tryd.prog w = .ok (a.toList == b.toList && i == j) w := by
  have us := Tryd.underlying9
  have ut := Tryd.underlying26
  have ags := Tryd.isAgg9
  have zs := Tryd.sizeOf9
  have agu := Tryd.isAgg26
  have zu := Tryd.sizeOf26
  have hS : Tryd.prog.underlying 56 = some (.struct (Tryd.prog.fieldsOf 56)) := by kernel_rfl
  have hp : Tryd.prog.stoodInHeld 56 = false := by kernel_rfl
  rw [run_equalIn_struct w 9999 56 _ _ hS hp]
  simp only [Program.fieldsOf, Tryd.underlying56]
  go_simp
  by_cases h1 : a.toList = b.toList <;> by_cases h2 : i = j <;> simp [h1, h2]
theorem eql_ent (a b : ByteArray) (i j : Int) (w : World) : (binOp .eql 56 (.agg #[.string a, .int .u64 i]) (.agg #[.string b, .int .u64 j])).run Tryd.prog w = .ok (.bool (a.toList == b.toList && i == j)) w := by
  rw [run_eql_struct, show (10000 : Nat) = 9999 + 1 from rfl, equalIn_ent]
  rfl
theorem neq_ent (a b : ByteArray) (i j : Int) (w : World) : (binOp .neq 56 (.agg #[.string a, .int .u64 i]) (.agg #[.string b, .int .u64 j])).run Tryd.prog w = .ok (.bool (!(a.toList == b.toList && i == j))) w := by
  rw [run_neq_struct, show (10000 : Nat) = 9999 + 1 from rfl, equalIn_ent]
  rfl
end Go.Proofs.YtpjmjcjikaekiaaDoor
