
/-
  The shelf's contracts laid at this dump, in plain words (tools/shelf.py): tables of numbers, and for each laying one theorem, a field a fact of the dump.
-/
import Derived.Shelf.SlMaps.Clone
import Derived.Test.YtboeiadfmknidaaGreatProg
namespace Go.Proofs.YtboeiadfmknidaaGreat
open Go.Shelf

def Tryz.cloneS_ren : Go.Shelf.Ren := ⟨fun | 5 => 84 | 7 => 97 | n => n, fun | 23 => 83 | 25 => 9 | 3 => 64 | 4 => 4 | 20 => 20 | n => n, fun | n => n⟩
theorem Tryz.cloneS : Go.Proofs.SlLaysW.n5 Tryz.prog Tryz.cloneS_ren := {
  mixed := by kernel_rfl
  f5 := ⟨Tryz.f84.name, by decide, Tryz.func84.trans (congrArg some (by kernel_rfl))⟩
  f7 := Tryz.func97.trans (congrArg some (by kernel_rfl))
  t4 := Tryz.underlying4
  a4 := Tryz.isAgg4
  z4 := Tryz.sizeOf4
  v4 := Tryz.zeroValue4
  t20 := Tryz.underlying20
  a20 := Tryz.isAgg20
  z20 := Tryz.sizeOf20
  v20 := Tryz.zeroValue20
  t23 := Tryz.underlying83
  a23 := Tryz.isAgg83
  z23 := Tryz.sizeOf83
  v23 := Tryz.zeroValue83 }

end Go.Proofs.YtboeiadfmknidaaGreat
