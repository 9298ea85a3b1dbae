
/-
  The shelf's contracts laid at this dump, in plain words (tools/shelf.py): tables of numbers, and for each laying one theorem, a field a fact of the dump.
-/
import Derived.Shelf.SlMaps.Clone
import Derived.Test.YtpjmjcjikaekiaaDoorProg
namespace Go.Proofs.YtpjmjcjikaekiaaDoor
open Go.Shelf

def Tryd.cloneS_ren : Go.Shelf.Ren := ⟨fun | 5 => 29 | 7 => 39 | n => n, fun | 23 => 24 | 25 => 9 | 3 => 26 | 4 => 4 | 20 => 20 | n => n, fun | n => n⟩
theorem Tryd.cloneS : Go.Proofs.SlLaysW.n5 Tryd.prog Tryd.cloneS_ren := {
  mixed := by kernel_rfl
  f5 := ⟨Tryd.f29.name, by decide, Tryd.func29.trans (congrArg some (by kernel_rfl))⟩
  f7 := Tryd.func39.trans (congrArg some (by kernel_rfl))
  t4 := Tryd.underlying4
  a4 := Tryd.isAgg4
  z4 := Tryd.sizeOf4
  v4 := Tryd.zeroValue4
  t20 := Tryd.underlying20
  a20 := Tryd.isAgg20
  z20 := Tryd.sizeOf20
  v20 := Tryd.zeroValue20
  t23 := Tryd.underlying24
  a23 := Tryd.isAgg24
  z23 := Tryd.sizeOf24
  v23 := Tryd.zeroValue24 }

end Go.Proofs.YtpjmjcjikaekiaaDoor
