
/-
  Layer 2: what the program's text lays for the table of a half byte's steps, as the walks want it.
-/
import Derived.Test.YtggijjknfcofoaaDoorRows
import Derived.Test.YtggijjknfcofoaaDoorCxMem
import Derived.ProofKit
import Derived.LaidMore
import Derived.OpenShut
import Derived.Stop.Joined
set_option linter.unusedVariables false
set_option linter.unusedSimpArgs false
namespace Go.Proofs.YtggijjknfcofoaaDoor.Crc
open Go.ChangeShapes Go.WideShapes Go.ChangeAt Go.WideMaps Go.WideElems Go.RowKit

def laid1 : List (String × DataW Unit) := [("hourbook/crc.steps", Rows.laid_hourbook_crc_steps)]
theorem gSteps : Tryd.prog.globalNamed "hourbook/crc.steps" = some 1 := by kernel_rfl
theorem tSteps : (Tryd.prog.globals[1]?).map (·.type) = some 121 := by kernel_rfl
set_option maxRecDepth 100000 in
/-- The door's own heap meets the condition. -/
theorem door_met (os : Os) (args : Array Value) : laidMetH Tryd.prog laid1 ((World.doorLaid Tryd.prog 14 os).forCall (fun _ _ => 0) ⟨#[], args, []⟩).memory :=
  laidMetH_of_parts3 (fuel := 8) (laidMet_of_run' 8 (by kernel_rfl) (by kernel_rfl)) (by kernel_rfl) (by kernel_rfl)
/-- the listed table -/
def tabZ : List Int := (List.range 16).map fun i => ((Cx.tab i).toNat : Int)
theorem laid_tabZ : Rows.laid_hourbook_crc_steps (H := Unit) = .agg (tabZ.map fun z => .lit (.int .u32 z)) := by
  have : tabZ = [0, 274646895, 549293790, 820201905, 1098587580, 1361435347, 1640403810, 1905808397, 2197175160, 2460548119, 2722870694, 2987750089, 3280807620, 3553878443, 3811616794, 4084100981] := by decide +kernel
  rw [this]
  rfl
/-- WHAT THE CONDITION GIVES THE WALKS -/
theorem tab_of_laid {W : World} (h : laidMetH Tryd.prog laid1 W) : Tab W := by
  rw [MakeChecks.laidMetH_plain _ _ _ (by kernel_rfl)] at h
  obtain ⟨ps, ⟨g0, t0, cs0, f0, p0, q0, hg0, ht0, hv0, hd0, _⟩, _⟩ := h
  obtain rfl := Option.some.inj (gSteps.symm.trans hg0)
  obtain rfl := Option.some.inj (tSteps.symm.trans ht0)
  obtain ⟨xs, m1, rfl, hx1, hlen, hn3, hel⟩ := DataW.trod_array Tryd.underlying121 hd0
  have c1 : Tryd.prog.cellsOf 23 = 1 := by kernel_rfl
  intro i hi
  have hi' : i < xs.length := by omega
  have h0 := hel i hi
  rw [c1, Nat.mul_one, List.getElem?_eq_getElem hi'] at h0
  obtain ⟨k, e1, e2, _⟩ := DataW.trod_int Tryd.underlying23 h0
  have hx2 : Rows.laid_hourbook_crc_steps (H := Unit) = DataW.agg (List.map (fun x => x.fst) xs) := (Prod.mk.inj hx1).1
  rw [laid_tabZ] at hx2
  have hx3 : (tabZ.map fun z => DataW.lit (H := Unit) (.int .u32 z)) = xs.map (fun x => x.fst) := by injection hx2
  have hx4 := congrArg (fun l => l[i]?) hx3
  simp only [List.getElem?_map, List.getElem?_eq_getElem hi', Option.map_some] at hx4
  have htz : tabZ[i]? = some ((Cx.tab i).toNat : Int) := by simp [tabZ, hi]
  rw [htz, e2] at hx4
  simp at hx4
  have hv := World.var?_cell hg0 hv0 i
  have hci : cs0.toList[i]? = some (.int .u32 k) := by
    have := congrArg (fun l => l[0]?) e1
    simpa using this
  rw [hv]
  have hc2 : cs0[i]? = some (.int .u32 k) := by simpa using hci
  rw [hc2, hx4]
end Go.Proofs.YtggijjknfcofoaaDoor.Crc
