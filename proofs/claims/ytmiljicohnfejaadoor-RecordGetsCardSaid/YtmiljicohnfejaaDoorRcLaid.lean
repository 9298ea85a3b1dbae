
/-
  Layer 8: what the program's text lays for the two tables (of a half byte's steps, of the fields' widths), as the walks want it.
-/
import Derived.Test.YtmiljicohnfejaaDoorRows
import Derived.Test.YtmiljicohnfejaaDoorRcPut
import Derived.ProofKit
import Derived.LaidMore
import Derived.OpenShut
import Derived.Stop.Joined
import Derived.Lib.LaidTab
import Derived.Stop.LaidErr
set_option linter.unusedVariables false
set_option linter.unusedSimpArgs false
namespace Go.Proofs.YtmiljicohnfejaaDoor
open Go.ChangeShapes Go.WideShapes Go.ChangeAt Go.WideMaps Go.WideElems Go.RowKit

def laid1 : List (String × DataW Unit) := [("hourbook/crc.steps", Rows.laid_hourbook_crc_steps), ("hourbook/record.widths", Rows.laid_hourbook_record_widths)]
theorem gSteps : Tryd.prog.globalNamed "hourbook/crc.steps" = some 1 := by kernel_rfl
theorem tSteps : (Tryd.prog.globals[1]?).map (·.type) = some 77 := by kernel_rfl
theorem gWidths : Tryd.prog.globalNamed "hourbook/record.widths" = some 0 := by kernel_rfl
theorem tWidths : (Tryd.prog.globals[0]?).map (·.type) = some 65 := by kernel_rfl
set_option maxRecDepth 100000 in
/-- The door's own heap meets the condition. -/
theorem door_met (os : Os) (args : Array Value) : laidMetH Tryd.prog laid1 ((World.doorLaid Tryd.prog 19 os).forCall (fun _ _ => 0) ⟨#[], args, []⟩).memory :=
  laidMetH_of_parts3 (fuel := 8) (laidMet_of_run' 8 (by kernel_rfl) (by kernel_rfl)) (by kernel_rfl) (by kernel_rfl)
/-- the listed tables -/
def tabZ : List Int := (List.range 16).map fun i => ((Cx.tab i).toNat : Int)
theorem laid_tabZ : Rows.laid_hourbook_crc_steps (H := Unit) = Lib.tabData .u32 tabZ := by
  have : tabZ = [0, 274646895, 549293790, 820201905, 1098587580, 1361435347, 1640403810, 1905808397, 2197175160, 2460548119, 2722870694, 2987750089, 3280807620, 3553878443, 3811616794, 4084100981] := by decide +kernel
  rw [this]
  rfl
theorem laid_wid : Rows.laid_hourbook_record_widths (H := Unit) = Lib.tabData .i64 [1, 1, 2, 6, 3, 4] := rfl
theorem tab_cell {P : Program} {W : World} {name : String} {k : IntKind} {zs : List Int} {g : Nat} (hg : P.globalNamed name = some g) (h : Lib.TabIs P W name k zs) (i : Nat) (z : Int) (hz : zs[i]? = some z) : W.cell? ⟨g, i, none⟩ = some (.int k z) := by
  have hv := World.var?_cell hg h i
  rw [hv]
  simp [hz]
/-- WHAT THE CONDITION GIVES THE WALKS -/
theorem tab_of_laid {W : World} (h : laidMetH Tryd.prog laid1 W) : RTab W := by
  rw [MakeChecks.laidMetH_plain _ _ _ (by kernel_rfl)] at h
  unfold laid1 at h
  rw [laid_tabZ, laid_wid] at h
  have h1 := Lib.tabIs_of_head gSteps tSteps Tryd.underlying77 Tryd.underlying24 (by kernel_rfl) (by kernel_rfl) h
  have h2 := Lib.tabIs_of_head gWidths tWidths Tryd.underlying65 Tryd.underlying3 (by kernel_rfl) (by kernel_rfl) (laidMet.tail h)
  exact ⟨fun i hi => tab_cell gSteps h1 i _ (by simp [tabZ, hi]), tab_cell gWidths h2 0 _ rfl, tab_cell gWidths h2 1 _ rfl, tab_cell gWidths h2 2 _ rfl, tab_cell gWidths h2 3 _ rfl, tab_cell gWidths h2 4 _ rfl, tab_cell gWidths h2 5 _ rfl⟩
end Go.Proofs.YtmiljicohnfejaaDoor
