
/-
  Layer 9: what the program's text lays for the table of the kinds' shapes, as the walks want it.
-/
import Derived.Test.YtggijjknfcofoaaDoorRows
import Derived.Test.YtggijjknfcofoaaDoorEdTab
import Derived.ProofKit
import Derived.LaidMore
import Derived.OpenShut
import Derived.Stop.Joined
import Derived.Lib.LaidTab
import Derived.Stop.LaidErr
set_option linter.unusedVariables false
set_option linter.unusedSimpArgs false
namespace Go.Proofs.YtggijjknfcofoaaDoor
open Go.ChangeShapes Go.WideShapes Go.ChangeAt Go.WideMaps Go.WideElems Go.RowKit

def laid1 : List (String × DataW Unit) := [("hourbook/edit.shapes", Rows.laid_hourbook_edit_shapes)]
theorem gShapes : Tryd.prog.globalNamed "hourbook/edit.shapes" = some 0 := by kernel_rfl
theorem tShapes : (Tryd.prog.globals[0]?).map (·.type) = some 66 := by kernel_rfl
set_option maxRecDepth 100000 in
/-- The door's own heap meets the condition. -/
theorem door_met (os : Os) (args : Array Value) : laidMetH Tryd.prog laid1 ((World.doorLaid Tryd.prog 26 os).forCall (fun _ _ => 0) ⟨#[], args, []⟩).memory :=
  laidMetH_of_parts3 (fuel := 8) (laidMet_of_run' 8 (by kernel_rfl) (by kernel_rfl)) (by kernel_rfl) (by kernel_rfl)
section
variable {H : Type} {enc : TypeId × Value → H} {W : World} {held : Bool} {spare : DataW H → Bool}
theorem bounds_cells {n : Nat} {cs : List Value} {x : DataW H × List MemPlace} (hl : cs.length = 2) (h : DataW.trod enc Tryd.prog W 0 (fun _ => true) held n 63 cs = some x) :
    ∃ a b : Int, cs = [.int .u64 a, .int .u64 b] ∧ x.1 = .agg [.lit (.int .u64 a), .lit (.int .u64 b)] := by
  obtain ⟨c0, c1, rfl⟩ : ∃ c0 c1, cs = [c0, c1] := by
    match cs, hl with
    | [c0, c1], _ => exact ⟨c0, c1, rfl⟩
  have k1 : Tryd.prog.cellsOf 22 = 1 := by kernel_rfl
  obtain ⟨ys, m, _, hx, _, hyl, hf⟩ := DataW.trod_struct Tryd.underlying63 h
  match ys, hyl with
  | [y0, y1], _ =>
    have f0 : DataW.trod enc Tryd.prog W 0 (fun _ => true) held m 22 [c0] = some y0 := by simpa [k1] using hf 0 _ rfl
    have f1 : DataW.trod enc Tryd.prog W 0 (fun _ => true) held m 22 [c1] = some y1 := by simpa [k1] using hf 1 _ rfl
    obtain ⟨a0, e0, g0, _⟩ := DataW.trod_int Tryd.underlying22 f0
    obtain ⟨a1, e1, g1, _⟩ := DataW.trod_int Tryd.underlying22 f1
    injection e0 with e0
    injection e1 with e1
    subst e0 e1 g0 g1
    exact ⟨a0, a1, rfl, by rw [hx]; rfl⟩
theorem shape_cells {n : Nat} {cs : List Value} {x : DataW H × List MemPlace} (hl : cs.length = 7) (h : DataW.trod enc Tryd.prog W 0 (fun _ => true) held n 65 cs = some x) :
    ∃ (a b d e f g : Int) (c : Bool), cs = [.int .u64 a, .int .u64 b, .bool c, .int .u64 d, .int .u64 e, .int .u64 f, .int .u64 g] ∧
      x.1 = .agg [.agg [.lit (.int .u64 a), .lit (.int .u64 b)], .lit (.bool c), .agg [.lit (.int .u64 d), .lit (.int .u64 e)], .agg [.lit (.int .u64 f), .lit (.int .u64 g)]] := by
  obtain ⟨c0, c1, c2, c3, c4, c5, c6, rfl⟩ : ∃ c0 c1 c2 c3 c4 c5 c6, cs = [c0, c1, c2, c3, c4, c5, c6] := by
    match cs, hl with
    | [c0, c1, c2, c3, c4, c5, c6], _ => exact ⟨c0, c1, c2, c3, c4, c5, c6, rfl⟩
  have k1 : Tryd.prog.cellsOf 63 = 2 := by kernel_rfl
  have k2 : Tryd.prog.cellsOf 4 = 1 := by kernel_rfl
  obtain ⟨ys, m, _, hx, _, hyl, hf⟩ := DataW.trod_struct Tryd.underlying65 h
  match ys, hyl with
  | [y0, y1, y2, y3], _ =>
    have f0 : DataW.trod enc Tryd.prog W 0 (fun _ => true) held m 63 [c0, c1] = some y0 := by simpa [k1] using hf 0 _ rfl
    have f1 : DataW.trod enc Tryd.prog W 0 (fun _ => true) held m 4 [c2] = some y1 := by simpa [k2] using hf 1 _ rfl
    have f2 : DataW.trod enc Tryd.prog W 0 (fun _ => true) held m 63 [c3, c4] = some y2 := by simpa [k1] using hf 2 _ rfl
    have f3 : DataW.trod enc Tryd.prog W 0 (fun _ => true) held m 63 [c5, c6] = some y3 := by simpa [k1] using hf 3 _ rfl
    obtain ⟨a0, b0, e0, g0⟩ := bounds_cells rfl f0
    obtain ⟨a2, b2, e2, g2⟩ := bounds_cells rfl f2
    obtain ⟨a3, b3, e3, g3⟩ := bounds_cells rfl f3
    obtain ⟨a1, e1, g1⟩ := DataW.trod_bool Tryd.underlying4 f1
    injection e0 with e0 e0'
    injection e0' with e0'
    injection e2 with e2 e2'
    injection e2' with e2'
    injection e3 with e3 e3'
    injection e3' with e3'
    injection e1 with e1
    subst e0 e0' e2 e2' e3 e3' e1
    refine ⟨a0, b0, a2, b2, a3, b3, a1, rfl, ?_⟩
    rw [hx]
    simp only [List.map_cons, List.map_nil, g0, g1, g2, g3]
end
theorem agg_inj {H : Type} {l m : List (DataW H)} (h : DataW.agg l = DataW.agg m) : l = m := by injection h
/-- WHAT THE CONDITION GIVES THE WALKS -/
theorem tab_of_laid {W : World} (h : laidMetH Tryd.prog laid1 W) : ETab W := by
  rw [MakeChecks.laidMetH_plain _ _ _ (by kernel_rfl)] at h
  obtain ⟨ps, ⟨g0, t0, cs0, f0, p0, q0, hg0, ht0, hv0, hd0, _⟩, _⟩ := h
  obtain rfl := Option.some.inj (gShapes.symm.trans hg0)
  obtain rfl := Option.some.inj (tShapes.symm.trans ht0)
  obtain ⟨xs, m1, rfl, hx1, hlen, hn3, hel⟩ := DataW.trod_array Tryd.underlying66 hd0
  have c1 : Tryd.prog.cellsOf 65 = 7 := by kernel_rfl
  have c7 : Tryd.prog.cellsOf 66 = 49 := by kernel_rfl
  rw [c7] at hlen
  rw [c1] at hel
  have hx2 : Rows.laid_hourbook_edit_shapes (H := Unit) = DataW.agg (List.map (fun x => x.fst) xs) := (Prod.mk.inj hx1).1
  have hx3 := agg_inj hx2
  have each : ∀ i, i < 7 → ∃ d : DataW Unit, (List.map (fun x => x.fst) xs)[i]? = some d ∧ ∃ (a b d1 e f g : Int) (c : Bool), (cs0.toList.drop (i * 7)).take 7 = [.int .u64 a, .int .u64 b, .bool c, .int .u64 d1, .int .u64 e, .int .u64 f, .int .u64 g] ∧
      d = .agg [.agg [.lit (.int .u64 a), .lit (.int .u64 b)], .lit (.bool c), .agg [.lit (.int .u64 d1), .lit (.int .u64 e)], .agg [.lit (.int .u64 f), .lit (.int .u64 g)]] := fun i hi => by
    have h0 := hel i hi
    have hi' : i < xs.length := by omega
    rw [List.getElem?_eq_getElem hi'] at h0
    refine ⟨_, by rw [List.getElem?_map, List.getElem?_eq_getElem hi']; rfl, ?_⟩
    exact shape_cells (by rw [List.length_take, List.length_drop]; omega) h0
  rw [← hx3] at each
  have cellOf : ∀ i j, i < 7 → j < 7 → W.cell? ⟨0, i * 7 + j, none⟩ = ((cs0.toList.drop (i * 7)).take 7)[j]? := fun i j hi hj => by
    have hv := World.var?_cell hg0 hv0 (i * 7 + j)
    rw [hv, List.getElem?_take_of_lt hj, List.getElem?_drop]
    simp
  have row : ∀ (i : Nat) (vs : List Value), i < 7 → (cs0.toList.drop (i * 7)).take 7 = vs → ∀ j v, j < 7 → vs[j]? = some v → W.cell? ⟨0, i * 7 + j, none⟩ = some v := fun i vs hi e j v hj hv => by
    rw [cellOf i j hi hj, e]
    exact hv
  have rows : ∀ i, i < 7 → (cs0.toList.drop (i * 7)).take 7 = shCs (i : Int) := fun i hi => by
    obtain ⟨d, h1, a, b, d1, e, f, g, c, h2, h3⟩ := each i hi
    rw [h2]
    subst h3
    rcases i with _ | _ | _ | _ | _ | _ | _ | i
    all_goals first
      | (exfalso; omega)
      | (simp at h1
         obtain ⟨⟨rfl, rfl⟩, rfl, ⟨rfl, rfl⟩, rfl, rfl⟩ := h1
         rfl)
  intro i v hv
  have hi : i < 49 := by
    have := (List.getElem?_eq_some_iff.1 hv).1
    exact this
  have hd : i = (i / 7) * 7 + i % 7 := by omega
  have h9 := row (i / 7) _ (by omega) (rows (i / 7) (by omega)) (i % 7) v (by omega) (by
    have key : ∀ q r : Nat, q < 7 → r < 7 → tabVs[q * 7 + r]? = (shCs (q : Int))[r]? := by
      intro q r hq hr
      rcases q with _ | _ | _ | _ | _ | _ | _ | q <;> first | (exfalso; omega) | (rcases r with _ | _ | _ | _ | _ | _ | _ | r <;> first | rfl | (exfalso; omega))
    rw [← key (i / 7) (i % 7) (by omega) (by omega), ← hd]
    exact hv)
  rw [← hd] at h9
  exact h9
end Go.Proofs.YtggijjknfcofoaaDoor
