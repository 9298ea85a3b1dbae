
/-
  The document's own answer for layer 1: the walk of Read.
-/
import Derived.Test.YtggijjknfcofoaaDoorRxSmall
set_option linter.unusedVariables false
set_option linter.unusedSimpArgs false
namespace Go.Proofs.YtggijjknfcofoaaDoor
open Go.RowKit

theorem dg_rdN (l : List UInt8) (k t : Nat) (ht : t < k) (hk : k ≤ l.length) : Px.dg (Px.rdN l k) t = l.getD t 0 := by
  have h := congrArg (fun x => x[t]?) (Px.leL_rdN l k hk)
  simp only [Px.leL, List.getElem?_map, List.getElem?_range ht, Option.map_some, List.getElem?_take, if_pos ht] at h
  rw [List.getElem?_eq_getElem (by omega)] at h
  rw [List.getD_eq_getElem?_getD, List.getElem?_eq_getElem (by omega)]
  injection h

end Go.Proofs.YtggijjknfcofoaaDoor
