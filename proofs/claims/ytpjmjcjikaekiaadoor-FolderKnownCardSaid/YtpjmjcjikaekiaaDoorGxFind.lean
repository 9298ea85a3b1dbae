
/-
  Layer 6: the document's folder: Find.
-/
import Derived.Test.YtpjmjcjikaekiaaDoorGxFol
set_option linter.unusedVariables false
set_option linter.unusedSimpArgs false
namespace Go.Proofs.YtpjmjcjikaekiaaDoor
open Go.RowKit

def findL (l : List Ent) (n : ByteArray) : Option Nat := (l.find? fun x => x.1.toList == n.toList).map (·.2)
theorem findL_no {l : List Ent} {n : ByteArray} (h : ∀ x ∈ l, x.1.toList ≠ n.toList) : findL l n = none := by
  unfold findL
  rw [List.find?_eq_none.2 (fun x hx => by simpa using h x hx)]
  rfl
theorem findL_yes {l : List Ent} {n : ByteArray} {j : Nat} {x : Ent} (hx : l[j]? = some x) (h : ∀ y ∈ l.take j, y.1.toList ≠ n.toList) (he : x.1.toList = n.toList) : findL l n = some x.2 := by
  unfold findL
  have hj := (List.getElem?_eq_some_iff.1 hx).1
  have e : l = l.take j ++ x :: l.drop (j + 1) := by
    conv => lhs; rw [← List.take_append_drop j l]
    rw [List.drop_eq_getElem_cons hj, (List.getElem?_eq_some_iff.1 hx).2]
  rw [e, List.find?_append, List.find?_eq_none.2 (fun y hy => by simpa using h y hy)]
  simp [he]
end Go.Proofs.YtpjmjcjikaekiaaDoor
