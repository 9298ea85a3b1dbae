
/-
  Layer 6: the document's folder: with, May.
-/
import Derived.Test.YtpjmjcjikaekiaaDoorGxBase
import Derived.Test.YtpjmjcjikaekiaaDoorFxAt
set_option linter.unusedVariables false
set_option linter.unusedSimpArgs false
namespace Go.Proofs.YtpjmjcjikaekiaaDoor
open Go.RowKit

/-- one entry more goes through 'with' -/
def stepW (n : ByteArray) (i : Nat) (s : List Ent × Bool) (x : Ent) : List Ent × Bool := if s.2 = false ∧ Op.bytesLess n.toList x.1.toList = true then (s.1 ++ [(n, i)] ++ [x], true) else (s.1 ++ [x], s.2)
def prefW (n : ByteArray) (i : Nat) (l : List Ent) : List Ent × Bool := l.foldl (stepW n i) ([], false)
def withL (l : List Ent) (n : ByteArray) (i : Nat) : List Ent := let r := prefW n i (withoutL l n); if r.2 then r.1 else r.1 ++ [(n, i)]
theorem prefW_next {n : ByteArray} {i : Nat} {l : List Ent} {j : Nat} {x : Ent} (hx : l[j]? = some x) : prefW n i (l.take (j + 1)) = stepW n i (prefW n i (l.take j)) x := by
  rw [take_next6 hx, prefW, List.foldl_append]
  rfl
theorem prefW_length (n : ByteArray) (i : Nat) (l : List Ent) : (prefW n i l).1.length ≤ 2 * l.length := by
  have : ∀ (l : List Ent) (s : List Ent × Bool), (l.foldl (stepW n i) s).1.length ≤ s.1.length + 2 * l.length := by
    intro l
    induction l with
    | nil => intro s; simp
    | cons x r ih =>
      intro s
      have h := ih (stepW n i s x)
      have h2 : (stepW n i s x).1.length ≤ s.1.length + 2 := by unfold stepW; split <;> simp
      simp only [List.foldl_cons, List.length_cons]
      omega
  simpa [prefW] using this l ([], false)
theorem withoutL_length (l : List Ent) (n : ByteArray) : (withoutL l n).length ≤ l.length := List.length_filter_le _ _
end Go.Proofs.YtpjmjcjikaekiaaDoor
