
/-
  Arrays of integers as arguments: opened into a list of numbers. (For any program.)
-/
import Derived.OpenShut
import Derived.WalkKit
set_option linter.unusedVariables false
set_option linter.unusedSimpArgs false
namespace Go.Proofs.Ytffcbekogpgciaa
open Go.ChangeShapes Go.WideShapes Go.RowKit

/-- the number that a cell holds -/
def numOf : Value → Int
  | .int _ a => a
  | _ => 0
theorem open_arrI {H : Type} {enc : TypeId × Value → H} {P : Program} {k e : TypeId} {n : Nat} {q : IntKind} {W : World} {base b0 : Nat} {sp : Nat → Bool} {held : Bool} {r : Reach}
    (hu : P.underlying k = some (.array n e)) (he : P.underlying e = some (.int q)) (h1 : P.cellsOf e = 1) (hs : P.cellsOf k = n) {v : Value} (hv : Value.okWide P W r b0 k v) {d : DataW H} {ps : List MemPlace}
    (hd : DataW.Trod enc P W base sp held k v d ps) : ∃ zs : List Int, zs.length = n ∧ v = .agg (zs.map (Value.int q)).toArray ∧ ∀ z ∈ zs, (Lit.int q z).wf = true := by
  simp only [Value.okWide, hu] at hv
  obtain ⟨cs, rfl, hsz, _⟩ := hv
  obtain ⟨fuel, hf⟩ := hd
  obtain ⟨xs, m, rfl, hx, hlen, hn, hel⟩ := DataW.trod_array hu hf
  have hcl : cs.toList.length = n := by simpa [hs] using hsz
  have key : ∀ i, (h : i < n) → ∃ a, cs.toList[i]? = some (.int q a) ∧ (Lit.int q a).wf = true := by
    intro i hi
    have h0 := hel i hi
    rw [h1, Nat.mul_one, List.getElem?_eq_getElem (by omega)] at h0
    obtain ⟨a, e1, e2, hw⟩ := DataW.trod_int he h0
    refine ⟨a, ?_, hw⟩
    have e1' := congrArg (fun l => l[0]?) e1
    simp only [Value.cells] at e1'
    simpa using e1'
  refine ⟨cs.toList.map numOf, by simp [hcl], ?_, ?_⟩
  · congr 1
    apply Array.toList_inj.1
    apply List.ext_getElem?
    intro i
    rcases Nat.lt_or_ge i n with h | h
    · obtain ⟨a, ha, _⟩ := key i h
      simp only [List.getElem?_map, ha]
      simp [numOf, ha]
    · rw [List.getElem?_eq_none (by omega), List.getElem?_eq_none (by simp; simpa [hs, hsz] using h)]
  · intro z hz
    simp only [List.mem_map] at hz
    obtain ⟨u, hu1, rfl⟩ := hz
    obtain ⟨i, hi, hui⟩ := List.mem_iff_getElem.1 hu1
    obtain ⟨a, ha, hw⟩ := key i (by omega)
    rw [List.getElem?_eq_getElem hi, hui] at ha
    injection ha with ha
    subst ha
    exact hw
theorem arr2 {q : IntKind} {zs : List Int} (h : zs.length = 2) (hw : ∀ z ∈ zs, (Lit.int q z).wf = true) : ∃ a b, zs = [a, b] ∧ (Lit.int q a).wf = true ∧ (Lit.int q b).wf = true := by
  match zs, h with
  | [a, b], _ => exact ⟨a, b, rfl, hw a (by simp), hw b (by simp)⟩
theorem arr3 {q : IntKind} {zs : List Int} (h : zs.length = 3) (hw : ∀ z ∈ zs, (Lit.int q z).wf = true) : ∃ a b c, zs = [a, b, c] ∧ (Lit.int q a).wf = true ∧ (Lit.int q b).wf = true ∧ (Lit.int q c).wf = true := by
  match zs, h with
  | [a, b, c], _ => exact ⟨a, b, c, rfl, hw a (by simp), hw b (by simp), hw c (by simp)⟩
end Go.Proofs.Ytffcbekogpgciaa
