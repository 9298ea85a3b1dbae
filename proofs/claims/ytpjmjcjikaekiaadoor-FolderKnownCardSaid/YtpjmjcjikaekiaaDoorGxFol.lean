
/-
  Layer 6: the document's folder in memory: its states (rows of entries, which nobody writes), the last inode; New, List, Find.
-/
import Derived.Test.YtpjmjcjikaekiaaDoorGxMay
set_option linter.unusedVariables false
set_option linter.unusedSimpArgs false
namespace Go.Proofs.YtpjmjcjikaekiaaDoor
open Go.RowKit

/-- the value v is a slice that reads as the entries l, out of a block of N -/
def EsIn (w : World) (N : Nat → Prop) (v : Value) (l : List Ent) : Prop := ∃ A c, v = .slice A l.length c ∧ l.length ≤ c ∧ RdR w N A (evs l)
theorem EsIn.es {w : World} {N : Nat → Prop} {v : Value} {l : List Ent} (h : EsIn w N v l) : Es w w.heap.size v l := by
  obtain ⟨A, c, e, hc, hr⟩ := h
  exact ⟨A, c, e, hc, hr.rd⟩
theorem EsIn.chg {w w' : World} {N M : Nat → Prop} {v : Value} {l : List Ent} (h : EsIn w N v l) (hc : Chg M w w') (hM : ∀ i, M i → ¬ N i) : EsIn w' N v l := by
  obtain ⟨A, c, e, hc', hr⟩ := h
  exact ⟨A, c, e, hc', hr.chg hc hM⟩
theorem EsIn.mono {w : World} {N N' : Nat → Prop} {v : Value} {l : List Ent} (h : EsIn w N v l) (hN : ∀ i, N i → N' i) : EsIn w N' v l := by
  obtain ⟨A, c, e, hc', hr⟩ := h
  exact ⟨A, c, e, hc', hr.mono hN⟩
theorem EsIn.none_ {w : World} {N : Nat → Prop} : EsIn w N (.slice none 0 0) [] := ⟨none, 0, rfl, Nat.le_refl _, fun h => absurd rfl h⟩
theorem EsIn.of_own {w : World} {b n : Nat} {e : TypeId} {v : Value} {l : List Ent} (h : w.ownsRow b e 2 v n (evs l)) : EsIn w (fun i => v.ownBlock = some i) v l := by
  have hn : l.length = n := by have := h.1; rw [evs_length] at this; omega
  subst hn
  obtain ⟨A, c, rfl, hc, _⟩ := own_slice h
  refine ⟨A, c, rfl, hc, fun hx => ?_⟩
  obtain ⟨b, o, rfl, hb, hcell⟩ := Rd.of_own h hx
  exact ⟨b, o, rfl, rfl, hcell⟩
/-- the states' rows in memory -/
def StsR (w : World) (N : Nat → Prop) (vals : List Value) (sts : List (List Ent)) : Prop := vals.length = sts.length ∧ ∀ (i : Nat) v l, vals[i]? = some v → sts[i]? = some l → EsIn w N v l
theorem StsR.chg {w w' : World} {N M : Nat → Prop} {vals : List Value} {sts : List (List Ent)} (h : StsR w N vals sts) (hc : Chg M w w') (hM : ∀ i, M i → ¬ N i) : StsR w' N vals sts :=
  ⟨h.1, fun i v l hv hl => (h.2 i v l hv hl).chg hc hM⟩
theorem StsR.add {w : World} {N N' : Nat → Prop} {vals : List Value} {sts : List (List Ent)} {v : Value} {l : List Ent} (h : StsR w N vals sts) (hv : EsIn w N' v l) : StsR w (fun i => N i ∨ N' i) (vals ++ [v]) (sts ++ [l]) := by
  refine ⟨by simp [h.1], fun i v' l' hv' hl' => ?_⟩
  rw [List.getElem?_append] at hv' hl'
  rw [h.1] at hv'
  split at hv'
  · rename_i hi
    rw [if_pos hi] at hl'
    exact (h.2 i v' l' hv' hl').mono (fun _ => .inl)
  · rename_i hi
    rw [if_neg hi] at hl'
    rcases hk : i - sts.length with _ | k
    · rw [hk] at hv' hl'
      simp at hv' hl'
      subst hv' hl'
      exact hv.mono (fun _ => .inr)
    · rw [hk] at hv'
      simp at hv'
section
variable {w w' : World} {X : Nat} {N M : Nat → Prop} {vs : Value} {vals : List Value} {sts : List (List Ent)} {last : Nat}
end
end Go.Proofs.YtpjmjcjikaekiaaDoor
