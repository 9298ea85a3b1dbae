
/-
  Layer 6: the document's folder: with, May.
-/
import Derived.Test.YtboeiadfmknidaaGreatGxBase
import Derived.Test.YtboeiadfmknidaaGreatFxAt
set_option linter.unusedVariables false
set_option linter.unusedSimpArgs false
namespace Go.Proofs.YtboeiadfmknidaaGreat
open Go.RowKit

/-- one entry more goes through 'with' -/
def stepW (n : ByteArray) (i : Nat) (s : List Ent × Bool) (x : Ent) : List Ent × Bool := if s.2 = false ∧ Op.bytesLess n.toList x.1.toList = true then (s.1 ++ [(n, i)] ++ [x], true) else (s.1 ++ [x], s.2)
def prefW (n : ByteArray) (i : Nat) (l : List Ent) : List Ent × Bool := l.foldl (stepW n i) ([], false)
def withL (l : List Ent) (n : ByteArray) (i : Nat) : List Ent := let r := prefW n i (withoutL l n); if r.2 then r.1 else r.1 ++ [(n, i)]
theorem prefW_next {n : ByteArray} {i : Nat} {l : List Ent} {j : Nat} {x : Ent} (hx : l[j]? = some x) : prefW n i (l.take (j + 1)) = stepW n i (prefW n i (l.take j)) x := by
  rw [take_next6 hx, prefW, List.foldl_append]
  rfl
theorem prefW_length (n : ByteArray) (i : Nat) (l : List Ent) : (prefW n i l).1.length ≤ 2 * l.length := by
  have : ∀ (l : List Ent) (s : List Ent × Bool), (l.foldl (stepW n i) s).1.length ≤ s.1.length + 2 * l.length := by
    intro l
    induction l with
    | nil => intro s; simp
    | cons x r ih =>
      intro s
      have h := ih (stepW n i s x)
      have h2 : (stepW n i s x).1.length ≤ s.1.length + 2 := by unfold stepW; split <;> simp
      simp only [List.foldl_cons, List.length_cons]
      omega
  simpa [prefW] using this l ([], false)
theorem withoutL_length (l : List Ent) (n : ByteArray) : (withoutL l n).length ≤ l.length := List.length_filter_le _ _
end Go.Proofs.YtboeiadfmknidaaGreat

/-
  Layer 6: the document's folder: May.
-/
set_option linter.unusedVariables false
set_option linter.unusedSimpArgs false
namespace Go.Proofs.YtboeiadfmknidaaGreat
open Go.RowKit

/-- a byte that a name may hold -/
def okB (c : UInt8) : Bool := (decide (97 ≤ c.toNat) && decide (c.toNat ≤ 122)) || (decide (48 ≤ c.toNat) && decide (c.toNat ≤ 57)) || decide (c.toNat = 45) || decide (c.toNat = 46)
def mayN (s : ByteArray) : Bool := decide (0 < s.size) && decide (s.size ≤ 32) && s.data.toList.all okB
theorem okB_iff (c : UInt8) : okB c = true ↔ (97 ≤ c.toNat ∧ c.toNat ≤ 122) ∨ (48 ≤ c.toNat ∧ c.toNat ≤ 57) ∨ c.toNat = 45 ∨ c.toNat = 46 := by
  unfold okB
  simp only [Bool.or_eq_true, Bool.and_eq_true, decide_eq_true_eq, or_assoc]
theorem okB_no {c : UInt8} (h : ¬ ((97 ≤ c.toNat ∧ c.toNat ≤ 122) ∨ (48 ≤ c.toNat ∧ c.toNat ≤ 57) ∨ c.toNat = 45 ∨ c.toNat = 46)) : okB c = false := by
  cases hh : okB c
  · rfl
  · exact absurd ((okB_iff c).1 hh) h
theorem mayN_no {s : ByteArray} {j : Nat} {c : UInt8} (hc : s.data.toList[j]? = some c) (ho : okB c = false) : mayN s = false := by
  have h : s.data.toList.all okB = false := by
    rw [List.all_eq_false]
    exact ⟨c, List.mem_of_getElem? hc, by simp [ho]⟩
  unfold mayN
  rw [h, Bool.and_false]
theorem all_next {s : ByteArray} {j : Nat} {c : UInt8} (hc : s.data.toList[j]? = some c) (h : (s.data.toList.take j).all okB = true) (ho : okB c = true) : (s.data.toList.take (j + 1)).all okB = true := by
  rw [take_next6 hc, List.all_append, h]
  simp [ho]
end Go.Proofs.YtboeiadfmknidaaGreat

/-
  Layer 6: the document's folder in memory: its states (rows of entries, which nobody writes), the last inode; New, List, Find.
-/
set_option linter.unusedVariables false
set_option linter.unusedSimpArgs false
namespace Go.Proofs.YtboeiadfmknidaaGreat
open Go.RowKit

/-- the value v is a slice that reads as the entries l, out of a block of N -/
def EsIn (w : World) (N : Nat → Prop) (v : Value) (l : List Ent) : Prop := ∃ A c, v = .slice A l.length c ∧ l.length ≤ c ∧ RdR w N A (evs l)
theorem EsIn.es {w : World} {N : Nat → Prop} {v : Value} {l : List Ent} (h : EsIn w N v l) : Es w w.heap.size v l := by
  obtain ⟨A, c, e, hc, hr⟩ := h
  exact ⟨A, c, e, hc, hr.rd⟩
theorem EsIn.chg {w w' : World} {N M : Nat → Prop} {v : Value} {l : List Ent} (h : EsIn w N v l) (hc : Chg M w w') (hM : ∀ i, M i → ¬ N i) : EsIn w' N v l := by
  obtain ⟨A, c, e, hc', hr⟩ := h
  exact ⟨A, c, e, hc', hr.chg hc hM⟩
theorem EsIn.mono {w : World} {N N' : Nat → Prop} {v : Value} {l : List Ent} (h : EsIn w N v l) (hN : ∀ i, N i → N' i) : EsIn w N' v l := by
  obtain ⟨A, c, e, hc', hr⟩ := h
  exact ⟨A, c, e, hc', hr.mono hN⟩
theorem EsIn.none_ {w : World} {N : Nat → Prop} : EsIn w N (.slice none 0 0) [] := ⟨none, 0, rfl, Nat.le_refl _, fun h => absurd rfl h⟩
theorem EsIn.of_own {w : World} {b n : Nat} {e : TypeId} {v : Value} {l : List Ent} (h : w.ownsRow b e 2 v n (evs l)) : EsIn w (fun i => v.ownBlock = some i) v l := by
  have hn : l.length = n := by have := h.1; rw [evs_length] at this; omega
  subst hn
  obtain ⟨A, c, rfl, hc, _⟩ := own_slice h
  refine ⟨A, c, rfl, hc, fun hx => ?_⟩
  obtain ⟨b, o, rfl, hb, hcell⟩ := Rd.of_own h hx
  exact ⟨b, o, rfl, rfl, hcell⟩
/-- the states' rows in memory -/
def StsR (w : World) (N : Nat → Prop) (vals : List Value) (sts : List (List Ent)) : Prop := vals.length = sts.length ∧ ∀ (i : Nat) v l, vals[i]? = some v → sts[i]? = some l → EsIn w N v l
theorem StsR.chg {w w' : World} {N M : Nat → Prop} {vals : List Value} {sts : List (List Ent)} (h : StsR w N vals sts) (hc : Chg M w w') (hM : ∀ i, M i → ¬ N i) : StsR w' N vals sts :=
  ⟨h.1, fun i v l hv hl => (h.2 i v l hv hl).chg hc hM⟩
theorem StsR.add {w : World} {N N' : Nat → Prop} {vals : List Value} {sts : List (List Ent)} {v : Value} {l : List Ent} (h : StsR w N vals sts) (hv : EsIn w N' v l) : StsR w (fun i => N i ∨ N' i) (vals ++ [v]) (sts ++ [l]) := by
  refine ⟨by simp [h.1], fun i v' l' hv' hl' => ?_⟩
  rw [List.getElem?_append] at hv' hl'
  rw [h.1] at hv'
  split at hv'
  · rename_i hi
    rw [if_pos hi] at hl'
    exact (h.2 i v' l' hv' hl').mono (fun _ => .inl)
  · rename_i hi
    rw [if_neg hi] at hl'
    rcases hk : i - sts.length with _ | k
    · rw [hk] at hv' hl'
      simp at hv' hl'
      subst hv' hl'
      exact hv.mono (fun _ => .inr)
    · rw [hk] at hv'
      simp at hv'
section
variable {w w' : World} {X : Nat} {N M : Nat → Prop} {vs : Value} {vals : List Value} {sts : List (List Ent)} {last : Nat}
end
end Go.Proofs.YtboeiadfmknidaaGreat

/-
  Layer 6: the document's folder: Find.
-/
set_option linter.unusedVariables false
set_option linter.unusedSimpArgs false
namespace Go.Proofs.YtboeiadfmknidaaGreat
open Go.RowKit

def findL (l : List Ent) (n : ByteArray) : Option Nat := (l.find? fun x => x.1.toList == n.toList).map (·.2)
theorem findL_no {l : List Ent} {n : ByteArray} (h : ∀ x ∈ l, x.1.toList ≠ n.toList) : findL l n = none := by
  unfold findL
  rw [List.find?_eq_none.2 (fun x hx => by simpa using h x hx)]
  rfl
theorem findL_yes {l : List Ent} {n : ByteArray} {j : Nat} {x : Ent} (hx : l[j]? = some x) (h : ∀ y ∈ l.take j, y.1.toList ≠ n.toList) (he : x.1.toList = n.toList) : findL l n = some x.2 := by
  unfold findL
  have hj := (List.getElem?_eq_some_iff.1 hx).1
  have e : l = l.take j ++ x :: l.drop (j + 1) := by
    conv => lhs; rw [← List.take_append_drop j l]
    rw [List.drop_eq_getElem_cons hj, (List.getElem?_eq_some_iff.1 hx).2]
  rw [e, List.find?_append, List.find?_eq_none.2 (fun y hy => by simpa using h y hy)]
  simp [he]
end Go.Proofs.YtboeiadfmknidaaGreat
