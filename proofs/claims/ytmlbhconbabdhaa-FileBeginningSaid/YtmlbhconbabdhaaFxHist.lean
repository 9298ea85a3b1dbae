
/-
  Layer 5: what a file had behind each call, and how many units were loose then.
-/
import Derived.Test.YtmlbhconbabdhaaFxStep
set_option linter.unusedVariables false
set_option linter.unusedSimpArgs false
namespace Go.Proofs.Ytmlbhconbabdhaa
open Go.RowKit

/-- the file s, its bytes behind each call (ls), and its loose units then (us) -/
structure Hist (s : FSt) (ls : List (List UInt8)) (us : List Nat) : Prop where
  len : ls.length = us.length
  pos : 0 < us.length
  head : ls[0]? = some s.safe ∧ us[0]? = some 0
  last : ls[us.length - 1]? = some s.bytes ∧ us[us.length - 1]? = some s.loose
  at_ : ∀ (i : Nat) u l, us[i]? = some u → ls[i]? = some l → u ≤ s.loose ∧ s.behind u = l
  step : ∀ (i : Nat) u l u' l', us[i]? = some u → ls[i]? = some l → us[i + 1]? = some u' → ls[i + 1]? = some l' → ∀ k, u < k → k < u' → l <+: l' ∧ l.length + (k - u) ≤ l'.length ∧ s.behind k = l'.take (l.length + (k - u))
theorem Hist.start (b : List UInt8) : Hist (FSt.new b) [b] [0] := by
  refine ⟨rfl, by simp, ⟨rfl, rfl⟩, ⟨by simp [FSt.new_bytes], rfl⟩, ?_, ?_⟩
  · intro i u l hu hl
    rcases i with _ | i
    · simp at hu hl
      subst hu hl
      exact ⟨Nat.zero_le _, by simp [FSt.behind, FSt.new, settleL]⟩
    · simp at hu
  · intro i u l u' l' _ _ h
    simp at h
theorem Hist.next {s s' : FSt} {ls : List (List UInt8)} {us : List Nat} (h : Hist s ls us) (ho : s.Ok) (hst : StepF s s') (ho' : s'.Ok) : Hist s' (ls ++ [s'.bytes]) (us ++ [s'.loose]) := by
  have hsafe : s'.safe = s.safe := by
    rcases hst with rfl | ⟨r, _, _, rfl⟩ | ⟨k, _, rfl⟩ <;> rfl
  have hle : s.loose ≤ s'.loose := by
    rcases hst with rfl | ⟨r, _, _, rfl⟩ | ⟨k, _, rfl⟩
    · exact Nat.le_refl _
    · rw [FSt.app_loose]; omega
    · rw [FSt.cutd_loose]; omega
  have hbe : ∀ k, k ≤ s.loose → s'.behind k = s.behind k := by
    intro k hk
    rcases hst with rfl | ⟨r, _, _, rfl⟩ | ⟨q, _, rfl⟩
    · rfl
    · exact FSt.app_behind s r hk
    · exact FSt.cutd_behind s q hk
  have hstep : ∀ k, s.loose < k → k < s'.loose → s.bytes <+: s'.bytes ∧ s.bytes.length + (k - s.loose) ≤ s'.bytes.length ∧ s'.behind k = s'.bytes.take (s.bytes.length + (k - s.loose)) := by
    intro k h1 h2
    rcases hst with rfl | ⟨r, _, _, rfl⟩ | ⟨q, _, rfl⟩
    · omega
    · rw [FSt.app_loose] at h2
      have hm := FSt.app_more ho r (k - s.loose)
      rw [show s.loose + (k - s.loose) = k by omega] at hm
      rw [FSt.app_bytes, hm, List.length_append]
      refine ⟨List.prefix_append _ _, by omega, ?_⟩
      rw [List.take_append, List.take_of_length_le (by omega : s.bytes.length ≤ s.bytes.length + (k - s.loose)), Nat.add_sub_cancel_left]
    · rw [FSt.cutd_loose] at h2; omega
  have hpos := h.pos
  refine ⟨by simp [h.len], by simp, ⟨?_, ?_⟩, ⟨?_, ?_⟩, ?_, ?_⟩
  · rw [List.getElem?_append_left (by rw [h.len]; exact h.pos), hsafe]; exact h.head.1
  · rw [List.getElem?_append_left h.pos]; exact h.head.2
  · rw [List.length_append, List.length_singleton, Nat.add_sub_cancel, ← h.len]; simp
  · rw [List.length_append, List.length_singleton, Nat.add_sub_cancel]; simp
  · intro i u l hu hl
    by_cases hi : i < us.length
    · rw [List.getElem?_append_left hi] at hu
      rw [List.getElem?_append_left (by rw [h.len]; exact hi)] at hl
      have := h.at_ i u l hu hl
      exact ⟨by omega, by rw [hbe u this.1]; exact this.2⟩
    · have he : i = us.length := by
        have := (List.getElem?_eq_some_iff.1 hu).1
        simp at this
        omega
      subst he
      rw [List.getElem?_append_right (Nat.le_refl _)] at hu
      rw [List.getElem?_append_right (by rw [h.len]; exact Nat.le_refl _), h.len] at hl
      simp at hu hl
      subst hu hl
      exact ⟨Nat.le_refl _, ho'.whole⟩
  · intro i u l u' l' hu hl hu' hl' k h1 h2
    by_cases hi : i + 1 < us.length
    · rw [List.getElem?_append_left (by omega)] at hu
      rw [List.getElem?_append_left (by rw [h.len]; omega)] at hl
      rw [List.getElem?_append_left hi] at hu'
      rw [List.getElem?_append_left (by rw [h.len]; exact hi)] at hl'
      have h3 := h.step i u l u' l' hu hl hu' hl' k h1 h2
      have h4 := (h.at_ _ u' l' hu' hl').1
      refine ⟨h3.1, h3.2.1, ?_⟩
      rw [hbe k (by omega)]
      exact h3.2.2
    · have he : i + 1 = us.length := by
        have := (List.getElem?_eq_some_iff.1 hu').1
        simp at this
        omega
      have hi1 : i = us.length - 1 := by omega
      rw [List.getElem?_append_left (by omega)] at hu
      rw [List.getElem?_append_left (by rw [h.len]; omega)] at hl
      rw [he, List.getElem?_append_right (Nat.le_refl _)] at hu'
      rw [he, List.getElem?_append_right (by rw [h.len]; exact Nat.le_refl _), h.len] at hl'
      simp at hu' hl'
      subst hu' hl'
      rw [hi1, h.last.2] at hu
      rw [hi1, h.last.1] at hl
      injection hu with hu
      injection hl with hl
      subst hu hl
      exact hstep k h1 h2

/-- the last moment that needed at most k units, among the first j -/
structure AtB (us : List Nat) (k j x : Nat) : Prop where
  lt : x < us.length
  is : ∀ u, us[x]? = some u → u ≤ k
  all : ∀ (i : Nat) u, i < j → us[i]? = some u → u ≤ k → i ≤ x
theorem AtB.start {s : FSt} {ls : List (List UInt8)} {us : List Nat} (h : Hist s ls us) (k : Nat) : AtB us k 0 0 :=
  ⟨h.pos, fun u hu => by rw [h.head.2] at hu; injection hu with hu; omega, fun i u hi => by omega⟩
theorem AtB.yes {us : List Nat} {k j x u : Nat} (h : AtB us k j x) (hu : us[j]? = some u) (hk : u ≤ k) : AtB us k (j + 1) j :=
  ⟨(List.getElem?_eq_some_iff.1 hu).1, fun v hv => by rw [hu] at hv; injection hv with hv; omega, fun i v hi _ _ => by omega⟩
theorem AtB.no {us : List Nat} {k j x u : Nat} (h : AtB us k j x) (hu : us[j]? = some u) (hk : k < u) : AtB us k (j + 1) x :=
  ⟨h.lt, h.is, fun i v hi hv hvk => by
    by_cases e : i = j
    · subst e; rw [hu] at hv; injection hv with hv; omega
    · exact h.all i v (by omega) hv hvk⟩
/-- where it stands: at a moment, or within an append -/
theorem AtB.done {s : FSt} {ls : List (List UInt8)} {us : List Nat} {k x : Nat} (h : AtB us k us.length x) (hh : Hist s ls us) (hk : k ≤ s.loose) :
    ∃ u l, us[x]? = some u ∧ ls[x]? = some l ∧ ((u = k ∧ s.behind k = l) ∨ (u < k ∧ ∃ l', ls[x + 1]? = some l' ∧ x + 1 < us.length ∧ l <+: l' ∧ l.length + (k - u) ≤ l'.length ∧ s.behind k = l'.take (l.length + (k - u)))) := by
  have hx := h.lt
  obtain ⟨u, hu⟩ : ∃ u, us[x]? = some u := ⟨us[x], List.getElem?_eq_getElem hx⟩
  obtain ⟨l, hl⟩ : ∃ l, ls[x]? = some l := ⟨ls[x]'(by rw [hh.len]; exact hx), List.getElem?_eq_getElem _⟩
  refine ⟨u, l, hu, hl, ?_⟩
  have huk := h.is u hu
  rcases Nat.lt_or_ge u k with h1 | h1
  · right
    have hx1 : x + 1 < us.length := by
      rcases Nat.lt_or_ge (x + 1) us.length with h2 | h2
      · exact h2
      · have e : x = us.length - 1 := by omega
        rw [e, hh.last.2] at hu
        injection hu with hu
        omega
    obtain ⟨u', hu'⟩ : ∃ u, us[x + 1]? = some u := ⟨us[x + 1], List.getElem?_eq_getElem hx1⟩
    obtain ⟨l', hl'⟩ : ∃ l, ls[x + 1]? = some l := ⟨ls[x + 1]'(by rw [hh.len]; exact hx1), List.getElem?_eq_getElem _⟩
    have h2 : k < u' := by
      rcases Nat.lt_or_ge k u' with h3 | h3
      · exact h3
      · have := h.all (x + 1) u' hx1 hu' h3
        omega
    exact ⟨h1, l', hl', hx1, hh.step x u l u' l' hu hl hu' hl' k h1 h2⟩
  · left
    have e : u = k := by omega
    subst e
    exact ⟨rfl, (hh.at_ x u l hu hl).2⟩

/-- the moments' bytes in memory, out of blocks of N -/
def MomR (w : World) (N : Nat → Prop) (vals : List Value) (ls : List (List UInt8)) : Prop := vals.length = ls.length ∧ ∀ (i : Nat) v l, vals[i]? = some v → ls[i]? = some l → BsIn w N v l
theorem MomR.chg {w w' : World} {N M : Nat → Prop} {vals : List Value} {ls : List (List UInt8)} (h : MomR w N vals ls) (hc : Chg M w w') (hM : ∀ i, M i → ¬ N i) : MomR w' N vals ls :=
  ⟨h.1, fun i v l hv hl => (h.2 i v l hv hl).chg hc hM⟩
theorem MomR.on {w w' : World} {N : Nat → Prop} {vals : List Value} {ls : List (List UInt8)} (h : MomR w N vals ls) (hb : Below w.heap.size w w') : MomR w' N vals ls := h.chg (Chg.of_below (M := fun _ => False) hb) (fun _ e => e.elim)
theorem MomR.add {w : World} {N N' : Nat → Prop} {vals : List Value} {ls : List (List UInt8)} {v : Value} {l : List UInt8} (h : MomR w N vals ls) (hv : BsIn w N' v l) : MomR w (fun i => N i ∨ N' i) (vals ++ [v]) (ls ++ [l]) := by
  refine ⟨by simp [h.1], fun i v' l' hv' hl' => ?_⟩
  rw [List.getElem?_append] at hv' hl'
  rw [h.1] at hv'
  split at hv'
  · rename_i hi
    rw [if_pos hi] at hl'
    exact (h.2 i v' l' hv' hl').mono (fun _ => .inl)
  · rename_i hi
    rw [if_neg hi] at hl'
    rcases hk : i - ls.length with _ | k
    · rw [hk] at hv' hl'
      simp at hv' hl'
      subst hv' hl'
      exact hv.mono (fun _ => .inr)
    · rw [hk] at hv'
      simp at hv'
theorem MomR.get {w : World} {N : Nat → Prop} {vals : List Value} {ls : List (List UInt8)} {i : Nat} {l : List UInt8} (h : MomR w N vals ls) (hl : ls[i]? = some l) : ∃ v, vals[i]? = some v ∧ BsIn w N v l := by
  have hi : i < vals.length := by rw [h.1]; exact (List.getElem?_eq_some_iff.1 hl).1
  exact ⟨vals[i], List.getElem?_eq_getElem hi, h.2 i _ l (List.getElem?_eq_getElem hi) hl⟩
end Go.Proofs.Ytmlbhconbabdhaa
