
/-
  Layer 6: 'like' of two rows that read the same; rows of rows of entries; what a folder's states are, call by call.
-/
import Derived.Test.YtboeiadfmknidaaGreatHxWalk
import Derived.Deep.RegionHeld3
set_option linter.unusedVariables false
set_option linter.unusedSimpArgs false
namespace Go.Proofs.YtboeiadfmknidaaGreat
open Go.RowKit Go.Maps

/-- a row of rows of entries: its value v, its cells vals, what they read as; N: the blocks of the rows -/
structure SV (w wk : World) (N : Nat → Prop) (v : Value) (vals : List Value) (ls : List (List Ent)) : Prop where
  own : wk.ownsRow w.heap.size 104 1 v vals.length vals
  len : vals.length = ls.length
  one : ∀ u ∈ vals, u.oneCell' = true
  rows : ∀ (k : Nat) l, ls[k]? = some l → ∃ u, vals[k]? = some u ∧ EsR wk N u l
  nv : ∀ g, v.ownBlock = some g → ¬ N g
  nlt : ∀ i, N i → i < wk.heap.size
/-- its blocks -/
def SVB (v : Value) (N : Nat → Prop) (i : Nat) : Prop := N i ∨ v.ownBlock = some i
section
variable {w wk w' : World} {N N' M R : Nat → Prop} {v : Value} {vals : List Value} {ls : List (List Ent)}
theorem SV.lt (h : SV w wk N v vals ls) : ∀ i, SVB v N i → i < wk.heap.size := fun i hi => hi.elim (h.nlt i) (fun e => (h.own.lt i e).2)
theorem SV.chg (h : SV w wk N v vals ls) (hc : Chg M wk w') (hM : ∀ i, M i → ¬ SVB v N i) : SV w w' N v vals ls :=
  ⟨hc.own h.own (fun g hg e => hM g e (.inr hg)), h.len, h.one, fun k l hl => by
    obtain ⟨u, h1, h2⟩ := h.rows k l hl
    exact ⟨u, h1, h2.chg hc (fun i hi e => hM i e (.inl hi))⟩, h.nv, fun i hi => Nat.lt_of_lt_of_le (h.nlt i hi) hc.size⟩
theorem SV.on (h : SV w wk N v vals ls) (hb : Below wk.heap.size wk w') : SV w w' N v vals ls := h.chg (Chg.of_below (M := fun _ => False) hb) (fun i e => e.elim)
theorem SV.get (h : SV w wk N v vals ls) {A : Option Addr} {n c : Nat} (hv : v = .slice A n c) {k : Nat} {l : List Ent} (hl : ls[k]? = some l) :
    ∃ b u, A = some ⟨b, 0, none⟩ ∧ wk.cell? ⟨b, k, none⟩ = some u ∧ EsR wk N u l := by
  obtain ⟨u, h1, h2⟩ := h.rows k l hl
  rcases h.own.2 with ⟨e, h0⟩ | ⟨g, cap, cur, e, hg, hb, hc, hm, hs, ht⟩
  · rw [List.eq_nil_of_length_eq_zero h0] at h1
    simp at h1
  · rw [hv] at e
    injection e with e _ _
    refine ⟨g, u, e, ?_, h2⟩
    have hk := (List.getElem?_eq_some_iff.1 h1).1
    have h3 : cur[k]? = some u := by
      rw [← ht, List.getElem?_take, Nat.mul_one, if_pos hk, Array.getElem?_toList] at h1
      exact h1
    simp [World.cell?, hb, h3]
theorem esR_one {u : Value} {l : List Ent} (h : EsR wk N u l) : u.oneCell' = true := by
  obtain ⟨A, c, rfl, _⟩ := h
  rfl
/-- one row alone, in a new block -/
theorem SV.single {u : Value} {l : List Ent} (h : EsR wk N u l) (hw : w.heap.size ≤ wk.heap.size) (hN : ∀ i, N i → i < wk.heap.size) :
    SV w (wk.alloc (.cells #[u] 104)) N (.slice (some ⟨wk.heap.size, 0, none⟩) 1 1) [u] [l] := by
  refine ⟨⟨rfl, .inr ⟨wk.heap.size, 1, #[u], rfl, hw, heap_alloc_new wk _, Nat.le_refl _, by unfold maxLen; omega, rfl, rfl⟩⟩, rfl, fun x hx => ?_, fun k l' hl => ?_, fun g hg e => ?_, fun i hi => Nat.lt_of_lt_of_le (hN i hi) (by simp)⟩
  · simp at hx; subst hx; exact esR_one h
  · cases k with
    | zero =>
      simp at hl
      subst hl
      exact ⟨u, rfl, h.on ((Below.refl _ _).alloc (Nat.le_refl _) _)⟩
    | succ k => simp at hl
  · injection hg with hg
    subst hg
    exact absurd (hN _ e) (by simp)
/-- one row more -/
theorem SV.add {u v' : Value} {l : List Ent} {K : Nat → Prop} (h : SV w wk N v vals ls) (hu : EsR wk K u l) (hK : ∀ i, K i → v.ownBlock ≠ some i ∧ i < wk.heap.size) (hg : wk.grownBy w' v.ownBlock)
    (ho : w'.ownsRow w.heap.size 104 1 v' (vals.length + 1) (vals ++ [u])) (hv : v'.ownBlock = v.ownBlock ∨ v'.ownBlock = some wk.heap.size) :
    SV w w' (fun i => N i ∨ K i) v' (vals ++ [u]) (ls ++ [l]) := by
  have hc : Chg (fun i => v.ownBlock = some i) wk w' := Chg.of_grown hg (fun g hg => hg)
  refine ⟨by simpa using ho, by simp [h.len], fun x hx => ?_, fun k l' hl => ?_, fun g hg' e => ?_, fun i hi => Nat.lt_of_lt_of_le (hi.elim (h.nlt i) (fun e => (hK i e).2)) hc.size⟩
  · rcases List.mem_append.1 hx with h1 | h1
    · exact h.one x h1
    · simp at h1; subst h1; exact esR_one hu
  · by_cases hk : k < ls.length
    · rw [List.getElem?_append_left hk] at hl
      obtain ⟨x, h1, h2⟩ := h.rows k l' hl
      exact ⟨x, by rw [List.getElem?_append_left (by rw [h.len]; exact hk)]; exact h1, (h2.chg hc (fun i hi e => h.nv i e hi)).mono (fun i hi => .inl hi)⟩
    · have hk2 : k = ls.length := by
        have := (List.getElem?_eq_some_iff.1 hl).1
        simp at this
        omega
      subst hk2
      simp at hl
      subst hl
      exact ⟨u, by rw [← h.len]; simp, (hu.chg hc (fun i hi e => (hK i hi).1 e)).mono (fun i hi => .inr hi)⟩
  · rcases hv with hv | hv
    · rw [hv] at hg'
      exact e.elim (h.nv g hg') (fun e => (hK g e).1 hg')
    · rw [hv] at hg'
      injection hg' with hg'
      subst hg'
      rcases e with e | e
      · have := h.nlt _ e; omega
      · have := (hK _ e).2; omega
end
theorem geqS (a b : ByteArray) (w : World) : (binOp .geq 9 (.string a) (.string b)).run Tryz.prog w = .ok (.bool (!Op.bytesLess a.toList b.toList)) w := by
  rfl
theorem ents_info : (Tryz.prog.info? 104).map (fun i => (i.zero, i.size, i.bytes)) = some (some (.slice none 0 0), 1, 24) := by kernel_rfl
/-- all states since the last Sync, the safe one first -/
def PSt.states (s : PSt) : List (List Ent) := (List.range (s.deeds.length + 1)).map s.at_
theorem states_get {s : PSt} {k : Nat} (hk : k ≤ s.deeds.length) : s.states[k]? = some (s.at_ k) := by
  unfold PSt.states
  rw [List.getElem?_map, List.getElem?_range (by omega)]
  rfl
theorem states_length (s : PSt) : s.states.length = s.deeds.length + 1 := by simp [PSt.states]
theorem states_ext {s : PSt} {ls : List (List Ent)} (h1 : ls.length = s.deeds.length + 1) (h2 : ∀ k, k ≤ s.deeds.length → ls[k]? = some (s.at_ k)) : ls = s.states := by
  refine List.ext_getElem? fun k => ?_
  by_cases hk : k ≤ s.deeds.length
  · rw [h2 k hk, states_get hk]
  · rw [List.getElem?_eq_none (by omega), List.getElem?_eq_none (by rw [states_length]; omega)]
theorem states_push (s : PSt) (d : Dd) : (s.push d).states = s.states ++ [(s.push d).now] := by
  have hl : (s.push d).deeds.length = s.deeds.length + 1 := by simp [PSt.push]
  refine (states_ext (by rw [List.length_append, states_length, hl]; rfl) (fun k hk => ?_)).symm
  rw [hl] at hk
  by_cases e : k ≤ s.deeds.length
  · rw [List.getElem?_append_left (by rw [states_length]; omega), states_get e, PSt.at_push e]
  · have e2 : k = s.deeds.length + 1 := by omega
    subst e2
    rw [List.getElem?_append_right (by rw [states_length]; exact Nat.le_refl _), states_length, Nat.sub_self, PSt.at_push_all, PSt.push_now]
    rfl
theorem states_settle (s : PSt) (k : Nat) : (s.settle k).states = [(s.settle k).now] := rfl
theorem settle_now (s : PSt) (k : Nat) : (s.settle k).now = s.at_ k := rfl
/-- what a call makes of the states -/
theorem begins (s : PSt) (c : Call6) :
    (c.what = 5 ∧ (doP s c).2.2 = s.settle s.deeds.length) ∨ (c.what = 6 ∧ (doP s c).2.2 = s.settle (keepN c.keep s.deeds.length)) ∨
    (c.what ≠ 5 ∧ c.what ≠ 6 ∧ ((doP s c).2.2 = s ∨ ((doP s c).2.2.deeds.length = s.deeds.length + 1 ∧ (doP s c).2.2.states = s.states ++ [(doP s c).2.2.now]))) := by
  by_cases h5 : c.what = 5
  · refine .inl ⟨h5, ?_⟩
    unfold doP
    rw [if_neg (by omega), if_neg (by omega), if_neg (by omega), if_pos h5]
  · by_cases h6 : c.what = 6
    · refine .inr (.inl ⟨h6, ?_⟩)
      unfold doP
      rw [if_neg (by omega), if_neg (by omega), if_neg (by omega), if_neg h5, if_pos h6]
    · refine .inr (.inr ⟨h5, h6, ?_⟩)
      rcases doP_cases s c with h | ⟨h, _⟩ | ⟨h, _⟩ | ⟨h, _⟩ | ⟨k, _, _, _, h⟩
      · exact .inl h
      · rw [h]
        refine .inr ⟨by simp [PSt.made, PSt.push], ?_⟩
        exact states_push { s with last := s.last + 1 } _
      · rw [h]
        exact .inr ⟨by simp [PSt.push], states_push s _⟩
      · rw [h]
        exact .inr ⟨by simp [PSt.push], states_push s _⟩
      · rcases h with h | h
        · exact absurd h.1 h5
        · exact absurd h.1 h6
end Go.Proofs.YtboeiadfmknidaaGreat
