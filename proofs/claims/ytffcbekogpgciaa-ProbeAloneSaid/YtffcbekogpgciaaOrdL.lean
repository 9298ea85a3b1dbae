
/-
  A region that draws its order, a condition S on the world held only UNTIL one operation t has come up: a load may be taken first if t waits for it (by a path of edges), though what comes behind t writes the loaded cell ('a.L, a.To = f(a.L), f(a.To)').
-/
import Derived.Deep.RegionHeld
import Derived.KernelRfl
set_option linter.unusedVariables false
set_option linter.unusedSimpArgs false
namespace Go.Proofs.Ytffcbekogpgciaa.OrdL
open Go

section
variable {P : Program} {ops : Array Oper} {Q : Exit → Act → World → Prop} {md : Region.Mode} {S : World → Prop} {t : Nat}

/-- whatever order is picked from here on; S holds behind every operation that comes up ahead of t -/
def wpL (P : Program) (md : Region.Mode) (ops : Array Oper) (Q : Exit → Act → World → Prop) (S : World → Prop) (t : Nat) : Nat → Array Bool → Act → World → Prop
  | 0, l, a, w => Region.ready md ops l = [] ∧ Q .normal a w
  | f + 1, l, a, w => (Region.ready md ops l = [] → Q .normal a w) ∧
    ∀ i ∈ Region.ready md ops l, wpOp P ops Q i (fun a' w' => ((l.setIfInBounds i true).getD t true = false → S w') ∧ wpL P md ops Q S t f (l.setIfInBounds i true) a' w') a w

theorem wpL_any : ∀ (f : Nat) (l : Array Bool) (a : Act) (w : World), wpL P md ops Q S t f l a w → wpAny P md ops Q f l a w
  | 0, _, _, _, h => h
  | f + 1, _, _, _, h => ⟨h.1, fun i hi => wpOp_mono (fun a' w' h' => wpL_any f _ a' w' h'.2) (h.2 i hi)⟩

/-- what has come up had all that it waits for come up -/
def Down (md : Region.Mode) (ops : Array Oper) (l : Array Bool) : Prop := ∀ j o, ops[j]? = some o → l.getD j false = true → ∀ e ∈ o.after, Region.binds md e = true → l.getD e.on false = true
def downB (md : Region.Mode) (ops : Array Oper) (l : Array Bool) : Bool :=
  (List.range ops.size).all fun j => match ops[j]? with
    | some o => !l.getD j false || o.after.all fun e => !Region.binds md e || l.getD e.on false
    | none => true
theorem down_of (l : Array Bool) (h : downB md ops l = true) : Down md ops l := by
  intro j o ho hl e he hb
  have hj : j < ops.size := (Array.getElem?_eq_some_iff.1 ho).1
  unfold downB at h
  rw [List.all_eq_true] at h
  have h1 := h j (List.mem_range.2 hj)
  simp only [ho, hl, Bool.not_true, Bool.false_or, Array.all_eq_true_iff_forall_mem] at h1
  have h2 := h1 e he
  simpa [hb] using h2
/-- a path of edges -/
def pathB (md : Region.Mode) (ops : Array Oper) : List Nat → Bool
  | a :: b :: r => (match ops[a]? with | some o => o.after.any (fun e => Region.binds md e && e.on == b) | none => false) && pathB md ops (b :: r)
  | _ => true
theorem edge_of {a b : Nat} (h : (match ops[a]? with | some o => o.after.any (fun e => Region.binds md e && e.on == b) | none => false) = true) : ∃ o, ops[a]? = some o ∧ ∃ e ∈ o.after, Region.binds md e = true ∧ e.on = b := by
  cases ho : ops[a]? with
  | none => rw [ho] at h; cases h
  | some o =>
    rw [ho] at h
    obtain ⟨e, he, hb⟩ := Array.any_eq_true'.1 h
    simp only [Bool.and_eq_true, beq_iff_eq] at hb
    exact ⟨o, rfl, e, he, hb.1, hb.2⟩
/-- ahead of the path's end nothing on the path has come up, nor may come up -/
theorem path_holds {l : Array Bool} (hd : Down md ops l) : ∀ (p : List Nat) (a i : Nat), pathB md ops (a :: (p ++ [i])) = true → l.getD i false = false → l.getD a false = false ∧ a ∉ Region.ready md ops l
  | [], a, i, hp, hi => by
    rw [List.nil_append] at hp
    unfold pathB at hp
    rw [Bool.and_eq_true] at hp
    obtain ⟨o, ho, e, he, hb, rfl⟩ := edge_of hp.1
    refine ⟨?_, fun hr => ?_⟩
    · cases hl : l.getD a false
      · rfl
      · rw [hd a o ho hl e he hb] at hi; cases hi
    · obtain ⟨_, o', ho', hall⟩ := mem_ready.1 hr
      rw [ho] at ho'
      injection ho' with ho'
      subst ho'
      rw [hall e he hb] at hi
      cases hi
  | b :: p, a, i, hp, hi => by
    rw [List.cons_append] at hp
    unfold pathB at hp
    rw [Bool.and_eq_true] at hp
    have hb' := (path_holds hd p b i hp.2 hi).1
    obtain ⟨o, ho, e, he, hb, rfl⟩ := edge_of hp.1
    refine ⟨?_, fun hr => ?_⟩
    · cases hl : l.getD a false
      · rfl
      · rw [hd a o ho hl e he hb] at hb'; cases hb'
    · obtain ⟨_, o', ho', hall⟩ := mem_ready.1 hr
      rw [ho] at ho'
      injection ho' with ho'
      subst ho'
      rw [hall e he hb] at hb'
      cases hb'
theorem down_set {l : Array Bool} (hd : Down md ops l) {j : Nat} (hj : j ∈ Region.ready md ops l) : Down md ops (l.setIfInBounds j true) := by
  obtain ⟨_, oj, hoj, hall⟩ := mem_ready.1 hj
  intro k o ho hl e he hb
  by_cases hkj : j = k
  · subst hkj
    rw [hoj] at ho
    injection ho with ho
    subst ho
    exact getD_set_true (hall e he hb)
  · rw [getD_set_ne false hkj] at hl
    exact getD_set_true (hd k o ho hl e he hb)

theorem wpL_first {i : Nat} {oi : Oper} {v : Value} (hi : ops[i]? = some oi) (hsel : ∀ (j : Nat) (o : Oper) cs b, ops[j]? = some o → o.op ≠ .select cs b)
    (hQ : ∀ c a w, Q (.panic c) (a.put oi.dst v) w → Q (.panic c) a w) (p : List Nat) (hp : pathB md ops (t :: (p ++ [i])) = true) (hti : i ≠ t) (htz : t < ops.size) :
    ∀ (f : Nat) (l : Array Bool) (a : Act) (w : World), l.size = ops.size → Down md ops l →
      (∀ j oj, ops[j]? = some oj → j ≠ i → l.getD j true = false → (∀ e ∈ oj.after, Region.binds md e = true → e.on ≠ i) → oi.apart ops oj = true) →
      i ∈ Region.ready md ops l → YieldsIf P ops S oi v a → S w →
      wpL P md ops Q S t f (l.setIfInBounds i true) (a.put oi.dst v) w → wpL P md ops Q S t (f + 1) l a w := by
  intro f
  induction f with
  | zero =>
    intro l a w _ _ _ hr hy hS H
    refine ⟨fun h => (by rw [h] at hr; cases hr), fun j hj => ?_⟩
    by_cases hji : j = i
    · subst hji; exact hy.wpOp hi hS ⟨fun _ => hS, H⟩
    · have := ready_mono hj hji
      rw [H.1] at this
      cases this
  | succ f ih =>
    intro l a w hsz hd hfree hr hy hS H
    refine ⟨fun h => (by rw [h] at hr; cases hr), fun j hj => ?_⟩
    by_cases hji : j = i
    · subst hji; exact hy.wpOp hi hS ⟨fun _ => hS, H⟩
    · have h1 := H.2 j (ready_mono hj hji)
      obtain ⟨hjun, oj, hoj, hall⟩ := mem_ready.1 hj
      have hil : l.getD i false = false := by
        have := (mem_ready.1 hr).1
        cases hh : l.getD i false
        · rfl
        · exfalso
          simp only [Array.getD_eq_getD_getElem?] at this hh
          cases hg : l[i]? with
          | none => rw [hg] at hh; cases hh
          | some b => rw [hg] at this hh; simp at this hh; rw [this] at hh; cases hh
      have htp := path_holds hd p t i hp hil
      have hjt : j ≠ t := fun e => htp.2 (e ▸ hj)
      have htl : ((l.setIfInBounds i true).setIfInBounds j true).getD t true = false := by
        rw [getD_set_ne true hjt, getD_set_ne true hti]
        have h0 := htp.1
        simp only [Array.getD_eq_getD_getElem?] at h0 ⊢
        have : t < l.size := by omega
        rw [Array.getElem?_eq_getElem this] at h0 ⊢
        simpa using h0
      have hnot : ∀ e ∈ oj.after, Region.binds md e = true → e.on ≠ i := fun e he hb heq => by
        have h1 := hall e he hb
        rw [heq, hil] at h1
        cases h1
      have h2 := wpOp_putIf hoj (hfree j oj hoj hji hjun hnot) (fun cs b => hsel i oi cs b hi) (fun cs b => hsel j oj cs b hoj) hQ hy h1
      have hfree' : ∀ k ok, ops[k]? = some ok → k ≠ i → (l.setIfInBounds j true).getD k true = false →
          (∀ e ∈ ok.after, Region.binds md e = true → e.on ≠ i) → oi.apart ops ok = true := fun k ok hk hki hun hno => by
        refine hfree k ok hk hki ?_ hno
        by_cases hjk : j = k
        · subst hjk; exact hjun
        · rw [getD_set_ne true hjk] at hun; exact hun
      refine wpOp_mono (fun a' w' h3 => ⟨fun _ => h3.2.1 htl, ih (l.setIfInBounds j true) a' w' (by simpa using hsz) (down_set hd hj) hfree' (ready_mono hr (Ne.symm hji)) h3.1 (h3.2.1 htl) ?_⟩) h2
      rw [Array.setIfInBounds_comm _ _ hji]
      exact h3.2.2

/-- take number i first: S holds, and t waits for it -/
theorem wpL_take {i : Nat} {oi : Oper} {v : Value} {f : Nat} {l : Array Bool} {a : Act} {w : World} (hi : ops[i]? = some oi) (p : List Nat) (hp : pathB md ops (t :: (p ++ [i])) = true) (hti : (i != t && decide (t < ops.size) && l.size == ops.size) = true) (hd : downB md ops l = true)
    (hs : Region.noSelect ops = true) (hf : Region.free md ops l i = true) (hr : (Region.ready md ops l).contains i = true)
    (hQ : ∀ c a w, Q (.panic c) (a.put oi.dst v) w → Q (.panic c) a w) (hy : YieldsIf P ops S oi v a) (hS : S w)
    (h : wpL P md ops Q S t f (l.setIfInBounds i true) (a.put oi.dst v) w) : wpL P md ops Q S t (f + 1) l a w := by
  simp only [Bool.and_eq_true, bne_iff_ne, decide_eq_true_eq, beq_iff_eq] at hti
  exact wpL_first hi (Region.noSelect_spec hs) hQ p hp hti.1.1 hti.1.2 f l a w hti.2 (down_of l hd) (Region.free_spec hi hf) (by simpa using hr) hy hS h
theorem wpL_done {l : Array Bool} {a : Act} {w : World} (hr : Region.ready md ops l = []) (h : Q .normal a w) : ∀ f, wpL P md ops Q S t f l a w
  | 0 => ⟨hr, h⟩
  | _ + 1 => ⟨fun _ => h, by rw [hr]; simp⟩
def AllL (P : Program) (md : Region.Mode) (ops : Array Oper) (Q : Exit → Act → World → Prop) (S : World → Prop) (t f : Nat) (l : Array Bool) (a : Act) (w : World) (rs : List Nat) : Prop :=
  ∀ i ∈ rs, wpOp P ops Q i (fun a' w' => ((l.setIfInBounds i true).getD t true = false → S w') ∧ wpL P md ops Q S t f (l.setIfInBounds i true) a' w') a w
theorem AllL.nil {f : Nat} {l : Array Bool} {a : Act} {w : World} : AllL P md ops Q S t f l a w [] := fun _ h => by cases h
theorem AllL.cons {f : Nat} {l : Array Bool} {a : Act} {w : World} {i : Nat} {o : Oper} {rs : List Nat} (ho : ops[i]? = some o)
    (h : ∀ K' : Act → World → Prop, Shut (∀ a w, ((l.setIfInBounds i true).getD t true = false → S w) → wpL P md ops Q S t f (l.setIfInBounds i true) a w → K' a w) → if Region.wanted o (yielded ops a.tmps) = true then Oper.wp P o a w K' Q else K' (a.put o.dst undef) w)
    (hs : AllL P md ops Q S t f l a w rs) : AllL P md ops Q S t f l a w (i :: rs) := fun j hj => by
  rcases List.mem_cons.1 hj with rfl | hj
  · exact wpOp_step ho (fun K' hK => h K' (fun a w hS hW => hK a w ⟨hS, hW⟩))
  · exact hs j hj
theorem wpL_ready {rs : List Nat} {f : Nat} {l : Array Bool} {a : Act} {w : World} (hr : Region.ready md ops l = rs) (hne : rs ≠ []) (h : AllL P md ops Q S t f l a w rs) : wpL P md ops Q S t (f + 1) l a w :=
  ⟨fun h0 => absurd (hr ▸ h0) hne, hr ▸ h⟩
theorem wpL_region {id : Nat} {a : Act} {w : World} (S : World → Prop) (t : Nat) (hm : P.follows .mixedOrders = true)
    (h : wpL P .any ops Q S t ops.size (Array.replicate ops.size false) a w.drew) : (Code.region id ops true).wp P Q a w :=
  wp_region_any hm (wpL_any _ _ _ _ h)
end
end Go.Proofs.Ytffcbekogpgciaa.OrdL
