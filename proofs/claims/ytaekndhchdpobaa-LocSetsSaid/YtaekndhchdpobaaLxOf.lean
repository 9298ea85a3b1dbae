
/-
  Layer 3: slices of locs; the sort of locs by Compare; the contract of the set's Of and Copy.
-/
import Derived.Test.YtaekndhchdpobaaLxSetF
import Derived.Test.YtaekndhchdpobaaShelf3
import Derived.Shelf.SlSortFuncK.HeapSortK
set_option linter.unusedVariables false
set_option linter.unusedSimpArgs false
namespace Go.Proofs.Ytaekndhchdpobaa
open Go.RowKit Go.Maps Go.Shelf Go.Lib Go.Sort

/-- a loc's two cells -/
def encL (x : Int × Int) : List Value := [.int .u32 x.1, .int .u32 x.2]
/-- locs as cells -/
def lvs (l : List (Int × Int)) : List Value := l.flatMap encL
theorem lvs_length (l : List (Int × Int)) : (lvs l).length = l.length * 2 := by
  induction l with
  | nil => rfl
  | cons a r ih => simp [lvs, encL] at ih ⊢; omega
theorem lvs_append (l m : List (Int × Int)) : lvs (l ++ m) = lvs l ++ lvs m := by simp [lvs]
theorem lvs_one (l : List (Int × Int)) : ∀ u ∈ lvs l, u.oneCell' = true := by
  intro u hu
  simp only [lvs, List.mem_flatMap] at hu
  obtain ⟨x, _, hx⟩ := hu
  simp [encL] at hx
  rcases hx with rfl | rfl <;> rfl
theorem lvs_get : ∀ (l : List (Int × Int)) (j : Nat) (x : Int × Int), l[j]? = some x → (lvs l)[j * 2]? = some (.int .u32 x.1) ∧ (lvs l)[j * 2 + 1]? = some (.int .u32 x.2)
  | [], j, x, h => by simp at h
  | a :: r, 0, x, h => by
    simp at h
    subst h
    exact ⟨rfl, rfl⟩
  | a :: r, j + 1, x, h => by
    have := lvs_get r j x (by simpa using h)
    rw [show (j + 1) * 2 = j * 2 + 1 + 1 by omega]
    exact this
theorem lvs_get2 (l : List (Int × Int)) (t : Nat) (h : t < l.length * 2) : (lvs l)[t]? = some ((encL l.toArray[t / 2]!)[t % 2]!) := by
  have hj : t / 2 < l.length := by omega
  have hx : l[t / 2]? = some l[t / 2] := List.getElem?_eq_getElem hj
  have h2 := lvs_get l (t / 2) _ hx
  have ha : l.toArray[t / 2]! = l[t / 2] := by simp [hj]
  rw [ha]
  generalize l[t / 2] = x at h2
  rcases Nat.mod_two_eq_zero_or_one t with hm | hm
  · have e : t / 2 * 2 = t := by omega
    rw [e] at h2
    rw [hm, h2.1]
    rfl
  · have e : t / 2 * 2 + 1 = t := by omega
    rw [e] at h2
    rw [hm, h2.2]
    rfl

/-- The value v is a slice that reads as the locs l, and lies below block B. -/
def Ls (w : World) (B : Nat) (v : Value) (l : List (Int × Int)) : Prop := ∃ A c, v = .slice A l.length c ∧ l.length ≤ c ∧ Rd w B A (lvs l)
theorem Ls.none_ {w : World} {B : Nat} : Ls w B (.slice none 0 0) [] := ⟨none, 0, rfl, Nat.le_refl _, Rd.nil_⟩
theorem Ls.on {w w' : World} {v : Value} {l : List (Int × Int)} (h : Ls w w.heap.size v l) (hb : Below w.heap.size w w') : Ls w' w'.heap.size v l := by
  obtain ⟨A, c, rfl, hc, hr⟩ := h
  exact ⟨A, c, rfl, hc, (hr.below hb (Nat.le_refl _)).mono hb.size⟩

/-- how locs are compared -/
def cfL (x y : Int × Int) : Int := Lx.cmpL x.1 x.2 y.1 y.2
theorem ltL (x y : Int × Int) : ltOf cfL x y = decide (x.1 < y.1 ∨ (x.1 = y.1 ∧ x.2 < y.2)) := by
  unfold ltOf cfL Lx.cmpL Lx.cmpI
  rw [Bool.eq_iff_iff]
  simp only [decide_eq_true_eq]
  repeat' split
  all_goals omega
theorem swoL : SWO (ltOf cfL) where
  irrefl x := by rw [ltL]; simp
  trans x y z h1 h2 := by rw [ltL] at *; simp at *; omega
  ntrans x y z h1 h2 := by rw [ltL] at *; simp at *; omega
theorem totL (x y : Int × Int) (h1 : ltOf cfL x y = false) (h2 : ltOf cfL y x = false) : x = y := by
  rw [ltL] at h1 h2
  simp at h1 h2
  exact Prod.ext (by omega) (by omega)

theorem compare_lays (x y : Int × Int) (W : World) : Calls Try.prog 42 #[.agg #[.int .u32 x.1, .int .u32 x.2], .agg #[.int .u32 y.1, .int .u32 y.2]] W fun e w' => e = .returned (.int .i64 (cfL x y)) ∧ ∃ q os', w' = grow (W.drewN q) os' := by
  obtain ⟨s, o⟩ := x
  obtain ⟨s', o'⟩ := y
  have e0 : cfL (s, o) (s', o') = if s = s' then Lx.cmpI o o' else Lx.cmpI s s' := rfl
  rw [e0]
  clear e0
  simp only
  by_cases h : s = s'
  · have hn : (s != s') = false := by simp [h]
    rw [if_pos h]
    clear h
    go_enter Try.func42, Try.ntmps42
    go_wp2_with fail
    refine (cmp32_any _ _ _).mono ?_
    rintro e w1 ⟨rfl, rfl⟩
    go_wp2_with fail
    go_ret
    exact ⟨rfl, 0, _, by rw [alloc_eq_grow, alloc_eq_grow, grow_grow]; rfl⟩
  · have hn : (s != s') = true := by simp [h]
    rw [if_neg h]
    clear h
    go_enter Try.func42, Try.ntmps42
    go_wp2_with fail
    refine (cmp32_any _ _ _).mono ?_
    rintro e w1 ⟨rfl, rfl⟩
    go_wp2_with fail
    go_ret
    exact ⟨rfl, 0, _, by rw [alloc_eq_grow, alloc_eq_grow, grow_grow]; rfl⟩

theorem sort_grown (w : World) (g n : Nat) (d : Array (Int × Int)) (os : Array Obj) : w.grownBy (sortWorldK encL 2 w g 0 n d os) (some g) := by
  refine ⟨rfl, rfl, rfl, size_sortWorldK_c encL 2 w g 0 n d os, fun k hk hne => ?_⟩
  have hgk : g ≠ k := fun e => hne (by rw [e])
  show ((w.heap.modify g _) ++ os)[k]? = w.heap[k]?
  rw [Array.getElem?_append_left (by simpa using hk), Array.getElem?_modify, if_neg hgk]

/-- the sort of a row of the call's own -/
theorem sort_own (w : World) (base : Nat) (v : Value) (l : List (Int × Int)) (h : w.ownsRow base 31 2 v l.length (lvs l)) (hn : l.length < 1000000) :
    Calls Try.prog 41 #[v, .func (.func 42) #[] #[]] w fun e w' => e = .returned (.tuple #[]) ∧ Ls w' w'.heap.size v (l.mergeSort fun x y => !ltOf cfL y x) ∧ Below base w w' := by
  rcases h.2 with ⟨rfl, h0⟩ | ⟨g, cap, cur, rfl, hg, hb, hnc, hcm, hcs, hct⟩
  · have hl : l = [] := List.length_eq_zero_iff.1 h0
    subst hl
    have hc := AnyF.slices_SortFunc_none Try.sortL none 0 (.func (.func 42) #[] #[]) w
    refine Calls.mono hc ?_
    rintro e w' ⟨he, rfl⟩
    exact ⟨he, by simpa using Ls.none_, Below.refl _ _⟩
  · have hglt : g < w.heap.size := (Array.getElem?_eq_some_iff.1 hb).1
    have hcell : ∀ j, j < l.length * 2 → cur[j]? = (lvs l)[j]? := fun j hj => by
      rw [← hct, List.getElem?_take, if_pos hj]
      simp
    have hH : HoldsK encL 2 w g 0 l.toArray := by
      intro j hj
      rw [size_flatK] at hj
      simp only [List.size_toArray] at hj
      have h1 := hcell j hj
      rw [lvs_get2 l j hj] at h1
      refine ⟨?_, by simp [World.frozen?, hb]⟩
      rw [get_flatK encL 2 l.toArray j (by simpa using hj)]
      simp [World.cell?, hb, h1]
    have eg : ∀ args w, (callFunc 42 args).run Try.prog w = .ok (.enter 42 args) w := enters_of Try.func42 (by kernel_rfl) rfl
    have hcon := AnyQ.slices_SortFunc_total Try.sortL 2 Try.isAgg31 Try.sizeOf31 encL (fun _ => rfl) (fun x v hv => by simp [encL] at hv; rcases hv with rfl | rfl <;> rfl) cfL swoL 42 #[] g 0 cap l.toArray w eg (fun m os dk _ x y => compare_lays x y _) hH hglt (by simp; omega) totL
    rw [List.size_toArray] at hcon
    refine Calls.mono hcon ?_
    rintro e w' ⟨he, n, os, rfl⟩
    generalize hl' : l.mergeSort (fun x y => !ltOf cfL y x) = l' at *
    have hlen : l'.length = l.length := by rw [← hl']; exact List.length_mergeSort l
    have hH2 := holdsK_sortWorldK_c encL 2 w g 0 l.toArray l'.toArray n os hH hglt (by simp [hlen])
    have hgr := sort_grown w g n l'.toArray os
    refine ⟨he, ⟨_, cap, by rw [hlen], by omega, fun _ => ⟨g, 0, rfl, Nat.lt_of_lt_of_le hglt hgr.size, fun j u hu => ?_⟩⟩, ⟨hgr.os, hgr.tape, hgr.output, hgr.size, fun k hk => hgr.block k (by omega) (by simp; omega)⟩⟩
    have hj : j < l'.length * 2 := by
      rw [← lvs_length]
      exact (List.getElem?_eq_some_iff.1 hu).1
    have h1 := (hH2 j (by simpa using hj)).1
    rw [get_flatK encL 2 l'.toArray j (by simpa using hj)] at h1
    rw [lvs_get2 l' j hj] at hu
    injection hu with hu
    rw [h1, ← hu]
    rfl

/-- ascending, each once -/
def Asc (l : List (Int × Int)) : Prop := l.Pairwise (fun x y => ltOf cfL x y = true)
theorem asc_sort (l : List (Int × Int)) (h : l.Nodup) : Asc (l.mergeSort fun x y => !ltOf cfL y x) := by
  have hp := List.mergeSort_perm l (fun x y => !ltOf cfL y x)
  have hn : (l.mergeSort fun x y => !ltOf cfL y x).Nodup := hp.nodup_iff.2 h
  have hs := List.pairwise_mergeSort (le := fun x y => !ltOf cfL y x) (fun a b c h1 h2 => by
    simp only [ltL, Bool.not_eq_true', decide_eq_false_iff_not] at *
    omega) (fun a b => by
    simp only [ltL, Bool.or_eq_true, Bool.not_eq_true', decide_eq_false_iff_not]
    omega) l
  have h2 := hs.and hn
  refine h2.imp ?_
  rintro a b ⟨h1, h3⟩
  cases hc : ltOf cfL a b
  · exact absurd (totL a b hc (by simpa using h1)) h3
  · rfl
/-- two such that have the same are one -/
theorem asc_ext : ∀ {l m : List (Int × Int)}, Asc l → Asc m → (∀ x, x ∈ l ↔ x ∈ m) → l = m
  | [], [], _, _, _ => rfl
  | [], b :: m, _, _, h => by have := (h b).2 (List.mem_cons_self ..); cases this
  | a :: l, [], _, _, h => by have := (h a).1 (List.mem_cons_self ..); cases this
  | a :: l, b :: m, h1, h2, h => by
    obtain ⟨ha, k1'⟩ := List.pairwise_cons.1 h1
    obtain ⟨hb, k2'⟩ := List.pairwise_cons.1 h2
    have hab : a = b := by
      rcases List.mem_cons.1 ((h a).1 (List.mem_cons_self ..)) with e | hm
      · exact e
      rcases List.mem_cons.1 ((h b).2 (List.mem_cons_self ..)) with e | hl
      · exact e.symm
      have k1 := hb a hm
      have k2 := ha b hl
      have := swoL.trans _ _ _ k1 k2
      rw [swoL.irrefl] at this
      cases this
    subst hab
    congr 1
    refine asc_ext k1' k2' (fun x => ?_)
    have hx := h x
    simp only [List.mem_cons] at hx
    constructor
    · intro hl
      rcases hx.1 (Or.inr hl) with e | hm
      · subst e
        have := ha x hl
        rw [swoL.irrefl] at this
        cases this
      · exact hm
    · intro hm
      rcases hx.2 (Or.inr hm) with e | hl
      · subst e
        have := hb x hm
        rw [swoL.irrefl] at this
        cases this
      · exact hl

theorem loc_info : (Try.prog.info? 31).map (fun i => (i.zero, i.size, i.bytes)) = some (some (.agg #[.int .u32 0, .int .u32 0]), 2, 8) := by kernel_rfl
/-- what has been collected, while a map of locs is gone through -/
structure Coll (D : DataW Unit) (seg : Int) (left : Lit → Bool) (cnt : Nat) (acc : List (Int × Int)) : Prop where
  nodup : acc.Nodup
  bd : ∀ x ∈ acc, (0 ≤ x.1 ∧ x.1 < 4294967296) ∧ 0 ≤ x.2 ∧ x.2 < 4294967296
  mem : ∀ s o : Int, 0 ≤ s → s < 4294967296 → 0 ≤ o → o < 4294967296 → ((s, o) ∈ acc ↔ s = seg ∧ Maps.has D (kl s o) = true ∧ left (kl s o) = false)
  sub : ∀ k, left k = true → Maps.has D k = true
  size : acc.length + cnt ≤ Maps.size D
theorem Coll.start (D : DataW Unit) (seg : Int) : Coll D seg (Maps.has D) (Maps.size D) [] :=
  ⟨List.nodup_nil, by simp, fun s o _ _ _ _ => by simp, fun _ h => h, by simp⟩
section
variable {D : DataW Unit} {seg : Int} {left : Lit → Bool} {cnt cnt' : Nat} {acc : List (Int × Int)} {s o : Int}
theorem Coll.left_iff (h0 : 0 ≤ s) (h1 : s < 4294967296) (h2 : 0 ≤ o) (h3 : o < 4294967296) {s' o' : Int} (g0 : 0 ≤ s') (g1 : s' < 4294967296) (g2 : 0 ≤ o') (g3 : o' < 4294967296) :
    (left (kl s' o') && !(kl s' o').sameKey (kl s o)) = if s' = s ∧ o' = o then false else left (kl s' o') := by
  split
  · rename_i e
    obtain ⟨rfl, rfl⟩ := e
    rw [WideAt.sameKey_self (a := kl s' o') (by unfold kl; trivial)]
    simp
  · rename_i e
    rw [sameKey_ne (fun hk => e (kl_inj g0 g1 g2 g3 h0 h1 h2 h3 hk))]
    simp
theorem Coll.take (h : Coll D seg left cnt acc) (h0 : 0 ≤ s) (h1 : s < 4294967296) (h2 : 0 ≤ o) (h3 : o < 4294967296) (hl : left (kl s o) = true) (hs : s = seg) (hc : cnt' < cnt) :
    Coll D seg (fun z => left z && !z.sameKey (kl s o)) cnt' (acc ++ [(s, o)]) := by
  have hno : (s, o) ∉ acc := fun hm => by
    have := ((h.mem s o h0 h1 h2 h3).1 hm).2.2
    rw [hl] at this
    cases this
  refine ⟨?_, ?_, ?_, ?_, ?_⟩
  · rw [List.nodup_append]
    refine ⟨h.nodup, by simp, fun a ha b hb => ?_⟩
    simp at hb
    subst hb
    exact fun e => hno (e ▸ ha)
  · intro x hx
    rcases List.mem_append.1 hx with hx | hx
    · exact h.bd x hx
    · simp at hx
      subst hx
      exact ⟨⟨h0, h1⟩, h2, h3⟩
  · intro s' o' g0 g1 g2 g3
    rw [Coll.left_iff h0 h1 h2 h3 g0 g1 g2 g3, List.mem_append, h.mem s' o' g0 g1 g2 g3]
    by_cases e : s' = s ∧ o' = o
    · rw [if_pos e]
      obtain ⟨rfl, rfl⟩ := e
      have hh := h.sub _ hl
      simp [hh]
      exact hs
    · rw [if_neg e]
      simp only [List.mem_singleton, Prod.mk.injEq]
      constructor
      · rintro (h | h)
        · exact h
        · exact absurd h e
      · exact fun h => Or.inl h
  · intro k hk
    simp only [Bool.and_eq_true] at hk
    exact h.sub k hk.1
  · have := h.size
    simp
    omega
theorem Coll.pass (h : Coll D seg left cnt acc) (h0 : 0 ≤ s) (h1 : s < 4294967296) (h2 : 0 ≤ o) (h3 : o < 4294967296) (hs : s ≠ seg) (hc : cnt' < cnt) :
    Coll D seg (fun z => left z && !z.sameKey (kl s o)) cnt' acc := by
  refine ⟨h.nodup, h.bd, ?_, ?_, ?_⟩
  · intro s' o' g0 g1 g2 g3
    rw [Coll.left_iff h0 h1 h2 h3 g0 g1 g2 g3, h.mem s' o' g0 g1 g2 g3]
    by_cases e : s' = s ∧ o' = o
    · obtain ⟨rfl, rfl⟩ := e
      simp [hs]
    · rw [if_neg e]
  · intro k hk
    simp only [Bool.and_eq_true] at hk
    exact h.sub k hk.1
  · have := h.size
    omega
end
/-- the locs of a segment, as a set tells them -/
structure OfL (D : DataW Unit) (seg : Int) (l : List (Int × Int)) : Prop where
  asc : Asc l
  bd : ∀ x ∈ l, (0 ≤ x.1 ∧ x.1 < 4294967296) ∧ 0 ≤ x.2 ∧ x.2 < 4294967296
  mem : ∀ s o : Int, 0 ≤ s → s < 4294967296 → 0 ≤ o → o < 4294967296 → ((s, o) ∈ l ↔ s = seg ∧ Maps.has D (kl s o) = true)
  len : l.length ≤ Maps.size D
theorem Coll.done {D : DataW Unit} {seg : Int} {left : Lit → Bool} {cnt : Nat} {acc : List (Int × Int)} (h : Coll D seg left cnt acc) (hl : ∀ k, left k = false) : OfL D seg (acc.mergeSort fun x y => !ltOf cfL y x) := by
  have hp := List.mergeSort_perm acc (fun x y => !ltOf cfL y x)
  refine ⟨asc_sort acc h.nodup, fun x hx => h.bd x (hp.mem_iff.1 hx), fun s o g0 g1 g2 g3 => ?_, ?_⟩
  · rw [hp.mem_iff, h.mem s o g0 g1 g2 g3]
    simp [hl]
  · rw [List.length_mergeSort]
    have := h.size
    omega
end Go.Proofs.Ytaekndhchdpobaa
