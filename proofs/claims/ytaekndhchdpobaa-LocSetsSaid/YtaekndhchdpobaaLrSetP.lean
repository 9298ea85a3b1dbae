
/-
  Layer 3: the document's set is a row: what it holds, against the program's map.
-/
import Derived.Test.YtaekndhchdpobaaLxOf
import Derived.Test.YtaekndhchdpobaaLxSetF
set_option linter.unusedVariables false
set_option linter.unusedSimpArgs false
namespace Go.Proofs.Ytaekndhchdpobaa
open Go.RowKit Go.Maps

/-- a place that is held, and what is laid there -/
abbrev One3 := Int × Int × Int
def kOf (x : One3) : Int × Int := (x.1, x.2.1)
def dropR (R : List One3) (s o : Int) : List One3 := R.filter (fun x => !decide (kOf x = (s, o)))

/-- the row holds what the map holds -/
structure SR (D : DataW Unit) (R : List One3) : Prop where
  nodup : (R.map kOf).Nodup
  bd : ∀ x ∈ R, (0 ≤ x.1 ∧ x.1 < 4294967296) ∧ (0 ≤ x.2.1 ∧ x.2.1 < 4294967296) ∧ 0 ≤ x.2.2 ∧ x.2.2 < 18446744073709551616
  has : ∀ s o : Int, 0 ≤ s → s < 4294967296 → 0 ≤ o → o < 4294967296 → (Maps.has D (kl s o) = true ↔ (s, o) ∈ R.map kOf)
  laid : ∀ x ∈ R, laid D x.1 x.2.1 = x.2.2
  size : Maps.size D = R.length

theorem SR.nil_ : SR (.map []) [] :=
  ⟨List.nodup_nil, fun x hx => by simp at hx, fun s o _ _ _ _ => ⟨fun h => (by cases h), fun h => (by simp at h)⟩, fun x hx => by simp at hx, rfl⟩

theorem laid_put_same {D : DataW Unit} (hD : IsMap D) (s o n : Int) : laid (D.put (kl s o) (.lit (.int .u64 n))) s o = n := by
  unfold laid
  rw [atKey_put_same hD (by unfold kl; trivial)]
theorem laid_put_other {D : DataW Unit} {s o s' o' : Int} (d : DataW Unit) (hne : kl s' o' ≠ kl s o) : laid (D.put (kl s o) d) s' o' = laid D s' o' := by
  unfold laid
  rw [atKey_put_other hne]
theorem laid_del_other {D : DataW Unit} {s o s' o' : Int} (hne : kl s' o' ≠ kl s o) : laid (D.del (kl s o)) s' o' = laid D s' o' := by
  unfold laid
  rw [atKey_del_other hne]

theorem kl_ne {s o s' o' : Int} (h0 : 0 ≤ s) (h1 : s < 4294967296) (h2 : 0 ≤ o) (h3 : o < 4294967296) (g0 : 0 ≤ s') (g1 : s' < 4294967296) (g2 : 0 ≤ o') (g3 : o' < 4294967296) (h : (s', o') ≠ (s, o)) : kl s' o' ≠ kl s o := fun e => by
  obtain ⟨rfl, rfl⟩ := kl_inj g0 g1 g2 g3 h0 h1 h2 h3 e
  exact h rfl

section
variable {D : DataW Unit} {R : List One3} {s o n : Int}
theorem SR.add (h : SR D R) (ht : Tidy D) (hD : IsMap D) (h0 : 0 ≤ s) (h1 : s < 4294967296) (h2 : 0 ≤ o) (h3 : o < 4294967296) (n0 : 0 ≤ n) (n1 : n < 18446744073709551616) (hh : Maps.has D (kl s o) = false) :
    SR (D.put (kl s o) (.lit (.int .u64 n))) (R ++ [(s, o, n)]) := by
  have hni : (s, o) ∉ R.map kOf := fun hm => by
    rw [(h.has s o h0 h1 h2 h3).2 hm] at hh
    cases hh
  refine ⟨?_, ?_, ?_, ?_, ?_⟩
  · rw [List.map_append, List.nodup_append]
    refine ⟨h.nodup, by simp, ?_⟩
    intro a ha b hb e
    simp only [List.map_cons, List.map_nil, List.mem_singleton] at hb
    subst hb
    subst e
    exact hni ha
  · intro x hx
    rcases List.mem_append.1 hx with hx | hx
    · exact h.bd x hx
    · obtain rfl := List.mem_singleton.1 hx
      exact ⟨⟨h0, h1⟩, ⟨h2, h3⟩, n0, n1⟩
  · intro s' o' g0 g1 g2 g3
    by_cases e : (s', o') = (s, o)
    · injection e with e1 e2
      subst e1
      subst e2
      rw [has_put_same hD (by unfold kl; trivial)]
      simp [kOf]
    · rw [has_put_other (kl_ne h0 h1 h2 h3 g0 g1 g2 g3 e), h.has s' o' g0 g1 g2 g3, List.map_append, List.mem_append]
      simp only [List.map_cons, List.map_nil, List.mem_singleton, kOf]
      exact ⟨Or.inl, fun hx => hx.resolve_right e⟩
  · intro x hx
    rcases List.mem_append.1 hx with hx | hx
    · obtain ⟨⟨b0, b1⟩, ⟨b2, b3⟩, _⟩ := h.bd x hx
      rw [laid_put_other _ (kl_ne h0 h1 h2 h3 b0 b1 b2 b3 (fun e => hni (e ▸ List.mem_map.2 ⟨x, hx, rfl⟩)))]
      exact h.laid x hx
    · obtain rfl := List.mem_singleton.1 hx
      exact laid_put_same hD s o n
  · rw [size_put ht, hh, h.size]
    simp

theorem mem_dropR {x : One3} : x ∈ dropR R s o ↔ x ∈ R ∧ kOf x ≠ (s, o) := by simp [dropR]
theorem length_dropR : ∀ {R : List One3}, (R.map kOf).Nodup → (s, o) ∈ R.map kOf → (dropR R s o).length + 1 = R.length
  | [], _, h => by simp at h
  | x :: r, hn, h => by
    rw [List.map_cons, List.nodup_cons] at hn
    by_cases e : kOf x = (s, o)
    · have hr : dropR r s o = r := List.filter_eq_self.2 (fun y hy => by
        have : kOf y ≠ (s, o) := fun e' => hn.1 (e ▸ e' ▸ List.mem_map.2 ⟨y, hy, rfl⟩)
        simp [this])
      unfold dropR at hr ⊢
      simp [List.filter_cons, e, hr]
    · have := length_dropR hn.2 ((List.mem_cons.1 (List.map_cons ▸ h)).resolve_left (fun e' => e e'.symm))
      unfold dropR at this ⊢
      simp [List.filter_cons, e]
      omega

theorem SR.drop (h : SR D R) (ht : Tidy D) (h0 : 0 ≤ s) (h1 : s < 4294967296) (h2 : 0 ≤ o) (h3 : o < 4294967296) (hh : Maps.has D (kl s o) = true) :
    SR (D.del (kl s o)) (dropR R s o) := by
  refine ⟨?_, ?_, ?_, ?_, ?_⟩
  · exact h.nodup.sublist (List.filter_sublist.map _)
  · exact fun x hx => h.bd x (mem_dropR.1 hx).1
  · intro s' o' g0 g1 g2 g3
    by_cases e : (s', o') = (s, o)
    · injection e with e1 e2
      subst e1
      subst e2
      rw [has_del_same]
      refine ⟨fun h => (by cases h), fun hm => ?_⟩
      obtain ⟨x, hx, e⟩ := List.mem_map.1 hm
      exact absurd e (mem_dropR.1 hx).2
    · rw [has_del_other (kl_ne h0 h1 h2 h3 g0 g1 g2 g3 e), h.has s' o' g0 g1 g2 g3]
      constructor
      · intro hm
        obtain ⟨x, hx, e'⟩ := List.mem_map.1 hm
        exact List.mem_map.2 ⟨x, mem_dropR.2 ⟨hx, fun e2 => e (e'.symm.trans e2)⟩, e'⟩
      · intro hm
        obtain ⟨x, hx, e'⟩ := List.mem_map.1 hm
        exact List.mem_map.2 ⟨x, (mem_dropR.1 hx).1, e'⟩
  · intro x hx
    obtain ⟨hx, hne⟩ := mem_dropR.1 hx
    obtain ⟨⟨b0, b1⟩, ⟨b2, b3⟩, _⟩ := h.bd x hx
    rw [laid_del_other (kl_ne h0 h1 h2 h3 b0 b1 b2 b3 hne)]
    exact h.laid x hx
  · have h4 := size_del (k := kl s o) ht
    have h5 := length_dropR h.nodup ((h.has s o h0 h1 h2 h3).1 hh)
    have h6 := h.size
    rw [hh] at h4
    simp only [if_true] at h4
    omega
end

/-- the row without its k-th -/
theorem cut_dropR {R : List One3} {k : Nat} {s o n : Int} (hn : (R.map kOf).Nodup) (hk : R[k]? = some (s, o, n)) : R.take k ++ R.drop (k + 1) = dropR R s o := by
  have hl : k < R.length := (List.getElem?_eq_some_iff.1 hk).1
  have he : R = R.take k ++ (s, o, n) :: R.drop (k + 1) := by
    have := List.take_append_drop k R
    rw [List.drop_eq_getElem_cons hl, (List.getElem?_eq_some_iff.1 hk).2] at this
    exact this.symm
  rw [he, List.map_append, List.map_cons, List.nodup_append, List.nodup_cons] at hn
  obtain ⟨_, ⟨h2, _⟩, h3⟩ := hn
  have f1 : (R.take k).filter (fun x => !decide (kOf x = (s, o))) = R.take k := List.filter_eq_self.2 (fun y hy => by
    have : kOf y ≠ (s, o) := fun e => h3 _ (List.mem_map.2 ⟨y, hy, rfl⟩) _ List.mem_cons_self e
    simp [this])
  have f2 : (R.drop (k + 1)).filter (fun x => !decide (kOf x = (s, o))) = R.drop (k + 1) := List.filter_eq_self.2 (fun y hy => by
    have : kOf y ≠ (s, o) := fun e => h2 (by show (s, o) ∈ _; rw [← e]; exact List.mem_map.2 ⟨y, hy, rfl⟩)
    simp [this])
  unfold dropR
  conv => rhs; rw [he]
  rw [List.filter_append, List.filter_cons, f1, f2]
  simp [kOf]

/-- laid in before the first that does not lie below it -/
def insL (x : Int × Int) (l : List (Int × Int)) : List (Int × Int) := l.takeWhile (fun y => decide (y.2 < x.2)) ++ x :: l.dropWhile (fun y => decide (y.2 < x.2))
theorem mem_insL {x y : Int × Int} {l : List (Int × Int)} : y ∈ insL x l ↔ y = x ∨ y ∈ l := by
  unfold insL
  have h := List.takeWhile_append_dropWhile (p := fun y : Int × Int => decide (y.2 < x.2)) (l := l)
  conv => rhs; rw [← h]
  simp only [List.mem_append, List.mem_cons]
  exact ⟨fun h => h.elim (fun h => Or.inr (Or.inl h)) (fun h => h.elim Or.inl (fun h => Or.inr (Or.inr h))), fun h => h.elim (fun h => Or.inr (Or.inl h)) (fun h => h.elim Or.inl (fun h => Or.inr (Or.inr h)))⟩
theorem asc_insL {x : Int × Int} : ∀ {l : List (Int × Int)}, Asc l → (∀ y ∈ l, y.1 = x.1) → x ∉ l → Asc (insL x l)
  | [], _, _, _ => by simp [insL, Asc]
  | y :: r, h, hs, hx => by
    unfold Asc at h
    rw [List.pairwise_cons] at h
    have hy := hs y List.mem_cons_self
    by_cases e : y.2 < x.2
    · have ih := asc_insL (x := x) h.2 (fun z hz => hs z (List.mem_cons_of_mem _ hz)) (fun hz => hx (List.mem_cons_of_mem _ hz))
      have hi : insL x (y :: r) = y :: insL x r := by simp [insL, List.takeWhile_cons, List.dropWhile_cons, e]
      rw [hi]
      unfold Asc
      rw [List.pairwise_cons]
      refine ⟨fun z hz => ?_, ih⟩
      rcases mem_insL.1 hz with rfl | hz
      · rw [ltL]
        simp [hy, e]
      · exact h.1 z hz
    · have hi : insL x (y :: r) = x :: y :: r := by simp [insL, List.takeWhile_cons, List.dropWhile_cons, e]
      rw [hi]
      unfold Asc
      rw [List.pairwise_cons]
      have hxy : ltOf cfL x y = true := by
        rw [ltL]
        have : x.2 ≠ y.2 := fun e' => hx (by
          have : x = y := Prod.ext hy.symm e'
          rw [this]; exact List.mem_cons_self)
        simp only [decide_eq_true_eq]
        omega
      refine ⟨fun z hz => ?_, List.pairwise_cons.2 h⟩
      rcases List.mem_cons.1 hz with rfl | hz
      · exact hxy
      · exact swoL.trans _ _ _ hxy (h.1 z hz)

/-- what the document's Of has gathered of the first places -/
structure OfR (R : List One3) (seg : Int) (j : Nat) (l : List (Int × Int)) : Prop where
  asc : Asc l
  mem : ∀ y : Int × Int, y ∈ l ↔ y.1 = seg ∧ y ∈ (R.take j).map kOf
  len : l.length ≤ j
theorem OfR.start (R : List One3) (seg : Int) : OfR R seg 0 [] := ⟨List.Pairwise.nil, fun y => by simp, Nat.le_refl _⟩
theorem take_next {R : List One3} {j : Nat} {x : One3} (hx : R[j]? = some x) : R.take (j + 1) = R.take j ++ [x] := by
  rw [List.take_add_one, hx]
  rfl
theorem OfR.pass {R : List One3} {seg : Int} {j : Nat} {l : List (Int × Int)} {x : One3} (h : OfR R seg j l) (hx : R[j]? = some x) (hs : x.1 ≠ seg) : OfR R seg (j + 1) l := by
  refine ⟨h.asc, fun y => ?_, by have := h.len; omega⟩
  rw [h.mem, take_next hx, List.map_append, List.mem_append]
  simp only [List.map_cons, List.map_nil, List.mem_singleton]
  exact ⟨fun h => ⟨h.1, Or.inl h.2⟩, fun h => ⟨h.1, h.2.resolve_right (fun e => hs (by rw [← h.1, e]; rfl))⟩⟩
theorem OfR.take {R : List One3} {seg : Int} {j : Nat} {l : List (Int × Int)} {x : One3} (h : OfR R seg j l) (hn : (R.map kOf).Nodup) (hx : R[j]? = some x) (hs : x.1 = seg) : OfR R seg (j + 1) (insL (kOf x) l) := by
  have hni : kOf x ∉ l := fun hm => by
    have hm := ((h.mem _).1 hm).2
    have hsub : (R.take (j + 1)).map kOf |>.Nodup := hn.sublist ((List.take_sublist _ _).map _)
    rw [take_next hx, List.map_append, List.nodup_append] at hsub
    exact hsub.2.2 _ hm _ (by simp) rfl
  refine ⟨asc_insL h.asc (fun y hy => by rw [((h.mem y).1 hy).1]; exact hs.symm) hni, fun y => ?_, ?_⟩
  · rw [mem_insL, h.mem, take_next hx, List.map_append, List.mem_append]
    simp only [List.map_cons, List.map_nil, List.mem_singleton]
    exact ⟨fun h => h.elim (fun e => ⟨by rw [e]; exact hs, Or.inr e⟩) (fun h => ⟨h.1, Or.inl h.2⟩), fun h => h.2.elim (fun h' => Or.inr ⟨h.1, h'⟩) Or.inl⟩
  · have h1 := h.len
    have h2 : (insL (kOf x) l).length = l.length + 1 := by
      have := congrArg List.length (List.takeWhile_append_dropWhile (p := fun y : Int × Int => decide (y.2 < (kOf x).2)) (l := l))
      unfold insL
      rw [List.length_append] at this ⊢
      rw [List.length_cons]
      omega
    omega
/-- both gather the same row -/
theorem of_same {D : DataW Unit} {R : List One3} {seg : Int} {l m : List (Int × Int)} (h : SR D R) (hl : OfL D seg l) (hm : OfR R seg R.length m) : l = m := by
  refine asc_ext hl.asc hm.asc (fun y => ?_)
  rw [hm.mem, List.take_length]
  constructor
  · intro hy
    obtain ⟨⟨b0, b1⟩, b2, b3⟩ := hl.bd y hy
    obtain ⟨e, hh⟩ := (hl.mem y.1 y.2 b0 b1 b2 b3).1 hy
    exact ⟨e, (h.has y.1 y.2 b0 b1 b2 b3).1 hh⟩
  · rintro ⟨e, hy⟩
    obtain ⟨x, hx, rfl⟩ := List.mem_map.1 hy
    obtain ⟨⟨b0, b1⟩, ⟨b2, b3⟩, _⟩ := h.bd x hx
    exact (hl.mem x.1 x.2.1 b0 b1 b2 b3).2 ⟨e, (h.has x.1 x.2.1 b0 b1 b2 b3).2 hy⟩
end Go.Proofs.Ytaekndhchdpobaa
