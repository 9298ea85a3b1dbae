
/-
  Layer 14 (probe): Keys: new memory, in order.
-/
import Derived.Test.YtffcbekogpgciaaPrFit
import Derived.Test.YtffcbekogpgciaaPrTab
import Derived.Test.YtffcbekogpgciaaPrShelf
import Derived.Test.YtffcbekogpgciaaOrdR
import Derived.Test.YtffcbekogpgciaaStep
import Derived.RangeFuncWrites
set_option linter.unusedVariables false
set_option linter.unusedSimpArgs false
namespace Go.Proofs.Ytffcbekogpgciaa.Pr
open Go Go.RowKit Go.Shelf Go.Sort
attribute [local go_sem] Oper.semAt_some

/-- the slice at A reads as a key's bytes, out of a block of N, which may be written -/
def KeyW (w : World) (N : Nat → Prop) (A : Option Addr) (l : List UInt8) : Prop :=
  l ≠ [] → ∃ b o, A = some ⟨b, o, none⟩ ∧ N b ∧ (∀ j u, (bvs l)[j]? = some u → w.cell? ⟨b, o + j, none⟩ = some u) ∧ ∀ j, w.frozen? ⟨b, j, none⟩ = false
theorem KeyW.r {w : World} {N : Nat → Prop} {A : Option Addr} {l : List UInt8} (h : KeyW w N A l) : KeyR w N A l := fun hx => by
  obtain ⟨b, o, e, hb, hc, _⟩ := h hx
  exact ⟨b, o, e, hb, hc⟩
theorem KeyW.lt {w : World} {N : Nat → Prop} {b o : Nat} {l : List UInt8} (h : KeyW w N (some ⟨b, o, none⟩) l) (hl : l ≠ []) : b < w.heap.size := by
  obtain ⟨b', o', e, _, hc, _⟩ := h hl
  injection e with e
  injection e with e1 e2
  rw [e1]
  rcases l with _ | ⟨x, r⟩
  · exact absurd rfl hl
  · exact fblock_of_cell (hc 0 (bv x) rfl)
theorem KeyW.chg {M N N' : Nat → Prop} {w w' : World} {A : Option Addr} {l : List UInt8} (h : KeyW w N A l) (hc : Chg M w w') (hM : ∀ b o u, N b → w.cell? ⟨b, o, none⟩ = some u → ¬ M b) (hN : ∀ b, N b → b < w.heap.size → N' b) : KeyW w' N' A l := fun hx => by
  obtain ⟨b, o, e, hb, hcell, hf⟩ := h hx
  subst e
  have hlt := h.lt hx
  have hm : ¬ M b := by
    rcases l with _ | ⟨x, r⟩
    · exact absurd rfl hx
    · exact hM b _ _ hb (hcell 0 (bv x) rfl)
  exact ⟨b, o, rfl, hN b hb hlt, fun j u hu => (hc.cell (p := ⟨b, o + j, none⟩) hlt hm).trans (hcell j u hu), fun j => (hc.frozen (p := ⟨b, j, none⟩) hlt hm).trans (hf j)⟩
theorem cell_isCells {w : World} {b o : Nat} {u : Value} {ob : Obj} (h : w.cell? ⟨b, o, none⟩ = some u) (hb : w.heap[b]? = some ob) : ob.isCells = true := by
  cases ob <;> simp_all [World.cell?, Obj.isCells]

/-- Keys' loop: the copies made so far -/
structure KeysI (w W : World) (O B4 : Nat) (ks : List (List UInt8)) : Prop where
  row : ∃ (v : Value) (vs : List Value), W.heap[O]? = some (.cells #[v] 45 (0, 0)) ∧ W.ownsRow w.heap.size 30 1 v ks.length vs ∧ v.ownBlock ≠ some O ∧
    ∀ (i : Nat) (k : List UInt8), ks[i]? = some k → ∃ (A : Option Addr) (q : Nat), vs[i]? = some (Value.slice A k.length q) ∧ k.length ≤ q ∧ KeyW W (fun b => w.heap.size ≤ b ∧ b ≠ O ∧ v.ownBlock ≠ some b) A k
  below : Below w.heap.size w W
  size : B4 ≤ W.heap.size
/-- what is no cells turns -/
theorem KeysI.turn {w W W' : World} {O B4 : Nat} {ks : List (List UInt8)} {M : Nat → Prop} (h : KeysI w W O B4 ks) (hc : Chg M W W') (hM : ∀ i, M i → ∀ o, W.heap[i]? = some o → o.isCells = false) (hB : ∀ i, M i → w.heap.size ≤ i) : KeysI w W' O B4 ks := by
  obtain ⟨⟨v, vs, h1, h2, h3, h4⟩, h5, h6⟩ := h
  refine ⟨⟨v, vs, (hc.block O (Array.getElem?_eq_some_iff.1 h1).1 (fun c => by have := hM O c _ h1; simp [Obj.isCells] at this)).trans h1, hc.own h2 (fun g hg c => ?_), h3, fun i k hk => ?_⟩, h5.trans (hc.below h5.size hB), Nat.le_trans h6 hc.size⟩
  · rcases h2.2 with ⟨rfl, _⟩ | ⟨g', cap, cur, rfl, _, hcur, _⟩
    · cases hg
    · injection hg with hg
      subst hg
      have := hM _ c _ hcur
      simp [Obj.isCells] at this
  · obtain ⟨A, q, k1, k2, k3⟩ := h4 i k hk
    refine ⟨A, q, k1, k2, k3.chg hc (fun b o u hb hcell c => ?_) (fun b hb _ => hb)⟩
    obtain ⟨ob, hob⟩ : ∃ ob, W.heap[b]? = some ob := ⟨_, Array.getElem?_eq_getElem (fblock_of_cell hcell)⟩
    have h1 := cell_isCells hcell hob
    rw [hM b c _ hob] at h1
    cases h1
/-- one copy more: the row's value v', its block its own or new -/
theorem KeysI.add {w W W' : World} {O B4 : Nat} {ks : List (List UInt8)} {v v' : Value} {vs : List Value} {k : List UInt8} {A : Option Addr} {q : Nat}
    (hb : Below w.heap.size w W') (hs : B4 ≤ W'.heap.size) (h1 : W'.heap[O]? = some (.cells #[v'] 45 (0, 0))) (h2 : W'.ownsRow w.heap.size 30 1 v' (ks.length + 1) (vs ++ [.slice A k.length q])) (h3 : v'.ownBlock ≠ some O) (hl : vs.length = ks.length)
    (h4 : ∀ (i : Nat) (k : List UInt8), ks[i]? = some k → ∃ (A : Option Addr) (q : Nat), vs[i]? = some (Value.slice A k.length q) ∧ k.length ≤ q ∧ KeyW W' (fun b => w.heap.size ≤ b ∧ b ≠ O ∧ v'.ownBlock ≠ some b) A k)
    (hq : k.length ≤ q) (hk : KeyW W' (fun b => w.heap.size ≤ b ∧ b ≠ O ∧ v'.ownBlock ≠ some b) A k) : KeysI w W' O B4 (ks ++ [k]) := by
  refine ⟨⟨v', vs ++ [.slice A k.length q], h1, by rw [List.length_append]; exact h2, h3, fun i x hx => ?_⟩, hb, hs⟩
  rw [List.getElem?_append] at hx
  rw [List.getElem?_append]
  split at hx
  · rename_i hi
    rw [if_pos (by rw [hl]; exact hi)]
    exact h4 i x hx
  · rename_i hi
    rw [if_neg (by rw [hl]; exact hi)]
    obtain ⟨hi2, he⟩ := List.getElem?_eq_some_iff.1 hx
    simp at hi2
    have e0 : i - ks.length = 0 := by omega
    simp only [e0] at he
    have : k = x := by simpa using he
    subst this
    exact ⟨A, q, by rw [hl, e0]; rfl, hq, hk⟩

/-- a row of keys in memory, from block B on; its keys' bytes may be written -/
def KeysAt (w : World) (B : Nat) (A : Option Addr) (ks : List (List UInt8)) : Prop :=
  ∀ (i : Nat) (k : List UInt8), ks[i]? = some k → ∃ g, A = some ⟨g, 0, none⟩ ∧ B ≤ g ∧ g < w.heap.size ∧ ∃ (Ak : Option Addr) (q : Nat), w.cell? ⟨g, i, none⟩ = some (.slice Ak k.length q) ∧ k.length ≤ q ∧ KeyW w (fun b => B ≤ b ∧ b ≠ g) Ak k
theorem KeysAt.chg {M : Nat → Prop} {w w' : World} {B : Nat} {A : Option Addr} {ks : List (List UInt8)} (h : KeysAt w B A ks) (hc : Chg M w w') (hM : ∀ i, M i → B ≤ i → ∀ o, w.heap[i]? = some o → o.isCells = false) : KeysAt w' B A ks := fun i k hk => by
  obtain ⟨g, e, h1, h2, Ak, q, h3, h4, h5⟩ := h i k hk
  have hm : ∀ b o u, B ≤ b → w.cell? ⟨b, o, none⟩ = some u → ¬ M b := fun b o u hb hcell c => by
    obtain ⟨ob, hob⟩ : ∃ ob, w.heap[b]? = some ob := ⟨_, Array.getElem?_eq_getElem (fblock_of_cell hcell)⟩
    have h1 := cell_isCells hcell hob
    rw [hM b c hb _ hob] at h1
    cases h1
  exact ⟨g, e, h1, Nat.lt_of_lt_of_le h2 hc.size, Ak, q, (hc.cell (p := ⟨g, i, none⟩) h2 (hm _ _ _ h1 h3)).trans h3, h4, h5.chg hc (fun b o u hb hcell => hm b o u hb.1 hcell) (fun b hb _ => hb)⟩
theorem sortW_grown {α : Type} (enc : α → Value) [Inhabited α] (w : World) (g n : Nat) (d : Array α) (os : Array Obj) : w.grownBy (sortWorld enc w g 0 n d os) (some g) := by
  refine ⟨rfl, rfl, rfl, ?_, fun k hk hne => ?_⟩
  · show w.heap.size ≤ ((w.heap.modify g _) ++ os).size
    simp
  · have hgk : g ≠ k := fun e => hne (by rw [e])
    show ((w.heap.modify g _) ++ os)[k]? = w.heap[k]?
    rw [Array.getElem?_append_left (by simpa using hk), Array.getElem?_modify, if_neg hgk]
theorem kcmp_lays (v v' : Value) (l l' : List UInt8) (B B' : Nat) (w : World) (h : Bs w B v l) (h' : Bs w B' v' l') :
    Calls Try.prog 21 (#[v, v'] ++ #[]) w fun e w' => e = .returned (.int .i64 (Go.Lib.compareBytes l l')) ∧ ∃ q os', w' = grow (w.drewN q) os' :=
  (kcompare_b v v' l l' B B' w h h').mono fun e w' ⟨h1, h2⟩ => ⟨h1, 0, #[], by rw [grow_empty, ← h2]; rfl⟩
set_option maxHeartbeats 2000000 in
theorem sort_keys (w : World) (B g cap : Nat) (cur : Array Value) (ks : List (List UInt8)) (hne : ks ≠ []) (hd : ks.Nodup) (hn : ks.length < 1000000) (hcur : w.heap[g]? = some (.cells cur 30 (0, 0)))
    (hk : ∀ (i : Nat) (k : List UInt8), ks[i]? = some k → ∃ (A : Option Addr) (q : Nat), cur[i]? = some (Value.slice A k.length q) ∧ k.length ≤ q ∧ KeyW w (fun b => B ≤ b ∧ b ≠ g) A k) :
    Calls Try.prog 38 #[.slice (some ⟨g, 0, none⟩) ks.length cap, .func (.func 21) #[] #[]] w fun e w' => e = .returned (.tuple #[]) ∧ Chg (fun k => k = g) w w' ∧
      ∃ ks' : List (List UInt8), List.Perm ks' ks ∧ ks'.Pairwise kl ∧ ∀ (i : Nat) (k : List UInt8), ks'[i]? = some k → ∃ (A : Option Addr) (q : Nat), w'.cell? ⟨g, i, none⟩ = some (Value.slice A k.length q) ∧ k.length ≤ q ∧ KeyW w' (fun b => B ≤ b ∧ b ≠ g) A k := by
  have hglt : g < w.heap.size := (Array.getElem?_eq_some_iff.1 hcur).1
  obtain ⟨k0, hk0⟩ := List.exists_mem_of_ne_nil ks hne
  letI : Inhabited { k // k ∈ ks } := ⟨⟨k0, hk0⟩⟩
  have hex : ∀ x : { k // k ∈ ks }, ∃ v : Value, ∃ i : Nat, ks[i]? = some x.1 ∧ cur[i]? = some v ∧ ∃ (A : Option Addr) (q : Nat), v = .slice A x.1.length q ∧ x.1.length ≤ q ∧ KeyW w (fun b => B ≤ b ∧ b ≠ g) A x.1 := fun x => by
    obtain ⟨i, hi, he⟩ := List.mem_iff_getElem.1 x.2
    have hi' : ks[i]? = some x.1 := by rw [List.getElem?_eq_getElem hi, he]
    obtain ⟨A, q, h1, h2, h3⟩ := hk i x.1 hi'
    exact ⟨_, i, hi', h1, A, q, rfl, h2, h3⟩
  let enc : { k // k ∈ ks } → Value := fun x => (hex x).choose
  have henc : ∀ x, ∃ i : Nat, ks[i]? = some x.1 ∧ cur[i]? = some (enc x) ∧ ∃ (A : Option Addr) (q : Nat), enc x = .slice A x.1.length q ∧ x.1.length ≤ q ∧ KeyW w (fun b => B ≤ b ∧ b ≠ g) A x.1 := fun x => (hex x).choose_spec
  let cf : { k // k ∈ ks } → { k // k ∈ ks } → Int := fun x y => Go.Lib.compareBytes x.1 y.1
  have hlt : ∀ x y, ltOf cf x y = true ↔ kl x.1 y.1 := fun x y => by simp [ltOf, cf, kl]
  have hltf : ∀ x y, ltOf cf x y = false ↔ ¬ kl x.1 y.1 := fun x y => by rw [← hlt]; simp
  have hO : SWO (ltOf cf) := ⟨fun x => (hltf x x).2 (kl_irrefl _), fun x y z h1 h2 => (hlt x z).2 (kl_trans ((hlt x y).1 h1) ((hlt y z).1 h2)), fun x y z h1 h2 => (hltf x z).2 (kle_not (kle_trans (kl_not ((hltf y z).1 h2)) (kl_not ((hltf x y).1 h1))))⟩
  have hT : ∀ x y, ltOf cf x y = false → ltOf cf y x = false → x = y := fun x y h1 h2 => by
    rw [hltf] at h1 h2
    exact Subtype.ext (Classical.byContradiction fun c => (kl_total c).elim h1 h2)
  have hsz : ks.attach.toArray.size = ks.length := by simp
  have hget : ∀ j (hj : j < ks.length), ks.attach.toArray[j]! = ⟨ks[j], List.getElem_mem hj⟩ := fun j hj => by
    rw [getElem!_pos _ j (by rw [hsz]; exact hj)]
    simp
  have hH : Holds enc w g 0 ks.attach.toArray := fun j hj => by
    rw [hsz] at hj
    obtain ⟨i, h1, h2, _⟩ := henc ks.attach.toArray[j]!
    rw [hget j hj] at h1 h2 ⊢
    obtain ⟨hi, he⟩ := List.getElem?_eq_some_iff.1 h1
    have hpw := List.pairwise_iff_getElem.1 hd
    have hij : i = j := by
      rcases Nat.lt_trichotomy i j with h | h | h
      · exact absurd he (hpw i j hi hj h)
      · exact h
      · exact absurd he.symm (hpw j i hj hi h)
    subst hij
    exact ⟨by simp [World.cell?, hcur, h2], by simp [World.frozen?, hcur]⟩
  have hN : ∀ (m : Nat) (D : Array { k // k ∈ ks }) (os : Array Obj) (x : { k // k ∈ ks }), ∃ (A : Option Addr) (q : Nat), enc x = .slice A x.1.length q ∧ x.1.length ≤ q ∧ KeyW (sortWorld enc w g 0 m D os) (fun b => B ≤ b ∧ b ≠ g) A x.1 := fun m D os x => by
    obtain ⟨i, h1, h2, A, q, h3, h4, h5⟩ := henc x
    exact ⟨A, q, h3, h4, h5.chg (Chg.of_grown (sortW_grown enc w g m D os) (M := fun k => k = g) (fun k e => by injection e with e; exact e.symm)) (fun b o u hb _ c => hb.2 c) (fun b hb _ => hb)⟩
  have hcmp : CmpLays1 Try.prog 21 #[] enc cf g 0 ks.attach.toArray.size w := fun m os dk _ x y => by
    obtain ⟨A, q, e1, e2, e3⟩ := hN m dk os x
    obtain ⟨A', q', f1, f2, f3⟩ := hN m dk os y
    rw [e1, f1]
    exact kcmp_lays _ _ x.1 y.1 _ _ _ ⟨A, q, rfl, e2, e3.r.rd⟩ ⟨A', q', rfl, f2, f3.r.rd⟩
  have eg : ∀ args w, (callFunc 21 args).run Try.prog w = .ok (.enter 21 args) w := enters_of Try.func21 (by kernel_rfl) rfl
  have hone : OneCell enc := fun x => by
    obtain ⟨i, h1, h2, A, q, h3, _⟩ := henc x
    rw [h3]; rfl
  have hcon := Any.slices_SortFunc_total Try.sortB enc hone cf hO 21 #[] g 0 cap ks.attach.toArray w eg hcmp hH hglt (by rw [hsz]; omega) hT
  rw [hsz] at hcon
  refine Calls.mono hcon ?_
  rintro e w' ⟨he, n, os, rfl⟩
  have hperm : List.Perm (ks.attach.mergeSort fun x y => !ltOf cf y x) ks.attach := List.mergeSort_perm _ _
  have hsorted : (ks.attach.mergeSort fun x y => !ltOf cf y x).Pairwise (fun x y => (!ltOf cf y x) = true) := List.pairwise_mergeSort (le := fun x y => !ltOf cf y x) (fun a b c h1 h2 => by
    simp only [Bool.not_eq_true'] at h1 h2 ⊢
    exact hO.ntrans _ _ _ h2 h1) (fun a b => by
    simp only [Bool.or_eq_true, Bool.not_eq_true']
    cases hh : ltOf cf b a
    · exact .inl rfl
    · exact .inr ((hltf a b).2 (kl_asymm ((hlt b a).1 hh)))) ks.attach
  have hlist : ks.attach.toArray.toList = ks.attach := rfl
  rw [hlist]
  generalize (ks.attach.mergeSort fun x y => !ltOf cf y x) = ds at *
  have hgr := sortW_grown enc w g n ds.toArray os
  have hlen : ds.length = ks.length := by rw [hperm.length_eq]; simp
  have hH2 := holds_sortWorld enc w g 0 n ks.attach.toArray ds.toArray os hglt hH (by simp [hlen])
  have hpm : List.Perm (ds.map (·.1)) ks := by
    have := hperm.map (·.1)
    rwa [List.attach_map_subtype_val] at this
  have hnd : (ds.map (·.1)).Nodup := (hpm.nodup_iff).2 hd
  refine ⟨he, Chg.of_grown hgr (fun k e => by injection e with e; exact e.symm), ds.map (·.1), hpm, ?_, fun i k hi => ?_⟩
  · rw [List.pairwise_map]
    have h2 : ds.Pairwise (fun x y => x.1 ≠ y.1) := by
      unfold List.Nodup at hnd
      rwa [List.pairwise_map] at hnd
    refine (hsorted.and h2).imp ?_
    rintro x y ⟨h3, h4⟩
    simp only [Bool.not_eq_true'] at h3
    exact kle_ne (kl_not ((hltf y x).1 h3)) h4
  · rw [List.getElem?_map] at hi
    obtain ⟨x, hx, rfl⟩ := Option.map_eq_some_iff.1 hi
    obtain ⟨hil, hxe⟩ := List.getElem?_eq_some_iff.1 hx
    have h1 := (hH2 i (by simpa using hil)).1
    rw [getElem!_pos _ i (by simpa using hil)] at h1
    obtain ⟨A, q, e1, e2, e3⟩ := hN n ds.toArray os x
    refine ⟨A, q, ?_, e2, e3⟩
    rw [← e1, ← hxe]
    simpa using h1

theorem sort_row (w : World) (B : Nat) (v : Value) (vs : List Value) (ks : List (List UInt8)) (ho : w.ownsRow B 30 1 v ks.length vs) (hd : ks.Nodup) (hn : ks.length < 1000000)
    (hk : ∀ (i : Nat) (k : List UInt8), ks[i]? = some k → ∃ (A : Option Addr) (q : Nat), vs[i]? = some (Value.slice A k.length q) ∧ k.length ≤ q ∧ KeyW w (fun b => B ≤ b ∧ v.ownBlock ≠ some b) A k) :
    Calls Try.prog 38 #[v, .func (.func 21) #[] #[]] w fun e w' => e = .returned (.tuple #[]) ∧ Chg (fun b => v.ownBlock = some b) w w' ∧
      ∃ (A : Option Addr) (cap : Nat) (ks' : List (List UInt8)), v = .slice A ks.length cap ∧ ks.length ≤ cap ∧ List.Perm ks' ks ∧ ks'.Pairwise kl ∧ KeysAt w' B A ks' := by
  have hnone := fun (p : Option Addr) (cap : Nat) => AnyF.slices_SortFunc_none (P := Try.prog) (ρ := Try.sortB_ren) { Try.sortB with } p cap (.func (.func 21) #[] #[]) w
  change ∀ p cap, Calls Try.prog 38 _ _ _ at hnone
  rcases ks with _ | ⟨k0, kr⟩
  · rcases ho.2 with ⟨rfl, _⟩ | ⟨g, cap, cur, rfl, hg, hcur, hnc, hcm, hcs, hct⟩
    · refine (hnone none 0).mono ?_
      rintro e w' ⟨rfl, rfl⟩
      exact ⟨rfl, Chg.refl, none, 0, [], rfl, Nat.le_refl _, List.Perm.refl _, List.Pairwise.nil, fun i k h => by simp at h⟩
    · refine (hnone _ cap).mono ?_
      rintro e w' ⟨rfl, rfl⟩
      exact ⟨rfl, Chg.refl, _, cap, [], rfl, hnc, List.Perm.refl _, List.Pairwise.nil, fun i k h => by simp at h⟩
  · rcases ho.2 with ⟨_, h0⟩ | ⟨g, cap, cur, rfl, hg, hcur, hnc, hcm, hcs, hct⟩
    · simp at h0
    · have hglt : g < w.heap.size := (Array.getElem?_eq_some_iff.1 hcur).1
      refine (sort_keys w B g cap cur (k0 :: kr) (by simp) hd hn hcur (fun i k hi => ?_)).mono ?_
      · obtain ⟨A, q, h1, h2, h3⟩ := hk i k hi
        refine ⟨A, q, ?_, h2, fun hx => ?_⟩
        · have hil := (List.getElem?_eq_some_iff.1 hi).1
          rw [← hct, List.getElem?_take, if_pos (by omega)] at h1
          simpa using h1
        · obtain ⟨b, o, e1, ⟨e2, e3⟩, e4⟩ := h3 hx
          exact ⟨b, o, e1, ⟨e2, fun e => e3 (by subst e; rfl)⟩, e4⟩
      · rintro e w' ⟨rfl, hc, ks', hp, hs, hks⟩
        refine ⟨rfl, hc.mono (fun i e => by rw [e]; rfl), _, cap, ks', rfl, hnc, hp, hs, fun i k hi => ?_⟩
        obtain ⟨A, q, h1, h2, h3⟩ := hks i k hi
        exact ⟨g, rfl, hg, Nat.lt_of_lt_of_le hglt hc.size, A, q, h1, h2, h3⟩

/-- an append as one step of a region that draws its order: what it leaves is told by the block -/
theorem step_append_grown {P : Program} (w : World) {ops : Array Oper} {o : Oper} {a : Act} {K : Act → World → Prop} {Q : Exit → Act → World → Prop} {E : Prop} (hgd : o.guard = none) (s x : Operand) (t : TypeId)
    (ho : o.op = .call { callee := .builtin .append, args := #[s, x], argTypes := #[t, t] })
    (base : Nat) (e : TypeId) (i : TypeInfo) (z : Value) (size bytes : Nat) (ht : P.underlying t = some (.slice e)) (hi : P.info? e = some i) (hz : i.zero = some z)
    (hsize : i.size = size) (hby : i.bytes = bytes) (hzs : z.cells.size = size) (hsz : 0 < size)
    (v : Value) (n : Nat) (xs : List Value) (hs : a.eval s = v) (hown : w.ownsRow base e size v n xs)
    (B : Nat) (A : Option Addr) (m c : Nat) (news : List Value) (hx : a.eval x = .slice A m c) (hl : news.length = m * size) (hr : Rd w B A news) (h1 : ∀ u ∈ news, u.oneCell' = true)
    (h63 : n + m ≤ maxLen) (hbytes : (n + m) * bytes ≤ 140737488355328) (hbase : base ≤ w.heap.size)
    (h : ∀ v' w', w'.ownsRow base e size v' (n + m) (xs ++ news) → w.grownBy w' v.ownBlock → (v'.ownBlock = v.ownBlock ∨ v'.ownBlock = some w.heap.size) → K (a.put o.dst v') w') :
    if Region.wanted o (yielded ops a.tmps) = true then Oper.wp P o a w K Q else E := by
  have hw : Region.wanted o (yielded ops a.tmps) = true := by simp [Region.wanted, hgd]
  rw [if_pos hw]
  exact wp_append_rd w s x t ho base e i z size bytes ht hi hz hsize hby hzs hsz v n xs hs hown B A m c news hx hl hr h1 h63 hbytes hbase fun v' w' h2 h3 h4 => h v' w' h2 h3 h4

theorem own_ty {w : World} {b n size : Nat} {e : TypeId} {v : Value} {xs : List Value} (h : w.ownsRow b e size v n xs) (g : Nat) (hg : v.ownBlock = some g) : ∃ arr z, w.heap[g]? = some (.cells arr e z) := by
  rcases h.2 with ⟨rfl, _⟩ | ⟨g', cap, cur, rfl, _, hcur, _⟩
  · cases hg
  · injection hg with hg
    subst hg
    exact ⟨cur, _, hcur⟩
theorem bytesl_info : (Try.prog.info? 30).map (fun i => (i.zero, i.size, i.bytes)) = some (some (.slice none 0 0), 1, 24) := by kernel_rfl
theorem run_make_rows (c : Nat) (hc : c ≤ 1000000000) (w : World) :
    (Instr.makeSlice 45 (.int .i64 0) (.int .i64 (c : Int))).run Try.prog w = .ok (.slice (some ⟨w.heap.size, 0, none⟩) 0 c) (w.alloc (.cells (madeCells #[.slice none 0 0] c) 30)) := by
  obtain ⟨i0, hi0, hz0, hz1, hz2⟩ := info_parts bytesl_info
  have := run_make (P := Try.prog) w 45 30 i0 _ Try.underlying45 hi0 hz0 .i64 .i64 (0 : Int) (c : Int) (by omega) (by omega) (by rw [hz2]; omega) (by omega)
  rw [hz1] at this
  simpa [Value.cells] using this
set_option maxRecDepth 100000 in
set_option maxHeartbeats 8000000 in
theorem keys_b (T S c : Nat) (R : Nat → Prop) (seed keys : Nat) (sl : List (Option E)) (w : World) (h : TabAt w T S c R seed keys sl) (hn9 : sl.length < 200000000) (hk : keys < 1000000) (hkn : (kn sl).length = keys)
    (hd : ((kn sl).map (·.1)).Nodup) (hkl : ∀ (i : Nat) (e : E), sl[i]? = some (some e) → 0 < e.key.length ∧ e.key.length ≤ 64) :
    Calls Try.prog 18 #[.pointer (some ⟨T, 0, none⟩)] w fun e w' => ∃ (A : Option Addr) (cap : Nat) (ks : List (List UInt8)), e = .returned (.slice A keys cap) ∧ keys ≤ cap ∧ List.Perm ks ((kn sl).map (·.1)) ∧ ks.Pairwise kl ∧ KeysAt w' w.heap.size A ks ∧ Below w.heap.size w w' := by
  obtain ⟨iB, hiB, hzB0, hzB1, hzB2⟩ := info_parts bytesl_info
  have HT := Lib.hid h
  have HKl := Lib.hid hkl
  have HKn := Lib.hid hkn
  have HDu := Lib.hid hd
  have hTlt := h.cells.lt
  have hSlt := h.slots.lt
  obtain ⟨arr, u, ek, Ak, ck, htold⟩ := h.slots.told
  have HTold := Lib.hid htold
  have t1 := h.cells.c1
  have t2 := h.cells.c2
  clear h hkl hkn hd htold
  have hmk := run_make_rows keys (by omega)
  refine (callsIn_wide (n := 5)).1 ?_
  refine callsIn_of_wp_marks Try.func18 rfl trivial ?_ rfl
  simp only [Try.ntmps18, List.size_toArray, List.length_cons, List.length_nil, Nat.reduceAdd, Nat.reduceSub, Array.replicate_succ, Array.replicate_zero, List.push_toArray, List.append_toArray, List.nil_append, List.cons_append]
  refine wpIn_wide.2 ?_
  go_wp2_with fail
  refine (made_yes T S c _ _ _ _ HT.out.cells).mono ?_
  rintro e w1 ⟨rfl, rfl⟩
  obtain ⟨W1, hW1⟩ : ∃ W1, w.alloc (.cells (madeCells #[.slice none 0 0] keys) 30) = W1 := ⟨_, rfl⟩
  obtain ⟨G0, hG0⟩ : ∃ G0, w.heap.size = G0 := ⟨_, rfl⟩
  obtain ⟨W2, hW2⟩ : ∃ W2, W1.alloc (.cells #[.slice (some ⟨G0, 0, none⟩) 0 keys] 45) = W2 := ⟨_, rfl⟩
  obtain ⟨O, hO⟩ : ∃ O, W1.heap.size = O := ⟨_, rfl⟩
  have hb1 : Below w.heap.size w W1 := by rw [← hW1]; exact (Below.refl _ _).alloc (Nat.le_refl _) _
  have hb2 : Below W1.heap.size W1 W2 := by rw [← hW2]; exact (Below.refl _ _).alloc (Nat.le_refl _) _
  have HB2 := Lib.hid (hb1.trans (hb2.mono hb1.size))
  have hrow1 : W1.heap[G0]? = some (.cells (madeCells #[.slice none 0 0] keys) 30 (0, 0)) := by rw [← hW1, ← hG0]; exact heap_alloc_new _ _
  have HBoxO : Hid (W2.heap[O]? = some (.cells #[.slice (some ⟨G0, 0, none⟩) 0 keys] 45 (0, 0))) := Lib.hid (by rw [← hW2, ← hO]; exact heap_alloc_new _ _)
  have HGO : Hid (w.heap.size = G0 ∧ G0 < O ∧ O < W2.heap.size) := Lib.hid ⟨hG0, by rw [← hO]; exact (Array.getElem?_eq_some_iff.1 hrow1).1, (Array.getElem?_eq_some_iff.1 HBoxO.out).1⟩
  have HI0 : Hid (KeysI w W2 O 0 []) := Lib.hid ⟨⟨_, [], HBoxO.out, ⟨rfl, .inr ⟨G0, keys, _, rfl, by omega, (hb2.block G0 (Array.getElem?_eq_some_iff.1 hrow1).1).trans hrow1, Nat.zero_le _, by unfold maxLen; omega, by rw [size_madeCells, Nat.mul_one], rfl⟩⟩, by
      intro e
      injection e with e
      have := HGO.out
      simp only at e
      omega, fun i k hk => by simp at hk⟩, HB2.out, Nat.zero_le _⟩
  have HT2 := Lib.hid (HT.out.on HB2.out)
  have s1 := HT2.out.cells.c1
  clear hb1 hb2 hrow1
  go_wp2_with fail
  refine (standing_b _ _ _ _).mono ?_
  rintro e w4 ⟨rfl, hw4⟩
  obtain ⟨Bx, hBx⟩ : ∃ Bx, W2.heap.size = Bx := ⟨_, rfl⟩
  rw [hBx]
  have hb4 : Below W2.heap.size W2 w4 := by rw [hw4]; exact (Below.refl _ _).alloc (Nat.le_refl _) _
  have HBox4 : Hid (w4.heap[Bx]? = some (.cells #[.slice (some ⟨S, 0, none⟩) sl.length c] 41 (0, 0))) := Lib.hid (by rw [hw4, ← hBx]; exact heap_alloc_new _ _)
  have HI4 : Hid (KeysI w w4 O w4.heap.size []) := Lib.hid (by
    have := HI0.out.turn (M := fun _ => False) (Chg.of_below hb4) (fun _ e => e.elim) (fun _ e => e.elim)
    exact ⟨this.row, this.below, Nat.le_refl _⟩)
  have HBx4 : Hid (O < Bx ∧ Bx < w4.heap.size) := Lib.hid ⟨by rw [← hBx]; exact HGO.out.2.2, (Array.getElem?_eq_some_iff.1 HBox4.out).1⟩
  clear hw4 hb4 hBx hW1 hW2 hO hG0 hmk s1 t1 t2
  go_wp2_with fail
  have hencx : ∀ x : Ix u sl.length, encI (fun i => .bool (u i)) (fun i => if u i then .slice (Ak i) (ek i).key.length (ck i) else .slice none 0 0) (fun i => if u i then .int .u64 ((ek i).n : Int) else .int .u64 0) (fun i => if u i then .int .i64 ((ek i).far : Int) else .int .i64 0) x = #[(.agg #[.bool true, .slice (Ak x.1) (ek x.1).key.length (ck x.1), .int .u64 ((ek x.1).n : Int), .int .i64 ((ek x.1).far : Int)])] := fun x => by
    simp [encI, x.2.2]
  have HEncX := Lib.hid hencx
  clear hencx
  have HUl : Hid ((usedIx u sl.length).length = keys) := Lib.hid (by rw [← List.length_map (f := fun i => ((ek i).key, (ek i).n)), HTold.out.pairs]; exact HKn.out)
  have hw04 : w.heap.size ≤ w4.heap.size := HI4.out.below.size
  have HS4 : Hid (S < w.heap.size ∧ w4.heap[S]? = some (.cells arr 49 (0, 0))) := Lib.hid ⟨hSlt, (HI4.out.below.block S hSlt).trans HTold.out.row⟩
  refine (wpIn_wide (n := 5)).1 ?_
  refine wpIn_rangeFunc_ownH rfl (by omega) (gf := 48) (lb := #[.pointer (some ⟨Bx, 0, none⟩)]) rfl trivial (enters_of Try.func48 (by kernel_rfl) rfl)
    (encs := fun x : Ix u sl.length => encI (fun i => .bool (u i)) (fun i => if u i then .slice (Ak i) (ek i).key.length (ck i) else .slice none 0 0) (fun i => if u i then .int .u64 ((ek i).n : Int) else .int .u64 0) (fun i => if u i then .int .i64 ((ek i).far : Int) else .int .i64 0) x)
    (Kp := KpS Bx S) (S := fun xs => xs.map Ix.num = usedIx u sl.length) (Sp := fun _ => True) (N := (usedIx u sl.length).length) (w0 := w4) ?hseq
    (fun h k => h.trans k) (fun W l o o' hl h hc hw => KpS.turn l o o' h hc) (Below.refl _ _) (fun x => rfl)
    (fun pre W => KeysI w W O w4.heap.size (pre.map fun x : Ix u sl.length => (ek x.1).key) ∧ W.heap[Bx]? = some (.cells #[.slice (some ⟨S, 0, none⟩) sl.length c] 41 (0, 0))) (fun _ _ _ => False)
    (fun pre A B row hs hg hr => ⟨hs.1.turn (Chg.of_grown hg (M := fun i => row = some i) (fun g e => e)) (fun i e o ho => by obtain ⟨_, o', ho', hc⟩ := hr i e; rw [ho] at ho'; injection ho' with ho'; rw [ho']; exact hc) (fun i e => by have := (hr i e).1; omega),
      (hg.block Bx (Array.getElem?_eq_some_iff.1 hs.2).1 (fun e => by obtain ⟨_, o', ho', hc⟩ := hr Bx e.symm; rw [hs.2] at ho'; injection ho' with ho'; rw [← ho'] at hc; simp [Obj.isCells] at hc)).trans hs.2⟩) (fun _ _ _ _ _ hs _ _ => hs) ⟨HI4.out, HBox4.out⟩
    (fun x a' W => ∃ G, w4.heap.size ≤ G ∧ Box4 W G (.bool true) (.slice (Ak x.1) (ek x.1).key.length (ck x.1)) (.int .u64 ((ek x.1).n : Int)) (.int .i64 ((ek x.1).far : Int)) ∧ a' = { tmps := #[.pointer (some ⟨T, 0, none⟩), undef, .slice none 0 0, .pointer (some ⟨O, 0, none⟩), .pointer (some ⟨G, 0, none⟩), .pointer (some ⟨T, 0, none⟩), .bool true, .bool false, .pointer (some ⟨T, 0, none⟩), .pointer (some ⟨T, 0, none⟩), .pointer (some ⟨T, 2, none⟩), .int .i64 (keys : Int), .slice (some ⟨G0, 0, none⟩) 0 keys, .pointer (some ⟨T, 0, none⟩), .pointer (some ⟨T, 0, none⟩), .pointer (some ⟨T, 1, none⟩), .slice (some ⟨S, 0, none⟩) sl.length c, .func (.func 48) #[] #[.pointer (some ⟨Bx, 0, none⟩)], (.agg #[.bool true, .slice (Ak x.1) (ek x.1).key.length (ck x.1), .int .u64 ((ek x.1).n : Int), .int .i64 ((ek x.1).far : Int)]), undef, undef, undef, undef, undef, undef, undef, undef, undef], defers := [] })
    (fun x a' _ A B row hs hg hr => by
      obtain ⟨G, h1, h2, h3⟩ := hs
      refine ⟨G, h1, (hg.block G h2.lt (fun e => ?_)).trans h2, h3⟩
      obtain ⟨_, o, ho, hc⟩ := hr G e.symm
      rw [show A.heap[G]? = _ from h2] at ho
      injection ho with ho
      rw [← ho] at hc
      simp [Obj.isCells] at hc)
    ?assign ?body ?done (fun _ _ _ _ _ _ h _ => h.elim)
  case hseq =>
    intro l J Jx W hW hJ hJx hY h0
    refine standing1_in 4 (by omega) l Bx S sl.length c arr _ _ _ _ u (by omega) ?_ J Jx hY W ⟨(hW.block Bx HBx4.out.2).trans HBox4.out, (hW.block S (Nat.lt_of_lt_of_le HS4.out.1 hw04)).trans HS4.out.2⟩ h0 (fun pre V o hj => hJ pre V (V.alloc o) none hj (World.grownBy_alloc V o none) (fun r e => by cases e))
    intro i hi
    cases hu : u i with
    | true =>
      obtain ⟨_, k0, k1, k2, k3, _⟩ := HTold.out.used i hi hu
      exact ⟨by rw [k0], rfl, by simpa using k1, by simpa using k2, by simpa using k3, Ak i, (ek i).key.length, ck i, ((ek i).n : Int), ((ek i).far : Int), by simp, by simp, by simp⟩
    | false =>
      obtain ⟨_, k0, k1, k2, k3⟩ := HTold.out.empty i hi hu
      exact ⟨by rw [k0], rfl, by simpa using k1, by simpa using k2, by simpa using k3, none, 0, 0, 0, 0, by simp, by simp, by simp⟩
  case assign =>
    intro l pre x W K hI hK
    rw [HEncX.out]
    have HI := Lib.hid hI
    have HK := Lib.hid hK
    clear hI hK
    gi_wp2
    have hba : Below W.heap.size W (W.alloc (.cells #[.bool true, .slice (Ak x.1) (ek x.1).key.length (ck x.1), .int .u64 ((ek x.1).n : Int), .int .i64 ((ek x.1).far : Int)] 49)) := (Below.refl _ _).alloc (Nat.le_refl _) _
    exact HK.out _ _ ⟨by simp, fun k o _ hk _ => (Below.heap_alloc W _ k (Array.getElem?_eq_some_iff.1 hk).1).trans hk⟩ (KpS.alloc _)
      ⟨HI.out.1.turn (M := fun _ => False) (Chg.of_below hba) (fun _ e => e.elim) (fun _ e => e.elim), (hba.block Bx (Array.getElem?_eq_some_iff.1 HI.out.2).1).trans HI.out.2⟩ ⟨W.heap.size, HI.out.1.size, heap_alloc_new _ _, rfl⟩
  case body =>
    intro l pre x a' W hl hrec hI hA hlen
    obtain ⟨G, hG, hbox, rfl⟩ := hA
    obtain ⟨b0, b1, b2, b3⟩ := box4 hbox
    obtain ⟨⟨⟨v, vs, hO1, hrow, hvO, hks⟩, hbel, hsz⟩, hbxW⟩ := hI
    have q0 : W.cell? ⟨O, 0, none⟩ = some v := by simp [World.cell?, hO1]
    have f0 : W.frozen? ⟨O, 0, none⟩ = false := by simp [World.frozen?, hO1]
    obtain ⟨hx0, _, _, _, _, hx5, hx6⟩ := HTold.out.used x.1 x.2.1 x.2.2
    have hxl := HKl.out _ _ hx0
    have hxW : KeyR W R (Ak x.1) (ek x.1).key := hx6.chg (Chg.of_below hbel (M := fun _ => False)) (fun _ e _ => e.elim)
    have HX := Lib.hid (show Bs W W.heap.size (.slice (Ak x.1) (ek x.1).key.length (ck x.1)) (ek x.1).key from ⟨_, _, rfl, hx5, hxW.rd⟩)
    have HBX := Lib.hid hbxW
    have HO := Lib.hid hO1
    have HROW := Lib.hid hrow
    have HKS := Lib.hid hks
    have HVO := Lib.hid hvO
    have HGB : Hid (W.heap[G]? = some (.cells #[.bool true, .slice (Ak x.1) (ek x.1).key.length (ck x.1), .int .u64 ((ek x.1).n : Int), .int .i64 ((ek x.1).far : Int)] 49 (0, 0))) := Lib.hid hbox
    have HBEL := Lib.hid hbel
    have HL := Lib.hid hlen
    clear hx0 hx5 hx6 hxW hbxW hO1 hrow hks hvO hbel hlen hbox b0 b2 b3
    gi_wp2
    refine OrdR.region_in (by kernel_rfl) (by kernel_rfl) (fun w' => w'.cell? ⟨O, 0, none⟩ = some v ∧ w'.cell? ⟨G, 1, none⟩ = some (Value.slice (Ak x.1) (ek x.1).key.length (ck x.1))) 6 ?_
    have hHeld : W.drew.cell? ⟨O, 0, none⟩ = _ ∧ W.drew.cell? ⟨G, 1, none⟩ = _ := ⟨q0, b1⟩
    refine OrdL.wpL_take (i := 0) (v := ?_) opAt_0 [5] (by kernel_rfl) (by kernel_rfl) (by kernel_rfl) (by kernel_rfl) (by kernel_rfl) (by kernel_rfl) (fun _ _ _ h => h) (Or.inl ⟨by rfl, ?_⟩) hHeld ?_
    rotate_left
    · (intro w' hSw; obtain ⟨s1, s2⟩ := hSw; go_simp; try with_reducible rfl)
    try simp only [Act.put, List.setIfInBounds_toArray, List.set_cons_zero, List.set_cons_succ]
    refine OrdL.wpL_take (i := 1) (v := ?_) opAt_1 [5, 4, 3, 2] (by kernel_rfl) (by kernel_rfl) (by kernel_rfl) (by kernel_rfl) (by kernel_rfl) (by kernel_rfl) (fun _ _ _ h => h) (Or.inl ⟨by rfl, ?_⟩) hHeld ?_
    rotate_left
    · (intro w' hSw; obtain ⟨s1, s2⟩ := hSw; go_simp; try with_reducible rfl)
    try simp only [Act.put, List.setIfInBounds_toArray, List.set_cons_zero, List.set_cons_succ]
    refine OrdL.wpL_take (i := 2) (v := ?_) opAt_2 [5, 4, 3] (by kernel_rfl) (by kernel_rfl) (by kernel_rfl) (by kernel_rfl) (by kernel_rfl) (by kernel_rfl) (fun _ _ _ h => h) (Or.inl ⟨by rfl, ?_⟩) hHeld ?_
    rotate_left
    · (intro w' hSw; obtain ⟨s1, s2⟩ := hSw; go_simp; try with_reducible rfl)
    try simp only [Act.put, List.setIfInBounds_toArray, List.set_cons_zero, List.set_cons_succ]
    refine OrdL.wpL_ready (rs := [3]) (by kernel_rfl) (by simp) ?_
    refine OrdL.AllL.cons rfl (fun K hK => ?_) OrdL.AllL.nil
    go_simp
    refine (clone_b _ (ek x.1).key _ (HX.out.on ((Below.refl W.heap.size W).drew)) (by omega)).mono ?_
    rintro e w3 ⟨r, rfl, hown, hb3⟩
    obtain ⟨g3, cp, cur, rfl, hg3, hcur, hncap, hcm, hcs, hct⟩ : ∃ g cap cur, r = .slice (some ⟨g, 0, none⟩) (ek x.1).key.length cap ∧ W.heap.size ≤ g ∧ w3.heap[g]? = some (.cells cur 5 (0, 0)) ∧ (ek x.1).key.length ≤ cap ∧ cap ≤ maxLen ∧ cur.size = cap * 1 ∧ cur.toList.take ((ek x.1).key.length * 1) = bvs (ek x.1).key := by
      rcases hown.2 with ⟨_, h0⟩ | h
      · omega
      · exact h
    have hb3W : Below W.heap.size W w3 := ((Below.refl W.heap.size W).drew).trans hb3
    have hkey3 : KeyW w3 (fun b => b = g3) (some ⟨g3, 0, none⟩) (ek x.1).key := fun _ => ⟨g3, 0, rfl, rfl, fun j u hu => (by
        have := hown.cells (g := g3) rfl j u hu
        rw [add_none] at this
        exact this), fun j => by simp [World.frozen?, hcur]⟩
    have hg3l : g3 < w3.heap.size := (Array.getElem?_eq_some_iff.1 hcur).1
    have HK3 := Lib.hid hkey3
    have HG3 := Lib.hid (And.intro hg3 hg3l)
    have HB3 := Lib.hid hb3W
    have HCP := Lib.hid hncap
    have q3 : w3.cell? ⟨O, 0, none⟩ = some v := (hb3W.cell (p := ⟨O, 0, none⟩) (Array.getElem?_eq_some_iff.1 HO.out).1).trans q0
    have p3 : w3.cell? ⟨G, 1, none⟩ = some (Value.slice (Ak x.1) (ek x.1).key.length (ck x.1)) := (hb3W.cell (p := ⟨G, 1, none⟩) (fblock_of_cell b1)).trans b1
    clear hown hcur hcm hcs hct hkey3 hg3 hg3l hb3W hb3 hncap hHeld
    refine hK.out _ _ (fun _ => ⟨q3, p3⟩) ?_
    clear hK K
    try simp only [Act.put, List.setIfInBounds_toArray, List.set_cons_zero, List.set_cons_succ]
    refine OrdL.wpL_ready (rs := [4]) (by kernel_rfl) (by simp) ?_
    refine OrdL.AllL.cons rfl (fun K hK => ?_) OrdL.AllL.nil
    go_simp
    obtain ⟨W4, hW4⟩ : ∃ W4, w3.alloc (.cells #[.slice (some ⟨g3, 0, none⟩) (ek x.1).key.length cp] 30) = W4 := ⟨_, rfl⟩
    have hb4 : Below w3.heap.size w3 W4 := by rw [← hW4]; exact (Below.refl _ _).alloc (Nat.le_refl _) _
    have hs4 : W4.heap.size = w3.heap.size + 1 := by rw [← hW4]; simp
    have hcell4 : W4.cell? ⟨w3.heap.size, 0, none⟩ = some (.slice (some ⟨g3, 0, none⟩) (ek x.1).key.length cp) := by rw [← hW4]; exact cell_new1 _ _ _
    have HBW4 : Hid (Below W.heap.size W W4) := Lib.hid (HB3.out.trans (hb4.mono HB3.out.size))
    have HR4 : Hid (W4.ownsRow w.heap.size 30 1 v (List.map (fun x : Ix u sl.length => (ek x.1).key) pre).length vs) := Lib.hid (own_below HROW.out HBW4.out (Nat.le_refl _))
    have HK4 : Hid (KeyW W4 (fun b => b = g3) (some ⟨g3, 0, none⟩) (ek x.1).key) := Lib.hid (HK3.out.chg (Chg.of_below hb4 (M := fun _ => False)) (fun _ _ _ _ _ c => c) (fun b hb _ => hb))
    have q4 : W4.cell? ⟨O, 0, none⟩ = some v := (hb4.cell (p := ⟨O, 0, none⟩) (fblock_of_cell q3)).trans q3
    have p4 : W4.cell? ⟨G, 1, none⟩ = some (Value.slice (Ak x.1) (ek x.1).key.length (ck x.1)) := (hb4.cell (p := ⟨G, 1, none⟩) (fblock_of_cell p3)).trans p3
    have HN3 : Hid (w3.heap.size < W4.heap.size ∧ W.heap.size ≤ w3.heap.size) := Lib.hid ⟨by omega, HB3.out.size⟩
    rw [hW4]
    clear hW4 hb4
    refine hK.out _ _ (fun _ => ⟨q4, p4⟩) ?_
    clear hK K
    try simp only [Act.put, List.setIfInBounds_toArray, List.set_cons_zero, List.set_cons_succ]
    refine OrdL.wpL_ready (rs := [5]) (by kernel_rfl) (by simp) ?_
    refine OrdL.AllL.cons rfl (fun K hK => ?_) OrdL.AllL.nil
    refine step_append_grown (o := (⟨some 24, _, _, _, _, _⟩ : Oper)) _ rfl (.tmp 19) (.tmp 23) 45 rfl w.heap.size 30 iB (.slice none 0 0) 1 24 Try.underlying45 hiB hzB0 hzB1 hzB2 rfl (by omega) v _ vs rfl HR4.out W4.heap.size (some ⟨w3.heap.size, 0, none⟩) 1 1 [.slice (some ⟨g3, 0, none⟩) (ek x.1).key.length cp] rfl rfl (fun _ => ⟨w3.heap.size, 0, rfl, by have := HN3.out; omega, fun j u hu => ?_⟩) (by simp [Value.oneCell']) ?_ ?_ (by have := HBW4.out.size; omega) ?_
    · rcases j with _ | j
      · injection hu with hu
        rw [← hu]
        exact hcell4
      · simp at hu
    · have := HL.out; have := HUl.out; unfold maxLen; rw [List.length_map]; omega
    · have := HL.out; have := HUl.out; rw [List.length_map]; omega
    intro v5 W5 hown5 hgr5 hob5
    obtain ⟨g5, c5, hv5e⟩ : ∃ g5 c5, v5 = (.slice (some ⟨g5, 0, none⟩) (pre.length + 1) c5) := by
      obtain ⟨g, cap, e, _⟩ := hown5.form (by omega)
      rw [List.length_map] at e
      exact ⟨g, cap, e⟩
    have hne : ∀ (k : Nat) (arr' : Array Value) (t' : TypeId) (z' : Nat × Nat), W.heap[k]? = some (.cells arr' t' z') → t' ≠ 30 → v.ownBlock ≠ some k := fun k arr' t' z' hk ht e => by
      obtain ⟨arr2, z2, h2⟩ := own_ty HROW.out k e
      rw [hk] at h2
      injection h2 with h2
      injection h2 with _ h2
      exact ht h2
    have q5 : W5.cell? ⟨O, 0, none⟩ = some v := (World.cell?_of_block (hgr5.block O (fblock_of_cell q4) (fun e => HVO.out e.symm))).trans q4
    have p5 : W5.cell? ⟨G, 1, none⟩ = some (Value.slice (Ak x.1) (ek x.1).key.length (ck x.1)) := (World.cell?_of_block (hgr5.block G (fblock_of_cell p4) (fun e => hne G _ _ _ HGB.out (by decide) e.symm))).trans p4
    have hW5s : W4.heap.size ≤ W5.heap.size := hgr5.size
    have hO5 : W5.heap[O]? = some (.cells #[v] 45 (0, 0)) := (hgr5.block O (fblock_of_cell q4) (fun e => HVO.out e.symm)).trans ((HBW4.out.block O (fblock_of_cell q0)).trans HO.out)
    have f5 : W5.frozen? ⟨O, 0, none⟩ = false := by simp [World.frozen?, hO5]
    have HNE := Lib.hid hne
    have HGR5 := Lib.hid hgr5
    have HOWN5 := Lib.hid hown5
    have HOB5 := Lib.hid hob5
    have HO5 := Lib.hid hO5
    clear hne hgr5 hown5 hob5 hO5
    dsimp only [Act.put, Array.getElem_toList, List.getElem_toArray, List.getElem_cons_succ, List.getElem_cons_zero]
    rw [hv5e]
    refine hK.out _ _ (fun _ => ⟨q5, p5⟩) ?_
    clear hK K
    try simp only [Act.put, List.setIfInBounds_toArray, List.set_cons_zero, List.set_cons_succ]
    refine OrdL.wpL_ready (rs := [6]) (by kernel_rfl) (by simp) ?_
    refine OrdL.AllL.cons rfl (fun K hK => ?_) OrdL.AllL.nil
    go_wp2_with fail
    refine hK.out _ _ (fun h => absurd (show true = false from h) (by decide)) ?_
    clear hK K
    try simp only [Act.put, List.setIfInBounds_toArray, List.set_cons_zero, List.set_cons_succ]
    refine OrdL.wpL_done (by kernel_rfl) ?_ _
    refine OrdR.OnlyN.normal ?_
    have hg5 : Chg (fun k => v.ownBlock = some k) W W5 := (Chg.of_below HBW4.out).trans (Chg.of_grown HGR5.out (M := fun k => v.ownBlock = some k) (fun g e => e)) (fun i e => .inl e)
    obtain ⟨W6, hW6⟩ : ∃ W6, W5.setCell ⟨O, 0, none⟩ (.slice (some ⟨g5, 0, none⟩) (pre.length + 1) c5) = W6 := ⟨_, rfl⟩
    have hg6 : Chg (fun k => k = O ∨ v.ownBlock = some k) W W6 := by rw [← hW6]; exact (hg5.mono (fun i e => .inr e)).setCell (p := ⟨O, 0, none⟩) (.inl rfl) _
    have hg56 : Chg (fun k => k = O) W5 W6 := by rw [← hW6]; exact (Chg.refl (M := fun k => k = O)).setCell (p := ⟨O, 0, none⟩) rfl _
    have hO6 : W6.heap[O]? = some (.cells #[v5] 45 (0, 0)) := by rw [← hW6, ← hv5e]; have := set1p (i := 0) HO5.out v5; simpa using this
    have hv5O : v5.ownBlock ≠ some O := by
      rcases HOB5.out with e | e
      · rw [e]; exact HVO.out
      · rw [e]
        intro e
        injection e with e
        have := fblock_of_cell q4
        omega
    have hOlt : O < W.heap.size := fblock_of_cell q0
    have hOw : w.heap.size ≤ O := by have := HGO.out; omega
    have hown6 := hg56.own HOWN5.out (fun g hg c => hv5O (c ▸ hg))
    have hvl : vs.length = pre.length := by have := HROW.out.1; rw [List.length_map] at this; omega
    have hvg : ∀ g, v.ownBlock = some g → w.heap.size ≤ g ∧ g < W.heap.size := fun g hg => HROW.out.lt g hg
    have hN3 := HN3.out
    have hg3' := HG3.out
    have hv5 : ∀ b, b < W4.heap.size → v.ownBlock ≠ some b → v5.ownBlock ≠ some b := fun b hb hn => by
      rcases HOB5.out with e | e
      · rw [e]; exact hn
      · rw [e]
        intro e
        injection e with e
        omega
    rw [hW6]
    clear hW6
    gi_wp2
    refine ⟨⟨hg6.size, fun k o hB hk ho => ?_⟩, fun b hb arr' t' z' e => ?_, ?_, ?_⟩
    · refine (hg6.block k (Array.getElem?_eq_some_iff.1 hk).1 (fun c => ?_)).trans hk
      rcases c with c | c
      · have := HBx4.out; omega
      · obtain ⟨arr2, z2, h2⟩ := own_ty HROW.out k c
        rw [hk] at h2
        injection h2 with h2
        subst h2
        simp [Obj.isCells] at ho
    · refine (hg6.block b (Array.getElem?_eq_some_iff.1 e).1 (fun c => ?_)).trans e
      have h1 := HBx4.out
      have h2 := HS4.out.1
      rcases hb with rfl | rfl
      · rcases c with c | c
        · omega
        · exact HNE.out _ _ _ _ HBX.out (by decide) c
      · rcases c with c | c
        · omega
        · have := hvg _ c; omega
    · rw [List.map_append]
      refine KeysI.add (W := W) (v := v) (vs := vs) (HBEL.out.trans (hg6.below HBEL.out.size (fun i c => c.elim (fun e => by omega) (fun e => (hvg i e).1)))) (Nat.le_trans hsz hg6.size) hO6 (by simpa using hown6) hv5O (by rw [List.length_map]; exact hvl) ?_ HCP.out ?_
      · intro i k hk
        obtain ⟨A, q, k1, k2, k3⟩ := HKS.out i k hk
        refine ⟨A, q, k1, k2, k3.chg hg6 (fun b o u hb _ c => ?_) (fun b hb hlt => ⟨hb.1, hb.2.1, hv5 b (by omega) hb.2.2⟩)⟩
        rcases c with c | c
        · exact hb.2.1 c
        · exact hb.2.2 c
      · have hg46 : Chg (fun k => k = O ∨ v.ownBlock = some k) W4 W6 := ((Chg.of_grown HGR5.out (M := fun k => v.ownBlock = some k) (fun g e => e)).mono (fun i e => .inr e)).trans hg56 (fun i e => .inl (.inl e))
        refine HK4.out.chg hg46 (fun b o u hb _ c => ?_) (fun b hb hlt => ⟨by omega, by omega, hv5 b hlt (fun e => ?_)⟩)
        · rcases c with c | c
          · omega
          · have := hvg _ c; omega
        · have := hvg _ e; omega
    · refine (hg6.block Bx (Array.getElem?_eq_some_iff.1 HBX.out).1 (fun c => ?_)).trans HBX.out
      rcases c with c | c
      · have := HBx4.out; omega
      · exact HNE.out _ _ _ _ HBX.out (by decide) c
  case done =>
    intro D xs W hD hS hI hDe
    have hxs : (xs.map fun x : Ix u sl.length => (ek x.1).key) = (kn sl).map (·.1) := by
      have hp := HTold.out.pairs
      rw [← hS, List.map_map] at hp
      rw [← hp, List.map_map]
      rfl
    have hI' := hI.1
    rw [hxs] at hI'
    obtain ⟨⟨v, vs, hO1, hrow, hvO, hks⟩, hbel, hsz⟩ := hI'
    have hkl : ((kn sl).map (·.1)).length = keys := by rw [List.length_map]; exact HKn.out
    have q0 : W.cell? ⟨O, 0, none⟩ = some v := by simp [World.cell?, hO1]
    have HSo := Lib.hid (sort_row W w.heap.size v vs _ hrow HDu.out (by rw [hkl]; omega) (fun i k hi => by
      obtain ⟨A, q, k1, k2, k3⟩ := hks i k hi
      exact ⟨A, q, k1, k2, fun hx => by obtain ⟨b, o, e1, e2, e3⟩ := k3 hx; exact ⟨b, o, e1, ⟨e2.1, e2.2.2⟩, e3⟩⟩))
    have HO := Lib.hid hO1
    have HVO := Lib.hid hvO
    have HROW := Lib.hid hrow
    have HBEL := Lib.hid hbel
    have HDe := Lib.hid hDe
    clear hI hxs hO1 hrow hvO hks hbel hDe
    go_wp2_with fail
    refine HSo.out.mono ?_
    rintro e W7 ⟨rfl, hc, A, cap, ks', hv, hcap, hp, hs, hka⟩
    have q7 : W7.cell? ⟨O, 0, none⟩ = some v := (hc.cell (p := ⟨O, 0, none⟩) (fblock_of_cell q0) (fun e => HVO.out e)).trans q0
    have hDe7 := (hc.block D (Array.getElem?_eq_some_iff.1 HDe.out).1 (fun e => by
      obtain ⟨arr2, z2, h2⟩ := own_ty HROW.out D e
      rw [HDe.out] at h2
      cases h2)).trans HDe.out
    rw [hkl] at hv hcap
    have HV := Lib.hid hv
    have HKA := Lib.hid hka
    have HDe7 := Lib.hid hDe7
    have HC := Lib.hid hc
    clear hv hka hDe7 hc
    go_wp2_with fail
    refine ⟨by simp, .inl ⟨_, _, rfl, run_takeDeferred HDe7.out, ?_⟩⟩
    have hcD : Chg (fun i => i = D) W7 (W7.putObj D (.deferred none)) := Chg.of_grown (grownBy_putObj' W7 D _) (fun g e => by injection e with e; exact e.symm)
    refine ⟨_, results_tmp rfl _ _ _, A, cap, ks', by rw [← HV.out]; rfl, hcap, hp, hs, HKA.out.chg hcD (fun i e _ o ho => by rw [e, HDe7.out] at ho; injection ho with ho; rw [← ho]; rfl), ?_⟩
    exact (HBEL.out.trans (HC.out.below HBEL.out.size (fun i e => (HROW.out.lt i e).1))).trans (hcD.below (Nat.le_trans HBEL.out.size HC.out.size) (fun i e => by rw [e]; omega))
end Go.Proofs.Ytffcbekogpgciaa.Pr
