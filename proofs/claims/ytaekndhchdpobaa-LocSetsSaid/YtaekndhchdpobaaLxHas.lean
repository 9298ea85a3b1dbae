
/-
  Layer 3: what is held of the world through the law LocHas.
-/
import Derived.Test.YtaekndhchdpobaaLxOfW
import Derived.Test.YtaekndhchdpobaaLxMove
import Derived.Test.YtaekndhchdpobaaActs
import Derived.Test.YtaekndhchdpobaaOrdL
import Derived.ChangeKeysEq
set_option linter.unusedVariables false
set_option linter.unusedSimpArgs false
namespace Go.Proofs.Ytaekndhchdpobaa
open Go.RowKit Go.Maps

theorem LBox.ne_map {w : World} {g : Nat} {s o : Int} (h : LBox w g s o) {P : Program} {k : TypeId} {R : Value → Option (DataW Unit × List MemPlace)} {b n : Nat} {D : DataW Unit} (hm : w.ownsMap P k R b n D) : g ≠ b := by
  intro e
  obtain ⟨es, clock, hb, _⟩ := hm
  have := h.1
  rw [e] at this
  simp [World.cell?, hb] at this

/-- block X holds a call -/
structure ABx (w : World) (X : Nat) (a : Act3) : Prop where
  c0 : w.cell? ⟨X, 0, none⟩ = some (.int .i64 a.what)
  c1 : w.cell? ⟨X, 1, none⟩ = some (.int .u32 a.s)
  c2 : w.cell? ⟨X, 2, none⟩ = some (.int .u32 a.o)
  c3 : w.cell? ⟨X, 3, none⟩ = some (.int .u32 a.t)
  c4 : w.cell? ⟨X, 4, none⟩ = some (.int .u32 a.p)
  c5 : w.cell? ⟨X, 5, none⟩ = some (.int .u64 a.n)
  f : ∀ j, w.frozen? ⟨X, j, none⟩ = false
  lt : X < w.heap.size
theorem ABx.grown {w w' : World} {X : Nat} {a : Act3} {row : Option Nat} (h : ABx w X a) (hg : w.grownBy w' row) (hr : ∀ k, row = some k → k ≠ X) : ABx w' X a := by
  have hb := hg.block X h.lt (fun e => hr X e.symm rfl)
  have hc : ∀ o, w'.cell? ⟨X, o, none⟩ = w.cell? ⟨X, o, none⟩ := fun o => World.cell?_of_block hb
  have hf : ∀ o, w'.frozen? ⟨X, o, none⟩ = w.frozen? ⟨X, o, none⟩ := fun o => World.frozen?_of_block hb
  exact ⟨(hc 0).trans h.c0, (hc 1).trans h.c1, (hc 2).trans h.c2, (hc 3).trans h.c3, (hc 4).trans h.c4, (hc 5).trans h.c5, fun j => (hf j).trans (h.f j), Nat.lt_of_lt_of_le h.lt hg.size⟩
theorem ABx.on {w w' : World} {X : Nat} {a : Act3} (h : ABx w X a) (hb : Below w.heap.size w w') : ABx w' X a := h.grown (row := none) (gby hb) (fun k hk => by cases hk)
theorem ABx.new (w : World) (a : Act3) (t : TypeId) : ABx (w.alloc (.cells #[.int .i64 a.what, .int .u32 a.s, .int .u32 a.o, .int .u32 a.t, .int .u32 a.p, .int .u64 a.n] t)) w.heap.size a := by
  refine ⟨by simp, by simp, by simp, by simp, by simp, by simp, fun j => by simp, by simp⟩
theorem ABx.setL {w : World} {X : Nat} {a : Act3} (h : ABx w X a) (s o : Int) : ABx ((w.setCell ⟨X, 1, none⟩ (.int .u32 s)).setCell ⟨X, 2, none⟩ (.int .u32 o)) X { a with s := s, o := o } := by
  have ne : ∀ {i j : Nat}, i ≠ j → (⟨X, i, none⟩ : Addr) ≠ ⟨X, j, none⟩ := fun h e => by injection e with _ e2; exact h e2
  have oth : ∀ (w : World) (i j : Nat) (u : Value), i ≠ j → (w.setCell ⟨X, i, none⟩ u).cell? ⟨X, j, none⟩ = w.cell? ⟨X, j, none⟩ := fun w i j u hij => World.cell?_setCell_other w ⟨X, i, none⟩ ⟨X, j, none⟩ u (ne hij)
  refine ⟨?_, ?_, ?_, ?_, ?_, ?_, fun j => by rw [World.frozen?_setCell, World.frozen?_setCell]; exact h.f j, by simpa using h.lt⟩
  · rw [oth _ _ _ _ (by omega), oth _ _ _ _ (by omega)]; exact h.c0
  · rw [oth _ _ _ _ (by omega)]; exact World.cell?_setCell_same _ _ _ h.c1
  · exact World.cell?_setCell_same _ _ _ ((oth _ _ _ _ (by omega)).trans h.c2)
  · rw [oth _ _ _ _ (by omega), oth _ _ _ _ (by omega)]; exact h.c3
  · rw [oth _ _ _ _ (by omega), oth _ _ _ _ (by omega)]; exact h.c4
  · rw [oth _ _ _ _ (by omega), oth _ _ _ _ (by omega)]; exact h.c5
theorem ABx.setT {w : World} {X : Nat} {a : Act3} (h : ABx w X a) (t p : Int) : ABx ((w.setCell ⟨X, 3, none⟩ (.int .u32 t)).setCell ⟨X, 4, none⟩ (.int .u32 p)) X { a with t := t, p := p } := by
  have ne : ∀ {i j : Nat}, i ≠ j → (⟨X, i, none⟩ : Addr) ≠ ⟨X, j, none⟩ := fun h e => by injection e with _ e2; exact h e2
  have oth : ∀ (w : World) (i j : Nat) (u : Value), i ≠ j → (w.setCell ⟨X, i, none⟩ u).cell? ⟨X, j, none⟩ = w.cell? ⟨X, j, none⟩ := fun w i j u hij => World.cell?_setCell_other w ⟨X, i, none⟩ ⟨X, j, none⟩ u (ne hij)
  refine ⟨?_, ?_, ?_, ?_, ?_, ?_, fun j => by rw [World.frozen?_setCell, World.frozen?_setCell]; exact h.f j, by simpa using h.lt⟩
  · rw [oth _ _ _ _ (by omega), oth _ _ _ _ (by omega)]; exact h.c0
  · rw [oth _ _ _ _ (by omega), oth _ _ _ _ (by omega)]; exact h.c1
  · rw [oth _ _ _ _ (by omega), oth _ _ _ _ (by omega)]; exact h.c2
  · rw [oth _ _ _ _ (by omega)]; exact World.cell?_setCell_same _ _ _ h.c3
  · exact World.cell?_setCell_same _ _ _ ((oth _ _ _ _ (by omega)).trans h.c4)
  · rw [oth _ _ _ _ (by omega), oth _ _ _ _ (by omega)]; exact h.c5

theorem ABx.set_other {w : World} {X g : Nat} {a : Act3} (h : ABx w X a) (hn : X ≠ g) (s o : Int) : ABx ((w.setCell ⟨g, 0, none⟩ (.int .u32 s)).setCell ⟨g, 1, none⟩ (.int .u32 o)) X a := by
  have oth : ∀ (w : World) (i j : Nat) (u : Value), (w.setCell ⟨g, i, none⟩ u).cell? ⟨X, j, none⟩ = w.cell? ⟨X, j, none⟩ := fun w i j u => World.cell?_setCell_other w ⟨g, i, none⟩ ⟨X, j, none⟩ u (fun e => by injection e with e1 _; exact hn e1.symm)
  refine ⟨?_, ?_, ?_, ?_, ?_, ?_, fun j => by rw [World.frozen?_setCell, World.frozen?_setCell]; exact h.f j, by simpa using h.lt⟩
  all_goals rw [oth, oth]
  · exact h.c0
  · exact h.c1
  · exact h.c2
  · exact h.c3
  · exact h.c4
  · exact h.c5

theorem atKey_any {D : DataW Unit} {k : Lit} (h : Maps.has D k = true) (z z' : DataW Unit) : D.atKey k z = D.atKey k z' := by
  cases D with
  | map es =>
    rw [has_eq, List.any_eq_true] at h
    unfold DataW.atKey
    cases hf : es.find? (fun p => p.1.sameKey k) with
    | none =>
      rw [List.find?_eq_none] at hf
      obtain ⟨p, hp, hk⟩ := h
      exact absurd hk (hf p hp)
    | some p => simp only [hf]
  | _ => cases h
theorem klKey (s o : Int) : WideAt.IsKeyLit (kl s o) := by unfold kl; trivial
/-- a loc that is moved to itself -/
theorem move_self {D : DataW Unit} {s o : Int} (c : Canon D) (c' : Canon ((D.del (kl s o)).put (kl s o) (.lit (.int .u64 (laid D s o))))) (him : IsMap D) (hh : Maps.has D (kl s o) = true) (hl : D.atKey (kl s o) (.lit (.int .u64 0)) = .lit (.int .u64 (laid D s o))) :
    (D.del (kl s o)).put (kl s o) (.lit (.int .u64 (laid D s o))) = D := by
  refine Maps.ext c' c (fun k => ?_) (fun k z hk => ?_)
  · by_cases e : k = kl s o
    · subst e
      rw [has_put_same (him.del _) (klKey s o), hh]
    · rw [has_put_other e, has_del_other e]
  · by_cases e : k = kl s o
    · subst e
      rw [atKey_put_same (him.del _) (klKey s o), ← hl]
      exact atKey_any hh _ _
    · rw [atKey_put_other e, atKey_del_other e]
/-- its keys are of the first three segments -/
def InR (D : DataW Unit) : Prop := ∀ k, Maps.has D k = true → ∃ s o : Int, (1 ≤ s ∧ s ≤ 3) ∧ (0 ≤ o ∧ o < 4294967296) ∧ k = kl s o
theorem inr_nil : InR (.map []) := fun k h => by cases h
theorem InR.put {D : DataW Unit} (h : InR D) {s o : Int} (hs : 1 ≤ s ∧ s ≤ 3) (ho : 0 ≤ o ∧ o < 4294967296) (d : DataW Unit) : InR (D.put (kl s o) d) := fun k hk => by
  by_cases e : k = kl s o
  · exact ⟨s, o, hs, ho, e⟩
  · rw [has_put_other e] at hk
    exact h k hk
theorem InR.del {D : DataW Unit} (h : InR D) (k0 : Lit) : InR (D.del k0) := fun k hk => by
  by_cases e : k = k0
  · subst e
    rw [has_del_same] at hk
    cases hk
  · rw [has_del_other e] at hk
    exact h k hk
section
variable {w wr w' : World} {ba n : Nat} {D : DataW Unit}
end

theorem len_le {α : Type} : ∀ (l m : List α), l.Nodup → (∀ x ∈ l, x ∈ m) → l.length ≤ m.length := by
  classical
  intro l
  induction l with
  | nil => intro m _ _; simp
  | cons a l ih =>
    intro m hn hs
    obtain ⟨ha, hn⟩ := List.nodup_cons.1 hn
    have hm := hs a (List.mem_cons_self ..)
    have h1 := ih (m.erase a) hn (fun x hx => by
      have hne : x ≠ a := fun e => ha (by rw [← e]; exact hx)
      exact (List.mem_erase_of_ne hne).2 (hs x (List.mem_cons_of_mem _ hx)))
    have h2 := List.length_erase_of_mem hm
    have h3 : 0 < m.length := List.length_pos_of_mem hm
    rw [List.length_cons]
    omega
/-- the locs of the segments below k, all of them -/
structure Segs (D : DataW Unit) (k : Int) (ls : List (Int × Int)) : Prop where
  nodup : ls.Nodup
  bd : ∀ x ∈ ls, (0 ≤ x.1 ∧ x.1 < 4294967296) ∧ 0 ≤ x.2 ∧ x.2 < 4294967296
  mem : ∀ s o : Int, 0 ≤ s → s < 4294967296 → 0 ≤ o → o < 4294967296 → ((s, o) ∈ ls ↔ (1 ≤ s ∧ s < k) ∧ Maps.has D (kl s o) = true)
theorem Segs.start (D : DataW Unit) : Segs D 1 [] := ⟨List.nodup_nil, by simp, fun s o _ _ _ _ => by simp; omega⟩
theorem asc_nodup {l : List (Int × Int)} (h : Asc l) : l.Nodup := h.imp (fun {a b} hab e => by subst e; rw [swoL.irrefl] at hab; cases hab)
theorem asc_at {l : List (Int × Int)} (h : Asc l) {r : Nat} {x y : Int × Int} (hx : l[r]? = some x) (hy : l[r + 1]? = some y) : ltOf cfL x y = true := by
  obtain ⟨h1, e1⟩ := List.getElem?_eq_some_iff.1 hx
  obtain ⟨h2, e2⟩ := List.getElem?_eq_some_iff.1 hy
  have := List.pairwise_iff_getElem.1 h r (r + 1) h1 h2 (by omega)
  rw [e1, e2] at this
  exact this
theorem Segs.next {D : DataW Unit} {k : Int} {ls l : List (Int × Int)} (h : Segs D k ls) (hl : OfL D k l) (hk : 1 ≤ k) : Segs D (k + 1) (ls ++ l) := by
  have hseg : ∀ x ∈ l, x.1 = k := fun x hx => by
    have b := hl.bd x hx
    exact ((hl.mem x.1 x.2 b.1.1 b.1.2 b.2.1 b.2.2).1 hx).1
  refine ⟨?_, ?_, ?_⟩
  · rw [List.nodup_append]
    refine ⟨h.nodup, asc_nodup hl.asc, fun a ha b hb e => ?_⟩
    subst e
    have b := h.bd a ha
    have h1 := ((h.mem a.1 a.2 b.1.1 b.1.2 b.2.1 b.2.2).1 ha).1.2
    have h2 := hseg a hb
    omega
  · intro x hx
    rcases List.mem_append.1 hx with hx | hx
    · exact h.bd x hx
    · exact hl.bd x hx
  · intro s o g0 g1 g2 g3
    rw [List.mem_append, h.mem s o g0 g1 g2 g3, hl.mem s o g0 g1 g2 g3]
    constructor
    · rintro (⟨h1, h2⟩ | ⟨h1, h2⟩)
      · exact ⟨by omega, h2⟩
      · exact ⟨by omega, h2⟩
    · rintro ⟨h1, h2⟩
      by_cases e : s = k
      · exact Or.inr ⟨e, h2⟩
      · exact Or.inl ⟨by omega, h2⟩
theorem Segs.le {D : DataW Unit} {k : Int} {ls : List (Int × Int)} (h : Segs D k ls) (ht : Tidy D) : ls.length ≤ Maps.size D := by
  obtain ⟨es, rfl, hp⟩ := ht
  rw [size_eq]
  have h1 := len_le (ls.map fun x => kl x.1 x.2) (es.map (·.1)) ?_ ?_
  · simpa using h1
  · rw [List.nodup_iff_pairwise_ne, List.pairwise_map]
    refine (List.Pairwise.and_mem.1 h.nodup).imp ?_
    rintro a b ⟨ha, hb, hne⟩ e
    have b1 := h.bd a ha
    have b2 := h.bd b hb
    have := kl_inj b1.1.1 b1.1.2 b1.2.1 b1.2.2 b2.1.1 b2.1.2 b2.2.1 b2.2.2 e
    exact hne (Prod.ext this.1 this.2)
  · intro x hx
    obtain ⟨y, hy, rfl⟩ := List.mem_map.1 hx
    have b := h.bd y hy
    have hh := ((h.mem y.1 y.2 b.1.1 b.1.2 b.2.1 b.2.2).1 hy).2
    rw [has_eq, List.any_eq_true] at hh
    obtain ⟨p, hp', hk⟩ := hh
    exact List.mem_map.2 ⟨p, hp', WideAt.sameKey_eq hk⟩
theorem Segs.all {D : DataW Unit} {ls : List (Int × Int)} (h : Segs D 4 ls) (ht : Tidy D) (hi : InR D) (hkey : ∀ es, D = .map es → ∀ p ∈ es, WideAt.IsKeyLit p.1) : ls.length = Maps.size D := by
  refine Nat.le_antisymm (h.le ht) ?_
  obtain ⟨es, rfl, hp⟩ := ht
  rw [size_eq]
  have h1 := len_le (es.map (·.1)) (ls.map fun x => kl x.1 x.2) ?_ ?_
  · simpa using h1
  · rw [List.nodup_iff_pairwise_ne, List.pairwise_map]
    exact hp
  · intro x hx
    obtain ⟨p, hp', rfl⟩ := List.mem_map.1 hx
    have hh : Maps.has (.map es : DataW Unit) p.1 = true := by
      rw [has_eq, List.any_eq_true]
      exact ⟨p, hp', WideAt.sameKey_self (hkey es rfl p hp')⟩
    obtain ⟨s, o, hs, ho, e⟩ := hi p.1 hh
    rw [e] at hh ⊢
    exact List.mem_map.2 ⟨(s, o), (h.mem s o (by omega) (by omega) ho.1 ho.2).2 ⟨by omega, hh⟩, rfl⟩
end Go.Proofs.Ytaekndhchdpobaa
