
/-
  Layer 9: seals and edits as values; the walks of MaySeal (the program's, the document's).
-/
import Derived.Test.YtggijjknfcofoaaDoorEdPlain
import Derived.Test.YtggijjknfcofoaaDoorKyMem
import Derived.Test.YtggijjknfcofoaaDoorRxGet
set_option linter.unusedVariables false
set_option linter.unusedSimpArgs false
namespace Go.Proofs.YtggijjknfcofoaaDoor
open Go.RowKit

theorem ret_bool {a b : Bool} (h : a = b) : Ending.returned (.bool a) = .returned (.bool b) := by rw [h]
theorem bstep {a w w' : World} (h : Below a.heap.size a w) (h' : Below w.heap.size w w') : Below a.heap.size a w' := h.trans (h'.mono h.size)
theorem balloc {a w : World} (h : Below a.heap.size a w) (o : Obj) : Below a.heap.size a (w.alloc o) := h.alloc h.size o
theorem bnew (w : World) (o : Obj) : Below w.heap.size w (w.alloc o) := (Below.refl _ _).alloc (Nat.le_refl _) _

theorem Bs.drew' {w : World} {v : Value} {l : List UInt8} (h : Bs w w.heap.size v l) : Bs w.drew w.drew.heap.size v l := h
/-- the block g is a box of the cells xs -/
structure Bx (w : World) (g : Nat) (xs : List Value) : Prop where
  lt : g < w.heap.size
  cell : ∀ j v, xs[j]? = some v → w.cell? ⟨g, j, none⟩ = some v
  free : ∀ j v, xs[j]? = some v → w.frozen? ⟨g, j, none⟩ = false
section
variable {w w' : World} {g : Nat} {xs : List Value}
theorem Bx.of_block (h : Bx w g xs) (hl : g < w'.heap.size) (hb : w'.heap[g]? = w.heap[g]?) : Bx w' g xs :=
  ⟨hl, fun j v hv => (World.cell?_of_block (a := ⟨g, j, none⟩) hb).trans (h.cell j v hv), fun j v hv => (World.frozen?_of_block (a := ⟨g, j, none⟩) hb).trans (h.free j v hv)⟩
theorem Bx.below {B : Nat} (h : Bx w g xs) (hb : Below B w w') (hg : g < B) : Bx w' g xs := h.of_block (Nat.lt_of_lt_of_le h.lt hb.size) (hb.block g hg)
theorem Bx.on (h : Bx w g xs) (hb : Below w.heap.size w w') : Bx w' g xs := h.below hb h.lt
theorem Bx.alloc (h : Bx w g xs) (o : Obj) : Bx (w.alloc o) g xs := h.on (bnew w o)
theorem Bx.drewN (h : Bx w g xs) (n : Nat) : Bx (w.drewN n) g xs := h.of_block h.lt rfl
theorem Bx.new (w : World) (a : Array Value) (t : TypeId) (xs : List Value) (h : a = xs.toArray) : Bx (w.alloc (.cells a t)) w.heap.size xs := by
  subst h
  refine ⟨by simp, fun j v hv => ?_, fun j v hv => ?_⟩
  · rw [cell_of_row (w.alloc (.cells xs.toArray t)) w.heap.size j _ t (0, 0) (heap_alloc_new w _)]
    simpa using hv
  · exact Lib.frozen_of_heap (heap_alloc_new w _) _
end
/-- a seal as a value -/
def slV (s : Ed.Sl) : Value := .agg #[.int .u32 s.id, .int .u32 s.size, .int .u32 s.many, .int .u64 s.first, .int .u64 s.last]
/-- numbers that their types have -/
structure Ed.FitS (s : Ed.Sl) : Prop where
  id : s.id < 4294967296
  size : s.size < 4294967296
  many : s.many < 4294967296
  first : s.first < 18446744073709551616
  last : s.last < 18446744073709551616

/-- the cells of seals in a row -/
def slVs : List Ed.Sl → List Value
  | [] => []
  | s :: r => [.int .u32 s.id, .int .u32 s.size, .int .u32 s.many, .int .u64 s.first, .int .u64 s.last] ++ slVs r
theorem slVs_length : ∀ l : List Ed.Sl, (slVs l).length = l.length * 5
  | [] => rfl
  | s :: r => by simp [slVs, slVs_length r]; omega
theorem slVs_append : ∀ l m : List Ed.Sl, slVs (l ++ m) = slVs l ++ slVs m
  | [], m => rfl
  | s :: r, m => by simp [slVs, slVs_append r m]
theorem slVs_one : ∀ l : List Ed.Sl, ∀ u ∈ slVs l, u.oneCell' = true
  | [], u, h => by cases h
  | s :: r, u, h => by
    simp only [slVs, List.cons_append, List.nil_append, List.mem_cons] at h
    rcases h with rfl | rfl | rfl | rfl | rfl | h
    all_goals first | rfl | exact slVs_one r u h
theorem slVs_get : ∀ (l : List Ed.Sl) (i : Nat) (s : Ed.Sl), l[i]? = some s → (slVs l)[i * 5]? = some (.int .u32 s.id) ∧ (slVs l)[i * 5 + 1]? = some (.int .u32 s.size) ∧ (slVs l)[i * 5 + 2]? = some (.int .u32 s.many) ∧ (slVs l)[i * 5 + 3]? = some (.int .u64 s.first) ∧ (slVs l)[i * 5 + 4]? = some (.int .u64 s.last)
  | [], i, s, h => by simp at h
  | x :: r, 0, s, h => by
    simp at h
    subst h
    simp [slVs]
  | x :: r, i + 1, s, h => by
    have := slVs_get r i s (by simpa using h)
    rw [show (i + 1) * 5 = i * 5 + 5 by omega]
    simpa [slVs] using this
theorem slVs_take : ∀ (l : List Ed.Sl) (k : Nat), slVs (l.take k) = (slVs l).take (k * 5)
  | [], k => by simp [slVs]
  | x :: r, 0 => by simp [slVs]
  | x :: r, k + 1 => by
    rw [show (k + 1) * 5 = k * 5 + 5 by omega]
    simp [slVs, slVs_take r k]
/-- The value v is a slice that reads as the seals l, and lies below block B. -/
def Sls (w : World) (B : Nat) (v : Value) (l : List Ed.Sl) : Prop := ∃ A c, v = .slice A l.length c ∧ l.length ≤ c ∧ Rd w B A (slVs l)
section
variable {w w' : World} {B B' : Nat} {v : Value} {l : List Ed.Sl}
theorem Sls.none_ : Sls w B (.slice Option.none 0 0) [] := ⟨Option.none, 0, rfl, Nat.le_refl _, Rd.nil_⟩
theorem Sls.mono (h : Sls w B v l) (hB : B ≤ B') : Sls w B' v l := by
  obtain ⟨A, c, e, hc, hr⟩ := h
  exact ⟨A, c, e, hc, hr.mono hB⟩
theorem Sls.keep (h : Sls w B v l) (hk : ∀ p : Addr, p.block < B → w'.cell? p = w.cell? p) : Sls w' B v l := by
  obtain ⟨A, c, e, hc, hr⟩ := h
  exact ⟨A, c, e, hc, hr.keep hk⟩
theorem Sls.below {C : Nat} (h : Sls w B v l) (hb : Below C w w') (hC : B ≤ C) : Sls w' B v l := h.keep fun _ hp => hb.cell (by omega)
theorem Sls.on (h : Sls w w.heap.size v l) (hb : Below w.heap.size w w') : Sls w' w'.heap.size v l := (h.below hb (Nat.le_refl _)).mono hb.size
theorem Sls.alloc (h : Sls w B v l) (hB : B ≤ w.heap.size) (o : Obj) : Sls (w.alloc o) B v l := h.keep fun p hp => World.cell?_alloc_lt w o p (by omega)
theorem Sls.of_own {base n : Nat} {e : TypeId} (h : w.ownsRow base e 5 v n (slVs l)) : Sls w w.heap.size v l := by
  have hn : l.length = n := by have := h.1; rw [slVs_length] at this; omega
  subst hn
  obtain ⟨A, c, rfl, hc, _⟩ := own_slice h
  exact ⟨A, c, rfl, hc, Rd.of_own h⟩
/-- a slice literal of one -/
theorem Sls.one (w : World) (s : Ed.Sl) (e : TypeId) : Sls (w.alloc (.cells (slVs [s]).toArray e)) (w.heap.size + 1) (.slice (some ⟨w.heap.size, 0, Option.none⟩) 1 1) [s] := by
  refine ⟨_, _, rfl, Nat.le_refl _, fun _ => ⟨w.heap.size, 0, rfl, by omega, fun j u hu => ?_⟩⟩
  rw [Nat.zero_add, cell_of_row (w.alloc (.cells (slVs [s]).toArray e)) w.heap.size j _ e (0, 0) (heap_alloc_new w _)]
  simpa using hu
/-- the cells of one of them -/
theorem Sls.at (h : Sls w B v l) {i : Nat} {s : Ed.Sl} (hi : l[i]? = some s) : ∃ b o c, v = .slice (some ⟨b, o, Option.none⟩) l.length c ∧ b < B ∧ w.cell? ⟨b, o + i * 5, Option.none⟩ = some (.int .u32 s.id) ∧ w.cell? ⟨b, o + i * 5 + 1, Option.none⟩ = some (.int .u32 s.size) ∧
    w.cell? ⟨b, o + i * 5 + 2, Option.none⟩ = some (.int .u32 s.many) ∧ w.cell? ⟨b, o + i * 5 + 3, Option.none⟩ = some (.int .u64 s.first) ∧ w.cell? ⟨b, o + i * 5 + 4, Option.none⟩ = some (.int .u64 s.last) := by
  obtain ⟨A, c, rfl, hc, hr⟩ := h
  have hne : slVs l ≠ [] := by
    intro e
    have h1 := slVs_length l
    rw [e] at h1
    have h2 : l = [] := List.eq_nil_of_length_eq_zero (by simp at h1; omega)
    subst h2
    simp at hi
  obtain ⟨b, o, rfl, hb, hcell⟩ := hr hne
  obtain ⟨g0, g1, g2, g3, g4⟩ := slVs_get l i s hi
  exact ⟨b, o, c, rfl, hb, hcell _ _ g0, hcell _ _ g1, hcell _ _ g2, hcell _ _ g3, hcell _ _ g4⟩
end
/-- numbers that their types have -/
structure Ed.Fit (e : Ed.E) : Prop where
  kind0 : -9223372036854775808 ≤ e.kind
  kind1 : e.kind < 9223372036854775808
  name : e.name.size ≤ 9223372036854775807
  seq : e.seq < 18446744073709551616
  id : e.id < 4294967296
  many : e.seals.length ≤ 9223372036854775807
  seals : ∀ s ∈ e.seals, Ed.FitS s
/-- an edit as a value -/
def edV (k : Int) (nm : ByteArray) (q i : Int) (sv : Value) : Value := .agg #[.int .i64 k, .string nm, .int .u64 q, .int .u32 i, sv]
/-- the value v is the edit e -/
def EdV (w : World) (B : Nat) (v : Value) (e : Ed.E) : Prop := ∃ sv, v = edV e.kind e.name e.seq e.id sv ∧ Sls w B sv e.seals
section
variable {w w' : World} {B B' : Nat} {v : Value} {e : Ed.E}
theorem EdV.mono (h : EdV w B v e) (hB : B ≤ B') : EdV w B' v e := by
  obtain ⟨sv, h1, h2⟩ := h
  exact ⟨sv, h1, h2.mono hB⟩
theorem EdV.below {C : Nat} (h : EdV w B v e) (hb : Below C w w') (hC : B ≤ C) : EdV w' B v e := by
  obtain ⟨sv, h1, h2⟩ := h
  exact ⟨sv, h1, h2.below hb hC⟩
theorem EdV.on (h : EdV w w.heap.size v e) (hb : Below w.heap.size w w') : EdV w' w'.heap.size v e := (h.below hb (Nat.le_refl _)).mono hb.size
theorem EdV.none_ : EdV w B (edV 0 ⟨#[]⟩ 0 0 (.slice Option.none 0 0)) Ed.none := ⟨_, rfl, Sls.none_⟩
end
end Go.Proofs.YtggijjknfcofoaaDoor
