
/-
  Layer 14 (probe): a table in memory: its own block, the block of its slots, and the blocks (R) that its keys' bytes lie in, which nobody writes.
-/
import Derived.Test.YtffcbekogpgciaaPrPlain
import Derived.Test.YtffcbekogpgciaaKyHash
import Derived.Test.YtffcbekogpgciaaChg
set_option linter.unusedVariables false
set_option linter.unusedSimpArgs false
namespace Go.Proofs.Ytffcbekogpgciaa.Pr
open Go Go.RowKit

/-- the slice at A reads as a key's bytes, out of a block of R -/
def KeyR (w : World) (R : Nat → Prop) (A : Option Addr) (l : List UInt8) : Prop :=
  l ≠ [] → ∃ b o, A = some ⟨b, o, none⟩ ∧ R b ∧ ∀ j u, (bvs l)[j]? = some u → w.cell? ⟨b, o + j, none⟩ = some u
theorem KeyR.rd {w : World} {R : Nat → Prop} {A : Option Addr} {l : List UInt8} (h : KeyR w R A l) : Rd w w.heap.size A (bvs l) := fun hx => by
  have hl : l ≠ [] := fun e => hx (by rw [e]; rfl)
  obtain ⟨b, o, e, _, hc⟩ := h hl
  refine ⟨b, o, e, ?_, hc⟩
  rcases l with _ | ⟨x, r⟩
  · exact absurd rfl hl
  · exact fblock_of_cell (hc 0 (bv x) rfl)
theorem KeyR.mono {w : World} {R R' : Nat → Prop} {A : Option Addr} {l : List UInt8} (h : KeyR w R A l) (hR : ∀ i, R i → R' i) : KeyR w R' A l := fun hx => by
  obtain ⟨b, o, e, hb, hc⟩ := h hx
  exact ⟨b, o, e, hR b hb, hc⟩
theorem KeyR.chg {M R : Nat → Prop} {w w' : World} {A : Option Addr} {l : List UInt8} (h : KeyR w R A l) (hc : Chg M w w') (hM : ∀ i, M i → ¬ R i) : KeyR w' R A l := fun hx => by
  obtain ⟨b, o, e, hb, hcell⟩ := h hx
  exact ⟨b, o, e, hb, fun j u hu => (hc.cell (p := ⟨b, o + j, none⟩) (fblock_of_cell (hcell j u hu)) (fun e => hM b e hb)).trans (hcell j u hu)⟩
/-- the slot at i of the row of cells arr -/
def SlotIn (w : World) (R : Nat → Prop) (arr : Array Value) (i : Nat) : Option E → Prop
  | none => arr[i * 4]? = some (.bool false) ∧ arr[i * 4 + 1]? = some (.slice none 0 0) ∧ arr[i * 4 + 2]? = some (.int .u64 0) ∧ arr[i * 4 + 3]? = some (.int .i64 0)
  | some e => ∃ A c, arr[i * 4]? = some (.bool true) ∧ arr[i * 4 + 1]? = some (.slice A e.key.length c) ∧ arr[i * 4 + 2]? = some (.int .u64 (e.n : Int)) ∧ arr[i * 4 + 3]? = some (.int .i64 (e.far : Int)) ∧ e.key.length ≤ c ∧ KeyR w R A e.key
theorem SlotIn.chg {M R : Nat → Prop} {w w' : World} {arr : Array Value} {i : Nat} {o : Option E} (h : SlotIn w R arr i o) (hc : Chg M w w') (hM : ∀ i, M i → ¬ R i) : SlotIn w' R arr i o := by
  cases o with
  | none => exact h
  | some e =>
    obtain ⟨A, c, h0, h1, h2, h3, h4, h5⟩ := h
    exact ⟨A, c, h0, h1, h2, h3, h4, h5.chg hc hM⟩
theorem SlotIn.mono {R R' : Nat → Prop} {w : World} {arr : Array Value} {i : Nat} {o : Option E} (h : SlotIn w R arr i o) (hR : ∀ i, R i → R' i) : SlotIn w R' arr i o := by
  cases o with
  | none => exact h
  | some e =>
    obtain ⟨A, c, h0, h1, h2, h3, h4, h5⟩ := h
    exact ⟨A, c, h0, h1, h2, h3, h4, h5.mono hR⟩
/-- a row of slots in block S, of room c -/
structure SlotsAt (w : World) (S c : Nat) (R : Nat → Prop) (sl : List (Option E)) : Prop where
  blk : ∃ arr, w.heap[S]? = some (.cells arr 49 (0, 0)) ∧ arr.size = c * 4 ∧ ∀ i o, sl[i]? = some o → SlotIn w R arr i o
  len : sl.length ≤ c
  cap : c ≤ maxLen
  out : ¬ R S
theorem SlotsAt.lt {w : World} {S c : Nat} {R : Nat → Prop} {sl : List (Option E)} (h : SlotsAt w S c R sl) : S < w.heap.size := by
  obtain ⟨⟨arr, h, _⟩, _⟩ := h
  exact (Array.getElem?_eq_some_iff.1 h).1
theorem SlotsAt.chg {M R : Nat → Prop} {w w' : World} {S c : Nat} {sl : List (Option E)} (h : SlotsAt w S c R sl) (hc : Chg M w w') (hM : ∀ i, M i → ¬ R i) (hS : ¬ M S) : SlotsAt w' S c R sl := by
  have hl := h.lt
  obtain ⟨⟨arr, h0, h1, h2⟩, h3, h4, h5⟩ := h
  exact ⟨⟨arr, (hc.block S hl hS).trans h0, h1, fun i o ho => (h2 i o ho).chg hc hM⟩, h3, h4, h5⟩
theorem SlotsAt.on {w w' : World} {S c : Nat} {R : Nat → Prop} {sl : List (Option E)} (h : SlotsAt w S c R sl) (hb : Below w.heap.size w w') : SlotsAt w' S c R sl :=
  h.chg (Chg.of_below (M := fun _ => False) hb) (fun _ e => e.elim) (fun e => e.elim)
/-- the cells of a slot -/
theorem SlotsAt.used {w : World} {S c : Nat} {R : Nat → Prop} {sl : List (Option E)} (h : SlotsAt w S c R sl) {i : Nat} {e : E} (hi : sl[i]? = some (some e)) :
    ∃ A ck, w.cell? ⟨S, i * 4, none⟩ = some (.bool true) ∧ w.cell? ⟨S, i * 4 + 1, none⟩ = some (.slice A e.key.length ck) ∧ w.cell? ⟨S, i * 4 + 2, none⟩ = some (.int .u64 (e.n : Int)) ∧ w.cell? ⟨S, i * 4 + 3, none⟩ = some (.int .i64 (e.far : Int)) ∧
      e.key.length ≤ ck ∧ KeyR w R A e.key := by
  obtain ⟨⟨arr, h0, h1, h2⟩, _⟩ := h
  obtain ⟨A, ck, k0, k1, k2, k3, k4, k5⟩ := h2 i _ hi
  exact ⟨A, ck, by simp [World.cell?, h0, k0], by simp [World.cell?, h0, k1], by simp [World.cell?, h0, k2], by simp [World.cell?, h0, k3], k4, k5⟩
theorem SlotsAt.empty {w : World} {S c : Nat} {R : Nat → Prop} {sl : List (Option E)} (h : SlotsAt w S c R sl) {i : Nat} (hi : sl[i]? = some none) :
    w.cell? ⟨S, i * 4, none⟩ = some (.bool false) ∧ w.cell? ⟨S, i * 4 + 1, none⟩ = some (.slice none 0 0) ∧ w.cell? ⟨S, i * 4 + 2, none⟩ = some (.int .u64 0) ∧ w.cell? ⟨S, i * 4 + 3, none⟩ = some (.int .i64 0) := by
  obtain ⟨⟨arr, h0, h1, h2⟩, _⟩ := h
  obtain ⟨k0, k1, k2, k3⟩ := h2 i _ hi
  exact ⟨by simp [World.cell?, h0, k0], by simp [World.cell?, h0, k1], by simp [World.cell?, h0, k2], by simp [World.cell?, h0, k3]⟩
theorem SlotsAt.any {w : World} {S c : Nat} {R : Nat → Prop} {sl : List (Option E)} (h : SlotsAt w S c R sl) {i : Nat} (hi : i < sl.length) :
    ∃ v0 v1 v2 v3, w.cell? ⟨S, i * 4, none⟩ = some v0 ∧ w.cell? ⟨S, i * 4 + 1, none⟩ = some v1 ∧ w.cell? ⟨S, i * 4 + 2, none⟩ = some v2 ∧ w.cell? ⟨S, i * 4 + 3, none⟩ = some v3 := by
  cases ho : sl[i] with
  | none => exact ⟨_, _, _, _, h.empty (by rw [List.getElem?_eq_getElem hi, ho])⟩
  | some e =>
    obtain ⟨A, ck, k0, k1, k2, k3, _⟩ := h.used (i := i) (e := e) (by rw [List.getElem?_eq_getElem hi, ho])
    exact ⟨_, _, _, _, k0, k1, k2, k3⟩
theorem SlotsAt.free {w : World} {S c : Nat} {R : Nat → Prop} {sl : List (Option E)} (h : SlotsAt w S c R sl) (k : Nat) : w.frozen? ⟨S, k, none⟩ = false := by
  obtain ⟨⟨arr, h0, _⟩, _⟩ := h
  simp [World.frozen?, h0]

/-- four cells stored -/
def set4 (w : World) (g o : Nat) (y0 y1 y2 y3 : Value) : World := (((w.setCell ⟨g, o, none⟩ y0).setCell ⟨g, o + 1, none⟩ y1).setCell ⟨g, o + 2, none⟩ y2).setCell ⟨g, o + 3, none⟩ y3
theorem set1p {w : World} {g i : Nat} {cur : Array Value} {t : TypeId} (h : w.heap[g]? = some (.cells cur t (0, 0))) (v : Value) : (w.setCell ⟨g, i, none⟩ v).heap[g]? = some (.cells (cur.setIfInBounds i v) t (0, 0)) := by
  rw [setCell_eq_setRow w g i cur t (0, 0) v h]
  exact setRow_heap w g cur _ t (0, 0) h
theorem set4_at {w : World} {g o : Nat} {cur : Array Value} {t : TypeId} (h : w.heap[g]? = some (.cells cur t (0, 0))) (y0 y1 y2 y3 : Value) :
    (set4 w g o y0 y1 y2 y3).heap[g]? = some (.cells ((((cur.setIfInBounds o y0).setIfInBounds (o + 1) y1).setIfInBounds (o + 2) y2).setIfInBounds (o + 3) y3) t (0, 0)) :=
  set1p (set1p (set1p (set1p h y0) y1) y2) y3
theorem set4_size {w : World} {g o : Nat} (y0 y1 y2 y3 : Value) : (set4 w g o y0 y1 y2 y3).heap.size = w.heap.size := by simp [set4, World.setCell]
theorem set4_chg {w : World} {g o : Nat} (y0 y1 y2 y3 : Value) : Chg (fun i => i = g) w (set4 w g o y0 y1 y2 y3) := by
  have h := Chg.refl (M := fun i => i = g) (w := w)
  exact (((h.setCell (p := ⟨g, o, none⟩) rfl y0).setCell (p := ⟨g, o + 1, none⟩) rfl y1).setCell (p := ⟨g, o + 2, none⟩) rfl y2).setCell (p := ⟨g, o + 3, none⟩) rfl y3
theorem get_set4_same {cur : Array Value} {p : Nat} (y0 y1 y2 y3 : Value) (hp : p * 4 + 4 ≤ cur.size) :
    ((((cur.setIfInBounds (p * 4) y0).setIfInBounds (p * 4 + 1) y1).setIfInBounds (p * 4 + 2) y2).setIfInBounds (p * 4 + 3) y3)[p * 4]? = some y0 ∧
    ((((cur.setIfInBounds (p * 4) y0).setIfInBounds (p * 4 + 1) y1).setIfInBounds (p * 4 + 2) y2).setIfInBounds (p * 4 + 3) y3)[p * 4 + 1]? = some y1 ∧
    ((((cur.setIfInBounds (p * 4) y0).setIfInBounds (p * 4 + 1) y1).setIfInBounds (p * 4 + 2) y2).setIfInBounds (p * 4 + 3) y3)[p * 4 + 2]? = some y2 ∧
    ((((cur.setIfInBounds (p * 4) y0).setIfInBounds (p * 4 + 1) y1).setIfInBounds (p * 4 + 2) y2).setIfInBounds (p * 4 + 3) y3)[p * 4 + 3]? = some y3 := by
  refine ⟨?_, ?_, ?_, ?_⟩ <;> (simp [Array.getElem?_setIfInBounds]; omega)
theorem get_set4_other {cur : Array Value} {p : Nat} (y0 y1 y2 y3 : Value) (i j : Nat) (hj : j < 4) (hi : i ≠ p) :
    ((((cur.setIfInBounds (p * 4) y0).setIfInBounds (p * 4 + 1) y1).setIfInBounds (p * 4 + 2) y2).setIfInBounds (p * 4 + 3) y3)[i * 4 + j]? = cur[i * 4 + j]? := by
  have h0 : p * 4 ≠ i * 4 + j := by omega
  have h1 : p * 4 + 1 ≠ i * 4 + j := by omega
  have h2 : p * 4 + 2 ≠ i * 4 + j := by omega
  have h3 : p * 4 + 3 ≠ i * 4 + j := by omega
  rw [Array.getElem?_setIfInBounds_ne h3, Array.getElem?_setIfInBounds_ne h2, Array.getElem?_setIfInBounds_ne h1, Array.getElem?_setIfInBounds_ne h0]
theorem SlotIn.put {w' : World} {R : Nat → Prop} {cur : Array Value} {p i : Nat} {y0 y1 y2 y3 : Value} {o : Option E} (hi : i ≠ p) (h : SlotIn w' R cur i o) :
    SlotIn w' R ((((cur.setIfInBounds (p * 4) y0).setIfInBounds (p * 4 + 1) y1).setIfInBounds (p * 4 + 2) y2).setIfInBounds (p * 4 + 3) y3) i o := by
  have g0 := get_set4_other (cur := cur) y0 y1 y2 y3 i 0 (by omega) hi
  have g1 := get_set4_other (cur := cur) y0 y1 y2 y3 i 1 (by omega) hi
  have g2 := get_set4_other (cur := cur) y0 y1 y2 y3 i 2 (by omega) hi
  have g3 := get_set4_other (cur := cur) y0 y1 y2 y3 i 3 (by omega) hi
  cases o with
  | none => obtain ⟨h0, h1, h2, h3⟩ := h; exact ⟨g0.trans h0, g1.trans h1, g2.trans h2, g3.trans h3⟩
  | some e => obtain ⟨A, c, h0, h1, h2, h3, h4⟩ := h; exact ⟨A, c, g0.trans h0, g1.trans h1, g2.trans h2, g3.trans h3, h4⟩
/-- a slot is stored -/
theorem SlotsAt.put {w : World} {S c : Nat} {R : Nat → Prop} {sl : List (Option E)} (h : SlotsAt w S c R sl) {p : Nat} (hp : p < sl.length) {e : E} {A : Option Addr} {ck : Nat} (hc : e.key.length ≤ ck) (hk : KeyR w R A e.key) :
    SlotsAt (set4 w S (p * 4) (.bool true) (.slice A e.key.length ck) (.int .u64 (e.n : Int)) (.int .i64 (e.far : Int))) S c R (sl.set p (some e)) := by
  obtain ⟨⟨arr, h0, h1, h2⟩, h3, h4, h5⟩ := h
  have hps : p * 4 + 4 ≤ arr.size := by rw [h1]; omega
  have hch := set4_chg (w := w) (g := S) (o := p * 4) (.bool true) (.slice A e.key.length ck) (.int .u64 (e.n : Int)) (.int .i64 (e.far : Int))
  have hM : ∀ i, i = S → ¬ R i := fun i hi => by rw [hi]; exact h5
  refine ⟨⟨_, set4_at h0 _ _ _ _, by simpa using h1, fun i o ho => ?_⟩, by simpa using h3, h4, h5⟩
  rw [List.getElem?_set] at ho
  split at ho
  · rename_i hi
    subst hi
    injection ho with ho
    subst ho
    obtain ⟨g0, g1, g2, g3⟩ := get_set4_same (cur := arr) (.bool true) (.slice A e.key.length ck) (.int .u64 (e.n : Int)) (.int .i64 (e.far : Int)) hps
    exact ⟨A, ck, g0, g1, g2, g3, hc, hk.chg hch hM⟩
  · rename_i hi
    exact SlotIn.put (fun c => hi c.symm) ((h2 i o ho).chg hch hM)
/-- a slot is made empty -/
theorem SlotsAt.clear {w : World} {S c : Nat} {R : Nat → Prop} {sl : List (Option E)} (h : SlotsAt w S c R sl) {p : Nat} (hp : p < sl.length) :
    SlotsAt (set4 w S (p * 4) (.bool false) (.slice none 0 0) (.int .u64 0) (.int .i64 0)) S c R (sl.set p none) := by
  obtain ⟨⟨arr, h0, h1, h2⟩, h3, h4, h5⟩ := h
  have hps : p * 4 + 4 ≤ arr.size := by rw [h1]; omega
  have hch := set4_chg (w := w) (g := S) (o := p * 4) (.bool false) (.slice none 0 0) (.int .u64 0) (.int .i64 0)
  have hM : ∀ i, i = S → ¬ R i := fun i hi => by rw [hi]; exact h5
  refine ⟨⟨_, set4_at h0 _ _ _ _, by simpa using h1, fun i o ho => ?_⟩, by simpa using h3, h4, h5⟩
  rw [List.getElem?_set] at ho
  split at ho
  · rename_i hi
    subst hi
    injection ho with ho
    subst ho
    exact get_set4_same (cur := arr) _ _ _ _ hps
  · rename_i hi
    exact SlotIn.put (fun c => hi c.symm) ((h2 i o ho).chg hch hM)

/-- the cells of a table -/
structure TCells (w : World) (T S c seed n keys : Nat) : Prop where
  c0 : w.cell? ⟨T, 0, none⟩ = some (.int .u64 (seed : Int))
  c1 : w.cell? ⟨T, 1, none⟩ = some (.slice (some ⟨S, 0, none⟩) n c)
  c2 : w.cell? ⟨T, 2, none⟩ = some (.int .i64 (keys : Int))
  f0 : w.frozen? ⟨T, 0, none⟩ = false
  f1 : w.frozen? ⟨T, 1, none⟩ = false
  f2 : w.frozen? ⟨T, 2, none⟩ = false
section
variable {w w' : World} {T S c seed n keys : Nat}
theorem TCells.lt (h : TCells w T S c seed n keys) : T < w.heap.size := fblock_of_cell h.c0
theorem TCells.of_block (h : TCells w T S c seed n keys) (hb : w'.heap[T]? = w.heap[T]?) : TCells w' T S c seed n keys := by
  have hc : ∀ o, w'.cell? ⟨T, o, none⟩ = w.cell? ⟨T, o, none⟩ := fun o => World.cell?_of_block hb
  have hf : ∀ o, w'.frozen? ⟨T, o, none⟩ = w.frozen? ⟨T, o, none⟩ := fun o => World.frozen?_of_block hb
  exact ⟨(hc 0).trans h.c0, (hc 1).trans h.c1, (hc 2).trans h.c2, (hf 0).trans h.f0, (hf 1).trans h.f1, (hf 2).trans h.f2⟩
theorem TCells.chg {M : Nat → Prop} (h : TCells w T S c seed n keys) (hc : Chg M w w') (hM : ¬ M T) : TCells w' T S c seed n keys := h.of_block (hc.block T h.lt hM)
theorem TCells.on (h : TCells w T S c seed n keys) (hb : Below w.heap.size w w') : TCells w' T S c seed n keys := h.of_block (hb.block T h.lt)
theorem TCells.set1 (h : TCells w T S c seed n keys) (S' c' n' : Nat) : TCells (w.setCell ⟨T, 1, none⟩ (.slice (some ⟨S', 0, none⟩) n' c')) T S' c' seed n' keys := by
  obtain ⟨c0, c1, c2, f0, f1, f2⟩ := h
  refine ⟨?_, World.cell?_setCell_same _ _ _ c1, ?_, by rw [World.frozen?_setCell]; assumption, by rw [World.frozen?_setCell]; assumption, by rw [World.frozen?_setCell]; assumption⟩ <;>
    (rw [World.cell?_setCell_other _ _ _ _ (by intro e; injection e with e1 e2; omega)]; assumption)
theorem TCells.set2 (h : TCells w T S c seed n keys) (k : Nat) : TCells (w.setCell ⟨T, 2, none⟩ (.int .i64 (k : Int))) T S c seed n k := by
  obtain ⟨c0, c1, c2, f0, f1, f2⟩ := h
  refine ⟨?_, ?_, World.cell?_setCell_same _ _ _ c2, by rw [World.frozen?_setCell]; assumption, by rw [World.frozen?_setCell]; assumption, by rw [World.frozen?_setCell]; assumption⟩ <;>
    (rw [World.cell?_setCell_other _ _ _ _ (by intro e; injection e with e1 e2; omega)]; assumption)
end
/-- a table in memory, its slots as they lie -/
structure TabAt (w : World) (T S c : Nat) (R : Nat → Prop) (seed keys : Nat) (sl : List (Option E)) : Prop where
  cells : TCells w T S c seed sl.length keys
  slots : SlotsAt w S c R sl
  ne : T ≠ S
  outT : ¬ R T
section
variable {w w' : World} {T S c : Nat} {R M : Nat → Prop} {seed keys : Nat} {sl : List (Option E)}
theorem TabAt.chg (h : TabAt w T S c R seed keys sl) (hc : Chg M w w') (hR : ∀ i, M i → ¬ R i) (hT : ¬ M T) (hS : ¬ M S) : TabAt w' T S c R seed keys sl :=
  ⟨h.cells.chg hc hT, h.slots.chg hc hR hS, h.ne, h.outT⟩
theorem TabAt.on (h : TabAt w T S c R seed keys sl) (hb : Below w.heap.size w w') : TabAt w' T S c R seed keys sl := ⟨h.cells.on hb, h.slots.on hb, h.ne, h.outT⟩
end
end Go.Proofs.Ytffcbekogpgciaa.Pr
