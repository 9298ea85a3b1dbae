
/-
  Layer 6: the program's folder in memory: its maps, its deeds (function values over cells that nobody writes).
-/
import Derived.Test.YtpjmjcjikaekiaaHxMap
set_option linter.unusedVariables false
set_option linter.unusedSimpArgs false
namespace Go.Proofs.Ytpjmjcjikaekiaa
open Go.RowKit Go.Maps

/-- the value v is the deed d; R: the blocks of what it captured -/
def DdAt (w : World) (R : Nat → Prop) (v : Value) : Dd → Prop
  | .mk n i => ∃ p q, v = .func (.func 32) #[] #[.pointer (some ⟨p, 0, none⟩), .pointer (some ⟨q, 0, none⟩)] ∧ R p ∧ R q ∧ w.cell? ⟨p, 0, none⟩ = some (.int .u64 (i : Int)) ∧ w.cell? ⟨q, 0, none⟩ = some (.string n)
  | .mv a b => ∃ p q, v = .func (.func 46) #[] #[.pointer (some ⟨p, 0, none⟩), .pointer (some ⟨q, 0, none⟩)] ∧ R p ∧ R q ∧ w.cell? ⟨p, 0, none⟩ = some (.string a) ∧ w.cell? ⟨q, 0, none⟩ = some (.string b)
  | .rm n => ∃ q, v = .func (.func 33) #[] #[.pointer (some ⟨q, 0, none⟩)] ∧ R q ∧ w.cell? ⟨q, 0, none⟩ = some (.string n)
section
variable {w w' : World} {R R' M : Nat → Prop} {v : Value} {d : Dd} {vs : List Value} {ds : List Dd}
theorem DdAt.mono (h : DdAt w R v d) (hR : ∀ i, R i → R' i) : DdAt w R' v d := by
  cases d with
  | mk n i => obtain ⟨p, q, e, h1, h2, h3⟩ := h; exact ⟨p, q, e, hR _ h1, hR _ h2, h3⟩
  | mv a b => obtain ⟨p, q, e, h1, h2, h3⟩ := h; exact ⟨p, q, e, hR _ h1, hR _ h2, h3⟩
  | rm n => obtain ⟨q, e, h2, h3⟩ := h; exact ⟨q, e, hR _ h2, h3⟩
theorem cell_chg (hc : Chg M w w') (hM : ∀ i, M i → ¬ R i) {p : Nat} (hp : R p) {u : Value} (h : w.cell? ⟨p, 0, none⟩ = some u) : w'.cell? ⟨p, 0, none⟩ = some u :=
  (hc.cell (p := ⟨p, 0, none⟩) (fblock_of_cell h) (fun e => hM p e hp)).trans h
theorem DdAt.chg (h : DdAt w R v d) (hc : Chg M w w') (hM : ∀ i, M i → ¬ R i) : DdAt w' R v d := by
  cases d with
  | mk n i => obtain ⟨p, q, e, h1, h2, h3, h4⟩ := h; exact ⟨p, q, e, h1, h2, cell_chg hc hM h1 h3, cell_chg hc hM h2 h4⟩
  | mv a b => obtain ⟨p, q, e, h1, h2, h3, h4⟩ := h; exact ⟨p, q, e, h1, h2, cell_chg hc hM h1 h3, cell_chg hc hM h2 h4⟩
  | rm n => obtain ⟨q, e, h2, h4⟩ := h; exact ⟨q, e, h2, cell_chg hc hM h2 h4⟩
theorem DdAt.one (h : DdAt w R v d) : v.oneCell' = true := by
  cases d with
  | mk n i => obtain ⟨p, q, rfl, _⟩ := h; rfl
  | mv a b => obtain ⟨p, q, rfl, _⟩ := h; rfl
  | rm n => obtain ⟨q, rfl, _⟩ := h; rfl
def DdsAt (w : World) (R : Nat → Prop) (vs : List Value) (ds : List Dd) : Prop := vs.length = ds.length ∧ ∀ (i : Nat) v d, vs[i]? = some v → ds[i]? = some d → DdAt w R v d
theorem DdsAt.chg (h : DdsAt w R vs ds) (hc : Chg M w w') (hM : ∀ i, M i → ¬ R i) : DdsAt w' R vs ds := ⟨h.1, fun i v d hv hd => (h.2 i v d hv hd).chg hc hM⟩
theorem DdsAt.mono (h : DdsAt w R vs ds) (hR : ∀ i, R i → R' i) : DdsAt w R' vs ds := ⟨h.1, fun i v d hv hd => (h.2 i v d hv hd).mono hR⟩
theorem DdsAt.nil_ : DdsAt w R [] [] := ⟨rfl, fun i v d hv hd => by simp at hv⟩
theorem DdsAt.one (h : DdsAt w R vs ds) : ∀ u ∈ vs, u.oneCell' = true := fun u hu => by
  obtain ⟨i, hi, rfl⟩ := List.mem_iff_getElem.1 hu
  exact (h.2 i _ (ds[i]'(by rw [← h.1]; exact hi)) (List.getElem?_eq_getElem hi) (List.getElem?_eq_getElem _)).one
theorem DdsAt.add (h : DdsAt w R vs ds) (hd : DdAt w R v d) : DdsAt w R (vs ++ [v]) (ds ++ [d]) := by
  refine ⟨by simp [h.1], fun i v' d' hv hd' => ?_⟩
  rw [List.getElem?_append] at hv hd'
  rw [h.1] at hv
  split at hv
  · rename_i hi
    rw [if_pos hi] at hd'
    exact h.2 i v' d' hv hd'
  · rename_i hi
    rw [if_neg hi] at hd'
    rcases hk : i - ds.length with _ | k
    · rw [hk] at hv hd'
      simp at hv hd'
      subst hv hd'
      exact hd
    · rw [hk] at hv
      simp at hv
end
/-- a folder's cells -/
structure HCells (w : World) (X bs bn : Nat) (vd : Value) (last settled : Nat) : Prop where
  c0 : w.cell? ⟨X, 0, none⟩ = some (.map (some bs))
  c1 : w.cell? ⟨X, 1, none⟩ = some (.map (some bn))
  c2 : w.cell? ⟨X, 2, none⟩ = some vd
  c3 : w.cell? ⟨X, 3, none⟩ = some (.int .u64 (last : Int))
  c4 : w.cell? ⟨X, 4, none⟩ = some (.int .u64 (settled : Int))
  f0 : w.frozen? ⟨X, 0, none⟩ = false
  f1 : w.frozen? ⟨X, 1, none⟩ = false
  f2 : w.frozen? ⟨X, 2, none⟩ = false
  f3 : w.frozen? ⟨X, 3, none⟩ = false
  f4 : w.frozen? ⟨X, 4, none⟩ = false
section
variable {w w' : World} {X bs bn : Nat} {vd : Value} {last settled : Nat}
theorem HCells.lt (h : HCells w X bs bn vd last settled) : X < w.heap.size := fblock_of_cell h.c0
theorem HCells.of_block (h : HCells w X bs bn vd last settled) (hb : w'.heap[X]? = w.heap[X]?) : HCells w' X bs bn vd last settled := by
  have hc : ∀ o, w'.cell? ⟨X, o, none⟩ = w.cell? ⟨X, o, none⟩ := fun o => World.cell?_of_block hb
  have hf : ∀ o, w'.frozen? ⟨X, o, none⟩ = w.frozen? ⟨X, o, none⟩ := fun o => World.frozen?_of_block hb
  exact ⟨(hc 0).trans h.c0, (hc 1).trans h.c1, (hc 2).trans h.c2, (hc 3).trans h.c3, (hc 4).trans h.c4, (hf 0).trans h.f0, (hf 1).trans h.f1, (hf 2).trans h.f2, (hf 3).trans h.f3, (hf 4).trans h.f4⟩
theorem HCells.on (h : HCells w X bs bn vd last settled) (hb : Below w.heap.size w w') : HCells w' X bs bn vd last settled := h.of_block (hb.block X h.lt)
theorem HCells.drew (h : HCells w X bs bn vd last settled) : HCells w.drew X bs bn vd last settled := h.of_block rfl
theorem HCells.set1 (h : HCells w X bs bn vd last settled) (k : Nat) : HCells (w.setCell ⟨X, 1, none⟩ (.map (some k))) X bs k vd last settled := by
  obtain ⟨c0, c1, c2, c3, c4, f0, f1, f2, f3, f4⟩ := h
  refine ⟨?_, World.cell?_setCell_same _ _ _ c1, ?_, ?_, ?_, by rw [World.frozen?_setCell]; assumption, by rw [World.frozen?_setCell]; assumption, by rw [World.frozen?_setCell]; assumption, by rw [World.frozen?_setCell]; assumption, by rw [World.frozen?_setCell]; assumption⟩ <;>
    (rw [World.cell?_setCell_other _ _ _ _ (by intro e; injection e with e1 e2; omega)]; assumption)
theorem HCells.set2 (h : HCells w X bs bn vd last settled) (v : Value) : HCells (w.setCell ⟨X, 2, none⟩ v) X bs bn v last settled := by
  obtain ⟨c0, c1, c2, c3, c4, f0, f1, f2, f3, f4⟩ := h
  refine ⟨?_, ?_, World.cell?_setCell_same _ _ _ c2, ?_, ?_, by rw [World.frozen?_setCell]; assumption, by rw [World.frozen?_setCell]; assumption, by rw [World.frozen?_setCell]; assumption, by rw [World.frozen?_setCell]; assumption, by rw [World.frozen?_setCell]; assumption⟩ <;>
    (rw [World.cell?_setCell_other _ _ _ _ (by intro e; injection e with e1 e2; omega)]; assumption)
theorem HCells.set3 (h : HCells w X bs bn vd last settled) (k : Nat) : HCells (w.setCell ⟨X, 3, none⟩ (.int .u64 (k : Int))) X bs bn vd k settled := by
  obtain ⟨c0, c1, c2, c3, c4, f0, f1, f2, f3, f4⟩ := h
  refine ⟨?_, ?_, ?_, World.cell?_setCell_same _ _ _ c3, ?_, by rw [World.frozen?_setCell]; assumption, by rw [World.frozen?_setCell]; assumption, by rw [World.frozen?_setCell]; assumption, by rw [World.frozen?_setCell]; assumption, by rw [World.frozen?_setCell]; assumption⟩ <;>
    (rw [World.cell?_setCell_other _ _ _ _ (by intro e; injection e with e1 e2; omega)]; assumption)
theorem HCells.set4 (h : HCells w X bs bn vd last settled) (k : Nat) : HCells (w.setCell ⟨X, 4, none⟩ (.int .u64 (k : Int))) X bs bn vd last k := by
  obtain ⟨c0, c1, c2, c3, c4, f0, f1, f2, f3, f4⟩ := h
  refine ⟨?_, ?_, ?_, ?_, World.cell?_setCell_same _ _ _ c4, by rw [World.frozen?_setCell]; assumption, by rw [World.frozen?_setCell]; assumption, by rw [World.frozen?_setCell]; assumption, by rw [World.frozen?_setCell]; assumption, by rw [World.frozen?_setCell]; assumption⟩ <;>
    (rw [World.cell?_setCell_other _ _ _ _ (by intro e; injection e with e1 e2; omega)]; assumption)
theorem HCells.new (w : World) (bs bn : Nat) (vd : Value) (last settled : Nat) (t : TypeId) : HCells (w.alloc (.cells #[.map (some bs), .map (some bn), vd, .int .u64 (last : Int), .int .u64 (settled : Int)] t)) w.heap.size bs bn vd last settled := by
  refine ⟨by simp, by simp, by simp, by simp, by simp, by simp, by simp, by simp, by simp, by simp⟩
end
/-- the blocks that are a folder's own -/
def HOwn (X bs bn : Nat) (vd : Value) (i : Nat) : Prop := i = X ∨ i = bs ∨ i = bn ∨ vd.ownBlock = some i
/-- a folder's memory -/
structure HFol (w : World) (X bs bn : Nat) (R : Nat → Prop) (vd : Value) (dvs : List Value) (s : PSt) : Prop where
  cells : HCells w X bs bn vd s.last s.settled
  safe : MapAt w bs s.safe
  now : MapAt w bn s.now
  deeds : w.ownsRow 0 68 1 vd s.deeds.length dvs
  each : DdsAt w R dvs s.deeds
  ne : bs ≠ bn
  rows : ∀ i, HOwn X bs bn vd i → ¬ R i
section
variable {w w' : World} {X bs bn : Nat} {R M : Nat → Prop} {vd : Value} {dvs : List Value} {s : PSt}
theorem HFol.lt (h : HFol w X bs bn R vd dvs s) : ∀ i, HOwn X bs bn vd i → i < w.heap.size := by
  rintro i (rfl | rfl | rfl | hi)
  · exact h.cells.lt
  · exact h.safe.lt
  · exact h.now.lt
  · exact (h.deeds.lt i hi).2
theorem HFol.xs (h : HFol w X bs bn R vd dvs s) : X ≠ bs := fun e => by have h1 := h.cells.c0; have h2 := h.safe.no_cell 0; rw [e, h2] at h1; cases h1
theorem HFol.xn (h : HFol w X bs bn R vd dvs s) : X ≠ bn := fun e => by have h1 := h.cells.c0; have h2 := h.now.no_cell 0; rw [e, h2] at h1; cases h1
theorem row_cells {g n : Nat} {e : TypeId} {v : Value} {xs : List Value} (ho : w.ownsRow 0 e 1 v n xs) (hg : v.ownBlock = some g) : ∃ cur, w.heap[g]? = some (.cells cur e (0, 0)) := by
  rcases ho.2 with ⟨rfl, _⟩ | ⟨b, cap, cur, rfl, _, hb, _⟩
  · simp [Value.ownBlock] at hg
  · simp [Value.ownBlock] at hg; subst hg; exact ⟨cur, hb⟩
theorem HFol.gs (h : HFol w X bs bn R vd dvs s) : vd.ownBlock ≠ some bs := fun e => by
  obtain ⟨cur, hb⟩ := row_cells h.deeds e
  obtain ⟨_, D, ⟨es', clock, h1, _⟩, _⟩ := h.safe
  rw [hb] at h1; cases h1
theorem HFol.gn (h : HFol w X bs bn R vd dvs s) : vd.ownBlock ≠ some bn := fun e => by
  obtain ⟨cur, hb⟩ := row_cells h.deeds e
  obtain ⟨_, D, ⟨es', clock, h1, _⟩, _⟩ := h.now
  rw [hb] at h1; cases h1
theorem HFol.chg (h : HFol w X bs bn R vd dvs s) (hc : Chg M w w') (hM : ∀ i, M i → ¬ HOwn X bs bn vd i ∧ ¬ R i) : HFol w' X bs bn R vd dvs s :=
  ⟨h.cells.of_block (hc.block X h.cells.lt (fun e => (hM X e).1 (.inl rfl))), h.safe.chg hc (fun e => (hM bs e).1 (.inr (.inl rfl))), h.now.chg hc (fun e => (hM bn e).1 (.inr (.inr (.inl rfl)))),
   hc.own h.deeds (fun g hg e => (hM g e).1 (.inr (.inr (.inr hg)))), h.each.chg hc (fun i e => (hM i e).2), h.ne, h.rows⟩
end
/-- the folder in block X holds s; its own blocks are in M, what its deeds captured in R -/
def HFolM (w : World) (X : Nat) (M R : Nat → Prop) (s : PSt) : Prop :=
  s.Ok ∧ (∀ i, M i → ¬ R i) ∧ (∀ i, M i → i < w.heap.size) ∧ (∀ i, R i → i < w.heap.size) ∧ ∃ bs bn vd dvs, HFol w X bs bn R vd dvs s ∧ vd.ownBlock ≠ some X ∧ ∀ i, HOwn X bs bn vd i → M i
section
variable {w w' : World} {X : Nat} {R M N : Nat → Prop} {s : PSt}
theorem HFolM.ok (h : HFolM w X M R s) : s.Ok := h.1
theorem HFolM.ltX (h : HFolM w X M R s) : X < w.heap.size := by obtain ⟨_, _, _, _, bs, bn, vd, dvs, h, _⟩ := h; exact h.cells.lt
theorem HFolM.chg (h : HFolM w X M R s) (hc : Chg N w w') (hN : ∀ i, N i → ¬ M i ∧ ¬ R i) : HFolM w' X M R s := by
  obtain ⟨ho, h1, h2, h3, bs, bn, vd, dvs, h, hx, h4⟩ := h
  exact ⟨ho, h1, fun i hi => Nat.lt_of_lt_of_le (h2 i hi) hc.size, fun i hi => Nat.lt_of_lt_of_le (h3 i hi) hc.size, bs, bn, vd, dvs, h.chg hc (fun i e => ⟨fun e' => (hN i e).1 (h4 i e'), (hN i e).2⟩), hx, h4⟩
theorem HFolM.on (h : HFolM w X M R s) (hb : Below w.heap.size w w') : HFolM w' X M R s := h.chg (Chg.of_below (M := fun _ => False) hb) (fun i e => e.elim)
theorem HFolM.drew (h : HFolM w X M R s) : HFolM w.drew X M R s := h.on (Below.refl _ _).drew
end
/-- what a call leaves that changes the folder -/
def HMut (w w' : World) (X : Nat) (M R : Nat → Prop) (s : PSt) : Prop :=
  ∃ M' R', HFolM w' X M' R' s ∧ Chg M w w' ∧ (∀ i, M' i → M i ∨ w.heap.size ≤ i) ∧ (∀ i, R' i → R i ∨ w.heap.size ≤ i)
theorem HMut.of_below {w w' : World} {X : Nat} {M R : Nat → Prop} {s : PSt} (h : HFolM w X M R s) (hb : Below w.heap.size w w') : HMut w w' X M R s := ⟨M, R, h.on hb, Chg.of_below hb, fun _ => .inl, fun _ => .inl⟩
end Go.Proofs.Ytpjmjcjikaekiaa
