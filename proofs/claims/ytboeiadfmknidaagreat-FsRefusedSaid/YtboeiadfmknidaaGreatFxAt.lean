
/-
  Layer 5: a file in memory: its own cell block, its bytes' blocks, its deeds' block, and the blocks (R) that its deeds' bytes lie in, which nobody writes.
-/
import Derived.Test.YtboeiadfmknidaaGreatFxBase
set_option linter.unusedVariables false
set_option linter.unusedSimpArgs false
namespace Go.Proofs.YtboeiadfmknidaaGreat
open Go.RowKit

theorem fblock_of_cell {w : World} {b o : Nat} {v : Value} (h : w.cell? ⟨b, o, none⟩ = some v) : b < w.heap.size := World.block_lt_of_cell? w ⟨b, o, none⟩ h
/-- the slice at A reads as xs, out of a block of R -/
def RdR (w : World) (R : Nat → Prop) (A : Option Addr) (xs : List Value) : Prop :=
  xs ≠ [] → ∃ b o, A = some ⟨b, o, none⟩ ∧ R b ∧ ∀ j u, xs[j]? = some u → w.cell? ⟨b, o + j, none⟩ = some u
theorem RdR.rd {w : World} {R : Nat → Prop} {A : Option Addr} {xs : List Value} (h : RdR w R A xs) : Rd w w.heap.size A xs := fun hx => by
  obtain ⟨b, o, e, _, hc⟩ := h hx
  refine ⟨b, o, e, ?_, hc⟩
  rcases xs with _ | ⟨x, r⟩
  · exact absurd rfl hx
  · exact fblock_of_cell (hc 0 x rfl)
theorem RdR.mono {w : World} {R R' : Nat → Prop} {A : Option Addr} {xs : List Value} (h : RdR w R A xs) (hR : ∀ i, R i → R' i) : RdR w R' A xs := fun hx => by
  obtain ⟨b, o, e, hb, hc⟩ := h hx
  exact ⟨b, o, e, hR b hb, hc⟩
/-- what may have changed: the blocks of M, and what is new -/
structure Chg (M : Nat → Prop) (w w' : World) : Prop where
  os : w'.os = w.os
  tape : w'.tape = w.tape
  output : w'.output = w.output
  size : w.heap.size ≤ w'.heap.size
  block : ∀ k, k < w.heap.size → ¬ M k → w'.heap[k]? = w.heap[k]?
section
variable {M M' N : Nat → Prop} {w w' w'' : World}
theorem Chg.refl : Chg M w w := ⟨rfl, rfl, rfl, Nat.le_refl _, fun _ _ _ => rfl⟩
theorem Chg.of_below (h : Below w.heap.size w w') : Chg M w w' := ⟨h.os, h.tape, h.output, h.size, fun k hk _ => h.block k hk⟩
theorem Chg.of_grown {row : Option Nat} (h : w.grownBy w' row) (hM : ∀ g, row = some g → M g) : Chg M w w' :=
  ⟨h.os, h.tape, h.output, h.size, fun k hk hn => h.block k hk (fun e => hn (hM k e.symm))⟩
theorem Chg.mono (h : Chg M w w') (hM : ∀ i, M i → N i) : Chg N w w' := ⟨h.os, h.tape, h.output, h.size, fun k hk hn => h.block k hk (fun e => hn (hM k e))⟩
theorem Chg.trans (h : Chg M w w') (k : Chg M' w' w'') (hM : ∀ i, M' i → M i ∨ w.heap.size ≤ i) : Chg M w w'' :=
  ⟨k.os.trans h.os, k.tape.trans h.tape, k.output.trans h.output, Nat.le_trans h.size k.size, fun i hi hn => (k.block i (Nat.lt_of_lt_of_le hi h.size) (fun e => (hM i e).elim hn (fun e => by omega))).trans (h.block i hi hn)⟩
theorem Chg.drew (h : Chg M w w') : Chg M w w'.drew := ⟨h.os, h.tape, h.output, h.size, h.block⟩
theorem Chg.setCell (h : Chg M w w') {p : Addr} (hp : M p.block) (u : Value) : Chg M w (w'.setCell p u) :=
  ⟨h.os, h.tape, h.output, Nat.le_trans h.size (by simp), fun k hk hn => (Below.heap_setCell w' p u k (fun e => hn (e ▸ hp))).trans (h.block k hk hn)⟩
theorem Chg.alloc (h : Chg M w w') (o : Obj) : Chg M w (w'.alloc o) :=
  ⟨h.os, h.tape, h.output, Nat.le_trans h.size (by simp), fun k hk hn => (Below.heap_alloc w' o k (Nat.lt_of_lt_of_le hk h.size)).trans (h.block k hk hn)⟩
theorem Chg.cell (h : Chg M w w') {p : Addr} (hp : p.block < w.heap.size) (hn : ¬ M p.block) : w'.cell? p = w.cell? p := World.cell?_of_block (h.block p.block hp hn)
theorem Chg.frozen (h : Chg M w w') {p : Addr} (hp : p.block < w.heap.size) (hn : ¬ M p.block) : w'.frozen? p = w.frozen? p := World.frozen?_of_block (h.block p.block hp hn)
theorem Chg.below (h : Chg M w w') {B : Nat} (hB : B ≤ w.heap.size) (hM : ∀ i, M i → B ≤ i) : Below B w w' :=
  ⟨h.os, h.tape, h.output, h.size, fun k hk => h.block k (Nat.lt_of_lt_of_le hk hB) (fun e => by have := hM k e; omega)⟩
theorem Chg.own (h : Chg M w w') {b n size : Nat} {e : TypeId} {v : Value} {xs : List Value} (ho : w.ownsRow b e size v n xs) (hn : ∀ g, v.ownBlock = some g → ¬ M g) : w'.ownsRow b e size v n xs := by
  rcases ho.2 with ⟨rfl, rfl⟩ | ⟨g, cap, cur, rfl, hg, hc, r⟩
  · exact ⟨ho.1, .inl ⟨rfl, rfl⟩⟩
  · have hlt := (ho.lt g rfl).2
    exact ⟨ho.1, .inr ⟨g, cap, cur, rfl, hg, (h.block g hlt (hn g rfl)).trans hc, r⟩⟩
end
/-- the value v is the deed d -/
def DeedAt (w : World) (R : Nat → Prop) (v : Value) : Deed → Prop
  | .added r => ∃ A c, v = addV A r.length c ∧ r.length ≤ c ∧ RdR w R A (bvs r)
  | .cut s => v = cutV s ∧ s < 100000000
theorem DeedAt.mono {w : World} {R R' : Nat → Prop} {v : Value} {d : Deed} (h : DeedAt w R v d) (hR : ∀ i, R i → R' i) : DeedAt w R' v d := by
  cases d with
  | added r => obtain ⟨A, c, e, hc, hr⟩ := h; exact ⟨A, c, e, hc, hr.mono hR⟩
  | cut s => exact h
theorem RdR.chg {M R : Nat → Prop} {w w' : World} {A : Option Addr} {xs : List Value} (h : RdR w R A xs) (hc : Chg M w w') (hM : ∀ i, M i → ¬ R i) : RdR w' R A xs := fun hx => by
  obtain ⟨b, o, e, hb, hcell⟩ := h hx
  exact ⟨b, o, e, hb, fun j u hu => (hc.cell (p := ⟨b, o + j, none⟩) (fblock_of_cell (hcell j u hu)) (fun e => hM b e hb)).trans (hcell j u hu)⟩
theorem DeedAt.chg {M R : Nat → Prop} {w w' : World} {v : Value} {d : Deed} (h : DeedAt w R v d) (hc : Chg M w w') (hM : ∀ i, M i → ¬ R i) : DeedAt w' R v d := by
  cases d with
  | added r => obtain ⟨A, c, e, hc', hr⟩ := h; exact ⟨A, c, e, hc', hr.chg hc hM⟩
  | cut s => exact h
theorem DeedAt.one {w : World} {R : Nat → Prop} {v : Value} {d : Deed} (h : DeedAt w R v d) : v.oneCell' = true := by
  cases d with
  | added r => obtain ⟨A, c, rfl, _⟩ := h; rfl
  | cut s => obtain ⟨rfl, _⟩ := h; rfl
def DeedsAt (w : World) (R : Nat → Prop) (vs : List Value) (ds : List Deed) : Prop := vs.length = ds.length ∧ ∀ (i : Nat) v d, vs[i]? = some v → ds[i]? = some d → DeedAt w R v d
theorem DeedsAt.chg {M R : Nat → Prop} {w w' : World} {vs : List Value} {ds : List Deed} (h : DeedsAt w R vs ds) (hc : Chg M w w') (hM : ∀ i, M i → ¬ R i) : DeedsAt w' R vs ds :=
  ⟨h.1, fun i v d hv hd => (h.2 i v d hv hd).chg hc hM⟩
theorem DeedsAt.mono {R R' : Nat → Prop} {w : World} {vs : List Value} {ds : List Deed} (h : DeedsAt w R vs ds) (hR : ∀ i, R i → R' i) : DeedsAt w R' vs ds :=
  ⟨h.1, fun i v d hv hd => (h.2 i v d hv hd).mono hR⟩
theorem DeedsAt.one {w : World} {R : Nat → Prop} {vs : List Value} {ds : List Deed} (h : DeedsAt w R vs ds) : ∀ u ∈ vs, u.oneCell' = true := fun u hu => by
  obtain ⟨i, hi, rfl⟩ := List.mem_iff_getElem.1 hu
  exact (h.2 i _ (ds[i]'(by rw [← h.1]; exact hi)) (List.getElem?_eq_getElem hi) (List.getElem?_eq_getElem _)).one
theorem DeedsAt.add {w : World} {R : Nat → Prop} {vs : List Value} {ds : List Deed} {v : Value} {d : Deed} (h : DeedsAt w R vs ds) (hd : DeedAt w R v d) : DeedsAt w R (vs ++ [v]) (ds ++ [d]) := by
  refine ⟨by simp [h.1], fun i v' d' hv hd' => ?_⟩
  rw [List.getElem?_append] at hv hd'
  rw [h.1] at hv
  split at hv
  · rename_i hi
    rw [if_pos hi] at hd'
    exact h.2 i v' d' hv hd'
  · rename_i hi
    rw [if_neg hi] at hd'
    rcases hk : i - ds.length with _ | k
    · rw [hk] at hv hd'
      simp at hv hd'
      subst hv hd'
      exact hd
    · rw [hk] at hv
      simp at hv
theorem DeedsAt.nil_ {w : World} {R : Nat → Prop} : DeedsAt w R [] [] := ⟨rfl, fun i v d hv => by simp at hv⟩

/-- the cells of a file -/
structure FCells (w : World) (F : Nat) (vs vt vd : Value) (kept loose : Nat) : Prop where
  c0 : w.cell? ⟨F, 0, none⟩ = some vs
  c1 : w.cell? ⟨F, 1, none⟩ = some (.int .i64 (kept : Int))
  c2 : w.cell? ⟨F, 2, none⟩ = some vt
  c3 : w.cell? ⟨F, 3, none⟩ = some vd
  c4 : w.cell? ⟨F, 4, none⟩ = some (.int .i64 (loose : Int))
  f0 : w.frozen? ⟨F, 0, none⟩ = false
  f1 : w.frozen? ⟨F, 1, none⟩ = false
  f2 : w.frozen? ⟨F, 2, none⟩ = false
  f3 : w.frozen? ⟨F, 3, none⟩ = false
  f4 : w.frozen? ⟨F, 4, none⟩ = false
theorem FCells.lt {w : World} {F : Nat} {vs vt vd : Value} {kept loose : Nat} (h : FCells w F vs vt vd kept loose) : F < w.heap.size := fblock_of_cell h.c0
theorem FCells.of_block {w w' : World} {F : Nat} {vs vt vd : Value} {kept loose : Nat} (h : FCells w F vs vt vd kept loose) (hb : w'.heap[F]? = w.heap[F]?) : FCells w' F vs vt vd kept loose := by
  have hc : ∀ o, w'.cell? ⟨F, o, none⟩ = w.cell? ⟨F, o, none⟩ := fun o => World.cell?_of_block hb
  have hf : ∀ o, w'.frozen? ⟨F, o, none⟩ = w.frozen? ⟨F, o, none⟩ := fun o => World.frozen?_of_block hb
  exact ⟨(hc 0).trans h.c0, (hc 1).trans h.c1, (hc 2).trans h.c2, (hc 3).trans h.c3, (hc 4).trans h.c4, (hf 0).trans h.f0, (hf 1).trans h.f1, (hf 2).trans h.f2, (hf 3).trans h.f3, (hf 4).trans h.f4⟩
theorem FCells.on {w w' : World} {F : Nat} {vs vt vd : Value} {kept loose : Nat} (h : FCells w F vs vt vd kept loose) (hb : Below w.heap.size w w') : FCells w' F vs vt vd kept loose := h.of_block (hb.block F h.lt)
theorem FCells.drew {w : World} {F : Nat} {vs vt vd : Value} {kept loose : Nat} (h : FCells w F vs vt vd kept loose) : FCells w.drew F vs vt vd kept loose := h.of_block rfl
section
variable {w : World} {F : Nat} {vs vt vd : Value} {kept loose : Nat}
theorem FCells.set0 (h : FCells w F vs vt vd kept loose) (v : Value) : FCells (w.setCell ⟨F, 0, none⟩ v) F v vt vd kept loose := by
  obtain ⟨c0, c1, c2, c3, c4, f0, f1, f2, f3, f4⟩ := h
  refine ⟨World.cell?_setCell_same _ _ _ c0, ?_, ?_, ?_, ?_, by rw [World.frozen?_setCell]; assumption, by rw [World.frozen?_setCell]; assumption, by rw [World.frozen?_setCell]; assumption, by rw [World.frozen?_setCell]; assumption, by rw [World.frozen?_setCell]; assumption⟩ <;>
    (rw [World.cell?_setCell_other _ _ _ _ (by intro e; injection e with e1 e2; omega)]; assumption)
theorem FCells.set1 (h : FCells w F vs vt vd kept loose) (k : Nat) : FCells (w.setCell ⟨F, 1, none⟩ (.int .i64 (k : Int))) F vs vt vd k loose := by
  obtain ⟨c0, c1, c2, c3, c4, f0, f1, f2, f3, f4⟩ := h
  refine ⟨?_, World.cell?_setCell_same _ _ _ c1, ?_, ?_, ?_, by rw [World.frozen?_setCell]; assumption, by rw [World.frozen?_setCell]; assumption, by rw [World.frozen?_setCell]; assumption, by rw [World.frozen?_setCell]; assumption, by rw [World.frozen?_setCell]; assumption⟩ <;>
    (rw [World.cell?_setCell_other _ _ _ _ (by intro e; injection e with e1 e2; omega)]; assumption)
theorem FCells.set2 (h : FCells w F vs vt vd kept loose) (v : Value) : FCells (w.setCell ⟨F, 2, none⟩ v) F vs v vd kept loose := by
  obtain ⟨c0, c1, c2, c3, c4, f0, f1, f2, f3, f4⟩ := h
  refine ⟨?_, ?_, World.cell?_setCell_same _ _ _ c2, ?_, ?_, by rw [World.frozen?_setCell]; assumption, by rw [World.frozen?_setCell]; assumption, by rw [World.frozen?_setCell]; assumption, by rw [World.frozen?_setCell]; assumption, by rw [World.frozen?_setCell]; assumption⟩ <;>
    (rw [World.cell?_setCell_other _ _ _ _ (by intro e; injection e with e1 e2; omega)]; assumption)
theorem FCells.set3 (h : FCells w F vs vt vd kept loose) (v : Value) : FCells (w.setCell ⟨F, 3, none⟩ v) F vs vt v kept loose := by
  obtain ⟨c0, c1, c2, c3, c4, f0, f1, f2, f3, f4⟩ := h
  refine ⟨?_, ?_, ?_, World.cell?_setCell_same _ _ _ c3, ?_, by rw [World.frozen?_setCell]; assumption, by rw [World.frozen?_setCell]; assumption, by rw [World.frozen?_setCell]; assumption, by rw [World.frozen?_setCell]; assumption, by rw [World.frozen?_setCell]; assumption⟩ <;>
    (rw [World.cell?_setCell_other _ _ _ _ (by intro e; injection e with e1 e2; omega)]; assumption)
theorem FCells.set4 (h : FCells w F vs vt vd kept loose) (k : Nat) : FCells (w.setCell ⟨F, 4, none⟩ (.int .i64 (k : Int))) F vs vt vd kept k := by
  obtain ⟨c0, c1, c2, c3, c4, f0, f1, f2, f3, f4⟩ := h
  refine ⟨?_, ?_, ?_, ?_, World.cell?_setCell_same _ _ _ c4, by rw [World.frozen?_setCell]; assumption, by rw [World.frozen?_setCell]; assumption, by rw [World.frozen?_setCell]; assumption, by rw [World.frozen?_setCell]; assumption, by rw [World.frozen?_setCell]; assumption⟩ <;>
    (rw [World.cell?_setCell_other _ _ _ _ (by intro e; injection e with e1 e2; omega)]; assumption)
theorem FCells.new (w : World) (vs vt vd : Value) (kept loose : Nat) (t : TypeId) : FCells (w.alloc (.cells #[vs, .int .i64 (kept : Int), vt, vd, .int .i64 (loose : Int)] t)) w.heap.size vs vt vd kept loose := by
  refine ⟨by simp, by simp, by simp, by simp, by simp, by simp, by simp, by simp, by simp, by simp⟩
end
/-- the blocks that are a file's own -/
def FOwn (F : Nat) (vs vt vd : Value) (i : Nat) : Prop := i = F ∨ vs.ownBlock = some i ∨ vt.ownBlock = some i ∨ vd.ownBlock = some i
structure FApart (F : Nat) (vs vt vd : Value) : Prop where
  s : vs.ownBlock ≠ some F
  t : vt.ownBlock ≠ some F
  d : vd.ownBlock ≠ some F
  st : ∀ g, vs.ownBlock = some g → vt.ownBlock ≠ some g
  sd : ∀ g, vs.ownBlock = some g → vd.ownBlock ≠ some g
  td : ∀ g, vt.ownBlock = some g → vd.ownBlock ≠ some g
/-- a file's memory -/
structure FileAt (w : World) (F : Nat) (R : Nat → Prop) (vs vt vd : Value) (dvs : List Value) (s : FSt) : Prop where
  cells : FCells w F vs vt vd s.kept s.loose
  safe : w.ownsRow 0 5 1 vs s.safe.length (bvs s.safe)
  tail : w.ownsRow 0 5 1 vt s.tail.length (bvs s.tail)
  deeds : w.ownsRow 0 114 1 vd s.deeds.length dvs
  each : DeedsAt w R dvs s.deeds
  apart : FApart F vs vt vd
  rows : ∀ i, FOwn F vs vt vd i → ¬ R i
section
variable {w w' : World} {F : Nat} {R M : Nat → Prop} {vs vt vd : Value} {dvs : List Value} {s : FSt}
theorem FileAt.lt (h : FileAt w F R vs vt vd dvs s) : ∀ i, FOwn F vs vt vd i → i < w.heap.size := by
  rintro i (rfl | hi | hi | hi)
  · exact h.cells.lt
  · exact (h.safe.lt i hi).2
  · exact (h.tail.lt i hi).2
  · exact (h.deeds.lt i hi).2
theorem FileAt.chg (h : FileAt w F R vs vt vd dvs s) (hc : Chg M w w') (hM : ∀ i, M i → ¬ FOwn F vs vt vd i ∧ ¬ R i) : FileAt w' F R vs vt vd dvs s :=
  ⟨h.cells.of_block (hc.block F h.cells.lt (fun e => (hM F e).1 (.inl rfl))), hc.own h.safe (fun g hg e => (hM g e).1 (.inr (.inl hg))), hc.own h.tail (fun g hg e => (hM g e).1 (.inr (.inr (.inl hg)))),
   hc.own h.deeds (fun g hg e => (hM g e).1 (.inr (.inr (.inr hg)))), h.each.chg hc (fun i e => (hM i e).2), h.apart, h.rows⟩
end
/-- the file in block F holds s; its own blocks are in M, its deeds' bytes in R -/
def FileM (w : World) (F : Nat) (M R : Nat → Prop) (s : FSt) : Prop :=
  s.Ok ∧ (∀ i, M i → ¬ R i) ∧ (∀ i, M i → i < w.heap.size) ∧ (∀ i, R i → i < w.heap.size) ∧ ∃ vs vt vd dvs, FileAt w F R vs vt vd dvs s ∧ ∀ i, FOwn F vs vt vd i → M i
section
variable {w w' : World} {F : Nat} {R M N : Nat → Prop} {s : FSt}
theorem FileM.ok (h : FileM w F M R s) : s.Ok := h.1
theorem FileM.ltF (h : FileM w F M R s) : F < w.heap.size := by obtain ⟨_, _, _, _, vs, vt, vd, dvs, h, _⟩ := h; exact h.cells.lt
theorem FileM.chg (h : FileM w F M R s) (hc : Chg N w w') (hN : ∀ i, N i → ¬ M i ∧ ¬ R i) : FileM w' F M R s := by
  obtain ⟨ho, h1, h2, h3, vs, vt, vd, dvs, h, h4⟩ := h
  exact ⟨ho, h1, fun i hi => Nat.lt_of_lt_of_le (h2 i hi) hc.size, fun i hi => Nat.lt_of_lt_of_le (h3 i hi) hc.size, vs, vt, vd, dvs, h.chg hc (fun i e => ⟨fun e' => (hN i e).1 (h4 i e'), (hN i e).2⟩), h4⟩
theorem FileM.on (h : FileM w F M R s) (hb : Below w.heap.size w w') : FileM w' F M R s := h.chg (Chg.of_below (M := fun _ => False) hb) (fun i e => e.elim)
theorem FileM.drew (h : FileM w F M R s) : FileM w.drew F M R s := h.on (Below.refl _ _).drew
end
/-- what a call leaves that changes the file -/
def Mut (w w' : World) (F : Nat) (M R : Nat → Prop) (s : FSt) : Prop :=
  ∃ M' R', FileM w' F M' R' s ∧ Chg M w w' ∧ (∀ i, M' i → M i ∨ w.heap.size ≤ i) ∧ (∀ i, R' i → R i ∨ w.heap.size ≤ i)
end Go.Proofs.YtboeiadfmknidaaGreat
