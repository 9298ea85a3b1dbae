
/-
  Layer 3: what is held of the world through the law LocSets: the program's set, the document's row, and that they lie apart.
-/
import Derived.Test.YtaekndhchdpobaaLrSR
import Derived.Test.YtaekndhchdpobaaLxHas
set_option linter.unusedVariables false
set_option linter.unusedSimpArgs false
namespace Go.Proofs.Ytaekndhchdpobaa
open Go.RowKit Go.Maps

/-- the two sets; the block X holds the call (or is any block that is apart from them) -/
structure SI (w wr : World) (B bs bm br n X : Nat) (D : DataW Unit) (v : Value) (R : List One3) : Prop where
  bel : Below w.heap.size w wr
  set : SetAt wr bs bm n D
  row : RowAt wr br B v R
  hB0 : w.heap.size ≤ B
  hB : B ≤ wr.heap.size
  hbs : w.heap.size ≤ bs
  hbm : w.heap.size ≤ bm
  hbr : w.heap.size ≤ br
  ne1 : bs ≠ br
  ne2 : bm ≠ br
  own1 : v.ownBlock ≠ some bs
  own2 : v.ownBlock ≠ some bm
  x1 : bs ≠ X
  x2 : bm ≠ X
  x3 : br ≠ X
  x4 : v.ownBlock ≠ some X
section
variable {w wr w' : World} {B bs bm br n X : Nat} {D D' : DataW Unit} {v v' : Value} {R R' : List One3}
theorem SI.on (h : SI w wr B bs bm br n X D v R) (hb : Below wr.heap.size wr w') : SI w w' B bs bm br n X D v R :=
  ⟨bstep h.bel hb, h.set.on hb, h.row.on hb, h.hB0, Nat.le_trans h.hB hb.size, h.hbs, h.hbm, h.hbr, h.ne1, h.ne2, h.own1, h.own2, h.x1, h.x2, h.x3, h.x4⟩
theorem SI.drew (h : SI w wr B bs bm br n X D v R) : SI w wr.drew B bs bm br n X D v R := h.on (Below.refl _ _).drew
/-- another block as X -/
theorem SI.atX (h : SI w wr B bs bm br n X D v R) (Y : Nat) (hY : wr.heap.size ≤ Y) : SI w wr B bs bm br n Y D v R :=
  ⟨h.bel, h.set, h.row, h.hB0, h.hB, h.hbs, h.hbm, h.hbr, h.ne1, h.ne2, h.own1, h.own2, by have := h.set.lt; omega, by have := h.set.own.lt; omega, by have := block_of_cell h.row.cell; omega, fun e => by have := (h.row.own.lt _ e).2; omega⟩
/-- the program's set has turned -/
theorem SI.setG {n' : Nat} (h : SI w wr B bs bm br n X D v R) (hs : SetAt w' bs bm n' D') (hg : wr.grownBy w' (some bm)) : SI w w' B bs bm br n' X D' v R := by
  refine ⟨h.bel.grown hg h.bel.size (fun k hk => by injection hk with hk; rw [← hk]; exact h.hbm), hs, ⟨?_, ?_, ?_, h.row.lt, h.row.big⟩, h.hB0, Nat.le_trans h.hB hg.size, h.hbs, h.hbm, h.hbr, h.ne1, h.ne2, h.own1, h.own2, h.x1, h.x2, h.x3, h.x4⟩
  · exact (World.cell?_of_block (a := ⟨br, 0, none⟩) (hg.block br (block_of_cell h.row.cell) (fun e => h.ne2 (by injection e with e; exact e.symm)))).trans h.row.cell
  · exact own_grown h.row.own hg (fun k hk e => by rw [e] at hk; exact h.own2 hk)
  · exact (World.frozen?_of_block (a := ⟨br, 0, none⟩) (hg.block br (block_of_cell h.row.cell) (fun e => h.ne2 (by injection e with e; exact e.symm)))).trans h.row.free
/-- the document's row has turned -/
theorem SI.rowG {row : Option Nat} (h : SI w wr B bs bm br n X D v R) (hr : RowAt w' br B v' R') (hf : Fr wr w' br row) (hrow : row = none ∨ row = v.ownBlock) (hv : v'.ownBlock = v.ownBlock ∨ ∀ g, v'.ownBlock = some g → wr.heap.size ≤ g) (hX : X < wr.heap.size) : SI w w' B bs bm br n X D v' R' := by
  have hno : ∀ b, v.ownBlock ≠ some b → row ≠ some b := fun b hb e => by
    rcases hrow with e' | e'
    · rw [e'] at e; cases e
    · rw [e'] at e; exact hb e
  have hnv : ∀ b, v.ownBlock ≠ some b → b < wr.heap.size → v'.ownBlock ≠ some b := fun b hb hl e => by
    rcases hv with e' | e'
    · rw [e'] at e; exact hb e
    · have := e' b e; omega
  have hsb := h.set.lt
  have hsm := h.set.own.lt
  have hlow : ∀ b, b < w.heap.size → v.ownBlock ≠ some b := fun b hb e => by have := (h.row.own.lt b e).1; have := h.hB0; omega
  have hbel : Below w.heap.size w w' := ⟨hf.os.trans h.bel.os, hf.tape.trans h.bel.tape, hf.output.trans h.bel.output, Nat.le_trans h.bel.size hf.size, fun i hi => (hf.block i (Nat.lt_of_lt_of_le hi h.bel.size) (fun e => by have := h.hbr; omega) (hno i (hlow i hi))).trans (h.bel.block i hi)⟩
  have hset : SetAt w' bs bm n D := by
    obtain ⟨es, clock, hb, F, hs, hD⟩ := h.set.own
    exact ⟨(World.cell?_of_block (a := ⟨bs, 0, none⟩) (hf.block bs hsb h.ne1 (hno bs h.own1))).trans h.set.cell, es, clock, (hf.block bm hsm h.ne2 (hno bm h.own2)).trans hb, F, hs, hD⟩
  exact ⟨hbel, hset, hr, h.hB0, Nat.le_trans h.hB hf.size, h.hbs, h.hbm, h.hbr, h.ne1, h.ne2, hnv bs h.own1 hsb, hnv bm h.own2 hsm, h.x1, h.x2, h.x3, hnv X h.x4 hX⟩
end
end Go.Proofs.Ytaekndhchdpobaa
