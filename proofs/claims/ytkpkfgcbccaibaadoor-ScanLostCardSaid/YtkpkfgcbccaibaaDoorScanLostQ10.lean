/-
  ScanLost, part 10 of what the law's proof leans on: FxPlain, FxAt.
-/
import Derived.Test.YtkpkfgcbccaibaaDoorScanLostQ1
import Derived.Deep.QuietTactic
import Derived.BigQuiet
import Derived.StillTailTactics
import Derived.Deep.DeepFit
import Derived.Deep.RegionHeld3
import Derived.Deep.RegionWith
import Derived.Lib.SliceRun
import Derived.Lib.Hide
import Derived.WalkSpells
/- FxPlain -/

/-
  Layer 5: one file's bytes and its deeds, as plain mathematics.
-/
set_option linter.unusedVariables false
set_option linter.unusedSimpArgs false
namespace Go.Proofs.YtkpkfgcbccaibaaDoor

/-- a deed: bytes were appended, or only the first so many were left -/
inductive Deed where
  | added (r : List UInt8)
  | cut (s : Nat)
def Deed.units : Deed → Nat
  | .added r => r.length
  | .cut _ => 1
/-- the first m units of a deed are done -/
def Deed.act (b : List UInt8) (m : Nat) : Deed → List UInt8
  | .added r => b ++ r.take m
  | .cut s => if m = 0 then b else b.take s
def Deed.ok (b : List UInt8) : Deed → Prop
  | .added r => r ≠ []
  | .cut s => s < b.length
def unitsL : List Deed → Nat
  | [] => 0
  | d :: ds => d.units + unitsL ds
/-- the first k units of the deeds are done -/
def settleL : List UInt8 → Nat → List Deed → List UInt8
  | b, _, [] => b
  | b, k, d :: ds => settleL (d.act b (min k d.units)) (k - min k d.units) ds
def Valid : List UInt8 → List Deed → Prop
  | _, [] => True
  | b, d :: ds => d.ok b ∧ Valid (d.act b d.units) ds

/-- what a file holds -/
structure FSt where
  safe : List UInt8
  kept : Nat
  tail : List UInt8
  deeds : List Deed
def FSt.bytes (s : FSt) : List UInt8 := s.safe.take s.kept ++ s.tail
def FSt.loose (s : FSt) : Nat := unitsL s.deeds
/-- its bytes behind the first k units -/
def FSt.behind (s : FSt) (k : Nat) : List UInt8 := settleL s.safe k s.deeds
structure FSt.Ok (s : FSt) : Prop where
  kept : s.kept ≤ s.safe.length
  whole : s.behind s.loose = s.bytes
  valid : Valid s.safe s.deeds
  clean : s.deeds = [] → s.tail = []
def FSt.new (b : List UInt8) : FSt := ⟨b, b.length, [], []⟩
theorem FSt.still {s : FSt} (h : s.Ok) (hd : s.deeds = []) : s.kept = s.safe.length ∧ s.tail = [] ∧ s.bytes = s.safe := by
  have ht := h.clean hd
  have hw := h.whole
  have hk := h.kept
  have e : s.behind s.loose = s.safe := by simp [FSt.behind, FSt.loose, hd, settleL]
  rw [e] at hw
  refine ⟨?_, ht, hw.symm⟩
  have := congrArg List.length hw
  rw [FSt.bytes, ht, List.append_nil, List.length_take] at this
  omega
end Go.Proofs.YtkpkfgcbccaibaaDoor

/- FxAt -/

/-
  Layer 5: a file in memory: its own cell block, its bytes' blocks, its deeds' block, and the blocks (R) that its deeds' bytes lie in, which nobody writes.
-/
set_option linter.unusedVariables false
set_option linter.unusedSimpArgs false
namespace Go.Proofs.YtkpkfgcbccaibaaDoor
open Go.RowKit

/-- the slice at A reads as xs, out of a block of R -/
def RdR (w : World) (R : Nat → Prop) (A : Option Addr) (xs : List Value) : Prop :=
  xs ≠ [] → ∃ b o, A = some ⟨b, o, none⟩ ∧ R b ∧ ∀ j u, xs[j]? = some u → w.cell? ⟨b, o + j, none⟩ = some u
theorem RdR.rd {w : World} {R : Nat → Prop} {A : Option Addr} {xs : List Value} (h : RdR w R A xs) : Rd w w.heap.size A xs := fun hx => by
  obtain ⟨b, o, e, _, hc⟩ := h hx
  refine ⟨b, o, e, ?_, hc⟩
  rcases xs with _ | ⟨x, r⟩
  · exact absurd rfl hx
  · exact fblock_of_cell (hc 0 x rfl)
theorem RdR.mono {w : World} {R R' : Nat → Prop} {A : Option Addr} {xs : List Value} (h : RdR w R A xs) (hR : ∀ i, R i → R' i) : RdR w R' A xs := fun hx => by
  obtain ⟨b, o, e, hb, hc⟩ := h hx
  exact ⟨b, o, e, hR b hb, hc⟩
theorem RdR.chg {M R : Nat → Prop} {w w' : World} {A : Option Addr} {xs : List Value} (h : RdR w R A xs) (hc : Chg M w w') (hM : ∀ i, M i → ¬ R i) : RdR w' R A xs := fun hx => by
  obtain ⟨b, o, e, hb, hcell⟩ := h hx
  exact ⟨b, o, e, hb, fun j u hu => (hc.cell (p := ⟨b, o + j, none⟩) (fblock_of_cell (hcell j u hu)) (fun e => hM b e hb)).trans (hcell j u hu)⟩
/-- the cells of a file -/
structure FCells (w : World) (F : Nat) (vs vt vd : Value) (kept loose : Nat) : Prop where
  c0 : w.cell? ⟨F, 0, none⟩ = some vs
  c1 : w.cell? ⟨F, 1, none⟩ = some (.int .i64 (kept : Int))
  c2 : w.cell? ⟨F, 2, none⟩ = some vt
  c3 : w.cell? ⟨F, 3, none⟩ = some vd
  c4 : w.cell? ⟨F, 4, none⟩ = some (.int .i64 (loose : Int))
  f0 : w.frozen? ⟨F, 0, none⟩ = false
  f1 : w.frozen? ⟨F, 1, none⟩ = false
  f2 : w.frozen? ⟨F, 2, none⟩ = false
  f3 : w.frozen? ⟨F, 3, none⟩ = false
  f4 : w.frozen? ⟨F, 4, none⟩ = false
theorem FCells.lt {w : World} {F : Nat} {vs vt vd : Value} {kept loose : Nat} (h : FCells w F vs vt vd kept loose) : F < w.heap.size := fblock_of_cell h.c0
theorem FCells.of_block {w w' : World} {F : Nat} {vs vt vd : Value} {kept loose : Nat} (h : FCells w F vs vt vd kept loose) (hb : w'.heap[F]? = w.heap[F]?) : FCells w' F vs vt vd kept loose := by
  have hc : ∀ o, w'.cell? ⟨F, o, none⟩ = w.cell? ⟨F, o, none⟩ := fun o => World.cell?_of_block hb
  have hf : ∀ o, w'.frozen? ⟨F, o, none⟩ = w.frozen? ⟨F, o, none⟩ := fun o => World.frozen?_of_block hb
  exact ⟨(hc 0).trans h.c0, (hc 1).trans h.c1, (hc 2).trans h.c2, (hc 3).trans h.c3, (hc 4).trans h.c4, (hf 0).trans h.f0, (hf 1).trans h.f1, (hf 2).trans h.f2, (hf 3).trans h.f3, (hf 4).trans h.f4⟩
theorem FCells.on {w w' : World} {F : Nat} {vs vt vd : Value} {kept loose : Nat} (h : FCells w F vs vt vd kept loose) (hb : Below w.heap.size w w') : FCells w' F vs vt vd kept loose := h.of_block (hb.block F h.lt)
theorem FCells.drew {w : World} {F : Nat} {vs vt vd : Value} {kept loose : Nat} (h : FCells w F vs vt vd kept loose) : FCells w.drew F vs vt vd kept loose := h.of_block rfl
section
variable {w : World} {F : Nat} {vs vt vd : Value} {kept loose : Nat}
theorem FCells.set1 (h : FCells w F vs vt vd kept loose) (k : Nat) : FCells (w.setCell ⟨F, 1, none⟩ (.int .i64 (k : Int))) F vs vt vd k loose := by
  obtain ⟨c0, c1, c2, c3, c4, f0, f1, f2, f3, f4⟩ := h
  refine ⟨?_, World.cell?_setCell_same _ _ _ c1, ?_, ?_, ?_, by rw [World.frozen?_setCell]; assumption, by rw [World.frozen?_setCell]; assumption, by rw [World.frozen?_setCell]; assumption, by rw [World.frozen?_setCell]; assumption, by rw [World.frozen?_setCell]; assumption⟩ <;>
    (rw [World.cell?_setCell_other _ _ _ _ (by intro e; injection e with e1 e2; omega)]; assumption)
theorem FCells.new (w : World) (vs vt vd : Value) (kept loose : Nat) (t : TypeId) : FCells (w.alloc (.cells #[vs, .int .i64 (kept : Int), vt, vd, .int .i64 (loose : Int)] t)) w.heap.size vs vt vd kept loose := by
  refine ⟨by simp, by simp, by simp, by simp, by simp, by simp, by simp, by simp, by simp, by simp⟩
end
section
variable {w w' : World} {F : Nat} {R M : Nat → Prop} {vs vt vd : Value} {dvs : List Value} {s : FSt}
end
section
variable {w w' : World} {F : Nat} {R M N : Nat → Prop} {s : FSt}
end
end Go.Proofs.YtkpkfgcbccaibaaDoor

