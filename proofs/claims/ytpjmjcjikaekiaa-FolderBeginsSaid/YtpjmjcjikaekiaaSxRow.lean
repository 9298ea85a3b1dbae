
/-
  slices.Sort at uint64: a row of numbers in memory; cmp.Less; insertionSortOrdered.
-/
import Derived.Test.YtpjmjcjikaekiaaFxAt
import Derived.Sort.LotA
import Derived.Sort.Row
import Derived.WalkKit
import Derived.BigGuard
import Derived.BigCall
import Derived.CellFam
import Derived.Deep.Draws
import Derived.Deep.QuietTactic
import Derived.BigQuiet
set_option linter.unusedVariables false
set_option linter.unusedSimpArgs false
namespace Go.Proofs.Ytpjmjcjikaekiaa
open Go.RowKit Go.Sort

/-- block blk of w is a row of m numbers, which from off on are those of d -/
def RowU (w : World) (blk off m : Nat) (d : Array Int) : Prop := ∃ cur, w.heap[blk]? = some (.cells cur 29 (0, 0)) ∧ cur.size = m ∧ off + d.size ≤ m ∧ ∀ t, t < d.size → cur[off + t]? = some (.int .u64 d[t]!)
/-- what has become of the row since w0 -/
structure StU (w0 w : World) (blk off m : Nat) (d : Array Int) : Prop where
  row : RowU w blk off m d
  chg : Chg (fun i => i = blk) w0 w
section
variable {w0 w w' : World} {blk off m : Nat} {d : Array Int}
theorem RowU.lt (h : RowU w blk off m d) : blk < w.heap.size := by obtain ⟨cur, hb, _⟩ := h; exact (Array.getElem?_eq_some_iff.1 hb).1
theorem RowU.cell (h : RowU w blk off m d) {t : Nat} (ht : t < d.size) : w.cell? ⟨blk, off + t, none⟩ = some (.int .u64 d[t]!) := by
  obtain ⟨cur, hb, _, _, hc⟩ := h
  simp [World.cell?, hb, hc t ht]
theorem RowU.frozen (h : RowU w blk off m d) (t : Nat) : w.frozen? ⟨blk, off + t, none⟩ = false := by
  obtain ⟨cur, hb, _⟩ := h
  simp [World.frozen?, hb]
theorem RowU.of_block (h : RowU w blk off m d) (hb : w'.heap[blk]? = w.heap[blk]?) : RowU w' blk off m d := by
  obtain ⟨cur, h1, h2⟩ := h
  exact ⟨cur, hb.trans h1, h2⟩
theorem RowU.set (h : RowU w blk off m d) {t : Nat} (ht : t < d.size) (x : Int) : RowU (w.setCell ⟨blk, off + t, none⟩ (.int .u64 x)) blk off m (d.setIfInBounds t x) := by
  obtain ⟨cur, hb, hs, hm, hc⟩ := h
  have hlt := (Array.getElem?_eq_some_iff.1 hb).1
  have hx : off + t < cur.size := by omega
  refine ⟨cur.setIfInBounds (off + t) (.int .u64 x), ?_, by simp [hs], by simpa using hm, fun s hs2 => ?_⟩
  · rw [Go.Sort.setCell_eq]
    simp [Go.Sort.mapBlock, Array.getElem?_modify, hb, Go.Sort.onCells]
  · simp only [Array.size_setIfInBounds] at hs2
    by_cases e : s = t
    · subst e
      rw [Array.getElem?_setIfInBounds_self_of_lt hx]
      simp [getElem!_def, hs2]
    · have h1 : (d.setIfInBounds t x)[s]! = d[s]! := by
        simp only [getElem!_def, Array.getElem?_setIfInBounds]
        rw [if_neg (by omega)]
      rw [h1, Array.getElem?_setIfInBounds, if_neg (by omega)]
      exact hc s hs2
theorem StU.refl (h : RowU w blk off m d) : StU w w blk off m d := ⟨h, Chg.refl⟩
theorem StU.on (h : StU w0 w blk off m d) (hb : Below w.heap.size w w') : StU w0 w' blk off m d :=
  ⟨h.row.of_block (hb.block blk h.row.lt), h.chg.trans (Chg.of_below (M := fun _ => False) hb) (fun i e => e.elim)⟩
theorem StU.drewN (h : StU w0 w blk off m d) (q : Nat) : StU w0 (w.drewN q) blk off m d := h.on (below_drewN (Below.refl _ _) _)
theorem StU.set (h : StU w0 w blk off m d) {t : Nat} (ht : t < d.size) (x : Int) : StU w0 (w.setCell ⟨blk, off + t, none⟩ (.int .u64 x)) blk off m (d.setIfInBounds t x) := ⟨h.row.set ht x, h.chg.setCell rfl _⟩
theorem StU.swap (h : StU w0 w blk off m d) {j k : Nat} (hj : j < d.size) (hk : k < d.size) : StU w0 ((w.setCell ⟨blk, off + j, none⟩ (.int .u64 d[k]!)).setCell ⟨blk, off + k, none⟩ (.int .u64 d[j]!)) blk off m (swp d j k) :=
  (h.set hj _).set (by simpa using hk) _
theorem StU.then_ {w1 : World} {d' : Array Int} (h : StU w0 w blk off m d) (k : StU w w1 blk off m d') : StU w0 w1 blk off m d' := ⟨k.row, h.chg.trans k.chg (fun i e => .inl e)⟩
theorem StU.sz (h : StU w0 w blk off m d) : off + d.size ≤ m := by obtain ⟨cur, _, _, h, _⟩ := h.row; exact h
end
/-- the row as the functions take it -/
abbrev slU (blk off n cap : Nat) : Value := .slice (some ⟨blk, off, none⟩) n cap
set_option maxRecDepth 100000 in
theorem hless (x y : Int) (w : World) : Calls Try.prog 77 #[.int .u64 x, .int .u64 y] w fun e w' => e = .returned (.bool (ltInt x y)) ∧ w' = w := by
  unfold ltInt
  go_enter Try.func77, Try.ntmps77
  go_wp2
  go_ret
  exact ⟨rfl, rfl⟩
theorem ins_go (a j : Nat) (d : Array Int) (hj : a < j) (hl : ltInt d[j]! d[j - 1]! = true) : insInner ltInt a j d = insInner ltInt a (j - 1) (swp d j (j - 1)) := by
  obtain ⟨k, rfl⟩ : ∃ k, j = k + 1 := ⟨j - 1, by omega⟩
  rw [Nat.add_sub_cancel] at hl
  rw [insInner, if_pos (by simp [hj, hl]), Nat.add_sub_cancel]
theorem ins_stop (a j : Nat) (d : Array Int) (h : j ≤ a ∨ ltInt d[j]! d[j - 1]! = false) : insInner ltInt a j d = d := by
  cases j with
  | zero => rw [insInner]
  | succ k =>
    rw [insInner, if_neg]
    rcases h with h | h
    · simp; omega
    · rw [Nat.add_sub_cancel] at h; simp [h]
theorem out_go (a b i : Nat) (d : Array Int) (h : i < b) : insOuter ltInt a b i d = insOuter ltInt a b (i + 1) (insInner ltInt a i d) := by rw [insOuter, if_pos h]
theorem out_stop (a b i : Nat) (d : Array Int) (h : ¬ i < b) : insOuter ltInt a b i d = d := by rw [insOuter, if_neg h]
end Go.Proofs.Ytpjmjcjikaekiaa
