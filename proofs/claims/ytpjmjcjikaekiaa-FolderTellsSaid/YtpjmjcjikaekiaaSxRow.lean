
/-
  slices.Sort at uint64: a row of numbers in memory; cmp.Less; insertionSortOrdered.
-/
import Derived.Test.YtpjmjcjikaekiaaFxAt
import Derived.Sort.LotA
import Derived.Sort.Row
import Derived.WalkKit
import Derived.BigGuard
import Derived.BigCall
import Derived.CellFam
import Derived.Deep.Draws
import Derived.Deep.QuietTactic
import Derived.BigQuiet
set_option linter.unusedVariables false
set_option linter.unusedSimpArgs false
namespace Go.Proofs.Ytpjmjcjikaekiaa
open Go.RowKit Go.Sort

/-- block blk of w is a row of m numbers, which from off on are those of d -/
def RowU (w : World) (blk off m : Nat) (d : Array Int) : Prop := ∃ cur, w.heap[blk]? = some (.cells cur 29 (0, 0)) ∧ cur.size = m ∧ off + d.size ≤ m ∧ ∀ t, t < d.size → cur[off + t]? = some (.int .u64 d[t]!)
/-- what has become of the row since w0 -/
structure StU (w0 w : World) (blk off m : Nat) (d : Array Int) : Prop where
  row : RowU w blk off m d
  chg : Chg (fun i => i = blk) w0 w
section
variable {w0 w w' : World} {blk off m : Nat} {d : Array Int}
theorem RowU.lt (h : RowU w blk off m d) : blk < w.heap.size := by obtain ⟨cur, hb, _⟩ := h; exact (Array.getElem?_eq_some_iff.1 hb).1
theorem RowU.cell (h : RowU w blk off m d) {t : Nat} (ht : t < d.size) : w.cell? ⟨blk, off + t, none⟩ = some (.int .u64 d[t]!) := by
  obtain ⟨cur, hb, _, _, hc⟩ := h
  simp [World.cell?, hb, hc t ht]
theorem RowU.frozen (h : RowU w blk off m d) (t : Nat) : w.frozen? ⟨blk, off + t, none⟩ = false := by
  obtain ⟨cur, hb, _⟩ := h
  simp [World.frozen?, hb]
theorem RowU.of_block (h : RowU w blk off m d) (hb : w'.heap[blk]? = w.heap[blk]?) : RowU w' blk off m d := by
  obtain ⟨cur, h1, h2⟩ := h
  exact ⟨cur, hb.trans h1, h2⟩
theorem RowU.set (h : RowU w blk off m d) {t : Nat} (ht : t < d.size) (x : Int) : RowU (w.setCell ⟨blk, off + t, none⟩ (.int .u64 x)) blk off m (d.setIfInBounds t x) := by
  obtain ⟨cur, hb, hs, hm, hc⟩ := h
  have hlt := (Array.getElem?_eq_some_iff.1 hb).1
  have hx : off + t < cur.size := by omega
  refine ⟨cur.setIfInBounds (off + t) (.int .u64 x), ?_, by simp [hs], by simpa using hm, fun s hs2 => ?_⟩
  · rw [Go.Sort.setCell_eq]
    simp [Go.Sort.mapBlock, Array.getElem?_modify, hb, Go.Sort.onCells]
  · simp only [Array.size_setIfInBounds] at hs2
    by_cases e : s = t
    · subst e
      rw [Array.getElem?_setIfInBounds_self_of_lt hx]
      simp [getElem!_def, hs2]
    · have h1 : (d.setIfInBounds t x)[s]! = d[s]! := by
        simp only [getElem!_def, Array.getElem?_setIfInBounds]
        rw [if_neg (by omega)]
      rw [h1, Array.getElem?_setIfInBounds, if_neg (by omega)]
      exact hc s hs2
theorem StU.refl (h : RowU w blk off m d) : StU w w blk off m d := ⟨h, Chg.refl⟩
theorem StU.on (h : StU w0 w blk off m d) (hb : Below w.heap.size w w') : StU w0 w' blk off m d :=
  ⟨h.row.of_block (hb.block blk h.row.lt), h.chg.trans (Chg.of_below (M := fun _ => False) hb) (fun i e => e.elim)⟩
theorem StU.drewN (h : StU w0 w blk off m d) (q : Nat) : StU w0 (w.drewN q) blk off m d := h.on (below_drewN (Below.refl _ _) _)
theorem StU.set (h : StU w0 w blk off m d) {t : Nat} (ht : t < d.size) (x : Int) : StU w0 (w.setCell ⟨blk, off + t, none⟩ (.int .u64 x)) blk off m (d.setIfInBounds t x) := ⟨h.row.set ht x, h.chg.setCell rfl _⟩
theorem StU.swap (h : StU w0 w blk off m d) {j k : Nat} (hj : j < d.size) (hk : k < d.size) : StU w0 ((w.setCell ⟨blk, off + j, none⟩ (.int .u64 d[k]!)).setCell ⟨blk, off + k, none⟩ (.int .u64 d[j]!)) blk off m (swp d j k) :=
  (h.set hj _).set (by simpa using hk) _
theorem StU.then_ {w1 : World} {d' : Array Int} (h : StU w0 w blk off m d) (k : StU w w1 blk off m d') : StU w0 w1 blk off m d' := ⟨k.row, h.chg.trans k.chg (fun i e => .inl e)⟩
theorem StU.sz (h : StU w0 w blk off m d) : off + d.size ≤ m := by obtain ⟨cur, _, _, h, _⟩ := h.row; exact h
end
/-- the row as the functions take it -/
abbrev slU (blk off n cap : Nat) : Value := .slice (some ⟨blk, off, none⟩) n cap
set_option maxRecDepth 100000 in
theorem hless (x y : Int) (w : World) : Calls Try.prog 77 #[.int .u64 x, .int .u64 y] w fun e w' => e = .returned (.bool (ltInt x y)) ∧ w' = w := by
  unfold ltInt
  go_enter Try.func77, Try.ntmps77
  go_wp2
  go_ret
  exact ⟨rfl, rfl⟩
theorem ins_go (a j : Nat) (d : Array Int) (hj : a < j) (hl : ltInt d[j]! d[j - 1]! = true) : insInner ltInt a j d = insInner ltInt a (j - 1) (swp d j (j - 1)) := by
  obtain ⟨k, rfl⟩ : ∃ k, j = k + 1 := ⟨j - 1, by omega⟩
  rw [Nat.add_sub_cancel] at hl
  rw [insInner, if_pos (by simp [hj, hl]), Nat.add_sub_cancel]
theorem ins_stop (a j : Nat) (d : Array Int) (h : j ≤ a ∨ ltInt d[j]! d[j - 1]! = false) : insInner ltInt a j d = d := by
  cases j with
  | zero => rw [insInner]
  | succ k =>
    rw [insInner, if_neg]
    rcases h with h | h
    · simp; omega
    · rw [Nat.add_sub_cancel] at h; simp [h]
theorem out_go (a b i : Nat) (d : Array Int) (h : i < b) : insOuter ltInt a b i d = insOuter ltInt a b (i + 1) (insInner ltInt a i d) := by rw [insOuter, if_pos h]
theorem out_stop (a b i : Nat) (d : Array Int) (h : ¬ i < b) : insOuter ltInt a b i d = d := by rw [insOuter, if_neg h]
end Go.Proofs.Ytpjmjcjikaekiaa

/-
  slices.Sort at uint64: insertionSortOrdered.
-/
set_option linter.unusedVariables false
set_option linter.unusedSimpArgs false
namespace Go.Proofs.Ytpjmjcjikaekiaa
open Go.RowKit Go.Sort

set_option maxRecDepth 100000 in
set_option maxHeartbeats 4000000 in
theorem hins (blk off m cap a b : Nat) (d : Array Int) (w : World) (h : RowU w blk off m d) (hab : a ≤ b) (hb : b ≤ d.size) (hsz : d.size ≤ 1000000) :
    Calls Try.prog 71 #[slU blk off d.size cap, .int .i64 (a : Int), .int .i64 (b : Int)] w fun e w' => (∃ u, e = .returned u) ∧ StU w w' blk off m (insertionSort ltInt d a b) := by
  have H := Lib.hid h
  obtain ⟨n, hn⟩ : ∃ n, n = d.size := ⟨_, rfl⟩
  have Hn := Lib.hid hn
  rw [← hn] at hb hsz
  clear h
  unfold slU
  rw [← hn]
  clear hn
  go_enter Try.func71, Try.ntmps71
  go_wp2
  go_loopw [6] (fun vi wr => ∃ (i : Nat) (dk : Array Int), vi = .int .i64 i ∧ a < i ∧ i ≤ b + 1 ∧ dk.size = n ∧ StU w wr blk off m dk ∧ insOuter ltInt a b i dk = insertionSort ltInt d a b) (fun vi _ => b + 1 - (intOf vi).toNat)
  case atStart => exact ⟨a + 1, d, by go_num, by omega, by omega, Hn.out.symm, StU.refl H.out, rfl⟩
  case round =>
    obtain ⟨i, dk, rfl, hai, hib, hsk, hst, hO⟩ := hrel
    have HO := Lib.hid hO
    have HS := Lib.hid hst
    have Hsk := Lib.hid hsk
    clear hO hst hsk
    go_wp2
    · have hlt : i < b := by assumption
      go_loopw [7] (fun vj wr2 => ∃ (j : Nat) (dj : Array Int), vj = .int .i64 j ∧ a ≤ j ∧ j ≤ i ∧ dj.size = n ∧ StU w wr2 blk off m dj ∧ insInner ltInt a j dj = insInner ltInt a i dk) (fun vj _ => (intOf vj).toNat)
      case atStart => exact ⟨i, dk, rfl, by omega, Nat.le_refl _, Hsk.out, HS.out, rfl⟩
      case round =>
        obtain ⟨j, dj, rfl, haj, hji, hsj, hst2, hI⟩ := hrel
        obtain ⟨G, hG⟩ : ∃ G : Nat → Int, ∀ t, G t = dj[t]! := ⟨fun t => dj[t]!, fun _ => rfl⟩
        have hcw : ∀ t, t < n → wr.cell? ⟨blk, off + t, none⟩ = some (.int .u64 (G t)) := fun t ht => by rw [hG]; exact hst2.row.cell (by omega)
        have hfw : ∀ t, t < n → wr.frozen? ⟨blk, off + t, none⟩ = false := fun t _ => hst2.row.frozen t
        have HG := Lib.hid hG
        have HI := Lib.hid hI
        have HS2 := Lib.hid hst2
        have Hsj := Lib.hid hsj
        clear hG hI hst2 hsj
        have OUT : Hid ((j ≤ a ∨ ltInt dj[j]! dj[j - 1]! = false) → ∀ wq, StU w wq blk off m dj → ∃ (i' : Nat) (dk' : Array Int), Value.int .i64 ((i : Int) + 1) = .int .i64 (i' : Nat) ∧ a < i' ∧ i' ≤ b + 1 ∧ dk'.size = n ∧ StU w wq blk off m dk' ∧ insOuter ltInt a b i' dk' = insertionSort ltInt d a b) :=
          fun hs wq hq => ⟨i + 1, dj, by go_num, by omega, by omega, Hsj.out, hq, by rw [← HO.out, out_go _ _ _ _ hlt, ← HI.out, ins_stop _ _ _ hs]⟩
        go_wp2
        by_cases hja : a < j
        · go_quiet (first | (go_at_call 77; refine Calls.quiet_of_same (hless _ _ _)))
          go_wp2
          · have hl : ltInt (G j) (G (j - 1)) = true := by assumption
            go_region
            all_goals go_wp2
            go_roundw
            case rel =>
              refine ⟨j - 1, swp dj j (j - 1), by congr 1; omega, by omega, by omega, by rw [size_swp]; exact Hsj.out, ?_, ?_⟩
              · rw [HG.out, HG.out]
                exact (HS2.out.drewN _).swap (by have := Hsj.out; omega) (by have := Hsj.out; omega)
              · rw [← HI.out, ins_go a j dj hja (by rw [← HG.out, ← HG.out]; exact hl)]
            case measure => simp [intOf]; omega
          · have hl : ltInt (G j) (G (j - 1)) = false := by assumption
            go_roundw
            case rel => exact OUT.out (Or.inr (by rw [← HG.out, ← HG.out]; exact hl)) _ (HS2.out.drewN _)
            case measure => simp [intOf]; omega
        · go_quiet (first | (go_at_call 77; refine Calls.quiet_of_same (hless _ _ _)))
          go_wp2
          go_roundw
          case rel => exact OUT.out (Or.inl (by omega)) _ (HS2.out.drewN _)
          case measure => simp [intOf]; omega
    · have hge : ¬ i < b := by assumption
      go_end0
      exact ⟨⟨_, rfl⟩, by rw [← HO.out, out_stop _ _ _ _ hge]; exact HS.out⟩
end Go.Proofs.Ytpjmjcjikaekiaa
