/-
  SegNames, part 5 of what the law's proof leans on: SxRow, SxPart, SxPins, SxPdq, SxSort, HxIno, HxWalk, JxPlain, JfMem, JxShelf, JfLook.
-/
import Derived.Sort.LotA
import Derived.Sort.Row
import Derived.WalkKit
import Derived.BigGuard
import Derived.BigCall
import Derived.CellFam
import Derived.Deep.Draws
import Derived.Deep.QuietTactic
import Derived.BigQuiet
import Derived.Sort.LotB
import Derived.Test.YtfabodpefbdbjaaGreatDoorSegNamesQ4
import Derived.Sort.LotC
import Derived.Deep.CutRange
import Derived.Laws.Bits64b
import Derived.Sort.LotD3
import Derived.Deep.Cut
import Derived.Test.YtfabodpefbdbjaaGreatDoorSegNamesQ1
import Derived.Lib.AppendZerosOnto
import Derived.Maps.OwnSet
import Derived.Maps.Range
import Derived.Laws.Cover3
import Derived.MapFrom
import Derived.Deep.LoopGhost
import Derived.Deep.RegionHeld3
/- SxRow -/

/-
  slices.Sort at uint64: a row of numbers in memory; cmp.Less; insertionSortOrdered.
-/
set_option linter.unusedVariables false
set_option linter.unusedSimpArgs false
namespace Go.Proofs.YtfabodpefbdbjaaGreatDoor
open Go.RowKit Go.Sort

/-- block blk of w is a row of m numbers, which from off on are those of d -/
def RowU (w : World) (blk off m : Nat) (d : Array Int) : Prop := ∃ cur, w.heap[blk]? = some (.cells cur 41 (0, 0)) ∧ cur.size = m ∧ off + d.size ≤ m ∧ ∀ t, t < d.size → cur[off + t]? = some (.int .u64 d[t]!)
/-- what has become of the row since w0 -/
structure StU (w0 w : World) (blk off m : Nat) (d : Array Int) : Prop where
  row : RowU w blk off m d
  chg : Chg (fun i => i = blk) w0 w
section
variable {w0 w w' : World} {blk off m : Nat} {d : Array Int}
theorem RowU.lt (h : RowU w blk off m d) : blk < w.heap.size := by obtain ⟨cur, hb, _⟩ := h; exact (Array.getElem?_eq_some_iff.1 hb).1
theorem RowU.cell (h : RowU w blk off m d) {t : Nat} (ht : t < d.size) : w.cell? ⟨blk, off + t, none⟩ = some (.int .u64 d[t]!) := by
  obtain ⟨cur, hb, _, _, hc⟩ := h
  simp [World.cell?, hb, hc t ht]
theorem RowU.frozen (h : RowU w blk off m d) (t : Nat) : w.frozen? ⟨blk, off + t, none⟩ = false := by
  obtain ⟨cur, hb, _⟩ := h
  simp [World.frozen?, hb]
theorem RowU.of_block (h : RowU w blk off m d) (hb : w'.heap[blk]? = w.heap[blk]?) : RowU w' blk off m d := by
  obtain ⟨cur, h1, h2⟩ := h
  exact ⟨cur, hb.trans h1, h2⟩
theorem RowU.set (h : RowU w blk off m d) {t : Nat} (ht : t < d.size) (x : Int) : RowU (w.setCell ⟨blk, off + t, none⟩ (.int .u64 x)) blk off m (d.setIfInBounds t x) := by
  obtain ⟨cur, hb, hs, hm, hc⟩ := h
  have hlt := (Array.getElem?_eq_some_iff.1 hb).1
  have hx : off + t < cur.size := by omega
  refine ⟨cur.setIfInBounds (off + t) (.int .u64 x), ?_, by simp [hs], by simpa using hm, fun s hs2 => ?_⟩
  · rw [Go.Sort.setCell_eq]
    simp [Go.Sort.mapBlock, Array.getElem?_modify, hb, Go.Sort.onCells]
  · simp only [Array.size_setIfInBounds] at hs2
    by_cases e : s = t
    · subst e
      rw [Array.getElem?_setIfInBounds_self_of_lt hx]
      simp [getElem!_def, hs2]
    · have h1 : (d.setIfInBounds t x)[s]! = d[s]! := by
        simp only [getElem!_def, Array.getElem?_setIfInBounds]
        rw [if_neg (by omega)]
      rw [h1, Array.getElem?_setIfInBounds, if_neg (by omega)]
      exact hc s hs2
theorem StU.refl (h : RowU w blk off m d) : StU w w blk off m d := ⟨h, Chg.refl⟩
theorem StU.on (h : StU w0 w blk off m d) (hb : Below w.heap.size w w') : StU w0 w' blk off m d :=
  ⟨h.row.of_block (hb.block blk h.row.lt), h.chg.trans (Chg.of_below (M := fun _ => False) hb) (fun i e => e.elim)⟩
theorem StU.drewN (h : StU w0 w blk off m d) (q : Nat) : StU w0 (w.drewN q) blk off m d := h.on (below_drewN (Below.refl _ _) _)
theorem StU.set (h : StU w0 w blk off m d) {t : Nat} (ht : t < d.size) (x : Int) : StU w0 (w.setCell ⟨blk, off + t, none⟩ (.int .u64 x)) blk off m (d.setIfInBounds t x) := ⟨h.row.set ht x, h.chg.setCell rfl _⟩
theorem StU.swap (h : StU w0 w blk off m d) {j k : Nat} (hj : j < d.size) (hk : k < d.size) : StU w0 ((w.setCell ⟨blk, off + j, none⟩ (.int .u64 d[k]!)).setCell ⟨blk, off + k, none⟩ (.int .u64 d[j]!)) blk off m (swp d j k) :=
  (h.set hj _).set (by simpa using hk) _
theorem StU.then_ {w1 : World} {d' : Array Int} (h : StU w0 w blk off m d) (k : StU w w1 blk off m d') : StU w0 w1 blk off m d' := ⟨k.row, h.chg.trans k.chg (fun i e => .inl e)⟩
end
/-- the row as the functions take it -/
abbrev slU (blk off n cap : Nat) : Value := .slice (some ⟨blk, off, none⟩) n cap
set_option maxRecDepth 100000 in
theorem hless (x y : Int) (w : World) : Calls Tryz.prog 197 #[.int .u64 x, .int .u64 y] w fun e w' => e = .returned (.bool (ltInt x y)) ∧ w' = w := by
  unfold ltInt
  go_enter Tryz.func197, Tryz.ntmps197
  go_wp2
  go_ret
  exact ⟨rfl, rfl⟩
theorem ins_go (a j : Nat) (d : Array Int) (hj : a < j) (hl : ltInt d[j]! d[j - 1]! = true) : insInner ltInt a j d = insInner ltInt a (j - 1) (swp d j (j - 1)) := by
  obtain ⟨k, rfl⟩ : ∃ k, j = k + 1 := ⟨j - 1, by omega⟩
  rw [Nat.add_sub_cancel] at hl
  rw [insInner, if_pos (by simp [hj, hl]), Nat.add_sub_cancel]
theorem ins_stop (a j : Nat) (d : Array Int) (h : j ≤ a ∨ ltInt d[j]! d[j - 1]! = false) : insInner ltInt a j d = d := by
  cases j with
  | zero => rw [insInner]
  | succ k =>
    rw [insInner, if_neg]
    rcases h with h | h
    · simp; omega
    · rw [Nat.add_sub_cancel] at h; simp [h]
theorem out_go (a b i : Nat) (d : Array Int) (h : i < b) : insOuter ltInt a b i d = insOuter ltInt a b (i + 1) (insInner ltInt a i d) := by rw [insOuter, if_pos h]
theorem out_stop (a b i : Nat) (d : Array Int) (h : ¬ i < b) : insOuter ltInt a b i d = d := by rw [insOuter, if_neg h]
end Go.Proofs.YtfabodpefbdbjaaGreatDoor

/-
  slices.Sort at uint64: insertionSortOrdered.
-/
set_option linter.unusedVariables false
set_option linter.unusedSimpArgs false
namespace Go.Proofs.YtfabodpefbdbjaaGreatDoor
open Go.RowKit Go.Sort

set_option maxRecDepth 100000 in
set_option maxHeartbeats 4000000 in
theorem hins (blk off m cap a b : Nat) (d : Array Int) (w : World) (h : RowU w blk off m d) (hab : a ≤ b) (hb : b ≤ d.size) (hsz : d.size ≤ 1000000) :
    Calls Tryz.prog 191 #[slU blk off d.size cap, .int .i64 (a : Int), .int .i64 (b : Int)] w fun e w' => (∃ u, e = .returned u) ∧ StU w w' blk off m (insertionSort ltInt d a b) := by
  have H := Lib.hid h
  obtain ⟨n, hn⟩ : ∃ n, n = d.size := ⟨_, rfl⟩
  have Hn := Lib.hid hn
  rw [← hn] at hb hsz
  clear h
  unfold slU
  rw [← hn]
  clear hn
  go_enter Tryz.func191, Tryz.ntmps191
  go_wp2
  go_loopw [6] (fun vi wr => ∃ (i : Nat) (dk : Array Int), vi = .int .i64 i ∧ a < i ∧ i ≤ b + 1 ∧ dk.size = n ∧ StU w wr blk off m dk ∧ insOuter ltInt a b i dk = insertionSort ltInt d a b) (fun vi _ => b + 1 - (intOf vi).toNat)
  case atStart => exact ⟨a + 1, d, by go_num, by omega, by omega, Hn.out.symm, StU.refl H.out, rfl⟩
  case round =>
    obtain ⟨i, dk, rfl, hai, hib, hsk, hst, hO⟩ := hrel
    have HO := Lib.hid hO
    have HS := Lib.hid hst
    have Hsk := Lib.hid hsk
    clear hO hst hsk
    go_wp2
    · have hlt : i < b := by assumption
      go_loopw [7] (fun vj wr2 => ∃ (j : Nat) (dj : Array Int), vj = .int .i64 j ∧ a ≤ j ∧ j ≤ i ∧ dj.size = n ∧ StU w wr2 blk off m dj ∧ insInner ltInt a j dj = insInner ltInt a i dk) (fun vj _ => (intOf vj).toNat)
      case atStart => exact ⟨i, dk, rfl, by omega, Nat.le_refl _, Hsk.out, HS.out, rfl⟩
      case round =>
        obtain ⟨j, dj, rfl, haj, hji, hsj, hst2, hI⟩ := hrel
        obtain ⟨G, hG⟩ : ∃ G : Nat → Int, ∀ t, G t = dj[t]! := ⟨fun t => dj[t]!, fun _ => rfl⟩
        have hcw : ∀ t, t < n → wr.cell? ⟨blk, off + t, none⟩ = some (.int .u64 (G t)) := fun t ht => by rw [hG]; exact hst2.row.cell (by omega)
        have hfw : ∀ t, t < n → wr.frozen? ⟨blk, off + t, none⟩ = false := fun t _ => hst2.row.frozen t
        have HG := Lib.hid hG
        have HI := Lib.hid hI
        have HS2 := Lib.hid hst2
        have Hsj := Lib.hid hsj
        clear hG hI hst2 hsj
        have OUT : Hid ((j ≤ a ∨ ltInt dj[j]! dj[j - 1]! = false) → ∀ wq, StU w wq blk off m dj → ∃ (i' : Nat) (dk' : Array Int), Value.int .i64 ((i : Int) + 1) = .int .i64 (i' : Nat) ∧ a < i' ∧ i' ≤ b + 1 ∧ dk'.size = n ∧ StU w wq blk off m dk' ∧ insOuter ltInt a b i' dk' = insertionSort ltInt d a b) :=
          fun hs wq hq => ⟨i + 1, dj, by go_num, by omega, by omega, Hsj.out, hq, by rw [← HO.out, out_go _ _ _ _ hlt, ← HI.out, ins_stop _ _ _ hs]⟩
        go_wp2
        by_cases hja : a < j
        · go_quiet (first | (go_at_call 197; refine Calls.quiet_of_same (hless _ _ _)))
          go_wp2
          · have hl : ltInt (G j) (G (j - 1)) = true := by assumption
            go_region
            all_goals go_wp2
            go_roundw
            case rel =>
              refine ⟨j - 1, swp dj j (j - 1), by congr 1; omega, by omega, by omega, by rw [size_swp]; exact Hsj.out, ?_, ?_⟩
              · rw [HG.out, HG.out]
                exact (HS2.out.drewN _).swap (by have := Hsj.out; omega) (by have := Hsj.out; omega)
              · rw [← HI.out, ins_go a j dj hja (by rw [← HG.out, ← HG.out]; exact hl)]
            case measure => simp [intOf]; omega
          · have hl : ltInt (G j) (G (j - 1)) = false := by assumption
            go_roundw
            case rel => exact OUT.out (Or.inr (by rw [← HG.out, ← HG.out]; exact hl)) _ (HS2.out.drewN _)
            case measure => simp [intOf]; omega
        · go_quiet (first | (go_at_call 197; refine Calls.quiet_of_same (hless _ _ _)))
          go_wp2
          go_roundw
          case rel => exact OUT.out (Or.inl (by omega)) _ (HS2.out.drewN _)
          case measure => simp [intOf]; omega
    · have hge : ¬ i < b := by assumption
      go_end0
      exact ⟨⟨_, rfl⟩, by rw [← HO.out, out_stop _ _ _ _ hge]; exact HS.out⟩
end Go.Proofs.YtfabodpefbdbjaaGreatDoor

/-
  slices.Sort at uint64: siftDownOrdered, heapSortOrdered.
-/
set_option linter.unusedVariables false
set_option linter.unusedSimpArgs false
namespace Go.Proofs.YtfabodpefbdbjaaGreatDoor
open Go.RowKit Go.Sort

section
variable {hi f r : Nat} {d : Array Int}
theorem sd_stop (h : ¬ 2 * r + 1 < hi) : siftDown ltInt hi f r d = d := by rw [siftDown, dif_pos (by omega)]
theorem sd_right (h1 : 2 * r + 2 < hi) (h2 : ltInt d[f + (2 * r + 1)]! d[f + (2 * r + 1) + 1]! = true) :
    siftDown ltInt hi f r d = if ltInt d[f + r]! d[f + (2 * r + 2)]! then siftDown ltInt hi f (2 * r + 2) (swp d (f + r) (f + (2 * r + 2))) else d := by
  rw [siftDown, dif_neg (by omega), if_pos (by simp [h2]; omega)]
  cases h3 : ltInt d[f + r]! d[f + (2 * r + 2)]!
  · rfl
  · rw [if_neg (by simp), dif_pos h1, if_pos rfl]
theorem sd_left (h1 : 2 * r + 1 < hi) (h2 : ¬ 2 * r + 2 < hi ∨ ltInt d[f + (2 * r + 1)]! d[f + (2 * r + 1) + 1]! = false) :
    siftDown ltInt hi f r d = if ltInt d[f + r]! d[f + (2 * r + 1)]! then siftDown ltInt hi f (2 * r + 1) (swp d (f + r) (f + (2 * r + 1))) else d := by
  rw [siftDown, dif_neg (by omega), if_neg]
  · cases h3 : ltInt d[f + r]! d[f + (2 * r + 1)]!
    · rfl
    · rw [if_neg (by simp), if_pos rfl]
  · rcases h2 with h2 | h2
    · simp; omega
    · simp [h2]
end
set_option maxRecDepth 100000 in
set_option maxHeartbeats 8000000 in
theorem hsift (blk off m cap lo hi first : Nat) (d : Array Int) (w : World) (h : RowU w blk off m d) (hlo : lo ≤ 1000000) (hb : first + hi ≤ d.size) (hsz : d.size ≤ 1000000) :
    Calls Tryz.prog 204 #[slU blk off d.size cap, .int .i64 (lo : Int), .int .i64 (hi : Int), .int .i64 (first : Int)] w fun e w' => (∃ u, e = .returned u) ∧ StU w w' blk off m (siftDown ltInt hi first lo d) := by
  have H := Lib.hid h
  obtain ⟨n, hn⟩ : ∃ n, n = d.size := ⟨_, rfl⟩
  have Hn := Lib.hid hn
  rw [← hn] at hb hsz
  clear h
  unfold slU
  rw [← hn]
  clear hn
  go_enter Tryz.func204, Tryz.ntmps204
  go_wp2
  go_loopw [8] (fun vi wr => ∃ (r : Nat) (dj : Array Int), vi = .int .i64 r ∧ r ≤ 1000000 ∧ dj.size = n ∧ StU w wr blk off m dj ∧ siftDown ltInt hi first r dj = siftDown ltInt hi first lo d) (fun vi _ => hi - (intOf vi).toNat)
  case atStart => exact ⟨lo, d, rfl, hlo, Hn.out.symm, StU.refl H.out, rfl⟩
  case round =>
    obtain ⟨r, dj, rfl, hr, hsj, hst, hO⟩ := hrel
    obtain ⟨G, hG⟩ : ∃ G : Nat → Int, ∀ t, G t = dj[t]! := ⟨fun t => dj[t]!, fun _ => rfl⟩
    have hcw : ∀ t, t < n → wr.cell? ⟨blk, off + t, none⟩ = some (.int .u64 (G t)) := fun t ht => by rw [hG]; exact hst.row.cell (by omega)
    have hfw : ∀ t, t < n → wr.frozen? ⟨blk, off + t, none⟩ = false := fun t _ => hst.row.frozen t
    have HG := Lib.hid hG
    have HO := Lib.hid hO
    have HS := Lib.hid hst
    have Hsj := Lib.hid hsj
    clear hG hO hst hsj
    obtain ⟨c, hc⟩ : ∃ c, c = 2 * r + 1 := ⟨_, rfl⟩
    have hci : (2 : Int) * (r : Int) + 1 = (c : Int) := by omega
    obtain ⟨c1, hc1⟩ : ∃ c1, c1 = c + 1 := ⟨_, rfl⟩
    obtain ⟨p, hp⟩ : ∃ p, p = first + c := ⟨_, rfl⟩
    obtain ⟨p1, hp1⟩ : ∃ p1, p1 = p + 1 := ⟨_, rfl⟩
    obtain ⟨q, hq⟩ : ∃ q, q = first + r := ⟨_, rfl⟩
    by_cases h1 : c < hi
    · have w1 : IntKind.i64.wrap ((c : Int) + 1) = (c1 : Int) := by rw [show ((c : Int) + 1) = ((c1 : Nat) : Int) by omega]; exact IntWalk.i64_in _ (by omega)
      have w2 : IntKind.i64.wrap ((first : Int) + (c : Int)) = (p : Int) := by rw [show ((first : Int) + (c : Int)) = ((p : Nat) : Int) by omega]; exact IntWalk.i64_in _ (by omega)
      have w3 : IntKind.i64.wrap ((p : Int) + 1) = (p1 : Int) := by rw [show ((p : Int) + 1) = ((p1 : Nat) : Int) by omega]; exact IntWalk.i64_in _ (by omega)
      have w4 : IntKind.i64.wrap ((first : Int) + (r : Int)) = (q : Int) := by rw [show ((first : Int) + (r : Int)) = ((q : Nat) : Int) by omega]; exact IntWalk.i64_in _ (by omega)
      have w5 : IntKind.i64.wrap ((first : Int) + (c1 : Int)) = (p1 : Int) := by rw [show ((first : Int) + (c1 : Int)) = ((p1 : Nat) : Int) by omega]; exact IntWalk.i64_in _ (by omega)
      have w6 : (c : Int) + 1 = (c1 : Int) := by omega
      have b1 : p < n := by omega
      have b2 : q < n := by omega
      have b3 : c1 < hi → p1 < n := by omega
      have HE : Hid (c = 2 * r + 1 ∧ c1 = 2 * r + 2 ∧ p = first + (2 * r + 1) ∧ p1 = first + (2 * r + 1) + 1 ∧ p1 = first + (2 * r + 2) ∧ q = first + r) := by exact ⟨by omega, by omega, by omega, by omega, by omega, by omega⟩
      have hcb : c1 ≤ 1000001 := by omega
      have H1 : Hid (2 * r + 1 < hi) := by rw [← hc]; exact h1
      have Hrel : Hid (r < c ∧ r < c1) := ⟨by omega, by omega⟩
      have hne1 : ¬ (q = p) := by omega
      have hne2 : ¬ (q = p1) := by omega
      have hne3 : ¬ (p = q) := by omega
      have hne4 : ¬ (p1 = q) := by omega
      clear hc hc1 hp hp1 hq
      by_cases h2 : c1 < hi
      · have b4 := b3 h2
        have d2 : decide ((c1 : Int) < (hi : Int)) = true := decide_eq_true (by omega)
        cases hl1 : ltInt (G p) (G p1)
        · go_wp2
          go_quiet (first | (go_at_call 197; refine Calls.quiet_of_same (hless _ _ _)))
          go_wp2
          obtain ⟨W1, hW1⟩ : ∃ W1, W1 = wr.drewN nq := ⟨_, rfl⟩
          have hs1 : StU w W1 blk off m dj := by rw [hW1]; exact HS.out.drewN _
          rw [← hW1]
          clear hW1 hcw hfw
          have hcw : ∀ t, t < n → W1.cell? ⟨blk, off + t, none⟩ = some (.int .u64 (G t)) := fun t ht => by rw [HG.out]; exact hs1.row.cell (by have := Hsj.out; omega)
          have hfw : ∀ t, t < n → W1.frozen? ⟨blk, off + t, none⟩ = false := fun t _ => hs1.row.frozen t
          have HS1 := Lib.hid hs1
          clear hs1
          cases hl2 : ltInt (G q) (G p)
          · go_quiet (first | (go_at_call 197; refine Calls.quiet_of_same (hless _ _ _)))
            go_wp2
            first | go_end0 | refine bodyPost_ret (results_none rfl _ _ _) rfl ?_
            refine ⟨⟨_, rfl⟩, ?_⟩
            have e9 : siftDown ltInt hi first r dj = dj := by
              rw [sd_left H1.out (.inr (by rw [← HE.out.2.2.2.1, ← HE.out.2.2.1, ← HG.out, ← HG.out]; exact hl1)), if_neg]
              rw [← HE.out.2.2.1, ← HE.out.2.2.2.2.2, ← HG.out, ← HG.out, hl2]; simp
            rw [← HO.out, e9]
            exact HS1.out.drewN _
          · go_quiet (first | (go_at_call 197; refine Calls.quiet_of_same (hless _ _ _)))
            go_wp2
            go_region
            all_goals go_wp2
            go_roundw
            case rel =>
              refine ⟨c, swp dj q p, rfl, by omega, by rw [size_swp]; exact Hsj.out, ?_, ?_⟩
              · rw [HG.out, HG.out]
                exact (HS1.out.drewN _).swap (by have := Hsj.out; omega) (by have := Hsj.out; omega)
              · rw [← HO.out, sd_left (r := r) (d := dj) H1.out (.inr (by rw [← HE.out.2.2.2.1, ← HE.out.2.2.1, ← HG.out, ← HG.out]; exact hl1)), if_pos (by rw [← HE.out.2.2.1, ← HE.out.2.2.2.2.2, ← HG.out, ← HG.out]; exact hl2), ← HE.out.2.2.1, ← HE.out.2.2.2.2.2, HE.out.1]
            case measure => have h9 := Hrel.out; simp [intOf]; omega
        · go_wp2
          go_quiet (first | (go_at_call 197; refine Calls.quiet_of_same (hless _ _ _)))
          go_wp2
          obtain ⟨W1, hW1⟩ : ∃ W1, W1 = wr.drewN nq := ⟨_, rfl⟩
          have hs1 : StU w W1 blk off m dj := by rw [hW1]; exact HS.out.drewN _
          rw [← hW1]
          clear hW1 hcw hfw
          have hcw : ∀ t, t < n → W1.cell? ⟨blk, off + t, none⟩ = some (.int .u64 (G t)) := fun t ht => by rw [HG.out]; exact hs1.row.cell (by have := Hsj.out; omega)
          have hfw : ∀ t, t < n → W1.frozen? ⟨blk, off + t, none⟩ = false := fun t _ => hs1.row.frozen t
          have HS1 := Lib.hid hs1
          clear hs1
          cases hl2 : ltInt (G q) (G p1)
          · go_quiet (first | (go_at_call 197; refine Calls.quiet_of_same (hless _ _ _)))
            go_wp2
            first | go_end0 | refine bodyPost_ret (results_none rfl _ _ _) rfl ?_
            refine ⟨⟨_, rfl⟩, ?_⟩
            have e9 : siftDown ltInt hi first r dj = dj := by
              rw [sd_right (by have := HE.out.2.1; omega) (by rw [← HE.out.2.2.2.1, ← HE.out.2.2.1, ← HG.out, ← HG.out]; exact hl1), if_neg]
              rw [← HE.out.2.2.2.2.1, ← HE.out.2.2.2.2.2, ← HG.out, ← HG.out, hl2]; simp
            rw [← HO.out, e9]
            exact HS1.out.drewN _
          · go_quiet (first | (go_at_call 197; refine Calls.quiet_of_same (hless _ _ _)))
            go_wp2
            go_region
            all_goals go_wp2
            go_roundw
            case rel =>
              refine ⟨c1, swp dj q p1, rfl, by omega, by rw [size_swp]; exact Hsj.out, ?_, ?_⟩
              · rw [HG.out, HG.out]
                exact (HS1.out.drewN _).swap (by have := Hsj.out; omega) (by have := Hsj.out; omega)
              · rw [← HO.out, sd_right (r := r) (d := dj) (by have := HE.out.2.1; omega) (by rw [← HE.out.2.2.2.1, ← HE.out.2.2.1, ← HG.out, ← HG.out]; exact hl1), if_pos (by rw [← HE.out.2.2.2.2.1, ← HE.out.2.2.2.2.2, ← HG.out, ← HG.out]; exact hl2), ← HE.out.2.2.2.2.1, ← HE.out.2.2.2.2.2, HE.out.2.1]
            case measure => have h9 := Hrel.out; simp [intOf]; omega
      · have d2 : decide ((c1 : Int) < (hi : Int)) = false := decide_eq_false (by omega)
        go_wp2
        go_quiet (first | (go_at_call 197; refine Calls.quiet_of_same (hless _ _ _)))
        go_wp2
        obtain ⟨W1, hW1⟩ : ∃ W1, W1 = wr.drewN nq := ⟨_, rfl⟩
        have hs1 : StU w W1 blk off m dj := by rw [hW1]; exact HS.out.drewN _
        rw [← hW1]
        clear hW1 hcw hfw
        have hcw : ∀ t, t < n → W1.cell? ⟨blk, off + t, none⟩ = some (.int .u64 (G t)) := fun t ht => by rw [HG.out]; exact hs1.row.cell (by have := Hsj.out; omega)
        have hfw : ∀ t, t < n → W1.frozen? ⟨blk, off + t, none⟩ = false := fun t _ => hs1.row.frozen t
        have HS1 := Lib.hid hs1
        clear hs1
        cases hl2 : ltInt (G q) (G p)
        · go_quiet (first | (go_at_call 197; refine Calls.quiet_of_same (hless _ _ _)))
          go_wp2
          first | go_end0 | refine bodyPost_ret (results_none rfl _ _ _) rfl ?_
          refine ⟨⟨_, rfl⟩, ?_⟩
          have e9 : siftDown ltInt hi first r dj = dj := by
            rw [sd_left H1.out (.inl (by have := HE.out.2.1; omega)), if_neg]
            rw [← HE.out.2.2.1, ← HE.out.2.2.2.2.2, ← HG.out, ← HG.out, hl2]; simp
          rw [← HO.out, e9]
          exact HS1.out.drewN _
        · go_quiet (first | (go_at_call 197; refine Calls.quiet_of_same (hless _ _ _)))
          go_wp2
          go_region
          all_goals go_wp2
          go_roundw
          case rel =>
            refine ⟨c, swp dj q p, rfl, by omega, by rw [size_swp]; exact Hsj.out, ?_, ?_⟩
            · rw [HG.out, HG.out]
              exact (HS1.out.drewN _).swap (by have := Hsj.out; omega) (by have := Hsj.out; omega)
            · rw [← HO.out, sd_left (r := r) (d := dj) H1.out (.inl (by have := HE.out.2.1; omega)), if_pos (by rw [← HE.out.2.2.1, ← HE.out.2.2.2.2.2, ← HG.out, ← HG.out]; exact hl2), ← HE.out.2.2.1, ← HE.out.2.2.2.2.2, HE.out.1]
          case measure => have h9 := Hrel.out; simp [intOf]; omega
    · have HN : Hid (¬ 2 * r + 1 < hi) := by rw [← hc]; exact h1
      clear hc hc1 hp hp1 hq
      go_wp2
      first | go_end0 | refine bodyPost_ret (results_none rfl _ _ _) rfl ?_
      exact ⟨⟨_, rfl⟩, by rw [← HO.out, sd_stop HN.out]; exact HS.out⟩
end Go.Proofs.YtfabodpefbdbjaaGreatDoor

/-
  slices.Sort at uint64: heapSortOrdered, reverseRangeOrdered.
-/
set_option linter.unusedVariables false
set_option linter.unusedSimpArgs false
namespace Go.Proofs.YtfabodpefbdbjaaGreatDoor
open Go.RowKit Go.Sort

theorem size_sift (hi f : Nat) : ∀ (k r : Nat) (d : Array Int), hi - r ≤ k → (siftDown ltInt hi f r d).size = d.size := by
  intro k
  induction k with
  | zero => intro r d h; rw [sd_stop (by omega)]
  | succ k ih =>
    intro r d h
    by_cases h1 : 2 * r + 1 < hi
    · by_cases h2 : 2 * r + 2 < hi ∧ ltInt d[f + (2 * r + 1)]! d[f + (2 * r + 1) + 1]! = true
      · rw [sd_right h2.1 h2.2]
        split
        · rw [ih _ _ (by omega), size_swp]
        · rfl
      · rw [sd_left h1 (by
          rcases Classical.em (2 * r + 2 < hi) with h3 | h3
          · refine .inr ?_
            cases h4 : ltInt d[f + (2 * r + 1)]! d[f + (2 * r + 1) + 1]!
            · rfl
            · exact absurd ⟨h3, h4⟩ h2
          · exact .inl h3)]
        split
        · rw [ih _ _ (by omega), size_swp]
        · rfl
    · rw [sd_stop h1]
theorem size_siftDown (hi f r : Nat) (d : Array Int) : (siftDown ltInt hi f r d).size = d.size := size_sift hi f _ r d (Nat.le_refl _)
set_option maxRecDepth 100000 in
set_option maxHeartbeats 8000000 in
theorem hheap (blk off m cap a b : Nat) (d : Array Int) (w : World) (h : RowU w blk off m d) (hab : a ≤ b) (hb : b ≤ d.size) (hsz : d.size ≤ 1000000) :
    Calls Tryz.prog 192 #[slU blk off d.size cap, .int .i64 (a : Int), .int .i64 (b : Int)] w fun e w' => (∃ u, e = .returned u) ∧ StU w w' blk off m (heapSort ltInt d a b) := by
  have H := Lib.hid h
  obtain ⟨n, hn⟩ : ∃ n, n = d.size := ⟨_, rfl⟩
  have Hn := Lib.hid hn
  rw [← hn] at hb hsz
  clear h
  unfold slU
  rw [← hn]
  clear hn
  obtain ⟨hi, hhi⟩ : ∃ hi, hi = b - a := ⟨_, rfl⟩
  have e1 : (b : Int) - (a : Int) = (hi : Int) := by omega
  obtain ⟨k0, hk0⟩ : ∃ k0, k0 = (hi - 1) / 2 := ⟨_, rfl⟩
  have e2 : Int.tdiv ((hi : Int) - 1) 2 = (k0 : Int) := by
    by_cases h0 : hi = 0
    · rw [hk0, h0]; decide
    · rw [show (hi : Int) - 1 = ((hi - 1 : Nat) : Int) by omega, hk0]
      exact Int.ofNat_tdiv _ _ |>.symm
  have hib : hi ≤ 1000000 := by omega
  have hfi : a + hi ≤ n := by omega
  have Hhi := Lib.hid hhi
  have Hk0 := Lib.hid hk0
  have hk0b : k0 ≤ 1000000 := by omega
  clear hhi hk0
  go_enter Tryz.func192, Tryz.ntmps192
  go_wp2
  go_loopw [9] (fun vi wr => ∃ (k : Nat) (dk : Array Int), vi = .int .i64 ((k : Int) - 1) ∧ k ≤ k0 + 1 ∧ dk.size = n ∧ StU w wr blk off m dk ∧ heapBuild ltInt hi a k dk = heapBuild ltInt hi a (k0 + 1) d) (fun vi _ => (intOf vi + 1).toNat)
  case atStart => exact ⟨k0 + 1, d, by congr 1; omega, by omega, Hn.out.symm, StU.refl H.out, rfl⟩
  case round =>
    obtain ⟨k, dk, rfl, hk, hsk, hst, hO⟩ := hrel
    have HO := Lib.hid hO
    have HS := Lib.hid hst
    have Hsk := Lib.hid hsk
    clear hO hst hsk
    rcases k with _ | k
    · have e3 : ((0 : Nat) : Int) - 1 = -1 := by omega
      rw [e3]
      have HB : Hid (dk = heapBuild ltInt hi a (k0 + 1) d) := HO.out
      go_wp2_with fail
      go_loopw [10] (fun vi wr2 => ∃ (k : Nat) (dj : Array Int), vi = .int .i64 ((k : Int) - 1) ∧ k ≤ hi ∧ dj.size = n ∧ StU w wr2 blk off m dj ∧ heapPop ltInt a k dj = heapSort ltInt d a b) (fun vi _ => (intOf vi + 1).toNat)
      case atStart => exact ⟨hi, dk, by congr 1, by omega, Hsk.out, HS.out, by unfold heapSort; rw [← Hhi.out, ← Hk0.out, ← HB.out]⟩
      case round =>
        obtain ⟨k, dj, rfl, hk2, hsj, hst2, hO2⟩ := hrel
        have HO2 := Lib.hid hO2
        have HS2 := Lib.hid hst2
        have Hsj := Lib.hid hsj
        clear hO2 hst2 hsj
        rcases k with _ | k
        · have e4 : ((0 : Nat) : Int) - 1 = -1 := by omega
          rw [e4]
          go_wp2_with fail
          go_end0
          exact ⟨⟨_, rfl⟩, by rw [← HO2.out]; exact HS2.out⟩
        · have e4 : ((k + 1 : Nat) : Int) - 1 = (k : Int) := by omega
          rw [e4]
          obtain ⟨G, hG⟩ : ∃ G : Nat → Int, ∀ t, G t = dj[t]! := ⟨fun t => dj[t]!, fun _ => rfl⟩
          have hcw : ∀ t, t < n → wr.cell? ⟨blk, off + t, none⟩ = some (.int .u64 (G t)) := fun t ht => by rw [hG]; exact HS2.out.row.cell (by have := Hsj.out; omega)
          have hfw : ∀ t, t < n → wr.frozen? ⟨blk, off + t, none⟩ = false := fun t _ => HS2.out.row.frozen t
          have HG := Lib.hid hG
          clear hG
          obtain ⟨q, hq⟩ : ∃ q, q = a + k := ⟨_, rfl⟩
          have w1 : IntKind.i64.wrap ((a : Int) + (k : Int)) = (q : Int) := by rw [show ((a : Int) + (k : Int)) = ((q : Nat) : Int) by omega]; exact IntWalk.i64_in _ (by omega)
          have b1 : q < n := by omega
          have b2 : a < n := by omega
          have Hq := Lib.hid hq
          have hgo : ∀ wq, StU w wq blk off m (swp dj a q) → ∀ (Q : Ending → World → Prop), (∀ e w', (∃ u, e = .returned u) → StU w w' blk off m (siftDown ltInt k a 0 (swp dj a q)) → Q e w') →
              Calls Tryz.prog 204 #[slU blk off n cap, .int .i64 ((0 : Nat) : Int), .int .i64 (k : Int), .int .i64 (a : Int)] wq Q := fun wq hq Q hQ => by
            have hz : (swp dj a q).size = n := by rw [size_swp]; exact Hsj.out
            have hc := hsift blk off m cap 0 k a (swp dj a q) wq hq.row (by omega) (by rw [hz]; omega) (by rw [hz]; omega)
            rw [hz] at hc
            exact hc.mono fun e w' ⟨he, hs⟩ => hQ e w' he (hq.then_ hs)
          have Hgo := Lib.hid hgo
          have hend : ∀ w', StU w w' blk off m (siftDown ltInt k a 0 (swp dj a q)) → ∃ (k' : Nat) (dj' : Array Int), Value.int .i64 ((k : Int) - 1) = .int .i64 ((k' : Int) - 1) ∧ k' ≤ hi ∧ dj'.size = n ∧ StU w w' blk off m dj' ∧ heapPop ltInt a k' dj' = heapSort ltInt d a b :=
            fun w' hs => ⟨k, _, rfl, by omega, by rw [size_siftDown, size_swp]; exact Hsj.out, hs, by rw [← HO2.out, Hq.out]; rfl⟩
          have Hend := Lib.hid hend
          clear hgo hend
          by_cases hk0' : k = 0
          · have hqa : q = a := by omega
            clear hq
            subst hk0'
            subst hqa
            go_wp2_with fail
            go_region
            all_goals go_wp2_with fail
            refine Hgo.out _ (by simp only [HG.out]; exact (HS2.out.swap (by have := Hsj.out; omega) (by have := Hsj.out; omega)).on (Below.refl _ _).drew) _ ?_
            rintro e w3 ⟨u, rfl⟩ hs3
            have HS3 := Lib.hid hs3
            clear hs3
            go_wp2_with fail
            go_roundw
            case rel => exact Hend.out _ HS3.out
            case measure => simp [intOf]
          · have hne : ¬ a = q := by omega
            have hne2 : ¬ q = a := by omega
            clear hq
            go_wp2_with fail
            go_region
            all_goals go_wp2_with fail
            refine Hgo.out _ (by simp only [HG.out]; exact (HS2.out.swap (by have := Hsj.out; omega) (by have := Hsj.out; omega)).on (Below.refl _ _).drew) _ ?_
            rintro e w3 ⟨u, rfl⟩ hs3
            have HS3 := Lib.hid hs3
            clear hs3
            go_wp2_with fail
            go_roundw
            case rel => exact Hend.out _ HS3.out
            case measure => simp [intOf]
    · have e3 : ((k + 1 : Nat) : Int) - 1 = (k : Int) := by omega
      rw [e3]
      go_wp2_with fail
      have hc := hsift blk off m cap k hi a dk wr HS.out.row (by omega) (by rw [Hsk.out]; omega) (by rw [Hsk.out]; omega)
      rw [Hsk.out] at hc
      refine Calls.mono hc ?_
      rintro e w1 ⟨⟨u, rfl⟩, hs⟩
      have HS1 := Lib.hid (HS.out.then_ hs)
      clear hs hc
      go_wp2_with fail
      go_roundw
      case rel => exact ⟨k, _, rfl, by omega, by rw [size_siftDown]; exact Hsk.out, HS1.out, HO.out⟩
      case measure => simp [intOf]
theorem rev_go {i j : Nat} {d : Array Int} (h : i < j) : reverseLoop i j d = reverseLoop (i + 1) (j - 1) (swp d i j) := by rw [reverseLoop, if_pos h]
theorem rev_stop {i j : Nat} {d : Array Int} (h : ¬ i < j) : reverseLoop i j d = d := by rw [reverseLoop, if_neg h]
set_option maxRecDepth 100000 in
set_option maxHeartbeats 8000000 in
theorem hrev (blk off m cap a b : Nat) (d : Array Int) (w : World) (h : RowU w blk off m d) (hab : a < b) (hb : b ≤ d.size) (hsz : d.size ≤ 1000000) :
    Calls Tryz.prog 195 #[slU blk off d.size cap, .int .i64 (a : Int), .int .i64 (b : Int)] w fun e w' => (∃ u, e = .returned u) ∧ StU w w' blk off m (reverseRange d a b) := by
  have H := Lib.hid h
  obtain ⟨n, hn⟩ : ∃ n, n = d.size := ⟨_, rfl⟩
  have Hn := Lib.hid hn
  rw [← hn] at hb hsz
  clear h
  unfold slU
  rw [← hn]
  clear hn
  obtain ⟨z, hz⟩ : ∃ z, z = b - 1 := ⟨_, rfl⟩
  have e1 : (b : Int) - 1 = (z : Int) := by omega
  have Hz := Lib.hid hz
  have hzb : z < n := by omega
  clear hz
  go_enter Tryz.func195, Tryz.ntmps195
  go_wp2
  go_loopw [6, 7] (fun vi vj wr => ∃ (i j : Nat) (dk : Array Int), vi = .int .i64 i ∧ vj = .int .i64 j ∧ i ≤ n ∧ j < n ∧ dk.size = n ∧ StU w wr blk off m dk ∧ reverseLoop i j dk = reverseRange d a b) (fun vi vj _ => (intOf vj).toNat - (intOf vi).toNat)
  case atStart => exact ⟨a, z, d, rfl, rfl, by omega, hzb, Hn.out.symm, StU.refl H.out, by rw [Hz.out]; rfl⟩
  case round =>
    obtain ⟨i, j, dk, rfl, rfl, hin, hjn, hsk, hst, hO⟩ := hrel
    obtain ⟨G, hG⟩ : ∃ G : Nat → Int, ∀ t, G t = dk[t]! := ⟨fun t => dk[t]!, fun _ => rfl⟩
    have hcw : ∀ t, t < n → wr.cell? ⟨blk, off + t, none⟩ = some (.int .u64 (G t)) := fun t ht => by rw [hG]; exact hst.row.cell (by omega)
    have hfw : ∀ t, t < n → wr.frozen? ⟨blk, off + t, none⟩ = false := fun t _ => hst.row.frozen t
    have HG := Lib.hid hG
    have HO := Lib.hid hO
    have HS := Lib.hid hst
    have Hsk := Lib.hid hsk
    clear hG hO hst hsk
    by_cases hij : i < j
    · have hne : ¬ i = j := by omega
      have hne2 : ¬ j = i := by omega
      go_wp2_with fail
      go_region
      all_goals go_wp2_with fail
      go_roundw
      case rel =>
        refine ⟨i + 1, j - 1, swp dk i j, by go_num, by congr 1; omega, by omega, by omega, by rw [size_swp]; exact Hsk.out, ?_, by rw [← HO.out, rev_go hij]⟩
        rw [HG.out, HG.out]
        first | exact (HS.out.swap (by have := Hsk.out; omega) (by have := Hsk.out; omega)).on (Below.refl _ _).drew | exact (HS.out.drewN _).swap (by have := Hsk.out; omega) (by have := Hsk.out; omega)
      case measure => simp [intOf]; omega
    · go_wp2_with fail
      go_end0
      exact ⟨⟨_, rfl⟩, by rw [← HO.out, rev_stop hij]; exact HS.out⟩
end Go.Proofs.YtfabodpefbdbjaaGreatDoor

/- SxPart -/

/-
  slices.Sort at uint64: partitionEqualOrdered.
-/
set_option linter.unusedVariables false
set_option linter.unusedSimpArgs false
namespace Go.Proofs.YtfabodpefbdbjaaGreatDoor
open Go.RowKit Go.Sort

section
variable {p : Int → Bool} {d : Array Int} {i j : Nat}
theorem up_go (h : i ≤ j) (hp : p d[i]! = true) : scanUp p d j i = scanUp p d j (i + 1) := by rw [scanUp, if_pos (by simp [h, hp])]
theorem up_end (h : ¬ i ≤ j ∨ p d[i]! = false) : scanUp p d j i = i := by
  rw [scanUp, if_neg]
  rcases h with h | h
  · simp [h]
  · simp [h]
theorem down_go (h : i ≤ j) (h0 : 0 < j) (hp : p d[j]! = true) : scanDown p d i j = scanDown p d i (j - 1) := by
  obtain ⟨k, rfl⟩ : ∃ k, j = k + 1 := ⟨j - 1, by omega⟩
  rw [scanDown, if_pos (by simp [h, hp]), Nat.add_sub_cancel]
theorem down_end (h : ¬ i ≤ j ∨ p d[j]! = false) : scanDown p d i j = j := by
  cases j with
  | zero => rw [scanDown]
  | succ k =>
    rw [scanDown, if_neg]
    rcases h with h | h
    · simp [h]
    · simp [h]
end
/-- one round of partitionEqual's loop, by where the scans stop -/
theorem partEq_step {a i j i2 j2 : Nat} {d : Array Int} (h1 : scanUp (fun x => !ltInt d[a]! x) d j i = i2) (h2 : scanDown (fun x => ltInt d[a]! x) d i2 j = j2) :
    partEqLoop ltInt a i j d = if i2 > j2 then (i2, d) else partEqLoop ltInt a (i2 + 1) (j2 - 1) (swp d i2 j2) := by
  subst h1 h2
  exact partEqLoop_eq ltInt a i j d
set_option maxRecDepth 100000 in
set_option maxHeartbeats 16000000 in
theorem hpartEq (blk off m cap a b pv : Nat) (d : Array Int) (w : World) (h : RowU w blk off m d) (hap : a ≤ pv) (hpb : pv < b) (hb : b ≤ d.size) (hsz : d.size ≤ 1000000) :
    Calls Tryz.prog 198 #[slU blk off d.size cap, .int .i64 (a : Int), .int .i64 (b : Int), .int .i64 (pv : Int)] w fun e w' => e = .returned (.int .i64 ((partitionEqual ltInt d a b pv).1 : Int)) ∧ StU w w' blk off m (partitionEqual ltInt d a b pv).2 := by
  have H := Lib.hid h
  obtain ⟨n, hn⟩ : ∃ n, n = d.size := ⟨_, rfl⟩
  have Hn := Lib.hid hn
  rw [← hn] at hb hsz
  clear h
  unfold slU
  rw [← hn]
  clear hn
  obtain ⟨z, hz⟩ : ∃ z, z = b - 1 := ⟨_, rfl⟩
  have e1 : (b : Int) - 1 = (z : Int) := by omega
  have Hz := Lib.hid hz
  have hzn : z < n := by omega
  have haz : a ≤ z := by omega
  clear hz
  obtain ⟨G0, hG0⟩ : ∃ G : Nat → Int, ∀ t, G t = d[t]! := ⟨fun t => d[t]!, fun _ => rfl⟩
  have hcw : ∀ t, t < n → w.cell? ⟨blk, off + t, none⟩ = some (.int .u64 (G0 t)) := fun t ht => by rw [hG0]; exact H.out.cell (by have := Hn.out; omega)
  have hfw : ∀ t, t < n → w.frozen? ⟨blk, off + t, none⟩ = false := fun t _ => H.out.frozen t
  have HG0 := Lib.hid hG0
  clear hG0
  have Hhap := Lib.hid hap
  -- the rest, behind the first swap
  have REST : Hid (∀ w1, StU w w1 blk off m (swp d a pv) → ∃ (i j : Nat) (dk : Array Int), Value.int .i64 ((a : Int) + 1) = .int .i64 i ∧ Value.int .i64 (z : Int) = .int .i64 j ∧ a < i ∧ i ≤ j + 1 ∧ j < n ∧ dk.size = n ∧ StU w w1 blk off m dk ∧ partEqLoop ltInt a i j dk = partitionEqual ltInt d a b pv) :=
    fun w1 hs => ⟨a + 1, z, swp d a pv, by go_num, rfl, by omega, by omega, hzn, by rw [size_swp]; exact Hn.out.symm, hs, by rw [Hz.out]; rfl⟩
  go_enter Tryz.func198, Tryz.ntmps198
  have hx : (w.setCell ⟨blk, off + a, none⟩ (.int .u64 (G0 pv))).cell? ⟨blk, off + pv, none⟩ = some (.int .u64 (G0 pv)) := by
    by_cases e : a = pv
    · subst e; exact World.cell?_setCell_same _ _ _ (hcw a (by omega))
    · exact (World.cell?_setCell_other _ _ _ _ (by intro e2; injection e2 with _ e2; omega)).trans (hcw pv (by omega))
  go_wp2_with fail
  go_region
  all_goals go_wp2_with fail
  have hs1 : StU w (((w.setCell ⟨blk, off + a, none⟩ (.int .u64 (G0 pv))).setCell ⟨blk, off + pv, none⟩ (.int .u64 (G0 a))).drew) blk off m (swp d a pv) := by
    simp only [HG0.out]
    exact ((StU.refl H.out).swap (by have := Hn.out; omega) (by have := Hn.out; omega)).on (Below.refl _ _).drew
  have HR1 := REST.out _ hs1
  clear hs1
  revert HR1
  generalize World.drew _ = w1
  intro HR1
  have HR1' := Lib.hid HR1
  clear HR1 hcw hfw hx
  go_loopw [9, 10] (fun vi vj wr => ∃ (i j : Nat) (dk : Array Int), vi = .int .i64 i ∧ vj = .int .i64 j ∧ a < i ∧ i ≤ j + 1 ∧ j < n ∧ dk.size = n ∧ StU w wr blk off m dk ∧ partEqLoop ltInt a i j dk = partitionEqual ltInt d a b pv) (fun vi vj _ => (intOf vj + 1 - intOf vi).toNat)
  case atStart => exact HR1'.out
  case round =>
    obtain ⟨i, j, dk, rfl, rfl, hai, hij, hjn, hsk, hst, hO⟩ := hrel
    have HO := Lib.hid hO
    have HS := Lib.hid hst
    have Hsk := Lib.hid hsk
    have Hmono := Lib.hid hij
    clear hO hst hsk
    obtain ⟨G, hG⟩ : ∃ G : Nat → Int, ∀ t, G t = dk[t]! := ⟨fun t => dk[t]!, fun _ => rfl⟩
    have HG := Lib.hid hG
    clear hG
    go_wp2_with fail
    go_loopw [9] (fun vi wr2 => ∃ i1 : Nat, vi = .int .i64 i1 ∧ i ≤ i1 ∧ i1 ≤ j + 1 ∧ StU w wr2 blk off m dk ∧ scanUp (fun x => !ltInt dk[a]! x) dk j i1 = scanUp (fun x => !ltInt dk[a]! x) dk j i) (fun vi _ => (j : Nat) + 1 - (intOf vi).toNat)
    case atStart => exact ⟨i, rfl, Nat.le_refl _, hij, HS.out, rfl⟩
    case round =>
      obtain ⟨i1, rfl, hi1, hi1j, hst1, hU⟩ := hrel
      have HU := Lib.hid hU
      have HS1 := Lib.hid hst1
      have hcw : ∀ t, t < n → wr.cell? ⟨blk, off + t, none⟩ = some (.int .u64 (G t)) := fun t ht => by rw [HG.out]; exact HS1.out.row.cell (by have := Hsk.out; omega)
      clear hU hst1
      by_cases hgo : i1 ≤ j ∧ ltInt (G a) (G i1) = false
      · obtain ⟨g1, g2⟩ := hgo
        go_wp2_with fail
        go_quiet (first | (go_at_call 197; refine Calls.quiet_of_same (hless _ _ _)))
        go_wp2_with fail
        go_roundw
        case rel => exact ⟨i1 + 1, by go_num, by omega, by omega, HS1.out.drewN _, by rw [← HU.out, up_go g1 (by show (!ltInt dk[a]! dk[i1]!) = true; rw [← HG.out, ← HG.out, g2]; rfl)]⟩
        case measure => simp [intOf]; omega
      · have hend : scanUp (fun x => !ltInt dk[a]! x) dk j i = i1 := by
          rw [← HU.out]
          refine up_end ?_
          rcases Classical.em (i1 ≤ j) with g | g
          · refine .inr ?_
            show (!ltInt dk[a]! dk[i1]!) = false
            rw [← HG.out, ← HG.out]
            cases h9 : ltInt (G a) (G i1)
            · exact absurd ⟨g, h9⟩ hgo
            · rfl
          · exact .inl g
        have HEnd := Lib.hid hend
        have hcs : (¬ i1 ≤ j) ∨ (i1 ≤ j ∧ ltInt (G a) (G i1) = true) := by
          rcases Classical.em (i1 ≤ j) with g | g
          · cases h9 : ltInt (G a) (G i1)
            · exact absurd ⟨g, h9⟩ hgo
            · exact .inr ⟨g, rfl⟩
          · exact .inl g
        have HNe : Hid (i1 ≤ j → ltInt (G a) (G i1) = true) := Lib.hid fun g => hcs.elim (fun h => absurd g h) (fun h => h.2)
        clear hend hgo
        rcases hcs with g | ⟨g, g2⟩
        all_goals
          go_wp2_with fail
          go_quiet (first | (go_at_call 197; refine Calls.quiet_of_same (hless _ _ _)))
          go_wp2_with fail
          clear g
          go_loopw [10] (fun vj wr3 => ∃ j1 : Nat, vj = .int .i64 j1 ∧ j1 ≤ j ∧ i1 ≤ j1 + 1 ∧ StU w wr3 blk off m dk ∧ scanDown (fun x => ltInt dk[a]! x) dk i1 j1 = scanDown (fun x => ltInt dk[a]! x) dk i1 j) (fun vj _ => (intOf vj).toNat)
          case atStart => exact ⟨j, rfl, Nat.le_refl _, hi1j, HS1.out.drewN _, rfl⟩
          case round =>
            obtain ⟨j1, rfl, hj1, hij1, hst3, hD⟩ := hrel
            have HD := Lib.hid hD
            have HS3 := Lib.hid hst3
            have hcw : ∀ t, t < n → wr.cell? ⟨blk, off + t, none⟩ = some (.int .u64 (G t)) := fun t ht => by rw [HG.out]; exact HS3.out.row.cell (by have := Hsk.out; omega)
            have hfw : ∀ t, t < n → wr.frozen? ⟨blk, off + t, none⟩ = false := fun t _ => HS3.out.row.frozen t
            clear hD hst3
            have hpos : 0 < i1 := by omega
            by_cases hgo : i1 ≤ j1 ∧ ltInt (G a) (G j1) = true
            · obtain ⟨g1, g2⟩ := hgo
              go_wp2_with fail
              go_quiet (first | (go_at_call 197; refine Calls.quiet_of_same (hless _ _ _)))
              go_wp2_with fail
              go_roundw
              case rel => exact ⟨j1 - 1, by congr 1; omega, by omega, by omega, HS3.out.drewN _, by rw [← HD.out, down_go g1 (by omega) (by show ltInt dk[a]! dk[j1]! = true; rw [← HG.out, ← HG.out, g2])]⟩
              case measure => simp [intOf]; omega
            · have hend2 : scanDown (fun x => ltInt dk[a]! x) dk i1 j = j1 := by
                rw [← HD.out]
                refine down_end ?_
                rcases Classical.em (i1 ≤ j1) with g | g
                · refine .inr ?_
                  show ltInt dk[a]! dk[j1]! = false
                  rw [← HG.out, ← HG.out]
                  cases h9 : ltInt (G a) (G j1)
                  · rfl
                  · exact absurd ⟨g, h9⟩ hgo
                · exact .inl g
              have HR := Lib.hid (partEq_step HEnd.out hend2)
              have hcs : (¬ i1 ≤ j1) ∨ (i1 ≤ j1 ∧ ltInt (G a) (G j1) = false) := by
                rcases Classical.em (i1 ≤ j1) with g | g
                · cases h9 : ltInt (G a) (G j1)
                  · exact .inr ⟨g, rfl⟩
                  · exact absurd ⟨g, h9⟩ hgo
                · exact .inl g
              clear hend2 hgo
              rcases hcs with g | ⟨g, g2⟩
              · have g3 : ¬ (i1 : Int) ≤ (j1 : Int) := by omega
                go_wp2_with fail
                go_quiet (first | (go_at_call 197; refine Calls.quiet_of_same (hless _ _ _)))
                go_wp2_with fail
                go_ret
                have e9 : partitionEqual ltInt d a b pv = (i1, dk) := by rw [← HO.out, HR.out, if_pos (by omega)]
                rw [e9]
                exact ⟨rfl, HS3.out.drewN _⟩
              · go_wp2_with fail
                go_quiet (first | (go_at_call 197; refine Calls.quiet_of_same (hless _ _ _)))
                obtain ⟨W1, hW1⟩ : ∃ W1, W1 = wr.drewN nq := ⟨_, rfl⟩
                have hs1 : StU w W1 blk off m dk := by rw [hW1]; exact HS3.out.drewN _
                rw [← hW1]
                clear hW1 hcw hfw
                have hcw : ∀ t, t < n → W1.cell? ⟨blk, off + t, none⟩ = some (.int .u64 (G t)) := fun t ht => by rw [HG.out]; exact hs1.row.cell (by have := Hsk.out; omega)
                have hfw : ∀ t, t < n → W1.frozen? ⟨blk, off + t, none⟩ = false := fun t _ => hs1.row.frozen t
                have hij2 : i1 < j1 := by
                  rcases Nat.lt_or_ge i1 j1 with h | h
                  · exact h
                  · have e : i1 = j1 := by omega
                    subst e
                    rw [HNe.out (by omega)] at g2
                    cases g2
                have b1 : i1 < n := by omega
                have b2 : j1 < n := by omega
                have hx : (W1.setCell ⟨blk, off + i1, none⟩ (.int .u64 (G j1))).cell? ⟨blk, off + j1, none⟩ = some (.int .u64 (G j1)) := by
                  by_cases e : i1 = j1
                  · subst e; exact World.cell?_setCell_same _ _ _ (hcw i1 b1)
                  · exact (World.cell?_setCell_other _ _ _ _ (by intro e2; injection e2 with _ e2; omega)).trans (hcw j1 b2)
                have HS4 := Lib.hid hs1
                clear hs1
                go_wp2_with fail
                go_region
                all_goals go_wp2_with fail
                go_roundw
                case rel =>
                  refine ⟨i1 + 1, j1 - 1, swp dk i1 j1, by go_num, by congr 1; omega, by omega, by omega, by omega, by rw [size_swp]; exact Hsk.out, ?_, ?_⟩
                  · rw [HG.out, HG.out]
                    first | exact ((HS4.out).swap (by have := Hsk.out; omega) (by have := Hsk.out; omega)).on (Below.refl _ _).drew | exact (HS4.out.drewN _).swap (by have := Hsk.out; omega) (by have := Hsk.out; omega)
                  · rw [← HO.out, HR.out, if_neg (by omega)]
                case measure => simp [intOf]; omega
end Go.Proofs.YtfabodpefbdbjaaGreatDoor

/-
  slices.Sort at uint64: partitionOrdered. (Printed by tools/gen/sx_part.py.)
-/
set_option linter.unusedVariables false
set_option linter.unusedSimpArgs false
namespace Go.Proofs.YtfabodpefbdbjaaGreatDoor
open Go.RowKit Go.Sort

/-- one round of partition's loop, by where the scans stop -/
theorem part_step {a i j i2 j2 : Nat} {d : Array Int} (h1 : scanUp (fun x => ltInt x d[a]!) d j i = i2) (h2 : scanDown (fun x => !ltInt x d[a]!) d i2 j = j2) :
    partLoop ltInt a i j d = if i2 > j2 then (j2, d) else partLoop ltInt a (i2 + 1) (j2 - 1) (swp d i2 j2) := by
  subst h1 h2
  exact partLoop_eq ltInt a i j d
/-- partition, by where its first scans stop -/
theorem partition_step {a b pv z i2 j2 : Nat} {d d1 : Array Int} (hd : d1 = swp d a pv) (hz : z = b - 1) (h1 : scanUp (fun x => ltInt x d1[a]!) d1 z (a + 1) = i2) (h2 : scanDown (fun x => !ltInt x d1[a]!) d1 i2 z = j2) :
    partition ltInt d a b pv = if i2 > j2 then (j2, true, swp d1 j2 a) else ((partLoop ltInt a (i2 + 1) (j2 - 1) (swp d1 i2 j2)).1, false, swp (partLoop ltInt a (i2 + 1) (j2 - 1) (swp d1 i2 j2)).2 (partLoop ltInt a (i2 + 1) (j2 - 1) (swp d1 i2 j2)).1 a) := by
  subst h1 h2 hd hz
  rfl
set_option maxRecDepth 100000 in
set_option maxHeartbeats 16000000 in
theorem hpart (blk off m cap a b pv : Nat) (d : Array Int) (w : World) (h : RowU w blk off m d) (hap : a ≤ pv) (hpb : pv < b) (hb : b ≤ d.size) (hsz : d.size ≤ 1000000) :
    Calls Tryz.prog 199 #[slU blk off d.size cap, .int .i64 (a : Int), .int .i64 (b : Int), .int .i64 (pv : Int)] w fun e w' => e = .returned (.tuple #[.int .i64 ((partition ltInt d a b pv).1 : Int), .bool (partition ltInt d a b pv).2.1]) ∧ StU w w' blk off m (partition ltInt d a b pv).2.2 := by
  have H := Lib.hid h
  obtain ⟨n, hn⟩ : ∃ n, n = d.size := ⟨_, rfl⟩
  have Hn := Lib.hid hn
  rw [← hn] at hb hsz
  clear h
  unfold slU
  rw [← hn]
  clear hn
  obtain ⟨z, hz⟩ : ∃ z, z = b - 1 := ⟨_, rfl⟩
  have e1 : (b : Int) - 1 = (z : Int) := by omega
  have Hzb := Lib.hid hz
  have hzn : z < n := by omega
  have haz : a ≤ z := by omega
  clear hz
  obtain ⟨G0, hG0⟩ : ∃ G : Nat → Int, ∀ t, G t = d[t]! := ⟨fun t => d[t]!, fun _ => rfl⟩
  have hcw : ∀ t, t < n → w.cell? ⟨blk, off + t, none⟩ = some (.int .u64 (G0 t)) := fun t ht => by rw [hG0]; exact H.out.cell (by have := Hn.out; omega)
  have hfw : ∀ t, t < n → w.frozen? ⟨blk, off + t, none⟩ = false := fun t _ => H.out.frozen t
  have HG0 := Lib.hid hG0
  clear hG0
  go_enter Tryz.func199, Tryz.ntmps199
  have hx : (w.setCell ⟨blk, off + a, none⟩ (.int .u64 (G0 pv))).cell? ⟨blk, off + pv, none⟩ = some (.int .u64 (G0 pv)) := by
    by_cases e : a = pv
    · subst e; exact World.cell?_setCell_same _ _ _ (hcw a (by omega))
    · exact (World.cell?_setCell_other _ _ _ _ (by intro e2; injection e2 with _ e2; omega)).trans (hcw pv (by omega))
  go_wp2_with fail
  go_region
  all_goals go_wp2_with fail
  obtain ⟨d1, hd1⟩ : ∃ d1, d1 = swp d a pv := ⟨_, rfl⟩
  have HS0 : StU w (((w.setCell ⟨blk, off + a, none⟩ (.int .u64 (G0 pv))).setCell ⟨blk, off + pv, none⟩ (.int .u64 (G0 a))).drew) blk off m d1 := by
    rw [hd1]
    simp only [HG0.out]
    exact ((StU.refl H.out).swap (by have := Hn.out; omega) (by have := Hn.out; omega)).on (Below.refl _ _).drew
  have hsk : d1.size = n := by rw [hd1, size_swp]; exact Hn.out.symm
  have HS := Lib.hid HS0
  have Hsk := Lib.hid hsk
  have Hd1 := Lib.hid hd1
  clear HS0 hcw hfw hx hsk hd1
  revert HS
  generalize World.drew _ = w1
  intro HS
  obtain ⟨G, hG⟩ : ∃ G : Nat → Int, ∀ t, G t = d1[t]! := ⟨fun t => d1[t]!, fun _ => rfl⟩
  have HG := Lib.hid hG
  clear hG
  go_loopw [10] (fun vi wr2 => ∃ i1 : Nat, vi = .int .i64 i1 ∧ a + 1 ≤ i1 ∧ i1 ≤ z + 1 ∧ StU w wr2 blk off m d1 ∧ scanUp (fun x => ltInt x d1[a]!) d1 z i1 = scanUp (fun x => ltInt x d1[a]!) d1 z (a + 1)) (fun vi _ => (z : Nat) + 1 - (intOf vi).toNat)
  case atStart => exact ⟨a + 1, by go_num, Nat.le_refl _, by omega, HS.out, rfl⟩
  case round =>
    obtain ⟨i1, rfl, hi1, hi1j, hst1, hU⟩ := hrel
    have HU := Lib.hid hU
    have HS1 := Lib.hid hst1
    have hcw : ∀ t, t < n → wr.cell? ⟨blk, off + t, none⟩ = some (.int .u64 (G t)) := fun t ht => by rw [HG.out]; exact HS1.out.row.cell (by have := Hsk.out; omega)
    have hfw : ∀ t, t < n → wr.frozen? ⟨blk, off + t, none⟩ = false := fun t _ => HS1.out.row.frozen t
    clear hU hst1
    by_cases hgo : i1 ≤ z ∧ ltInt (G i1) (G a) = true
    · obtain ⟨g1, g2⟩ := hgo
      go_wp2_with fail
      go_quiet (first | (go_at_call 197; refine Calls.quiet_of_same (hless _ _ _)))
      go_wp2_with fail
      go_roundw
      case rel => exact ⟨i1 + 1, by go_num, by omega, by omega, HS1.out.drewN _, by rw [← HU.out, up_go g1 (by show ltInt d1[i1]! d1[a]! = true; rw [← HG.out, ← HG.out, g2])]⟩
      case measure => simp [intOf]; omega
    · have hend : scanUp (fun x => ltInt x d1[a]!) d1 z (a + 1) = i1 := by
        rw [← HU.out]
        refine up_end ?_
        rcases Classical.em (i1 ≤ z) with g | g
        · refine .inr ?_
          show ltInt d1[i1]! d1[a]! = false
          rw [← HG.out, ← HG.out]
          cases h9 : ltInt (G i1) (G a)
          · rfl
          · exact absurd ⟨g, h9⟩ hgo
        · exact .inl g
      have HEnd := Lib.hid hend
      have hcs : (¬ i1 ≤ z) ∨ (i1 ≤ z ∧ ltInt (G i1) (G a) = false) := by
        rcases Classical.em (i1 ≤ z) with g | g
        · cases h9 : ltInt (G i1) (G a)
          · exact .inr ⟨g, rfl⟩
          · exact absurd ⟨g, h9⟩ hgo
        · exact .inl g
      have HNe : Hid (i1 ≤ z → ltInt (G i1) (G a) = false) := Lib.hid fun g => hcs.elim (fun h => absurd g h) (fun h => h.2)
      clear hend hgo
      rcases hcs with g | ⟨g, g2⟩
      all_goals
        go_wp2_with fail
        go_quiet (first | (go_at_call 197; refine Calls.quiet_of_same (hless _ _ _)))
        go_wp2_with fail
        clear g
        go_loopw [11] (fun vj wr3 => ∃ j1 : Nat, vj = .int .i64 j1 ∧ j1 ≤ z ∧ i1 ≤ j1 + 1 ∧ StU w wr3 blk off m d1 ∧ scanDown (fun x => !ltInt x d1[a]!) d1 i1 j1 = scanDown (fun x => !ltInt x d1[a]!) d1 i1 z) (fun vj _ => (intOf vj).toNat)
        case atStart => exact ⟨z, rfl, Nat.le_refl _, hi1j, HS1.out.drewN _, rfl⟩
        case round =>
          obtain ⟨j1, rfl, hj1, hij1, hst3, hD⟩ := hrel
          have HD := Lib.hid hD
          have HS3 := Lib.hid hst3
          have hcw : ∀ t, t < n → wr.cell? ⟨blk, off + t, none⟩ = some (.int .u64 (G t)) := fun t ht => by rw [HG.out]; exact HS3.out.row.cell (by have := Hsk.out; omega)
          have hfw : ∀ t, t < n → wr.frozen? ⟨blk, off + t, none⟩ = false := fun t _ => HS3.out.row.frozen t
          clear hD hst3
          have hpos : 0 < i1 := by omega
          by_cases hgo : i1 ≤ j1 ∧ ltInt (G j1) (G a) = false
          · obtain ⟨g1, g2⟩ := hgo
            go_wp2_with fail
            go_quiet (first | (go_at_call 197; refine Calls.quiet_of_same (hless _ _ _)))
            go_wp2_with fail
            go_roundw
            case rel => exact ⟨j1 - 1, by congr 1; omega, by omega, by omega, HS3.out.drewN _, by rw [← HD.out, down_go g1 (by omega) (by show (!ltInt d1[j1]! d1[a]!) = true; rw [← HG.out, ← HG.out, g2]; rfl)]⟩
            case measure => simp [intOf]; omega
          · have hend2 : scanDown (fun x => !ltInt x d1[a]!) d1 i1 z = j1 := by
              rw [← HD.out]
              refine down_end ?_
              rcases Classical.em (i1 ≤ j1) with g | g
              · refine .inr ?_
                show (!ltInt d1[j1]! d1[a]!) = false
                rw [← HG.out, ← HG.out]
                cases h9 : ltInt (G j1) (G a)
                · exact absurd ⟨g, h9⟩ hgo
                · rfl
              · exact .inl g
            have hcs : (¬ i1 ≤ j1) ∨ (i1 ≤ j1 ∧ ltInt (G j1) (G a) = true) := by
              rcases Classical.em (i1 ≤ j1) with g | g
              · cases h9 : ltInt (G j1) (G a)
                · exact absurd ⟨g, h9⟩ hgo
                · exact .inr ⟨g, rfl⟩
              · exact .inl g
            have HE2 := Lib.hid hend2
            clear hend2 hgo
            rcases hcs with g | ⟨g, g2⟩
            · have g3 : ¬ (i1 : Int) ≤ (j1 : Int) := by omega
              have haj : a ≤ j1 := by omega
              go_wp2_with fail
              go_quiet (first | (go_at_call 197; refine Calls.quiet_of_same (hless _ _ _)))
              obtain ⟨W1, hW1⟩ : ∃ W1, W1 = wr.drewN nq := ⟨_, rfl⟩
              have hs1 : StU w W1 blk off m d1 := by rw [hW1]; exact HS3.out.drewN _
              rw [← hW1]
              clear hW1 hcw hfw
              have hcw : ∀ t, t < n → W1.cell? ⟨blk, off + t, none⟩ = some (.int .u64 (G t)) := fun t ht => by rw [HG.out]; exact hs1.row.cell (by have := Hsk.out; omega)
              have hfw : ∀ t, t < n → W1.frozen? ⟨blk, off + t, none⟩ = false := fun t _ => hs1.row.frozen t
              have HS4 := Lib.hid hs1
              clear hs1
              have b1 : a < n := by omega
              have b2 : j1 < n := by omega
              have hx : (W1.setCell ⟨blk, off + j1, none⟩ (.int .u64 (G a))).cell? ⟨blk, off + a, none⟩ = some (.int .u64 (G a)) := by
                by_cases e : j1 = a
                · rw [← e]; exact World.cell?_setCell_same _ _ _ (hcw j1 (by omega))
                · exact (World.cell?_setCell_other _ _ _ _ (by intro e2; injection e2 with _ e2; omega)).trans (hcw a (by omega))
              go_wp2_with fail
              go_region
              all_goals go_wp2_with fail
              go_ret2
              rw [partition_step Hd1.out Hzb.out HEnd.out HE2.out, if_pos (by omega)]
              refine ⟨rfl, ?_⟩
              rw [HG.out, HG.out]
              first | exact ((HS4.out).swap (by have := Hsk.out; omega) (by have := Hsk.out; omega)).on (Below.refl _ _).drew | exact ((HS4.out).drewN _).swap (by have := Hsk.out; omega) (by have := Hsk.out; omega)
            · go_wp2_with fail
              go_quiet (first | (go_at_call 197; refine Calls.quiet_of_same (hless _ _ _)))
              have hij2 : i1 < j1 := by
                rcases Nat.lt_or_ge i1 j1 with h | h
                · exact h
                · have e : i1 = j1 := by omega
                  subst e
                  rw [HNe.out (by omega)] at g2
                  cases g2
              obtain ⟨W1, hW1⟩ : ∃ W1, W1 = wr.drewN nq := ⟨_, rfl⟩
              have hs1 : StU w W1 blk off m d1 := by rw [hW1]; exact HS3.out.drewN _
              rw [← hW1]
              clear hW1 hcw hfw
              have hcw : ∀ t, t < n → W1.cell? ⟨blk, off + t, none⟩ = some (.int .u64 (G t)) := fun t ht => by rw [HG.out]; exact hs1.row.cell (by have := Hsk.out; omega)
              have hfw : ∀ t, t < n → W1.frozen? ⟨blk, off + t, none⟩ = false := fun t _ => hs1.row.frozen t
              have HS4 := Lib.hid hs1
              clear hs1
              have b1 : i1 < n := by omega
              have b2 : j1 < n := by omega
              have hx : (W1.setCell ⟨blk, off + i1, none⟩ (.int .u64 (G j1))).cell? ⟨blk, off + j1, none⟩ = some (.int .u64 (G j1)) := by
                by_cases e : i1 = j1
                · rw [← e]; exact World.cell?_setCell_same _ _ _ (hcw i1 (by omega))
                · exact (World.cell?_setCell_other _ _ _ _ (by intro e2; injection e2 with _ e2; omega)).trans (hcw j1 (by omega))
              go_wp2_with fail
              go_region
              all_goals go_wp2_with fail
              have hs5 : ∀ wq, StU w wq blk off m (swp d1 i1 j1) → ∃ r, (∀ (j : Nat) (dk : Array Int), r = (j, dk) → partition ltInt d a b pv = (j, false, swp dk j a)) ∧ ∃ (i j : Nat) (dk : Array Int), Value.int .i64 ((i1 : Int) + 1) = .int .i64 i ∧ Value.int .i64 ((j1 : Int) - 1) = .int .i64 j ∧ a < i ∧ i ≤ j + 1 ∧ j < n ∧ dk.size = n ∧ StU w wq blk off m dk ∧ partLoop ltInt a i j dk = r := fun wq hq =>
                ⟨_, fun j dk e => by rw [partition_step Hd1.out Hzb.out HEnd.out HE2.out, if_neg (by omega), e], i1 + 1, j1 - 1, _, by go_num, by congr 1; omega, by omega, by omega, by omega, by rw [size_swp]; exact Hsk.out, hq, rfl⟩
              have HS5 := Lib.hid hs5
              clear hs5
              obtain ⟨W2, hW2⟩ : ∃ W2, W2 = ((W1.setCell ⟨blk, off + i1, none⟩ (.int .u64 (G j1))).setCell ⟨blk, off + j1, none⟩ (.int .u64 (G i1))).drew := ⟨_, rfl⟩
              have hs6 : StU w W2 blk off m (swp d1 i1 j1) := by
                rw [hW2, HG.out, HG.out]
                exact ((HS4.out).swap (by have := Hsk.out; omega) (by have := Hsk.out; omega)).on (Below.refl _ _).drew
              obtain ⟨r, hres, hst0⟩ := HS5.out W2 hs6
              have HRes : Hid (∀ (j : Nat) (dk : Array Int) (wq : World), r = (j, dk) → StU w wq blk off m (swp dk j a) → (Ending.returned (.tuple #[.int .i64 (j : Int), .bool false]) = .returned (.tuple #[.int .i64 ((partition ltInt d a b pv).1 : Int), .bool (partition ltInt d a b pv).2.1])) ∧ StU w wq blk off m (partition ltInt d a b pv).2.2) :=
                Lib.hid fun j dk wq e hq => by rw [hres j dk e]; exact ⟨rfl, hq⟩
              have HSt0 := Lib.hid hst0
              rw [← hW2]
              clear hs6 hres hst0 hcw hfw hx hW2
              go_loopw [10, 11] (fun vi vj wr => ∃ (i j : Nat) (dk : Array Int), vi = .int .i64 i ∧ vj = .int .i64 j ∧ a < i ∧ i ≤ j + 1 ∧ j < n ∧ dk.size = n ∧ StU w wr blk off m dk ∧ partLoop ltInt a i j dk = r) (fun vi vj _ => (intOf vj + 1 - intOf vi).toNat)
              case atStart => exact HSt0.out
              case round =>
                obtain ⟨i, j, dk, rfl, rfl, hai, hij, hjn, hsk, hst, hO⟩ := hrel
                have HO := Lib.hid hO
                have HS := Lib.hid hst
                have Hsk := Lib.hid hsk
                clear hO hst hsk
                obtain ⟨G, hG⟩ : ∃ G : Nat → Int, ∀ t, G t = dk[t]! := ⟨fun t => dk[t]!, fun _ => rfl⟩
                have HG := Lib.hid hG
                clear hG
                go_wp2_with fail
                go_loopw [10] (fun vi wr2 => ∃ i1 : Nat, vi = .int .i64 i1 ∧ i ≤ i1 ∧ i1 ≤ j + 1 ∧ StU w wr2 blk off m dk ∧ scanUp (fun x => ltInt x dk[a]!) dk j i1 = scanUp (fun x => ltInt x dk[a]!) dk j (i)) (fun vi _ => (j : Nat) + 1 - (intOf vi).toNat)
                case atStart => exact ⟨i, by go_num, Nat.le_refl _, by omega, HS.out, rfl⟩
                case round =>
                  obtain ⟨i1, rfl, hi1, hi1j, hst1, hU⟩ := hrel
                  have HU := Lib.hid hU
                  have HS1 := Lib.hid hst1
                  have hcw : ∀ t, t < n → wr.cell? ⟨blk, off + t, none⟩ = some (.int .u64 (G t)) := fun t ht => by rw [HG.out]; exact HS1.out.row.cell (by have := Hsk.out; omega)
                  have hfw : ∀ t, t < n → wr.frozen? ⟨blk, off + t, none⟩ = false := fun t _ => HS1.out.row.frozen t
                  clear hU hst1
                  by_cases hgo : i1 ≤ j ∧ ltInt (G i1) (G a) = true
                  · obtain ⟨g1, g2⟩ := hgo
                    go_wp2_with fail
                    go_quiet (first | (go_at_call 197; refine Calls.quiet_of_same (hless _ _ _)))
                    go_wp2_with fail
                    go_roundw
                    case rel => exact ⟨i1 + 1, by go_num, by omega, by omega, HS1.out.drewN _, by rw [← HU.out, up_go g1 (by show ltInt dk[i1]! dk[a]! = true; rw [← HG.out, ← HG.out, g2])]⟩
                    case measure => simp [intOf]; omega
                  · have hend : scanUp (fun x => ltInt x dk[a]!) dk j (i) = i1 := by
                      rw [← HU.out]
                      refine up_end ?_
                      rcases Classical.em (i1 ≤ j) with g | g
                      · refine .inr ?_
                        show ltInt dk[i1]! dk[a]! = false
                        rw [← HG.out, ← HG.out]
                        cases h9 : ltInt (G i1) (G a)
                        · rfl
                        · exact absurd ⟨g, h9⟩ hgo
                      · exact .inl g
                    have HEnd := Lib.hid hend
                    have hcs : (¬ i1 ≤ j) ∨ (i1 ≤ j ∧ ltInt (G i1) (G a) = false) := by
                      rcases Classical.em (i1 ≤ j) with g | g
                      · cases h9 : ltInt (G i1) (G a)
                        · exact .inr ⟨g, rfl⟩
                        · exact absurd ⟨g, h9⟩ hgo
                      · exact .inl g
                    have HNe : Hid (i1 ≤ j → ltInt (G i1) (G a) = false) := Lib.hid fun g => hcs.elim (fun h => absurd g h) (fun h => h.2)
                    clear hend hgo
                    rcases hcs with g | ⟨g, g2⟩
                    all_goals
                      go_wp2_with fail
                      go_quiet (first | (go_at_call 197; refine Calls.quiet_of_same (hless _ _ _)))
                      go_wp2_with fail
                      clear g
                      go_loopw [11] (fun vj wr3 => ∃ j1 : Nat, vj = .int .i64 j1 ∧ j1 ≤ j ∧ i1 ≤ j1 + 1 ∧ StU w wr3 blk off m dk ∧ scanDown (fun x => !ltInt x dk[a]!) dk i1 j1 = scanDown (fun x => !ltInt x dk[a]!) dk i1 j) (fun vj _ => (intOf vj).toNat)
                      case atStart => exact ⟨j, rfl, Nat.le_refl _, hi1j, HS1.out.drewN _, rfl⟩
                      case round =>
                        obtain ⟨j1, rfl, hj1, hij1, hst3, hD⟩ := hrel
                        have HD := Lib.hid hD
                        have HS3 := Lib.hid hst3
                        have hcw : ∀ t, t < n → wr.cell? ⟨blk, off + t, none⟩ = some (.int .u64 (G t)) := fun t ht => by rw [HG.out]; exact HS3.out.row.cell (by have := Hsk.out; omega)
                        have hfw : ∀ t, t < n → wr.frozen? ⟨blk, off + t, none⟩ = false := fun t _ => HS3.out.row.frozen t
                        clear hD hst3
                        have hpos : 0 < i1 := by omega
                        by_cases hgo : i1 ≤ j1 ∧ ltInt (G j1) (G a) = false
                        · obtain ⟨g1, g2⟩ := hgo
                          go_wp2_with fail
                          go_quiet (first | (go_at_call 197; refine Calls.quiet_of_same (hless _ _ _)))
                          go_wp2_with fail
                          go_roundw
                          case rel => exact ⟨j1 - 1, by congr 1; omega, by omega, by omega, HS3.out.drewN _, by rw [← HD.out, down_go g1 (by omega) (by show (!ltInt dk[j1]! dk[a]!) = true; rw [← HG.out, ← HG.out, g2]; rfl)]⟩
                          case measure => simp [intOf]; omega
                        · have hend2 : scanDown (fun x => !ltInt x dk[a]!) dk i1 j = j1 := by
                            rw [← HD.out]
                            refine down_end ?_
                            rcases Classical.em (i1 ≤ j1) with g | g
                            · refine .inr ?_
                              show (!ltInt dk[j1]! dk[a]!) = false
                              rw [← HG.out, ← HG.out]
                              cases h9 : ltInt (G j1) (G a)
                              · exact absurd ⟨g, h9⟩ hgo
                              · rfl
                            · exact .inl g
                          have hcs : (¬ i1 ≤ j1) ∨ (i1 ≤ j1 ∧ ltInt (G j1) (G a) = true) := by
                            rcases Classical.em (i1 ≤ j1) with g | g
                            · cases h9 : ltInt (G j1) (G a)
                              · exact absurd ⟨g, h9⟩ hgo
                              · exact .inr ⟨g, rfl⟩
                            · exact .inl g
                          have HE2 := Lib.hid hend2
                          clear hend2 hgo
                          rcases hcs with g | ⟨g, g2⟩
                          · have g3 : ¬ (i1 : Int) ≤ (j1 : Int) := by omega
                            have haj : a ≤ j1 := by omega
                            go_wp2_with fail
                            go_quiet (first | (go_at_call 197; refine Calls.quiet_of_same (hless _ _ _)))
                            obtain ⟨W1, hW1⟩ : ∃ W1, W1 = wr.drewN nq := ⟨_, rfl⟩
                            have hs1 : StU w W1 blk off m dk := by rw [hW1]; exact HS3.out.drewN _
                            rw [← hW1]
                            clear hW1 hcw hfw
                            have hcw : ∀ t, t < n → W1.cell? ⟨blk, off + t, none⟩ = some (.int .u64 (G t)) := fun t ht => by rw [HG.out]; exact hs1.row.cell (by have := Hsk.out; omega)
                            have hfw : ∀ t, t < n → W1.frozen? ⟨blk, off + t, none⟩ = false := fun t _ => hs1.row.frozen t
                            have HS4 := Lib.hid hs1
                            clear hs1
                            have b1 : a < n := by omega
                            have b2 : j1 < n := by omega
                            have hx : (W1.setCell ⟨blk, off + j1, none⟩ (.int .u64 (G a))).cell? ⟨blk, off + a, none⟩ = some (.int .u64 (G a)) := by
                              by_cases e : j1 = a
                              · rw [← e]; exact World.cell?_setCell_same _ _ _ (hcw j1 (by omega))
                              · exact (World.cell?_setCell_other _ _ _ _ (by intro e2; injection e2 with _ e2; omega)).trans (hcw a (by omega))
                            go_wp2_with fail
                            go_region
                            all_goals go_wp2_with fail
                            go_ret2
                            have e9 : r = (j1, dk) := by rw [← HO.out, part_step HEnd.out HE2.out, if_pos (by omega)]
                            refine HRes.out _ _ _ e9 ?_
                            rw [HG.out, HG.out]
                            first | exact ((HS4.out).swap (by have := Hsk.out; omega) (by have := Hsk.out; omega)).on (Below.refl _ _).drew | exact ((HS4.out).drewN _).swap (by have := Hsk.out; omega) (by have := Hsk.out; omega)
                          · go_wp2_with fail
                            go_quiet (first | (go_at_call 197; refine Calls.quiet_of_same (hless _ _ _)))
                            have hij2 : i1 < j1 := by
                              rcases Nat.lt_or_ge i1 j1 with h | h
                              · exact h
                              · have e : i1 = j1 := by omega
                                subst e
                                rw [HNe.out (by omega)] at g2
                                cases g2
                            obtain ⟨W1, hW1⟩ : ∃ W1, W1 = wr.drewN nq := ⟨_, rfl⟩
                            have hs1 : StU w W1 blk off m dk := by rw [hW1]; exact HS3.out.drewN _
                            rw [← hW1]
                            clear hW1 hcw hfw
                            have hcw : ∀ t, t < n → W1.cell? ⟨blk, off + t, none⟩ = some (.int .u64 (G t)) := fun t ht => by rw [HG.out]; exact hs1.row.cell (by have := Hsk.out; omega)
                            have hfw : ∀ t, t < n → W1.frozen? ⟨blk, off + t, none⟩ = false := fun t _ => hs1.row.frozen t
                            have HS4 := Lib.hid hs1
                            clear hs1
                            have b1 : i1 < n := by omega
                            have b2 : j1 < n := by omega
                            have hx : (W1.setCell ⟨blk, off + i1, none⟩ (.int .u64 (G j1))).cell? ⟨blk, off + j1, none⟩ = some (.int .u64 (G j1)) := by
                              by_cases e : i1 = j1
                              · rw [← e]; exact World.cell?_setCell_same _ _ _ (hcw i1 (by omega))
                              · exact (World.cell?_setCell_other _ _ _ _ (by intro e2; injection e2 with _ e2; omega)).trans (hcw j1 (by omega))
                            go_wp2_with fail
                            go_region
                            all_goals go_wp2_with fail
                            go_roundw
                            case rel =>
                              refine ⟨i1 + 1, j1 - 1, swp dk i1 j1, by go_num, by congr 1; omega, by omega, by omega, by omega, by rw [size_swp]; exact Hsk.out, ?_, ?_⟩
                              · rw [HG.out, HG.out]
                                first | exact ((HS4.out).swap (by have := Hsk.out; omega) (by have := Hsk.out; omega)).on (Below.refl _ _).drew | exact ((HS4.out).drewN _).swap (by have := Hsk.out; omega) (by have := Hsk.out; omega)
                              · rw [← HO.out, part_step HEnd.out HE2.out, if_neg (by omega)]
                            case measure => simp [intOf]; omega
end Go.Proofs.YtfabodpefbdbjaaGreatDoor

/- SxPins -/

/-
  slices.Sort at uint64: partialInsertionSortOrdered.
-/
set_option linter.unusedVariables false
set_option linter.unusedSimpArgs false
namespace Go.Proofs.YtfabodpefbdbjaaGreatDoor
open Go.RowKit Go.Sort

section
variable {b i j : Nat} {d : Array Int}
theorem ss_go (h : i < b) (hl : ltInt d[i]! d[i - 1]! = false) : scanSorted ltInt d b i = scanSorted ltInt d b (i + 1) := by rw [scanSorted, if_pos (by simp [h, hl])]
theorem ss_end (h : ¬ i < b ∨ ltInt d[i]! d[i - 1]! = true) : scanSorted ltInt d b i = i := by
  rw [scanSorted, if_neg]
  rcases h with h | h
  · simp; omega
  · simp [h]
theorem sdn_go (h : 0 < j) (hl : ltInt d[j]! d[j - 1]! = true) : shiftDown ltInt j d = shiftDown ltInt (j - 1) (swp d j (j - 1)) := by
  obtain ⟨k, rfl⟩ : ∃ k, j = k + 1 := ⟨j - 1, by omega⟩
  rw [Nat.add_sub_cancel] at hl
  rw [shiftDown, if_neg (by simp [hl]), Nat.add_sub_cancel]
theorem sdn_stop (h : j = 0 ∨ ltInt d[j]! d[j - 1]! = false) : shiftDown ltInt j d = d := by
  cases j with
  | zero => rw [shiftDown]
  | succ k =>
    rcases h with h | h
    · omega
    · rw [Nat.add_sub_cancel] at h
      rw [shiftDown, if_pos (by simp [h])]
theorem su_go (h : j < b) (hl : ltInt d[j]! d[j - 1]! = true) : shiftUp ltInt b j d = shiftUp ltInt b (j + 1) (swp d j (j - 1)) := by
  rw [shiftUp, if_pos h, if_neg (by simp [hl])]
theorem su_stop (h : ¬ j < b ∨ ltInt d[j]! d[j - 1]! = false) : shiftUp ltInt b j d = d := by
  rw [shiftUp]
  rcases h with h | h
  · rw [if_neg h]
  · split
    · rw [if_pos (by simp [h])]
    · rfl
end
theorem pins_step {a b s i i1 : Nat} {d : Array Int} (h : scanSorted ltInt d b i = i1) : partialIns ltInt a b (s + 1) i d =
    if i1 = b then (d, true) else if b - a < 50 then (d, false) else partialIns ltInt a b s i1 (fixUp ltInt b i1 (fixDown ltInt a i1 (swp d i1 (i1 - 1)))) := by
  subst h
  rfl
set_option maxRecDepth 100000 in
set_option maxHeartbeats 16000000 in
theorem hpins (blk off m cap a b : Nat) (d : Array Int) (w : World) (h : RowU w blk off m d) (hab : a < b) (hb : b ≤ d.size) (hsz : d.size ≤ 1000000) :
    Calls Tryz.prog 196 #[slU blk off d.size cap, .int .i64 (a : Int), .int .i64 (b : Int)] w fun e w' => e = .returned (.bool (partialInsertionSort ltInt d a b).2) ∧ StU w w' blk off m (partialInsertionSort ltInt d a b).1 := by
  have H := Lib.hid h
  obtain ⟨n, hn⟩ : ∃ n, n = d.size := ⟨_, rfl⟩
  have Hn := Lib.hid hn
  rw [← hn] at hb hsz
  clear h
  unfold slU
  rw [← hn]
  clear hn
  obtain ⟨r, hr⟩ : ∃ r, r = partialInsertionSort ltInt d a b := ⟨_, rfl⟩
  rw [← hr]
  have Hr := Lib.hid hr
  clear hr
  go_enter Tryz.func196, Tryz.ntmps196
  go_wp2_with fail
  go_loopw [7, 8] (fun vi vj wr => ∃ (i jj s : Nat) (dk : Array Int), vi = .int .i64 i ∧ vj = .int .i64 jj ∧ jj + s = 5 ∧ a < i ∧ i ≤ b ∧ dk.size = n ∧ StU w wr blk off m dk ∧ partialIns ltInt a b s i dk = r) (fun _ vj _ => (5 - intOf vj).toNat)
  case atStart => exact ⟨a + 1, 0, 5, d, by go_num, rfl, rfl, by omega, by omega, Hn.out.symm, StU.refl H.out, Hr.out.symm⟩
  case round =>
    obtain ⟨i, jj, s, dk, rfl, rfl, hjs, hai, hib, hsk, hst, hO⟩ := hrel
    have HO := Lib.hid hO
    have HS := Lib.hid hst
    have Hsk := Lib.hid hsk
    clear hO hst hsk
    rcases s with _ | s
    · obtain rfl : jj = 5 := by omega
      go_wp2_with fail
      go_ret
      have e9 : r = (dk, false) := by rw [← HO.out]; rfl
      rw [e9]
      exact ⟨rfl, HS.out⟩
    · have hj5 : (jj : Int) < 5 := by omega
      obtain ⟨G, hG⟩ : ∃ G : Nat → Int, ∀ t, G t = dk[t]! := ⟨fun t => dk[t]!, fun _ => rfl⟩
      have HG := Lib.hid hG
      clear hG
      go_wp2_with fail
      go_loopw [7] (fun vi wr2 => ∃ i1 : Nat, vi = .int .i64 i1 ∧ i ≤ i1 ∧ i1 ≤ b ∧ StU w wr2 blk off m dk ∧ scanSorted ltInt dk b i1 = scanSorted ltInt dk b i) (fun vi _ => (b : Nat) - (intOf vi).toNat)
      case atStart => exact ⟨i, rfl, Nat.le_refl _, hib, HS.out, rfl⟩
      case round =>
        obtain ⟨i1, rfl, hi1, hi1b, hst1, hU⟩ := hrel
        have HU := Lib.hid hU
        have HS1 := Lib.hid hst1
        have hcw : ∀ t, t < n → wr.cell? ⟨blk, off + t, none⟩ = some (.int .u64 (G t)) := fun t ht => by rw [HG.out]; exact HS1.out.row.cell (by have := Hsk.out; omega)
        have hfw : ∀ t, t < n → wr.frozen? ⟨blk, off + t, none⟩ = false := fun t _ => HS1.out.row.frozen t
        clear hU hst1
        by_cases hgo : i1 < b ∧ ltInt (G i1) (G (i1 - 1)) = false
        · obtain ⟨g1, g2⟩ := hgo
          go_wp2_with fail
          go_quiet (first | (go_at_call 197; refine Calls.quiet_of_same (hless _ _ _)))
          go_wp2_with fail
          go_roundw
          case rel => exact ⟨i1 + 1, by go_num, by omega, by omega, HS1.out.drewN _, by rw [← HU.out, ss_go g1 (by rw [← HG.out, ← HG.out]; exact g2)]⟩
          case measure => simp [intOf]; omega
        · have hcs : i1 = b ∨ (i1 < b ∧ ltInt (G i1) (G (i1 - 1)) = true) := by
            rcases Classical.em (i1 < b) with g | g
            · cases h9 : ltInt (G i1) (G (i1 - 1))
              · exact absurd ⟨g, h9⟩ hgo
              · exact .inr ⟨g, rfl⟩
            · exact .inl (by omega)
          have hend : scanSorted ltInt dk b i = i1 := by
            rw [← HU.out]
            refine ss_end ?_
            rcases hcs with g | ⟨_, g⟩
            · exact .inl (by omega)
            · exact .inr (by rw [← HG.out, ← HG.out]; exact g)
          have HEnd := Lib.hid (pins_step (a := a) (s := s) hend)
          clear hend hgo
          rcases hcs with g | ⟨g, g2⟩
          · subst g
            go_wp2_with fail
            go_quiet (first | (go_at_call 197; refine Calls.quiet_of_same (hless _ _ _)))
            go_wp2_with fail
            go_ret
            have e9 : r = (dk, true) := by rw [← HO.out, HEnd.out]; simp
            rw [e9]
            exact ⟨rfl, HS1.out.drewN _⟩
          · have hne : ¬ ((i1 : Int) = (b : Int)) := by omega
            by_cases h50 : b - a < 50
            · have h50z : (b : Int) - (a : Int) < 50 := by omega
              go_wp2_with fail
              go_quiet (first | (go_at_call 197; refine Calls.quiet_of_same (hless _ _ _)))
              go_wp2_with fail
              go_ret
              have e9 : r = (dk, false) := by rw [← HO.out, HEnd.out, if_neg (by omega), if_pos h50]
              rw [e9]
              exact ⟨rfl, HS1.out.drewN _⟩
            · have h50z : ¬ ((b : Int) - (a : Int) < 50) := by omega
              go_wp2_with fail
              go_quiet (first | (go_at_call 197; refine Calls.quiet_of_same (hless _ _ _)))
              obtain ⟨W1, hW1⟩ : ∃ W1, W1 = wr.drewN nq := ⟨_, rfl⟩
              have hs1 : StU w W1 blk off m dk := by rw [hW1]; exact HS1.out.drewN _
              rw [← hW1]
              clear hW1 hcw hfw
              have hcw : ∀ t, t < n → W1.cell? ⟨blk, off + t, none⟩ = some (.int .u64 (G t)) := fun t ht => by rw [HG.out]; exact hs1.row.cell (by have := Hsk.out; omega)
              have hfw : ∀ t, t < n → W1.frozen? ⟨blk, off + t, none⟩ = false := fun t _ => hs1.row.frozen t
              have HS4 := Lib.hid hs1
              clear hs1
              go_wp2_with fail
              go_region
              all_goals go_upto_if 61 with fail
              obtain ⟨dS, hdS⟩ : ∃ dS, dS = swp dk i1 (i1 - 1) := ⟨_, rfl⟩
              have HR : Hid (partialIns ltInt a b s i1 (fixUp ltInt b i1 (fixDown ltInt a i1 dS)) = r) := Lib.hid (by rw [hdS, ← HO.out, HEnd.out, if_neg (by omega), if_neg h50])
              have HdS : Hid (∀ W, StU w W blk off m (swp dk i1 (i1 - 1)) → StU w W blk off m dS ∧ dS.size = n) := Lib.hid fun W hW => by rw [hdS]; exact ⟨hW, by rw [size_swp]; exact Hsk.out⟩
              clear hdS
              have hs5 : StU w (((W1.setCell ⟨blk, off + i1, none⟩ (.int .u64 (G (i1 - 1)))).setCell ⟨blk, off + (i1 - 1), none⟩ (.int .u64 (G i1))).drew) blk off m (swp dk i1 (i1 - 1)) := by
                rw [HG.out, HG.out]
                exact ((HS4.out).swap (by have := Hsk.out; omega) (by have := Hsk.out; omega)).on (Below.refl _ _).drew
              obtain ⟨hsS, hnS⟩ := HdS.out _ hs5
              have HSS := Lib.hid hsS
              have HnS := Lib.hid hnS
              clear hs5 hsS hnS hcw hfw HdS
              revert HSS
              generalize World.drew _ = w2
              intro HSS
              go_cut [] from 13 to 132 (fun wc => StU w wc blk off m (fixDown ltInt a i1 dS) ∧ (fixDown ltInt a i1 dS).size = n)
              case first =>
                by_cases h2 : i1 - a ≥ 2
                · have h2z : 2 ≤ (i1 : Int) - (a : Int) := by omega
                  go_wp2_with fail
                  go_loopw [9] (fun vj wr3 => ∃ (j : Nat) (dj : Array Int), vj = .int .i64 j ∧ j < n ∧ dj.size = n ∧ StU w wr3 blk off m dj ∧ shiftDown ltInt j dj = fixDown ltInt a i1 dS) (fun vj _ => (intOf vj).toNat)
                  case atStart => exact ⟨i1 - 1, dS, by congr 1; omega, by omega, HnS.out, HSS.out, by unfold fixDown; rw [if_pos h2]⟩
                  case round =>
                    obtain ⟨j, dj, rfl, hjn, hsj, hst3, hI⟩ := hrel
                    obtain ⟨G, hG⟩ : ∃ G : Nat → Int, ∀ t, G t = dj[t]! := ⟨fun t => dj[t]!, fun _ => rfl⟩
                    have hcw : ∀ t, t < n → wr.cell? ⟨blk, off + t, none⟩ = some (.int .u64 (G t)) := fun t ht => by rw [hG]; exact hst3.row.cell (by omega)
                    have hfw : ∀ t, t < n → wr.frozen? ⟨blk, off + t, none⟩ = false := fun t _ => hst3.row.frozen t
                    have HG := Lib.hid hG
                    have HI := Lib.hid hI
                    have HS3 := Lib.hid hst3
                    have Hsj := Lib.hid hsj
                    clear hG hI hst3 hsj
                    have OUT : Hid ((j = 0 ∨ ltInt dj[j]! dj[j - 1]! = false) → ∀ wq, StU w wq blk off m dj → StU w wq blk off m (fixDown ltInt a i1 dS) ∧ (fixDown ltInt a i1 dS).size = n) :=
                      Lib.hid fun hs wq hq => by rw [← HI.out, sdn_stop hs]; exact ⟨hq, Hsj.out⟩
                    by_cases hja : 0 < j
                    · have hjz : 1 ≤ (j : Int) := by omega
                      cases hl : ltInt (G j) (G (j - 1))
                      · go_wp2_with fail
                        go_quiet (first | (go_at_call 197; refine Calls.quiet_of_same (hless _ _ _)))
                        go_wp2_with fail
                        go_meet
                        case rel => exact OUT.out (Or.inr (by rw [← HG.out, ← HG.out]; exact hl)) _ (HS3.out.drewN _)
                      · go_wp2_with fail
                        go_quiet (first | (go_at_call 197; refine Calls.quiet_of_same (hless _ _ _)))
                        go_wp2_with fail
                        go_region
                        all_goals go_wp2_with fail
                        go_roundw
                        case rel =>
                          refine ⟨j - 1, swp dj j (j - 1), by congr 1; omega, by omega, by rw [size_swp]; exact Hsj.out, ?_, ?_⟩
                          · rw [HG.out, HG.out]
                            exact (HS3.out.drewN _).swap (by have := Hsj.out; omega) (by have := Hsj.out; omega)
                          · rw [← HI.out, sdn_go hja (by rw [← HG.out, ← HG.out]; exact hl)]
                        case measure => simp [intOf]; omega
                    · obtain rfl : j = 0 := by omega
                      go_wp2_with fail
                      go_meet
                      case rel => exact OUT.out (Or.inl (by trivial)) _ HS3.out
                · have h2z : ¬ 2 ≤ (i1 : Int) - (a : Int) := by omega
                  go_wp2_with fail
                  go_meet
                  case rel => exact (by unfold fixDown; rw [if_neg h2]; exact ⟨HSS.out, HnS.out⟩)
              case rest =>
                obtain ⟨hSF, hnF⟩ := hcut
                obtain ⟨dF, hdF⟩ : ∃ dF, dF = fixDown ltInt a i1 dS := ⟨_, rfl⟩
                have HdF := Lib.hid hdF
                rw [← hdF] at hSF hnF
                have HSF := Lib.hid hSF
                have HnF := Lib.hid hnF
                clear hdF hSF hnF
                have FIN : Hid (∀ wq dj, dj = fixUp ltInt b i1 dF → dj.size = n → StU w wq blk off m dj → ∃ (i' jj' s' : Nat) (dk' : Array Int), Value.int .i64 (i1 : Int) = .int .i64 (i' : Nat) ∧ Value.int .i64 ((jj : Int) + 1) = .int .i64 (jj' : Nat) ∧ jj' + s' = 5 ∧ a < i' ∧ i' ≤ b ∧ dk'.size = n ∧ StU w wq blk off m dk' ∧ partialIns ltInt a b s' i' dk' = r) :=
                  Lib.hid fun wq dj hd hz hq => ⟨i1, jj + 1, s, dj, rfl, by go_num, by omega, by omega, hi1b, hz, hq, by rw [← HR.out, hd, HdF.out]⟩
                by_cases h2 : b - i1 ≥ 2
                · have h2z : 2 ≤ (b : Int) - (i1 : Int) := by omega
                  go_wp2_with fail
                  go_loopw [10] (fun vj wr3 => ∃ (j : Nat) (dj : Array Int), vj = .int .i64 j ∧ 0 < j ∧ j ≤ b ∧ dj.size = n ∧ StU w wr3 blk off m dj ∧ shiftUp ltInt b j dj = fixUp ltInt b i1 dF) (fun vj _ => (b - (intOf vj).toNat))
                  case atStart => exact ⟨i1 + 1, dF, by go_num, by omega, by omega, HnF.out, HSF.out, by unfold fixUp; rw [if_pos h2]⟩
                  case round =>
                    obtain ⟨j, dj, rfl, hj0, hjn, hsj, hst3, hI⟩ := hrel
                    obtain ⟨G, hG⟩ : ∃ G : Nat → Int, ∀ t, G t = dj[t]! := ⟨fun t => dj[t]!, fun _ => rfl⟩
                    have hcw : ∀ t, t < n → wr.cell? ⟨blk, off + t, none⟩ = some (.int .u64 (G t)) := fun t ht => by rw [hG]; exact hst3.row.cell (by omega)
                    have hfw : ∀ t, t < n → wr.frozen? ⟨blk, off + t, none⟩ = false := fun t _ => hst3.row.frozen t
                    have HG := Lib.hid hG
                    have HI := Lib.hid hI
                    have HS3 := Lib.hid hst3
                    have Hsj := Lib.hid hsj
                    clear hG hI hst3 hsj
                    by_cases hja : j < b
                    · cases hl : ltInt (G j) (G (j - 1))
                      · go_wp2_with fail
                        go_quiet (first | (go_at_call 197; refine Calls.quiet_of_same (hless _ _ _)))
                        go_wp2_with fail
                        go_roundw
                        case rel => exact FIN.out _ dj (by rw [← HI.out, su_stop (Or.inr (by rw [← HG.out, ← HG.out]; exact hl))]) Hsj.out (HS3.out.drewN _)
                        case measure => simp [intOf]; omega
                      · go_wp2_with fail
                        go_quiet (first | (go_at_call 197; refine Calls.quiet_of_same (hless _ _ _)))
                        go_wp2_with fail
                        go_region
                        all_goals go_wp2_with fail
                        go_roundw
                        case rel =>
                          refine ⟨j + 1, swp dj j (j - 1), by go_num, by omega, by omega, by rw [size_swp]; exact Hsj.out, ?_, ?_⟩
                          · rw [HG.out, HG.out]
                            exact (HS3.out.drewN _).swap (by have := Hsj.out; omega) (by have := Hsj.out; omega)
                          · rw [← HI.out, su_go hja (by rw [← HG.out, ← HG.out]; exact hl)]
                        case measure => simp [intOf]; omega
                    · go_wp2_with fail
                      go_roundw
                      case rel => exact FIN.out _ dj (by rw [← HI.out, su_stop (Or.inl hja)]) Hsj.out HS3.out
                      case measure => simp [intOf]; omega
                · have h2z : ¬ 2 ≤ (b : Int) - (i1 : Int) := by omega
                  go_wp2_with fail
                  go_roundw
                  case rel => exact FIN.out _ dF (by unfold fixUp; rw [if_neg h2]) HnF.out HSF.out
                  case measure => simp [intOf]; omega
end Go.Proofs.YtfabodpefbdbjaaGreatDoor

/-
  slices.Sort at uint64: bits.Len of a small number; nextPowerOfTwo; xorshift.Next.
-/
set_option linter.unusedVariables false
set_option linter.unusedSimpArgs false
namespace Go.Proofs.YtfabodpefbdbjaaGreatDoor
open Go.RowKit Go.Sort

/-- what Len says of x: how many bits it has -/
def LenOk (x k : Nat) : Prop := k ≤ 8 ∧ x < 2 ^ k ∧ (0 < x → 2 ^ k ≤ 2 * x)
instance (x k : Nat) : Decidable (LenOk x k) := by unfold LenOk; infer_instance
theorem lenOk_of {B : ByteArray} {x : Nat} {pf : x < B.size} (h : B.size = 256) (k : ∀ y : Fin 256, LenOk y.1 (B[y.1]'(by rw [h]; exact y.2)).toNat) : LenOk x (B[x]'pf).toNat := k ⟨x, h ▸ pf⟩
theorem wrap64_two (t : Nat) (h : t ≤ 8) : wrap64 (wrap64 (t : Int)) = (t : Int) := by
  unfold wrap64
  omega
set_option maxRecDepth 100000 in
set_option maxHeartbeats 4000000 in
theorem hlen64 (x : Nat) (w : World) (hx : x < 256) : Calls Tryz.prog 174 #[.int .u64 (x : Int)] w fun e w' => (∃ k : Nat, e = .returned (.int .i64 (k : Int)) ∧ LenOk x k) ∧ w' = w := by
  go_enter Tryz.func174, Tryz.ntmps174
  have h1 : ¬ ((4294967296 : Int) ≤ (x : Int)) := by omega
  have h2 : ¬ ((65536 : Int) ≤ (x : Int)) := by omega
  have h3 : ¬ ((256 : Int) ≤ (x : Int)) := by omega
  go_wp2_with fail
  go_ret
  clear h1 h2
  have hw : ∀ (t : Nat), LenOk x t → (∃ k : Nat, Ending.returned (.int .i64 (wrap64 (wrap64 (t : Int)))) = Ending.returned (.int .i64 (k : Int)) ∧ LenOk x k) ∧ w = w := fun t h => ⟨⟨t, by rw [wrap64_two t h.1], h⟩, rfl⟩
  refine hw _ ?_
  clear hw w
  refine lenOk_of (by decide +kernel) ?_
  decide +kernel
set_option maxRecDepth 100000 in
theorem hlen (x : Nat) (w : World) (hx : x < 256) : Calls Tryz.prog 184 #[.int .u64 (x : Int)] w fun e w' => (∃ k : Nat, e = .returned (.int .i64 (k : Int)) ∧ LenOk x k) ∧ w' = w := by
  go_enter Tryz.func184, Tryz.ntmps184
  go_wp2_with (go_at_call 174; refine (hlen64 x _ hx).mono ?_; rintro e w1 ⟨⟨k, rfl, hk⟩, rfl⟩)
  go_ret
  exact ⟨⟨k, rfl, hk⟩, rfl⟩
/-- nextPowerOfTwo: a power of two, of which the number is less, and which is not more than twice the number -/
def PowOk (x p : Nat) : Prop := x < p ∧ (0 < x → p ≤ 2 * x) ∧ p ≤ 256 ∧ 0 < p
set_option maxRecDepth 100000 in
theorem hpow (x : Nat) (w : World) (hx : x < 256) : Calls Tryz.prog 205 #[.int .i64 (x : Int)] w fun e w' => (∃ p : Nat, e = .returned (.int .u64 (p : Int)) ∧ PowOk x p) ∧ w' = w := by
  go_enter Tryz.func205, Tryz.ntmps205
  go_wp2_with (go_at_call 184; refine (hlen x _ hx).mono ?_; rintro e w1 ⟨⟨k, rfl, hk⟩, rfl⟩)
  go_ret
  have e1 : min k 64 = k := by have := hk.1; omega
  rw [e1]
  refine ⟨⟨2 ^ k, ?_, hk.2.1, hk.2.2, ?_, Nat.two_pow_pos k⟩, rfl⟩
  · have h8 : (2 : Nat) ^ k ≤ 2 ^ 8 := Nat.pow_le_pow_right (by omega) hk.1
    have e2 : IntKind.u64.wrap ((2 : Int) ^ k) = ((2 ^ k : Nat) : Int) := by
      rw [IntKind.wrap_u64, show ((2 : Int) ^ k) = ((2 ^ k : Nat) : Int) by simp]
      have := Nat.two_pow_pos k
      generalize (2 : Nat) ^ k = c at *
      omega
    show Ending.returned (.int .u64 _) = _
    rw [e2]
  · exact Nat.pow_le_pow_right (by omega : 0 < 2) hk.1
theorem xor_nat (a : Nat) (b : Int) (ha : a < 18446744073709551616) (h0 : 0 ≤ b) (h1 : b < 18446744073709551616) : ∃ A : Nat, A < 18446744073709551616 ∧ bits .xor .u64 (a : Int) b = (A : Int) := by
  obtain ⟨c, rfl⟩ : ∃ c : Nat, b = (c : Int) := ⟨b.toNat, by omega⟩
  exact ⟨a ^^^ c, Nat.xor_lt_two_pow (n := 64) (by omega) (by omega), bits_xor_u64_nat _ _ ha (by omega)⟩
/-- a block of one number; what has become of it -/
structure NxSt (w0 w : World) (X : Nat) (ty : Nat) (x : Nat) : Prop where
  heap : w.heap[X]? = some (.cells #[.int .u64 (x : Int)] ty (0, 0))
  chg : Chg (fun i => i = X) w0 w
section
variable {w0 w w' : World} {X ty x : Nat}
theorem NxSt.cell (h : NxSt w0 w X ty x) : w.cell? ⟨X, 0, none⟩ = some (.int .u64 (x : Int)) := by simp [World.cell?, h.heap]
theorem NxSt.frozen (h : NxSt w0 w X ty x) : w.frozen? ⟨X, 0, none⟩ = false := by simp [World.frozen?, h.heap]
theorem NxSt.lt (h : NxSt w0 w X ty x) : X < w.heap.size := (Array.getElem?_eq_some_iff.1 h.heap).1
theorem NxSt.on (h : NxSt w0 w X ty x) (hb : Below w.heap.size w w') : NxSt w0 w' X ty x := ⟨(hb.block X h.lt).trans h.heap, h.chg.trans (Chg.of_below (M := fun _ => False) hb) (fun i e => e.elim)⟩
theorem NxSt.set (h : NxSt w0 w X ty x) (y : Nat) : NxSt w0 (w.setCell ⟨X, 0, none⟩ (.int .u64 (y : Int))) X ty y := by
  refine ⟨?_, h.chg.setCell rfl _⟩
  rw [Go.Sort.setCell_eq]
  simp [Go.Sort.mapBlock, Array.getElem?_modify, h.heap, Go.Sort.onCells]
end
set_option maxRecDepth 100000 in
set_option maxHeartbeats 4000000 in
theorem hnext (X : Nat) (x : Nat) (ty : Nat) (w0 w : World) (hx : x < 18446744073709551616) (h : NxSt w0 w X ty x) :
    Calls Tryz.prog 206 #[.pointer (some ⟨X, 0, none⟩)] w fun e w' => ∃ r : Nat, r < 18446744073709551616 ∧ e = .returned (.int .u64 (r : Int)) ∧ NxSt w0 w' X ty r := by
  obtain ⟨A, hA, eA⟩ := xor_nat x (IntKind.u64.wrap ((x : Int) * 8192)) hx (by rw [IntKind.wrap_u64]; omega) (by rw [IntKind.wrap_u64]; omega)
  obtain ⟨B, hB, eB⟩ := xor_nat A ((A : Int) / 128) hA (by omega) (by omega)
  obtain ⟨C, hC, eC⟩ := xor_nat B (IntKind.u64.wrap ((B : Int) * 131072)) hB (by rw [IntKind.wrap_u64]; omega) (by rw [IntKind.wrap_u64]; omega)
  have HS := Lib.hid h
  have hc := h.cell
  have hf := h.frozen
  clear h
  go_enter Tryz.func206, Tryz.ntmps206
  go_wp2_with fail
  go_region
  all_goals go_wp2_with fail
  have h1 := (HS.out.set A).on (Below.refl _ _).drew
  have HS1 := Lib.hid h1
  have hc1 := h1.cell
  have hf1 := h1.frozen
  clear h1 hc hf
  revert HS1 hc1 hf1
  generalize World.drew _ = w1
  intro HS1 hc1 hf1
  go_region
  all_goals go_wp2_with fail
  have h1 := (HS1.out.set B).on (Below.refl _ _).drew
  have HS2 := Lib.hid h1
  have hc2 := h1.cell
  have hf2 := h1.frozen
  clear h1 hc1 hf1
  revert HS2 hc2 hf2
  generalize World.drew _ = w2
  intro HS2 hc2 hf2
  go_region
  all_goals go_wp2_with fail
  have h1 := (HS2.out.set C).on (Below.refl _ _).drew
  have HS3 := Lib.hid h1
  have hc3 := h1.cell
  have hf3 := h1.frozen
  clear h1 hc2 hf2
  revert HS3 hc3 hf3
  generalize World.drew _ = w3
  intro HS3 hc3 hf3
  go_wp2_with fail
  go_ret
  exact ⟨C, hC, rfl, HS3.out⟩
end Go.Proofs.YtfabodpefbdbjaaGreatDoor

/-
  slices.Sort at uint64: order2Ordered, medianOrdered, medianAdjacentOrdered, choosePivotOrdered: which place comes out is left open; it lies in the part.
-/
set_option linter.unusedVariables false
set_option linter.unusedSimpArgs false
namespace Go.Proofs.YtfabodpefbdbjaaGreatDoor
open Go.RowKit Go.Sort

/-- the row, and beside it a counter that alone has changed -/
structure PvSt (w0 w : World) (blk off m : Nat) (d : Array Int) (Y ty : Nat) : Prop where
  row : RowU w blk off m d
  cnt : ∃ s : Int, w.heap[Y]? = some (.cells #[.int .i64 s] ty (0, 0))
  chg : Chg (fun i => i = Y) w0 w
  ne : Y ≠ blk
section
variable {w0 w w' : World} {blk off m : Nat} {d : Array Int} {Y ty : Nat}
theorem PvSt.lt (h : PvSt w0 w blk off m d Y ty) : Y < w.heap.size := by obtain ⟨s, h⟩ := h.cnt; exact (Array.getElem?_eq_some_iff.1 h).1
theorem PvSt.on (h : PvSt w0 w blk off m d Y ty) (hb : Below w.heap.size w w') : PvSt w0 w' blk off m d Y ty := by
  obtain ⟨s, hs⟩ := h.cnt
  exact ⟨h.row.of_block (hb.block blk h.row.lt), ⟨s, (hb.block Y h.lt).trans hs⟩, h.chg.trans (Chg.of_below (M := fun _ => False) hb) (fun i e => e.elim), h.ne⟩
theorem PvSt.get (h : PvSt w0 w blk off m d Y ty) : ∃ s : Int, w.cell? ⟨Y, 0, none⟩ = some (.int .i64 s) ∧ w.frozen? ⟨Y, 0, none⟩ = false := by
  obtain ⟨s, hs⟩ := h.cnt
  exact ⟨s, by simp [World.cell?, hs], by simp [World.frozen?, hs]⟩
theorem PvSt.start (h : RowU w blk off m d) (ty : Nat) : PvSt (w.alloc (.cells #[.int .i64 0] ty (0, 0))) (w.alloc (.cells #[.int .i64 0] ty (0, 0))) blk off m d w.heap.size ty :=
  ⟨h.of_block (by show (w.heap.push _)[blk]? = _; rw [Array.getElem?_push, if_neg (by have := h.lt; omega)]), ⟨0, by show (w.heap.push _)[w.heap.size]? = _; simp⟩, Chg.refl, by have := h.lt; omega⟩
theorem PvSt.drewN (h : PvSt w0 w blk off m d Y ty) (q : Nat) : PvSt w0 (w.drewN q) blk off m d Y ty := h.on (below_drewN (Below.refl _ _) _)
theorem PvSt.set (h : PvSt w0 w blk off m d Y ty) (x : Int) : PvSt w0 (w.setCell ⟨Y, 0, none⟩ (.int .i64 x)) blk off m d Y ty := by
  obtain ⟨s, hs⟩ := h.cnt
  refine ⟨h.row.of_block ?_, ⟨x, ?_⟩, h.chg.setCell rfl _, h.ne⟩
  · rw [Go.Sort.setCell_eq]
    simp [Go.Sort.mapBlock, Array.getElem?_modify, h.ne]
  · rw [Go.Sort.setCell_eq]
    simp [Go.Sort.mapBlock, Array.getElem?_modify, hs, Go.Sort.onCells]
end
set_option maxRecDepth 100000 in
set_option maxHeartbeats 4000000 in
theorem horder2 (blk off m cap a b Y ty : Nat) (d : Array Int) (w0 w : World) (h : PvSt w0 w blk off m d Y ty) (ha : a < d.size) (hb : b < d.size) (hsz : d.size ≤ 1000000) :
    Calls Tryz.prog 219 #[slU blk off d.size cap, .int .i64 (a : Int), .int .i64 (b : Int), .pointer (some ⟨Y, 0, none⟩)] w fun e w' => ∃ p q : Nat, e = .returned (.tuple #[.int .i64 (p : Int), .int .i64 (q : Int)]) ∧ ((p = a ∧ q = b) ∨ (p = b ∧ q = a)) ∧ PvSt w0 w' blk off m d Y ty := by
  have HS := Lib.hid h
  obtain ⟨n, hn⟩ : ∃ n, n = d.size := ⟨_, rfl⟩
  have Hn := Lib.hid hn
  rw [← hn] at ha hb hsz
  clear h
  unfold slU
  rw [← hn]
  clear hn
  obtain ⟨G, hG⟩ : ∃ G : Nat → Int, ∀ t, G t = d[t]! := ⟨fun t => d[t]!, fun _ => rfl⟩
  have hcw : ∀ t, t < n → w.cell? ⟨blk, off + t, none⟩ = some (.int .u64 (G t)) := fun t ht => by rw [hG]; exact HS.out.row.cell (by have := Hn.out; omega)
  have hfw : ∀ t, t < n → w.frozen? ⟨blk, off + t, none⟩ = false := fun t _ => HS.out.row.frozen t
  clear hG
  go_enter Tryz.func219, Tryz.ntmps219
  go_wp2_with fail
  go_quiet (first | (go_at_call 197; refine Calls.quiet_of_same (hless _ _ _)))
  obtain ⟨W1, hW1⟩ : ∃ W1, W1 = w.drewN nq := ⟨_, rfl⟩
  have hs1 : PvSt w0 W1 blk off m d Y ty := by rw [hW1]; exact HS.out.drewN _
  rw [← hW1]
  clear hW1 hcw hfw
  have HS1 := Lib.hid hs1
  obtain ⟨s, hs⟩ := hs1.cnt
  have hcY : W1.cell? ⟨Y, 0, none⟩ = some (.int .i64 s) := by simp [World.cell?, hs]
  have hfY : W1.frozen? ⟨Y, 0, none⟩ = false := by simp [World.frozen?, hs]
  clear hs hs1
  cases hl : ltInt (G b) (G a)
  · go_wp2_with fail
    go_ret2
    exact ⟨a, b, rfl, .inl ⟨rfl, rfl⟩, HS1.out⟩
  · go_wp2_with fail
    go_ret2
    exact ⟨b, a, rfl, .inr ⟨rfl, rfl⟩, HS1.out.set _⟩
set_option maxRecDepth 100000 in
set_option maxHeartbeats 4000000 in
theorem hmedian (blk off m cap a b c Y ty : Nat) (d : Array Int) (w0 w : World) (h : PvSt w0 w blk off m d Y ty) (ha : a < d.size) (hb : b < d.size) (hc : c < d.size) (hsz : d.size ≤ 1000000) :
    Calls Tryz.prog 208 #[slU blk off d.size cap, .int .i64 (a : Int), .int .i64 (b : Int), .int .i64 (c : Int), .pointer (some ⟨Y, 0, none⟩)] w fun e w' => ∃ r : Nat, e = .returned (.int .i64 (r : Int)) ∧ (r = a ∨ r = b ∨ r = c) ∧ PvSt w0 w' blk off m d Y ty := by
  have H : ∀ (x y : Nat) (w1 : World), PvSt w0 w1 blk off m d Y ty → x < d.size → y < d.size → Calls Tryz.prog 219 #[slU blk off d.size cap, .int .i64 (x : Int), .int .i64 (y : Int), .pointer (some ⟨Y, 0, none⟩)] w1 fun e w' => ∃ p q : Nat, e = .returned (.tuple #[.int .i64 (p : Int), .int .i64 (q : Int)]) ∧ ((p = x ∧ q = y) ∨ (p = y ∧ q = x)) ∧ PvSt w0 w' blk off m d Y ty :=
    fun x y w1 h hx hy => horder2 blk off m cap x y Y ty d w0 w1 h hx hy hsz
  unfold slU at H ⊢
  go_enter Tryz.func208, Tryz.ntmps208
  go_wp2_with (go_at_call 219; refine (H _ _ _ (by assumption) (by omega) (by omega)).mono ?_; rintro e w1 ⟨p1, q1, rfl, hpq1, hs1⟩)
  go_ret
  rename_i hs1
  exact ⟨_, rfl, by omega, by assumption⟩
set_option maxRecDepth 100000 in
theorem hmedianA (blk off m cap a Y ty : Nat) (d : Array Int) (w0 w : World) (h : PvSt w0 w blk off m d Y ty) (h1 : 1 ≤ a) (ha : a + 1 < d.size) (hsz : d.size ≤ 1000000) :
    Calls Tryz.prog 207 #[slU blk off d.size cap, .int .i64 (a : Int), .pointer (some ⟨Y, 0, none⟩)] w fun e w' => ∃ r : Nat, e = .returned (.int .i64 (r : Int)) ∧ (r = a - 1 ∨ r = a ∨ r = a + 1) ∧ PvSt w0 w' blk off m d Y ty := by
  have H := hmedian blk off m cap (a - 1) a (a + 1) Y ty d w0 w h (by omega) (by omega) (by omega) hsz
  have e1 : ((a - 1 : Nat) : Int) = (a : Int) - 1 := by omega
  have e2 : ((a + 1 : Nat) : Int) = (a : Int) + 1 := by omega
  rw [e1, e2] at H
  have HH := Lib.hid H
  clear e1 e2 H
  unfold slU at HH ⊢
  go_enter Tryz.func207, Tryz.ntmps207
  go_wp2_with (go_at_call 208; refine (HH.out).mono ?_; rintro e w1 ⟨r, rfl, hr, hs1⟩)
  go_ret
  exact ⟨r, rfl, hr, hs1⟩
set_option maxRecDepth 100000 in
set_option maxHeartbeats 8000000 in
/-- choosePivot, of a part of more than twelve: a place in it, and one of three hints -/
theorem hpivot (blk off m cap a b : Nat) (d : Array Int) (w : World) (h : RowU w blk off m d) (hab : a + 12 < b) (hb : b ≤ d.size) (hsz : d.size ≤ 1000000) :
    Calls Tryz.prog 194 #[slU blk off d.size cap, .int .i64 (a : Int), .int .i64 (b : Int)] w fun e w' => ∃ (p k : Nat), e = .returned (.tuple #[.int .i64 (p : Int), .int .i64 (k : Int)]) ∧ a ≤ p ∧ p < b ∧ k ≤ 2 ∧ StU w w' blk off m d := by
  have H := Lib.hid h
  obtain ⟨n, hn⟩ : ∃ n, n = d.size := ⟨_, rfl⟩
  have Hn := Lib.hid hn
  rw [← hn] at hb hsz
  have hlt := h.lt
  have hm : ∀ (ty : Nat) (w1 : World) (x y z : Nat), PvSt (w.alloc (.cells #[.int .i64 0] ty (0, 0))) w1 blk off m d w.heap.size ty → x < n → y < n → z < n → Calls Tryz.prog 208 #[.slice (some ⟨blk, off, none⟩) n cap, .int .i64 (x : Int), .int .i64 (y : Int), .int .i64 (z : Int), .pointer (some ⟨w.heap.size, 0, none⟩)] w1 fun e w' => ∃ r : Nat, e = .returned (.int .i64 (r : Int)) ∧ (r = x ∨ r = y ∨ r = z) ∧ PvSt (w.alloc (.cells #[.int .i64 0] ty (0, 0))) w' blk off m d w.heap.size ty :=
    fun ty w1 x y z h hx hy hz => by rw [hn]; exact hmedian blk off m cap x y z _ ty d _ w1 h (by omega) (by omega) (by omega) (by omega)
  have hma : ∀ (ty : Nat) (w1 : World) (x : Nat), PvSt (w.alloc (.cells #[.int .i64 0] ty (0, 0))) w1 blk off m d w.heap.size ty → 1 ≤ x → x + 1 < n → Calls Tryz.prog 207 #[.slice (some ⟨blk, off, none⟩) n cap, .int .i64 (x : Int), .pointer (some ⟨w.heap.size, 0, none⟩)] w1 fun e w' => ∃ r : Nat, e = .returned (.int .i64 (r : Int)) ∧ (r = x - 1 ∨ r = x ∨ r = x + 1) ∧ PvSt (w.alloc (.cells #[.int .i64 0] ty (0, 0))) w' blk off m d w.heap.size ty :=
    fun ty w1 x h hx hy => by rw [hn]; exact hmedianA blk off m cap x _ ty d _ w1 h (by omega) (by omega) (by omega)
  have HM := Lib.hid hm
  have HMA := Lib.hid hma
  clear hm hma h
  unfold slU
  rw [← hn]
  clear hn
  obtain ⟨l, hl⟩ : ∃ l, l = b - a := ⟨_, rfl⟩
  obtain ⟨q, hq⟩ : ∃ q, q = l / 4 := ⟨_, rfl⟩
  obtain ⟨i, hi⟩ : ∃ i, i = a + q := ⟨_, rfl⟩
  obtain ⟨j, hj⟩ : ∃ j, j = a + q * 2 := ⟨_, rfl⟩
  obtain ⟨k, hk⟩ : ∃ k, k = a + q * 3 := ⟨_, rfl⟩
  have el : (b : Int) - (a : Int) = (l : Int) := by omega
  have eq : (l : Int) / 4 = (q : Int) := by omega
  have ei : (a : Int) + (q : Int) = (i : Int) := by omega
  have ej : (a : Int) + (q : Int) * 2 = (j : Int) := by omega
  have ek : (a : Int) + (q : Int) * 3 = (k : Int) := by omega
  have r1 : a + 3 ≤ i := by omega
  have r2 : i + 3 ≤ j := by omega
  have r3 : j + 3 ≤ k := by omega
  have r4 : k + 3 ≤ b := by omega
  have r5 : k < b := by omega
  have r6 : l ≤ 1000000 := by omega
  have r7 : q ≤ 1000000 := by omega
  have r8 : 8 ≤ (l : Int) := by omega
  clear hl hq hi hj hk
  have HP0 : Hid (∀ ty : Nat, PvSt (w.alloc (.cells #[.int .i64 0] ty (0, 0))) (w.alloc (.cells #[.int .i64 0] ty (0, 0))) blk off m d w.heap.size ty) := Lib.hid fun ty => PvSt.start H.out ty
  have HFIN : Hid (∀ (ty : Nat) (w1 : World), PvSt (w.alloc (.cells #[.int .i64 0] ty (0, 0))) w1 blk off m d w.heap.size ty → StU w w1 blk off m d) := Lib.hid fun ty w1 h =>
    ⟨h.row, (Chg.refl.alloc _).trans h.chg (fun i e => .inr (by omega))⟩
  go_enter Tryz.func194, Tryz.ntmps194
  by_cases h50 : 50 ≤ (l : Int)
  all_goals
    go_wp2_with (first
      | (go_at_call 207; refine (HMA.out _ _ _ (by first | exact HP0.out _ | assumption) (by omega) (by omega)).mono ?_; rintro e w1 ⟨r, rfl, hr, hs1⟩; obtain ⟨s, hcY, hfY⟩ := hs1.get)
      | (go_at_call 208; refine (HM.out _ _ _ _ _ (by first | exact HP0.out _ | assumption) (by omega) (by omega) (by omega)).mono ?_; rintro e w1 ⟨r, rfl, hr, hs1⟩; obtain ⟨s, hcY, hfY⟩ := hs1.get))
    all_goals
      go_ret2
      first
        | exact ⟨_, 1, rfl, by omega, by omega, by omega, HFIN.out _ _ (by assumption)⟩
        | exact ⟨_, 2, rfl, by omega, by omega, by omega, HFIN.out _ _ (by assumption)⟩
        | exact ⟨_, 0, rfl, by omega, by omega, by omega, HFIN.out _ _ (by assumption)⟩
end Go.Proofs.YtfabodpefbdbjaaGreatDoor

/-
  slices.Sort at uint64: breakPatternsOrdered: some permutation of the part.
-/
set_option linter.unusedVariables false
set_option linter.unusedSimpArgs false
namespace Go.Proofs.YtfabodpefbdbjaaGreatDoor
open Go.RowKit Go.Sort

/-- the row, and beside it the random number, in a block of its own -/
structure BrSt (w0 w : World) (blk off m : Nat) (d : Array Int) (X ty x : Nat) : Prop where
  row : RowU w blk off m d
  rnd : w.heap[X]? = some (.cells #[.int .u64 (x : Int)] ty (0, 0))
  lt : x < 18446744073709551616
  chg : Chg (fun i => i = blk) w0 w
  old : w0.heap.size ≤ X
  ob : blk < w0.heap.size
section
variable {w0 w w' : World} {blk off m : Nat} {d : Array Int} {X ty x : Nat}
theorem BrSt.nx (h : BrSt w0 w blk off m d X ty x) : NxSt w w X ty x := ⟨h.rnd, Chg.refl⟩
theorem BrSt.next (h : BrSt w0 w blk off m d X ty x) {r : Nat} (hr : r < 18446744073709551616) (k : NxSt w w' X ty r) : BrSt w0 w' blk off m d X ty r :=
  ⟨h.row.of_block (k.chg.block blk h.row.lt (by have := h.old; have := h.ob; omega)), k.heap, hr, h.chg.trans k.chg (fun i e => .inr (by have := h.old; omega)), h.old, h.ob⟩
theorem BrSt.on (h : BrSt w0 w blk off m d X ty x) (hb : Below w.heap.size w w') : BrSt w0 w' blk off m d X ty x :=
  ⟨h.row.of_block (hb.block blk h.row.lt), (hb.block X (Array.getElem?_eq_some_iff.1 h.rnd).1).trans h.rnd, h.lt, h.chg.trans (Chg.of_below (M := fun _ => False) hb) (fun i e => e.elim), h.old, h.ob⟩
theorem BrSt.st (h : BrSt w0 w blk off m d X ty x) : StU w0 w blk off m d := ⟨h.row, h.chg⟩
theorem heap_setCell_other (w : World) {q t i : Nat} (v : Value) (hi : q ≠ i) : (w.setCell ⟨q, t, none⟩ v).heap[i]? = w.heap[i]? := by
  rw [Go.Sort.setCell_eq]
  simp [Go.Sort.mapBlock, Array.getElem?_modify, hi]
theorem BrSt.swap (h : BrSt w0 w blk off m d X ty x) {j k : Nat} (hj : j < d.size) (hk : k < d.size) : BrSt w0 ((w.setCell ⟨blk, off + j, none⟩ (.int .u64 d[k]!)).setCell ⟨blk, off + k, none⟩ (.int .u64 d[j]!)) blk off m (swp d j k) X ty x := by
  have hs := h.st.swap hj hk
  have hne : blk ≠ X := by have := h.old; have := h.ob; omega
  exact ⟨hs.row, (heap_setCell_other _ _ hne).trans ((heap_setCell_other _ _ hne).trans h.rnd), h.lt, hs.chg, h.old, h.ob⟩
theorem BrSt.start (h : RowU w blk off m d) (ty : Nat) (l : Nat) (hl : l < 18446744073709551616) : BrSt w (w.alloc (.cells #[.int .u64 (l : Int)] ty (0, 0))) blk off m d w.heap.size ty l :=
  ⟨h.of_block (by show (w.heap.push _)[blk]? = _; rw [Array.getElem?_push, if_neg (by have := h.lt; omega)]), by show (w.heap.push _)[w.heap.size]? = _; simp, hl, Chg.refl.alloc _, Nat.le_refl _, h.lt⟩
end
theorem and_some (R p1 : Nat) (hR : R < 18446744073709551616) (hp : p1 < 256) : ∃ O : Nat, O ≤ p1 ∧ bits .and .u64 (R : Int) (p1 : Int) = (O : Int) :=
  ⟨R &&& p1, Nat.and_le_right, bits_and_u64_nat _ _ hR (by omega)⟩
set_option maxRecDepth 100000 in
set_option maxHeartbeats 8000000 in
theorem hbreak (blk off m cap a b : Nat) (d : Array Int) (w : World) (h : RowU w blk off m d) (hab : a + 12 < b) (hb : b ≤ d.size) (hsz : d.size ≤ 200) :
    Calls Tryz.prog 193 #[slU blk off d.size cap, .int .i64 (a : Int), .int .i64 (b : Int)] w fun e w' => (∃ u, e = .returned u) ∧ ∃ d', PermIn a b d d' ∧ StU w w' blk off m d' := by
  have H := Lib.hid h
  obtain ⟨n, hn⟩ : ∃ n, n = d.size := ⟨_, rfl⟩
  have Hn := Lib.hid hn
  rw [← hn] at hb hsz
  clear h
  unfold slU
  rw [← hn]
  clear hn
  obtain ⟨l, hl⟩ : ∃ l, l = b - a := ⟨_, rfl⟩
  obtain ⟨c, hc⟩ : ∃ c, c = l / 4 := ⟨_, rfl⟩
  obtain ⟨u, hu⟩ : ∃ u, u = a + c * 2 := ⟨_, rfl⟩
  obtain ⟨I, hI⟩ : ∃ I, I = u - 1 := ⟨_, rfl⟩
  have el : (b : Int) - (a : Int) = (l : Int) := by omega
  have ec : (l : Int) / 4 = (c : Int) := by omega
  have eu : (a : Int) + (c : Int) * 2 = (u : Int) := by omega
  have eI : (u : Int) - 1 = (I : Int) := by omega
  have r1 : a + 3 ≤ u := by omega
  have r2 : u + 2 < b := by omega
  have r3 : l ≤ 200 := by omega
  have r4 : a + l = b := by omega
  have r5 : 8 ≤ (l : Int) := by omega
  have r6 : I + 1 = u := by omega
  have r7 : c ≤ 200 := by omega
  have hP := hpow l
  have HP := Lib.hid hP
  have hst0 : Hid (∀ ty : Nat, BrSt w (w.alloc (.cells #[.int .u64 (l : Int)] ty (0, 0))) blk off m d w.heap.size ty l) := Lib.hid fun ty => BrSt.start H.out ty l (by omega)
  clear hl hc hu hI hP
  go_enter Tryz.func193, Tryz.ntmps193
  go_wp2_with (go_at_call 205; refine (HP.out _ (by omega)).mono ?_; rintro e w1 ⟨⟨p, rfl, hp⟩, rfl⟩)
  obtain ⟨w1, hw1⟩ : ∃ w1, w1 = w.alloc (.cells #[.int .u64 (l : Int)] 253 (0, 0)) := ⟨_, rfl⟩
  have hs1 : BrSt w w1 blk off m d w.heap.size 253 l := by rw [hw1]; exact hst0.out _
  rw [← hw1]
  have HS1 := Lib.hid hs1
  clear hw1 hs1 hst0
  obtain ⟨p1, rfl⟩ : ∃ p1, p = p1 + 1 := ⟨p - 1, by have := hp.2.2.2; omega⟩
  have ep : ((p1 + 1 : Nat) : Int) - 1 = (p1 : Int) := by omega
  have q1 : p1 < 2 * l := by have := hp.2.1 (by omega); omega
  have q2 : p1 < 256 := by have := hp.2.2.1; omega
  obtain ⟨p, hpp⟩ : ∃ p, p = p1 + 1 := ⟨_, rfl⟩
  rw [← hpp] at ep ⊢
  have q3 : p ≤ 256 := by omega
  have q4 : 1 ≤ p := by omega
  clear hp hpp
  go_loopw [9] (fun vi wr => ∃ (x r : Nat) (dk : Array Int), vi = .int .i64 x ∧ u ≤ x + 1 ∧ x ≤ u + 2 ∧ dk.size = n ∧ PermIn a b d dk ∧ BrSt w wr blk off m dk w.heap.size 253 r) (fun vi _ => u + 2 - (intOf vi).toNat)
  case atStart => exact ⟨I, l, d, rfl, by omega, by omega, Hn.out.symm, permIn_refl _ _ _, HS1.out⟩
  case round =>
    obtain ⟨x, r, dk, rfl, hx1, hx2, hsk, hpm, hst⟩ := hrel
    have HPm := Lib.hid hpm
    have HS := Lib.hid hst
    have Hsk := Lib.hid hsk
    clear hpm hst hsk
    by_cases hgo : x ≤ u + 1
    · have hgoz : (x : Int) ≤ (u : Int) + 1 := by omega
      obtain ⟨G, hG⟩ : ∃ G : Nat → Int, ∀ t, G t = dk[t]! := ⟨fun t => dk[t]!, fun _ => rfl⟩
      have HG := Lib.hid hG
      clear hG
      have hN := fun ty (h : NxSt wr wr w.heap.size ty r) => hnext w.heap.size r ty wr wr HS.out.lt h
      have HN := Lib.hid (hN _ HS.out.nx)
      clear hN
      go_wp2_with (go_at_call 206; go_loud (refine (HN.out).mono ?_; rintro e w2 ⟨R, hR, rfl, hnx⟩; have hA := and_some R p1 hR q2; obtain ⟨O, hO1, eAnd⟩ := hA))
      · have hLO : l ≤ O := by first | assumption | omega
        obtain ⟨o, ho⟩ : ∃ o, o = O - l := ⟨_, rfl⟩
        have eo : (O : Int) - (l : Int) = (o : Int) := by omega
        rw [eo]
        have ho1 : o < l := by omega
        clear ho eo
        obtain ⟨q, hq⟩ : ∃ q, q = a + o := ⟨_, rfl⟩
        have eq : (a : Int) + (o : Int) = (q : Int) := by omega
        have wq : IntKind.i64.wrap ((a : Int) + (o : Int)) = (q : Int) := by rw [eq]; exact IntWalk.i64_in _ (by omega)
        have b1 : q < n := by omega
        have b2 : x < n := by omega
        have b3 : a ≤ x := by omega
        have b4 : x < b := by omega
        have b5 : a ≤ q := by omega
        have b6 : q < b := by omega
        clear hq
        have hs2 := HS.out.next hR hnx
        have HS2 := Lib.hid hs2
        have hcw : ∀ t, t < n → w2.cell? ⟨blk, off + t, none⟩ = some (.int .u64 (G t)) := fun t ht => by rw [HG.out]; exact HS2.out.row.cell (by have := Hsk.out; omega)
        have hfw : ∀ t, t < n → w2.frozen? ⟨blk, off + t, none⟩ = false := fun t _ => HS2.out.row.frozen t
        have hx : (w2.setCell ⟨blk, off + x, none⟩ (.int .u64 (G q))).cell? ⟨blk, off + q, none⟩ = some (.int .u64 (G q)) := by
          by_cases e : x = q
          · rw [← e]; exact World.cell?_setCell_same _ _ _ (hcw x (by omega))
          · exact (World.cell?_setCell_other _ _ _ _ (by intro e2; injection e2 with _ e2; omega)).trans (hcw q (by omega))
        clear hs2 hnx
        go_region
        all_goals go_wp2_with fail
        go_roundw
        case rel =>
          refine ⟨x + 1, R, swp dk x q, by go_num, by omega, by omega, by rw [size_swp]; exact Hsk.out, permIn_trans _ _ _ a b HPm.out (swp_permIn dk a b x q b3 b4 b5 b6 (by have := Hsk.out; omega)), ?_⟩
          rw [HG.out, HG.out]
          exact (HS2.out.swap (by have := Hsk.out; omega) (by have := Hsk.out; omega)).on (Below.refl _ _).drew
        case measure => simp [intOf]; omega
      · have hLO : ¬ l ≤ O := by first | assumption | omega
        obtain ⟨o, ho⟩ : ∃ o, o = O := ⟨_, rfl⟩
        have ho1 : o < l := by omega
        rw [← ho]
        clear ho
        obtain ⟨q, hq⟩ : ∃ q, q = a + o := ⟨_, rfl⟩
        have eq : (a : Int) + (o : Int) = (q : Int) := by omega
        have wq : IntKind.i64.wrap ((a : Int) + (o : Int)) = (q : Int) := by rw [eq]; exact IntWalk.i64_in _ (by omega)
        have b1 : q < n := by omega
        have b2 : x < n := by omega
        have b3 : a ≤ x := by omega
        have b4 : x < b := by omega
        have b5 : a ≤ q := by omega
        have b6 : q < b := by omega
        clear hq
        have hs2 := HS.out.next hR hnx
        have HS2 := Lib.hid hs2
        have hcw : ∀ t, t < n → w2.cell? ⟨blk, off + t, none⟩ = some (.int .u64 (G t)) := fun t ht => by rw [HG.out]; exact HS2.out.row.cell (by have := Hsk.out; omega)
        have hfw : ∀ t, t < n → w2.frozen? ⟨blk, off + t, none⟩ = false := fun t _ => HS2.out.row.frozen t
        have hx : (w2.setCell ⟨blk, off + x, none⟩ (.int .u64 (G q))).cell? ⟨blk, off + q, none⟩ = some (.int .u64 (G q)) := by
          by_cases e : x = q
          · rw [← e]; exact World.cell?_setCell_same _ _ _ (hcw x (by omega))
          · exact (World.cell?_setCell_other _ _ _ _ (by intro e2; injection e2 with _ e2; omega)).trans (hcw q (by omega))
        clear hs2 hnx
        go_region
        all_goals go_wp2_with fail
        go_roundw
        case rel =>
          refine ⟨x + 1, R, swp dk x q, by go_num, by omega, by omega, by rw [size_swp]; exact Hsk.out, permIn_trans _ _ _ a b HPm.out (swp_permIn dk a b x q b3 b4 b5 b6 (by have := Hsk.out; omega)), ?_⟩
          rw [HG.out, HG.out]
          exact (HS2.out.swap (by have := Hsk.out; omega) (by have := Hsk.out; omega)).on (Below.refl _ _).drew
        case measure => simp [intOf]; omega
    · have hgoz : ¬ (x : Int) ≤ (u : Int) + 1 := by omega
      go_wp2_with fail
      go_end0
      exact ⟨⟨_, rfl⟩, dk, HPm.out, HS.out.st⟩
end Go.Proofs.YtfabodpefbdbjaaGreatDoor

/- SxPdq -/

/-
  slices.Sort at uint64: pdqsortOrdered: the part comes out sorted, a permutation of what it was.
-/
set_option linter.unusedVariables false
set_option linter.unusedSimpArgs false
namespace Go.Proofs.YtfabodpefbdbjaaGreatDoor
open Go.RowKit Go.Sort

set_option maxRecDepth 1000000 in
set_option maxHeartbeats 16000000 in
theorem hpdq : ∀ (N blk off m cap a b limit : Nat) (d : Array Int) (w : World), b - a < N → RowU w blk off m d → a ≤ b → b ≤ d.size → d.size ≤ 200 → limit ≤ 1000 → Go.Sort.Below ltInt a b d →
    Calls Tryz.prog 183 #[slU blk off d.size cap, .int .i64 (a : Int), .int .i64 (b : Int), .int .i64 (limit : Int)] w fun e w' => (∃ u, e = .returned u) ∧ ∃ d', PermIn a b d d' ∧ SortedIn ltInt a b d' ∧ StU w w' blk off m d' := by
  intro N
  induction N with
  | zero => intro _ _ _ _ _ _ _ _ _ h; exact absurd h (Nat.not_lt_zero _)
  | succ N ih =>
    intro blk off m cap a b limit d w hN hrow hab hb hsz hlimit hBel0
    have IH := Lib.hid ih
    have H := Lib.hid hrow
    have HB0 := Lib.hid hBel0
    obtain ⟨n, hn⟩ : ∃ n, n = d.size := ⟨_, rfl⟩
    have Hn := Lib.hid hn
    rw [← hn] at hb hsz
    clear ih hrow hBel0
    unfold slU
    rw [← hn]
    clear hn
    go_enter Tryz.func183, Tryz.ntmps183
    go_wp2_with fail
    go_loopw [1, 2, 3, 8, 9] (fun s1 s2 s3 s8 s9 wr => ∃ (a' b' lim : Nat) (wb wp : Bool) (dk : Array Int), s1 = .int .i64 a' ∧ s2 = .int .i64 b' ∧ s3 = .int .i64 lim ∧ s8 = .bool wb ∧ s9 = .bool wp ∧ a' ≤ b' ∧ b' ≤ n ∧ b' - a' ≤ b - a ∧ lim ≤ 1000 ∧ dk.size = n ∧ Go.Sort.Below ltInt a' b' dk ∧ StU w wr blk off m dk ∧ (∀ R, PermIn a' b' dk R → SortedIn ltInt a' b' R → PermIn a b d R ∧ SortedIn ltInt a b R)) (fun s1 s2 _ _ _ _ => (intOf s2 - intOf s1).toNat)
    case atStart => exact ⟨a, b, limit, true, true, d, rfl, rfl, rfl, rfl, rfl, hab, hb, Nat.le_refl _, hlimit, Hn.out.symm, HB0.out, StU.refl H.out, fun R h1 h2 => ⟨h1, h2⟩⟩
    case round =>
      obtain ⟨a', b', lim, wb, wp, dk, rfl, rfl, rfl, rfl, rfl, hab', hb', hk, hlim, hds, hBel, hst, hF⟩ := hrel
      have HF := Lib.hid hF
      have HS := Lib.hid hst
      have HB := Lib.hid hBel
      have Hds := Lib.hid hds
      have hbd : b' ≤ dk.size := by rw [hds]; exact hb'
      have hzd : dk.size ≤ 200 := by rw [hds]; exact hsz
      clear hF hst hBel hds
      by_cases h12 : b' - a' ≤ 12
      · have h12z : (b' : Int) - (a' : Int) ≤ 12 := by omega
        have hc := hins blk off m cap a' b' dk wr HS.out.row hab' hbd (by omega)
        unfold slU at hc
        rw [Hds.out] at hc
        obtain ⟨hp, hs⟩ := insertionSort_holds swo_ltInt dk a' b' hab' hbd
        have HP := Lib.hid hp
        have HSo := Lib.hid hs
        have HC := Lib.hid hc
        clear hp hs hc
        go_wp2_with (go_at_call 191; refine (HC.out).mono ?_; rintro e w1 ⟨⟨u, rfl⟩, hw1⟩)
        (try simp only [Exit.inBlock, Exit.then])
        refine bodyPost_ret (results_none rfl _ _ _) rfl ?_
        exact ⟨⟨_, rfl⟩, _, (HF.out _ HP.out HSo.out).1, (HF.out _ HP.out HSo.out).2, HS.out.then_ hw1⟩
      · have h12z : ¬ ((b' : Int) - (a' : Int) ≤ 12) := by omega
        have h12g : a' + 12 < b' := by omega
        by_cases hl0 : lim = 0
        · subst hl0
          have hc := hheap blk off m cap a' b' dk wr HS.out.row hab' hbd (by omega)
          unfold slU at hc
          rw [Hds.out] at hc
          obtain ⟨hp, hs⟩ := heapSort_holds swo_ltInt dk a' b' hab' hbd
          have HP := Lib.hid hp
          have HSo := Lib.hid hs
          have HC := Lib.hid hc
          clear hp hs hc
          go_wp2_with (go_at_call 192; refine (HC.out).mono ?_; rintro e w1 ⟨⟨u, rfl⟩, hw1⟩)
          (try simp only [Exit.inBlock, Exit.then])
          refine bodyPost_ret (results_none rfl _ _ _) rfl ?_
          exact ⟨⟨_, rfl⟩, _, (HF.out _ HP.out HSo.out).1, (HF.out _ HP.out HSo.out).2, HS.out.then_ hw1⟩
        · have hl0z : ¬ ((lim : Int) = 0) := by omega
          go_upto_if 35 with fail
          go_cut [3] from 19 (fun s3 wc => ∃ (lim1 : Nat) (d1 : Array Int), s3 = .int .i64 lim1 ∧ lim1 ≤ 1000 ∧ PermIn a' b' dk d1 ∧ StU w wc blk off m d1)
          case first =>
            cases wb
            · have hc := hbreak blk off m cap a' b' dk wr HS.out.row h12g hbd hzd
              unfold slU at hc
              rw [Hds.out] at hc
              have HC := Lib.hid hc
              clear hc
              go_wp2_with (go_at_call 193; refine (HC.out).mono ?_; rintro e w1 ⟨⟨u, rfl⟩, d1, hp1, hw1⟩)
              go_meet
              case rel => exact ⟨lim - 1, d1, by congr 1; omega, by omega, hp1, HS.out.then_ hw1⟩
            · go_wp2_with fail
              go_meet
              case rel => exact ⟨lim, dk, rfl, hlim, permIn_refl _ _ _, HS.out⟩
          case rest =>
            obtain ⟨lim1, d1, rfl, hlim1, hp1, hst1⟩ := hcut
            have hz1 : d1.size = n := hp1.1.trans Hds.out
            have hb1 : b' ≤ d1.size := by omega
            have HP1 := Lib.hid hp1
            have HS1 := Lib.hid hst1
            have Hz1 := Lib.hid hz1
            have hc := hpivot blk off m cap a' b' d1 wc HS1.out.row h12g hb1 (by omega)
            unfold slU at hc
            rw [Hz1.out] at hc
            have HC := Lib.hid hc
            clear hc hp1 hst1 hz1 hb1
            go_upto_if 50 with (go_at_call 194; refine (HC.out).mono ?_; rintro e w2 ⟨p, k, rfl, hpa, hpb, hk2, hw2⟩)
            have HS2 := Lib.hid (HS1.out.then_ hw2)
            clear hw2 HC
            go_cut [11, 12] from 19 (fun s11 s12 wc => ∃ (p' k' : Nat) (d2 : Array Int), s11 = .int .i64 p' ∧ s12 = .int .i64 k' ∧ a' ≤ p' ∧ p' < b' ∧ k' ≤ 2 ∧ PermIn a' b' dk d2 ∧ StU w wc blk off m d2)
            case first =>
              by_cases hk2 : k = 2
              · subst hk2
                have hb1 : b' ≤ d1.size := by have := Hz1.out; omega
                have hc := hrev blk off m cap a' b' d1 w2 HS2.out.row (by omega) hb1 (by have := Hz1.out; omega)
                unfold slU at hc
                rw [Hz1.out] at hc
                have HC := Lib.hid hc
                have hpr := Lib.hid (permIn_trans _ _ _ a' b' HP1.out (reverseRange_holds d1 a' b' hab' hb1))
                clear hc hb1
                go_wp2_with (go_at_call 195; refine (HC.out).mono ?_; rintro e w3 ⟨⟨u, rfl⟩, hw3⟩)
                go_meet
                case rel => exact ⟨b' - 1 - (p - a'), 1, _, by congr 1; omega, rfl, by omega, by omega, by omega, hpr.out, HS2.out.then_ hw3⟩
              · have hkz : ¬ ((k : Int) = 2) := by omega
                go_wp2_with fail
                go_meet
                case rel => exact ⟨p, k, d1, rfl, rfl, hpa, hpb, by omega, HP1.out, HS2.out⟩
            case rest =>
              obtain ⟨p', k', d2, rfl, rfl, hpa', hpb', hk2', hp2, hst2⟩ := hcut
              have hz2 : d2.size = n := hp2.1.trans Hds.out
              have HP2 := Lib.hid hp2
              have HS3 := Lib.hid hst2
              have Hz2 := Lib.hid hz2
              clear hp2 hst2 hz2 HP1 HS1 Hz1 HS2
              go_upto_region 15 with fail
              go_cut [68] from 19 (fun s68 wx => (∃ t : Bool, s68 = .bool t) ∧ wx = wc)
              case first =>
                cases wb <;> cases wp <;>
                  (go_wp2_with fail
                   go_meet
                   exact ⟨⟨_, rfl⟩, rfl⟩)
              case rest =>
                obtain ⟨⟨t, rfl⟩, rfl⟩ := hcut
                go_upto_if 68 with fail
                go_cut [] from 19 (fun wx => ∃ d3, PermIn a' b' dk d3 ∧ StU w wx blk off m d3)
                case first =>
                  cases t
                  · go_wp2_with fail
                    go_meet
                    case rel => exact ⟨d2, HP2.out, HS3.out⟩
                  · have hb2 : b' ≤ d2.size := by have := Hz2.out; omega
                    obtain ⟨d3, t2, hx⟩ : ∃ d3 t2, partialInsertionSort ltInt d2 a' b' = (d3, t2) := ⟨_, _, rfl⟩
                    have hc := hpins blk off m cap a' b' d2 _ HS3.out.row (by omega) hb2 (by have := Hz2.out; omega)
                    have hpi := partialInsertionSort_holds swo_ltInt d2 a' b' (by omega) hb2 (Go.Sort.Below.perm HB.out hbd HP2.out)
                    unfold slU at hc
                    rw [Hz2.out, hx] at hc
                    rw [hx] at hpi
                    have HC := Lib.hid hc
                    have HPI := Lib.hid hpi
                    clear hc hpi hx hb2
                    cases t2
                    · go_wp2_with (go_at_call 196; refine (HC.out).mono ?_; rintro e w4 ⟨rfl, hw4⟩)
                      go_meet
                      case rel => exact ⟨d3, permIn_trans _ _ _ a' b' HP2.out HPI.out.1, HS3.out.then_ hw4⟩
                    · go_wp2_with (go_at_call 196; refine (HC.out).mono ?_; rintro e w4 ⟨rfl, hw4⟩)
                      (try simp only [Exit.inBlock, Exit.then])
                      refine bodyPost_ret (results_none rfl _ _ _) rfl ?_
                      have hf := HF.out d3 (permIn_trans _ _ _ a' b' HP2.out HPI.out.1) (by have h9 := HPI.out.2; simpa using h9)
                      exact ⟨⟨_, rfl⟩, d3, hf.1, hf.2, HS3.out.then_ hw4⟩
                case rest =>
                  obtain ⟨d3, hp3, hst3⟩ := hcut
                  have hz3 : d3.size = n := hp3.1.trans Hds.out
                  have HP3 := Lib.hid hp3
                  have HS4 := Lib.hid hst3
                  have Hz3 := Lib.hid hz3
                  have HB3 := Lib.hid (Go.Sort.Below.perm HB.out hbd hp3)
                  clear hp3 hst3 hz3 HP2 HS3 Hz2
                  obtain ⟨G, hG⟩ : ∃ G : Nat → Int, ∀ t, G t = d3[t]! := ⟨fun t => d3[t]!, fun _ => rfl⟩
                  have HG := Lib.hid hG
                  clear hG
                  have hcw : ∀ t, t < n → wc.cell? ⟨blk, off + t, none⟩ = some (.int .u64 (G t)) := fun t ht => by rw [HG.out]; exact HS4.out.row.cell (by have := Hz3.out; omega)
                  have hfw : ∀ t, t < n → wc.frozen? ⟨blk, off + t, none⟩ = false := fun t _ => HS4.out.row.frozen t
                  go_upto_region 17 with fail
                  go_cut [87] from 19 (fun s87 wx => (∃ t : Bool, s87 = .bool t ∧ (t = true → 0 < a' ∧ ltInt (G (a' - 1)) (G p') = false)) ∧ StU w wx blk off m d3)
                  case first =>
                    rcases Nat.eq_zero_or_pos a' with ha0 | ha0
                    · have ha0z : decide ((a' : Int) > 0) = false := decide_eq_false (by omega)
                      go_big_quiet (first | (go_at_call 197; refine Calls.quiet_of_same (hless _ _ _)))
                      go_wp2_with fail
                      go_meet
                      case rel => exact ⟨⟨false, rfl, fun h => by cases h⟩, HS4.out.drewN nq⟩
                    · have ha0z : (a' : Int) > 0 := by omega
                      go_big_quiet (first | (go_at_call 197; refine Calls.quiet_of_same (hless _ _ _)))
                      go_wp2_with fail
                      go_meet
                      case rel => exact ⟨⟨!ltInt (G (a' - 1)) (G p'), rfl, fun h => ⟨ha0, by simpa using h⟩⟩, HS4.out.drewN nq⟩
                  case rest =>
                    obtain ⟨⟨t, rfl, ht⟩, hst4⟩ := hcut
                    have HT := Lib.hid ht
                    have HS5 := Lib.hid hst4
                    have hb3 : b' ≤ d3.size := by have := Hz3.out; omega
                    have hz3' : d3.size ≤ 1000000 := by have := Hz3.out; omega
                    have HB3' := Lib.hid hb3
                    clear ht hst4 hcw hfw HS4 HS
                    cases t
                    · obtain ⟨mid, ap, d4, hx⟩ : ∃ mid ap d4, partition ltInt d3 a' b' p' = (mid, ap, d4) := ⟨_, _, _, rfl⟩
                      obtain ⟨g1, g2, hs4, hBa, hBr, hleft, hright⟩ := round_part swo_ltInt (partition_holds _) hpa' hpb' hb3 HB3.out hx
                      have hc := hpart blk off m cap a' b' p' d3 _ HS5.out.row hpa' hpb' hb3 hz3'
                      unfold slU at hc
                      rw [Hz3.out, hx] at hc
                      have HC := Lib.hid hc
                      have hz4 : d4.size = n := hs4.trans Hz3.out
                      have Hz4 := Lib.hid hz4
                      have HBa := Lib.hid hBa
                      have HBr := Lib.hid hBr
                      have HLf := Lib.hid hleft
                      have HRt := Lib.hid hright
                      clear hc hx hz3' hb3 hs4 hz4 hBa hBr hleft hright
                      by_cases hlt : mid - a' < b' - mid
                      · have hltz : decide ((mid : Int) - (a' : Int) < (b' : Int) - (mid : Int)) = true := decide_eq_true (by omega)
                        go_wp2_with (go_at_call 199; refine (HC.out).mono ?_; rintro e w5 ⟨rfl, hw5⟩)
                        have HS6 := Lib.hid (HS5.out.then_ hw5)
                        have hr := IH.out blk off m cap a' mid lim1 d4 _ (by omega) HS6.out.row g1 (by have := Hz4.out; omega) (by have := Hz4.out; omega) hlim1 HBa.out
                        unfold slU at hr
                        rw [Hz4.out] at hr
                        have HR := Lib.hid hr
                        clear hr hw5 HC
                        go_wp2_with (go_at_call 183; refine (HR.out).mono ?_; rintro e w6 ⟨⟨u, rfl⟩, d5, q1, q2, q3⟩)
                        obtain ⟨hBL, hfin⟩ := HLf.out d5 q1 q2
                        have hz5 : d5.size = n := q1.1.trans Hz4.out
                        go_roundw
                        case rel => exact ⟨mid + 1, b', lim1, _, _, d5, by go_num, rfl, rfl, rfl, rfl, by omega, hb', by omega, hlim1, hz5, hBL, HS6.out.then_ q3, fun R h1 h2 => HF.out R (permIn_trans _ _ _ a' b' HP3.out (hfin R h1 h2).1) (hfin R h1 h2).2⟩
                        case measure => simp [intOf]; omega
                      · have hltz : decide ((mid : Int) - (a' : Int) < (b' : Int) - (mid : Int)) = false := decide_eq_false (by omega)
                        go_wp2_with (go_at_call 199; refine (HC.out).mono ?_; rintro e w5 ⟨rfl, hw5⟩)
                        have hm1 : (mid : Int) + 1 = ((mid + 1 : Nat) : Int) := by omega
                        have HS6 := Lib.hid (HS5.out.then_ hw5)
                        have hr := IH.out blk off m cap (mid + 1) b' lim1 d4 _ (by omega) HS6.out.row (by omega) (by have := Hz4.out; omega) (by have := Hz4.out; omega) hlim1 HBr.out
                        unfold slU at hr
                        rw [Hz4.out, ← hm1] at hr
                        have HR := Lib.hid hr
                        clear hr hw5 HC
                        go_wp2_with (go_at_call 183; refine (HR.out).mono ?_; rintro e w6 ⟨⟨u, rfl⟩, d5, q1, q2, q3⟩)
                        obtain ⟨hBL, hfin⟩ := HRt.out d5 q1 q2
                        have hz5 : d5.size = n := q1.1.trans Hz4.out
                        go_roundw
                        case rel => exact ⟨a', mid, lim1, _, _, d5, rfl, rfl, rfl, rfl, rfl, g1, by omega, by omega, hlim1, hz5, hBL, HS6.out.then_ q3, fun R h1 h2 => HF.out R (permIn_trans _ _ _ a' b' HP3.out (hfin R h1 h2).1) (hfin R h1 h2).2⟩
                        case measure => simp [intOf]; omega
                    · obtain ⟨mid, d4, hx⟩ : ∃ mid d4, partitionEqual ltInt d3 a' b' p' = (mid, d4) := ⟨_, _, rfl⟩
                      obtain ⟨ha0, hnl⟩ := HT.out rfl
                      rw [HG.out, HG.out] at hnl
                      obtain ⟨g1, g2, hs4, hB4, hfin⟩ := round_eq swo_ltInt (partitionEqual_holds _) ha0 hpa' hpb' hb3 HB3.out hnl hx
                      have hc := hpartEq blk off m cap a' b' p' d3 _ HS5.out.row hpa' hpb' hb3 hz3'
                      unfold slU at hc
                      rw [Hz3.out, hx] at hc
                      have HC := Lib.hid hc
                      have Hz4 := Lib.hid (hs4.trans Hz3.out)
                      have HB4 := Lib.hid hB4
                      have HFn := Lib.hid hfin
                      clear hc hx hz3' hb3 hs4 hB4 hfin hnl
                      go_wp2_with (go_at_call 198; refine (HC.out).mono ?_; rintro e w5 ⟨rfl, hw5⟩)
                      go_roundw
                      case rel => exact ⟨mid, b', lim1, _, _, d4, rfl, rfl, rfl, rfl, rfl, g2, hb', by omega, hlim1, Hz4.out, HB4.out, HS5.out.then_ hw5, fun R h1 h2 => HF.out R (permIn_trans _ _ _ a' b' HP3.out (HFn.out R h1 h2).1) (HFn.out R h1 h2).2⟩
                      case measure => simp [intOf]; omega
end Go.Proofs.YtfabodpefbdbjaaGreatDoor

/- SxSort -/

/-
  slices.Sort, slices.Sorted at uint64, of a row of at most 200.
-/
set_option linter.unusedVariables false
set_option linter.unusedSimpArgs false
namespace Go.Proofs.YtfabodpefbdbjaaGreatDoor
open Go.RowKit Go.Sort Go.Shelf

/-- the inodes of entries, rising -/
def inosL (es : List Ent) : List Nat := (es.map (·.2)).mergeSort (fun a b => decide (a ≤ b))
theorem inosL_perm (es : List Ent) : (inosL es).Perm (es.map (·.2)) := List.mergeSort_perm _ _
theorem inosL_le (es : List Ent) : (inosL es).Pairwise (· ≤ ·) := by
  have := List.pairwise_mergeSort (le := fun a b : Nat => decide (a ≤ b)) (by intro a b c h1 h2; simp at *; omega) (by intro a b; simp; omega) (es.map (·.2))
  exact this.imp (by intro a b h; simpa using h)
theorem sorted_eq {xs ys : List Nat} (hp : ys.Perm xs) (hx : xs.Pairwise (· ≤ ·)) (hy : ys.Pairwise (· ≤ ·)) : ys = xs :=
  List.Perm.eq_of_pairwise (le := fun a b : Nat => a ≤ b) (fun a b _ _ h1 h2 => Nat.le_antisymm h1 h2) hy hx hp
/-- a row that one owns, as the sort takes it -/
theorem rowU_of_own {w : World} {base n : Nat} {v : Value} {xs : List Nat} (h : w.ownsRow base 41 1 v n (xs.map encU)) :
    (v = .slice none 0 0 ∧ n = 0 ∧ xs = []) ∨ ∃ g cap, v = slU g 0 n cap ∧ n = (xs.map (fun x : Nat => (x : Int))).toArray.size ∧ base ≤ g ∧ cap ≤ maxLen ∧ RowU w g 0 cap (xs.map (fun x : Nat => (x : Int))).toArray := by
  have hl : xs.length = n := by have := h.1; simpa using this
  rcases h.2 with ⟨rfl, h0⟩ | ⟨g, cap, cur, rfl, hb, hg, hc, hm, hs, ht⟩
  · exact .inl ⟨rfl, h0, List.eq_nil_of_length_eq_zero (by omega)⟩
  · refine .inr ⟨g, cap, rfl, by simp [hl], hb, hm, cur, hg, by simpa using hs, by simp [hl]; omega, fun t ht2 => ?_⟩
    simp only [List.size_toArray, List.length_map] at ht2
    rw [Nat.mul_one] at ht
    have h1 : (cur.toList.take n)[t]? = (xs.map encU)[t]? := by rw [ht]
    rw [List.getElem?_take, if_pos (by omega), Array.getElem?_toList] at h1
    rw [Nat.zero_add, h1]
    simp [getElem!_def, List.getElem?_eq_getElem ht2, encU]
theorem own_of_rowU {w : World} {base n g cap : Nat} {d : Array Int} {ys : List Nat} (hd : d = (ys.map (fun x : Nat => (x : Int))).toArray) (hn : n = ys.length) (hb : base ≤ g) (hm : cap ≤ maxLen) (h : RowU w g 0 cap d) :
    w.ownsRow base 41 1 (slU g 0 n cap) n (ys.map encU) := by
  obtain ⟨cur, hg, hs, hle, hc⟩ := h
  subst hd hn
  simp only [List.size_toArray, List.length_map, Nat.zero_add] at hle hc
  refine ⟨by simp, .inr ⟨g, cap, cur, rfl, hb, hg, hle, hm, by omega, ?_⟩⟩
  rw [Nat.mul_one]
  refine List.ext_getElem? fun t => ?_
  by_cases ht : t < ys.length
  · rw [List.getElem?_take, if_pos ht, Array.getElem?_toList, hc t ht]
    simp [getElem!_def, List.getElem?_eq_getElem ht, encU]
  · rw [List.getElem?_take, if_neg ht, List.getElem?_eq_none (by simp; omega)]
set_option maxRecDepth 100000 in
theorem hsortU {w : World} {base n : Nat} {v : Value} {xs : List Nat} (h : w.ownsRow base 41 1 v n (xs.map encU)) (hbs : base ≤ w.heap.size) (hn : n ≤ 200) :
    Calls Tryz.prog 156 #[v] w fun e w' => (∃ u, e = .returned u) ∧ ∃ ys : List Nat, ys.Perm xs ∧ ys.Pairwise (· ≤ ·) ∧ w'.ownsRow base 41 1 v n (ys.map encU) ∧ Below base w w' := by
  rcases rowU_of_own h with ⟨rfl, rfl, rfl⟩ | ⟨g, cap, rfl, hnd, hb, hm, hrow⟩
  · refine (hsort0 w).mono ?_
    rintro e w' ⟨hu, rfl⟩
    exact ⟨hu, [], List.Perm.refl _, List.Pairwise.nil, h, Below.refl _ _⟩
  · obtain ⟨d, hd⟩ : ∃ d, d = (xs.map (fun x : Nat => (x : Int))).toArray := ⟨_, rfl⟩
    rw [← hd] at hrow hnd
    have Hd := Lib.hid hd
    have HR := Lib.hid hrow
    clear h hd hrow
    subst hnd
    have hfin : ∀ (w' : World) (d' : Array Int), PermIn 0 d.size d d' → SortedIn ltInt 0 d.size d' → StU w w' g 0 cap d' → ∃ ys : List Nat, ys.Perm xs ∧ ys.Pairwise (· ≤ ·) ∧ w'.ownsRow base 41 1 (slU g 0 d.size cap) d.size (ys.map encU) ∧ Below base w w' := by
      intro w' d' hp hs hst
      have hsz := hp.1
      have hpm := hp.2.2
      have e1 : d'.extract 0 d.size = d' := by rw [← hsz]; simp
      have e2 : d.extract 0 d.size = d := by simp
      rw [e1, e2] at hpm
      have hall : ∀ x ∈ d'.toList, ∃ k : Nat, x = (k : Int) := fun x hx => by
        have h1 := hpm.mem_iff.1 hx
        rw [Hd.out] at h1
        obtain ⟨k, _, rfl⟩ := List.mem_map.1 (by simpa using h1)
        exact ⟨k, rfl⟩
      have hys : d' = ((d'.toList.map Int.toNat).map (fun x : Nat => (x : Int))).toArray := by
        apply Array.ext'
        rw [List.map_map]
        refine (List.map_id _).symm.trans (List.map_congr_left fun x hx => ?_)
        obtain ⟨k, rfl⟩ := hall x hx
        simp
      refine ⟨d'.toList.map Int.toNat, ?_, ?_, own_of_rowU hys (by simp [hsz]) hb hm hst.row, hst.chg.below hbs (fun i e => by subst e; exact hb)⟩
      · have := hpm.map Int.toNat
        rw [Hd.out] at this
        have e3 : ((xs.map (fun x : Nat => (x : Int))).toArray.toList.map Int.toNat) = xs := by
          rw [show (xs.map (fun x : Nat => (x : Int))).toArray.toList = xs.map (fun x : Nat => (x : Int)) from rfl, List.map_map]
          exact (List.map_congr_left fun x _ => by simp).trans (List.map_id _)
        rw [e3] at this
        exact this
      · rw [List.pairwise_map, List.pairwise_iff_getElem]
        intro i j hi hj hij
        have h1 := hs i j (Nat.zero_le _) hij (by simpa [hsz] using hj)
        have hi' : i < d'.size := by simpa using hi
        have hj' : j < d'.size := by simpa using hj
        rw [getElem!_pos d' j hj', getElem!_pos d' i hi'] at h1
        simp only [ltInt, decide_eq_false_iff_not] at h1
        simp only [Array.getElem_toList]
        omega
    have HF := Lib.hid hfin
    clear hfin hbs hb
    obtain ⟨n, hn'⟩ : ∃ n, n = d.size := ⟨_, rfl⟩
    have Hn := Lib.hid hn'
    rw [← hn'] at hn ⊢
    clear hn'
    have hwn : IntKind.u64.wrap (n : Int) = (n : Int) := IntWalk.u64_in _ (by omega)
    unfold slU
    go_enter Tryz.func156, Tryz.ntmps156
    go_wp2_with (go_at_call 184; refine (hlen n _ (by omega)).mono ?_; rintro e w1 ⟨⟨k, rfl, hk⟩, rfl⟩)
    have hc := hpdq (n + 1) g 0 cap cap 0 n k d w1 (by omega) HR.out (by omega) (by have := Hn.out; omega) (by have := Hn.out; omega) (by have := hk.1; omega) (.inl rfl)
    unfold slU at hc
    rw [← Hn.out] at hc
    have HC := Lib.hid hc
    clear hc
    go_wp2_with (go_at_call 183; refine (HC.out).mono ?_; rintro e w2 ⟨⟨u, rfl⟩, hw2⟩)
    go_end0
    obtain ⟨d', h1, h2, h3⟩ := hw2
    have := Hn.out
    subst this
    exact ⟨⟨_, rfl⟩, HF.out _ _ h1 h2 h3⟩
/-- slices.Sorted at uint64 -/
theorem hsortedU {w : World} (g : Nat) (lb : Array Value) (eg : ∀ args w, (callFunc g args).run Tryz.prog w = .ok (.enter g args) w) (S : List Nat → Prop) (N : Nat) (hN : N ≤ 1000000) (hS : ∀ xs, S xs → xs.length ≤ 200)
    (hseq : ∀ n, 1 ≤ n → SeqStops Fence.wide n Tryz.prog g lb encU S (fun _ => True) N w) :
    Calls Tryz.prog 112 #[.func (.func g) #[] lb] w fun e w' => ∃ (v : Value) (xs ys : List Nat), e = .returned v ∧ S xs ∧ ys.Perm xs ∧ ys.Pairwise (· ≤ ·) ∧ w'.ownsRow w.heap.size 41 1 v ys.length (ys.map encU) ∧ Below w.heap.size w w' := by
  have hc := hcollect g lb eg S N hN hseq
  have HS := Lib.hid hS
  clear hS
  go_enter Tryz.func112, Tryz.ntmps112
  go_wp2_with fail
  refine hc.mono ?_
  rintro e w' ⟨v, xs, rfl, hxs, hrow, hnil, hb⟩
  have hl := HS.out xs hxs
  have HX := Lib.hid hxs
  have HB := Lib.hid hb
  have HR := Lib.hid hrow
  clear hxs hrow hnil hb hseq
  go_wp2_with fail
  refine (hsortU HR.out HB.out.size hl).mono ?_
  rintro e w2 ⟨⟨u, rfl⟩, ys, h1, h2, h3, h4⟩
  go_wp2_with fail
  go_ret
  exact ⟨_, xs, ys, rfl, HX.out, h1, h2, by rw [h1.length_eq]; exact h3, HB.out.trans h4⟩
/-- the inodes of a map, rising -/
theorem sortedAt {w : World} {b : Nat} {es : List Ent} (h : MapAt w b es) (hl : es.length ≤ 200) : SortedAt w b (inosL es) := by
  have h1 : MapAt (w.alloc (.cells #[.map (some b)] 139)) b es := h.on ((Below.refl _ _).alloc (Nat.le_refl _) _)
  refine (hsortedU 157 #[.pointer (some ⟨w.heap.size, 0, none⟩)] (enters_of Tryz.func157 (by kernel_rfl) rfl) _ es.length (by omega) ?_
    (fun n hn => hvals_stops n hn w.heap.size b es _ (by simp) (by simp) h1)).mono ?_
  · rintro xs ⟨ps, _, hp, rfl⟩
    rw [List.length_map, hp.length_eq]
    exact hl
  · rintro e w' ⟨v, xs, ys, rfl, ⟨ps, hc, hp, rfl⟩, hys, hso, ho, hb⟩
    have he : ys = inosL es := sorted_eq (hys.trans ((hp.map _).trans (inosL_perm es).symm)) (inosL_le es) hso
    subst he
    exact ⟨v, rfl, by simpa using ho, by simpa using hb⟩
end Go.Proofs.YtfabodpefbdbjaaGreatDoor

/- HxIno -/

/-
  Layer 6: inodes: which a folder's names lead to, and which are live.
-/
set_option linter.unusedVariables false
set_option linter.unusedSimpArgs false
namespace Go.Proofs.YtfabodpefbdbjaaGreatDoor
open Go.RowKit Go.Maps

/-- entries that may be, at inodes from 1 to L, no two at one -/
def Good (L : Nat) (s : List Ent) : Prop := (∀ x ∈ s, mayN x.1 = true ∧ 1 ≤ x.2 ∧ x.2 ≤ L) ∧ ∀ x ∈ s, ∀ y ∈ s, x.2 = y.2 → x = y
theorem Good.nil_ (L : Nat) : Good L [] := ⟨fun _ h => absurd h (by simp), fun _ h => absurd h (by simp)⟩
theorem Good.mono {L L' : Nat} {s : List Ent} (h : Good L s) (hl : L ≤ L') : Good L' s := ⟨fun x hx => ⟨(h.1 x hx).1, (h.1 x hx).2.1, Nat.le_trans (h.1 x hx).2.2 hl⟩, h.2⟩
theorem Good.mk_ {L : Nat} {s : List Ent} (h : Good L s) {n : ByteArray} (hn : mayN n = true) : Good (L + 1) (withL s n (L + 1)) := by
  refine ⟨fun x hx => ?_, fun x hx y hy e => ?_⟩
  · rcases mem_withL.1 hx with rfl | ⟨h1, _⟩
    · exact ⟨hn, by simp, Nat.le_refl _⟩
    · exact (h.mono (Nat.le_succ L)).1 x h1
  · rcases mem_withL.1 hx with rfl | ⟨h1, _⟩
    · rcases mem_withL.1 hy with rfl | ⟨h2, _⟩
      · rfl
      · have h3 := (h.1 y h2).2.2
        simp only at e
        omega
    · rcases mem_withL.1 hy with rfl | ⟨h2, _⟩
      · have h3 := (h.1 x h1).2.2
        simp only at e
        omega
      · exact h.2 x h1 y h2 e
theorem Good.rm {L : Nat} {s : List Ent} (h : Good L s) (n : ByteArray) : Good L (withoutL s n) :=
  ⟨fun x hx => h.1 x (mem_withoutL.1 hx).1, fun x hx y hy e => h.2 x (mem_withoutL.1 hx).1 y (mem_withoutL.1 hy).1 e⟩
theorem Good.mv {L : Nat} {s : List Ent} (h : Good L s) {a b : ByteArray} {i : Nat} (ha : (a, i) ∈ s) (hb : mayN b = true) : Good L (withoutL (withL s b i) a) := by
  refine ⟨fun x hx => ?_, fun x hx y hy e => ?_⟩
  · rcases mem_withL.1 (mem_withoutL.1 hx).1 with rfl | ⟨h1, _⟩
    · exact ⟨hb, (h.1 _ ha).2⟩
    · exact h.1 x h1
  · obtain ⟨hx1, hx2⟩ := mem_withoutL.1 hx
    obtain ⟨hy1, hy2⟩ := mem_withoutL.1 hy
    rcases mem_withL.1 hx1 with rfl | ⟨h1, _⟩
    · rcases mem_withL.1 hy1 with rfl | ⟨h2, _⟩
      · rfl
      · have := h.2 _ ha y h2 e
        subst this
        exact absurd rfl hy2
    · rcases mem_withL.1 hy1 with rfl | ⟨h2, _⟩
      · have := h.2 x h1 _ ha e
        subst this
        exact absurd rfl hx2
      · exact h.2 x h1 y h2 e
/-- what stands behind k deeds -/
def PSt.at_ (s : PSt) (k : Nat) : List Ent := doAll s.safe (s.deeds.take k)
theorem PSt.at_all (s : PSt) : s.at_ s.deeds.length = s.now := by unfold PSt.at_ PSt.now; rw [List.take_of_length_le (Nat.le_refl _)]
theorem PSt.at_zero (s : PSt) : s.at_ 0 = s.safe := by unfold PSt.at_; simp [doAll]
theorem PSt.at_push {s : PSt} {d : Dd} {k : Nat} (hk : k ≤ s.deeds.length) : (s.push d).at_ k = s.at_ k := by unfold PSt.at_ PSt.push; rw [List.take_append_of_le_length hk]
theorem PSt.at_push_all (s : PSt) (d : Dd) : (s.push d).at_ (s.deeds.length + 1) = d.app s.now := by
  have h := (s.push d).at_all
  rw [show (s.push d).deeds.length = s.deeds.length + 1 by simp [PSt.push]] at h
  rw [h, PSt.push_now]
/-- an inode that was there at the safe state, or that was made since -/
def Old (s : PSt) (i : Nat) : Prop := (∃ y ∈ s.safe, y.2 = i) ∨ s.settled < i
structure GInv (s : PSt) : Prop where
  safe : Good s.settled s.safe
  pre : ∀ k, k ≤ s.deeds.length → Good s.last (s.at_ k)
  old : ∀ k, k ≤ s.deeds.length → ∀ x ∈ s.at_ k, Old s x.2
theorem GInv.new : GInv PSt.new := ⟨Good.nil_ _, fun k _ => by unfold PSt.at_ PSt.new; simp [doAll]; exact Good.nil_ _, fun k _ x hx => by unfold PSt.at_ PSt.new at hx; simp [doAll] at hx⟩
section
variable {s : PSt}
theorem GInv.now (h : GInv s) : Good s.last s.now := by rw [← s.at_all]; exact h.pre _ (Nat.le_refl _)
theorem GInv.now_old (h : GInv s) : ∀ x ∈ s.now, Old s x.2 := by rw [← s.at_all]; exact h.old _ (Nat.le_refl _)
theorem GInv.push (h : GInv s) {d : Dd} (h1 : Good s.last (d.app s.now)) (h2 : ∀ x ∈ d.app s.now, Old s x.2) : GInv (s.push d) := by
  refine ⟨h.safe, fun k hk => ?_, fun k hk x hx => ?_⟩
  · by_cases e : k ≤ s.deeds.length
    · rw [PSt.at_push e]; exact h.pre k e
    · have e2 : k = s.deeds.length + 1 := by simp [PSt.push] at hk; omega
      subst e2
      rw [PSt.at_push_all]
      exact h1
  · by_cases e : k ≤ s.deeds.length
    · rw [PSt.at_push e] at hx; exact h.old k e x hx
    · have e2 : k = s.deeds.length + 1 := by simp [PSt.push] at hk; omega
      subst e2
      rw [PSt.at_push_all] at hx
      exact h2 x hx
theorem GInv.settle (h : GInv s) {k : Nat} (hk : k ≤ s.deeds.length) : GInv (s.settle k) := by
  have h1 := h.pre k hk
  refine ⟨h1, fun j hj => ?_, fun j hj x hx => ?_⟩
  · have : j = 0 := by simp [PSt.settle] at hj; omega
    subst this
    rw [PSt.at_zero]
    exact h1
  · have : j = 0 := by simp [PSt.settle] at hj; omega
    subst this
    rw [PSt.at_zero] at hx
    exact .inl ⟨x, hx, rfl⟩
theorem GInv.made (h : GInv s) (hs : s.settled ≤ s.last) {n : ByteArray} (hn : mayN n = true) : GInv (s.made n) := by
  have h0 : GInv { s with last := s.last + 1 } := ⟨h.safe, fun k hk => (h.pre k hk).mono (Nat.le_succ _), h.old⟩
  refine h0.push (h.now.mk_ hn) (fun x hx => ?_)
  rcases mem_withL.1 hx with rfl | ⟨h1, _⟩
  · exact .inr (Nat.lt_succ_of_le hs)
  · exact h.now_old x h1
theorem GInv.doP (h : GInv s) (ho : s.Ok) (c : Call6) : GInv (doP s c).2.2 := by
  rcases doP_cases s c with e | ⟨e, _, _, hn, _⟩ | ⟨e, _, _, ha, hb, hf, hne⟩ | ⟨e, _⟩ | ⟨k, hk, e, _⟩
  · rw [e]; exact h
  · rw [e]; exact h.made ho.settled hn
  · rw [e]
    obtain ⟨i, hi⟩ := Option.isSome_iff_exists.1 hf
    have hm := findL_mem hi
    have e2 : (Dd.mv c.name c.dst6).app s.now = withoutL (withL s.now c.dst6 i) c.name := by simp [Dd.app, hi]
    refine h.push (by rw [e2]; exact h.now.mv hm hb) (fun x hx => ?_)
    rw [e2] at hx
    rcases mem_withL.1 (mem_withoutL.1 hx).1 with rfl | ⟨h1, _⟩
    · exact h.now_old (c.name, i) hm
    · exact h.now_old x h1
  · rw [e]; exact h.push (h.now.rm _) (fun x hx => h.now_old x (mem_withoutL.1 hx).1)
  · rw [e]; exact h.settle hk
/-- what Live tells -/
def PSt.live (s : PSt) : List Nat := liveP (inosL s.safe) s.settled s.last
theorem mem_live (hs : s.settled ≤ s.last) {i : Nat} : i ∈ s.live ↔ (∃ y ∈ s.safe, y.2 = i) ∨ (s.settled < i ∧ i ≤ s.last) := by
  unfold PSt.live liveP
  rw [List.mem_append, (inosL_perm s.safe).mem_iff, List.mem_map, List.mem_range'_1]
  constructor
  · rintro (h | h)
    · exact .inl h
    · exact .inr (by omega)
  · rintro (h | h)
    · exact .inl h
    · exact .inr (by omega)
theorem GInv.live_le (h : GInv s) (hs : s.settled ≤ s.last) : ∀ i ∈ s.live, 1 ≤ i ∧ i ≤ s.last := fun i hi => by
  rcases (mem_live hs).1 hi with ⟨y, hy, rfl⟩ | h1
  · have := (h.safe.1 y hy).2; omega
  · omega
theorem GInv.live_now (h : GInv s) (hs : s.settled ≤ s.last) : ∀ x ∈ s.now, x.2 ∈ s.live := fun x hx => by
  rcases h.now_old x hx with h1 | h1
  · exact (mem_live hs).2 (.inl h1)
  · exact (mem_live hs).2 (.inr ⟨h1, (h.now.1 x hx).2.2⟩)
theorem GInv.live_lt (h : GInv s) (ho : s.Ok) : s.live.Pairwise (· < ·) := by
  unfold PSt.live liveP
  refine List.pairwise_append.2 ⟨?_, List.pairwise_lt_range' , fun a ha b hb => ?_⟩
  · have hnd : (inosL s.safe).Nodup := by
      refine (inosL_perm s.safe).nodup_iff.2 ?_
      exact List.pairwise_map.2 (ho.safe.1.nodup.imp_of_mem (fun {a b} ha hb hn e => hn (h.safe.2 a ha b hb e)))
    exact List.Pairwise.imp₂ (fun a b h1 h2 => Nat.lt_of_le_of_ne h1 h2) (inosL_le s.safe) hnd
  · obtain ⟨y, hy, rfl⟩ := List.mem_map.1 ((inosL_perm s.safe).mem_iff.1 ha)
    have h1 := (h.safe.1 y hy).2.2
    have h2 := (List.mem_range'_1.1 hb).1
    omega
theorem told_make {c : Call6} (hw : 0 ≤ c.what ∧ c.what ≤ 2) : ((doP s c).2.1 = 0 ∧ (doP s c).1 = s.last + 1 ∧ (doP s c).2.2.last = s.last + 1) ∨ ((doP s c).2.1 ≠ 0 ∧ (doP s c).1 = 0 ∧ (doP s c).2.2.last = s.last) := by
  have e : doP s c = createP s c.name := by unfold Go.Proofs.YtfabodpefbdbjaaGreatDoor.doP; rw [if_pos (by omega)]
  rw [e]
  unfold createP
  split
  · exact .inr ⟨by simp, rfl, rfl⟩
  · split
    · exact .inr ⟨by simp, rfl, rfl⟩
    · split
      · exact .inr ⟨by simp, rfl, rfl⟩
      · exact .inl ⟨rfl, rfl, rfl⟩
end
end Go.Proofs.YtfabodpefbdbjaaGreatDoor

/- HxWalk -/

/-
  Layer 6: rows of entries and of inodes that a call told, in blocks of their own; the program's calls over a folder in memory.
-/
set_option linter.unusedVariables false
set_option linter.unusedSimpArgs false
namespace Go.Proofs.YtfabodpefbdbjaaGreatDoor
open Go.RowKit Go.Maps

theorem rdR_of_own {w : World} {base n c : Nat} {e : TypeId} {size : Nat} {A : Option Addr} {xs : List Value} (h : w.ownsRow base e size (.slice A n c) n xs) : RdR w (fun i => base ≤ i ∧ i < w.heap.size) A xs := fun hx => by
  obtain ⟨b, o, e, hb, hc⟩ := Rd.of_own h hx
  exact ⟨b, o, e, ⟨(h.lt b (by rw [e]; rfl)).1, hb⟩, hc⟩
/-- The value v is a slice that reads as the entries l, out of a block of R. -/
def EsR (w : World) (R : Nat → Prop) (v : Value) (l : List Ent) : Prop := ∃ A c, v = .slice A l.length c ∧ l.length ≤ c ∧ c ≤ maxLen ∧ RdR w R A (evs l)
def UsR (w : World) (R : Nat → Prop) (v : Value) (l : List Nat) : Prop := ∃ A c, v = .slice A l.length c ∧ l.length ≤ c ∧ c ≤ maxLen ∧ RdR w R A (l.map encU)
/-- what is new in w' -/
abbrev newB (w w' : World) (i : Nat) : Prop := w.heap.size ≤ i ∧ i < w'.heap.size
section
variable {w w' : World} {R R' M : Nat → Prop} {v : Value} {l : List Ent} {u : List Nat}
theorem RdR.chg_ {A : Option Addr} {xs : List Value} (h : RdR w R A xs) (hc : Chg M w w') (hM : ∀ i, R i → ¬ M i) : RdR w' R A xs := fun hx => by
  obtain ⟨b, o, e, hb, hcs⟩ := h hx
  exact ⟨b, o, e, hb, fun j u hu => (hc.cell (p := ⟨b, o + j, none⟩) (fblock_of_cell (hcs j u hu)) (hM b hb)).trans (hcs j u hu)⟩
theorem EsR.chg (h : EsR w R v l) (hc : Chg M w w') (hM : ∀ i, R i → ¬ M i) : EsR w' R v l := by
  obtain ⟨A, c, h1, h2, h3, h4⟩ := h
  exact ⟨A, c, h1, h2, h3, h4.chg_ hc hM⟩
theorem EsR.on (h : EsR w R v l) (hb : Below w.heap.size w w') : EsR w' R v l := h.chg (Chg.of_below (M := fun _ => False) hb) (fun _ _ e => e)
theorem EsR.mono (h : EsR w R v l) (hR : ∀ i, R i → R' i) : EsR w R' v l := by
  obtain ⟨A, c, h1, h2, h3, h4⟩ := h
  exact ⟨A, c, h1, h2, h3, h4.mono hR⟩
theorem UsR.chg (h : UsR w R v u) (hc : Chg M w w') (hM : ∀ i, R i → ¬ M i) : UsR w' R v u := by
  obtain ⟨A, c, h1, h2, h3, h4⟩ := h
  exact ⟨A, c, h1, h2, h3, h4.chg_ hc hM⟩
theorem UsR.mono (h : UsR w R v u) (hR : ∀ i, R i → R' i) : UsR w R' v u := by
  obtain ⟨A, c, h1, h2, h3, h4⟩ := h
  exact ⟨A, c, h1, h2, h3, h4.mono hR⟩
theorem UsR.on (h : UsR w R v u) (hb : Below w.heap.size w w') : UsR w' R v u := h.chg (Chg.of_below (M := fun _ => False) hb) (fun _ _ e => e)
theorem EsR.at_ (h : EsR w R v l) {A : Option Addr} {n c : Nat} (hv : v = .slice A n c) {j : Nat} {x : Ent} (hx : l[j]? = some x) :
    ∃ b o, A = some ⟨b, o, none⟩ ∧ R b ∧ w.cell? ⟨b, o + j * 2, none⟩ = some (.string x.1) ∧ w.cell? ⟨b, o + j * 2 + 1, none⟩ = some (.int .u64 (x.2 : Int)) := by
  obtain ⟨A', c', e, _, _, h2⟩ := h
  rw [hv] at e
  injection e with e _ _
  subst e
  obtain ⟨g1, g2⟩ := evs_get l j x hx
  obtain ⟨b, o, e2, hb, hc⟩ := h2 (by intro e; rw [e] at g1; simp at g1)
  exact ⟨b, o, e2, hb, hc _ _ g1, hc (j * 2 + 1) _ g2⟩
theorem UsR.at_ (h : UsR w R v u) {A : Option Addr} {n c : Nat} (hv : v = .slice A n c) {j : Nat} {x : Nat} (hx : u[j]? = some x) :
    ∃ b o, A = some ⟨b, o, none⟩ ∧ R b ∧ w.cell? ⟨b, o + j, none⟩ = some (.int .u64 (x : Int)) := by
  obtain ⟨A', c', e, _, _, h2⟩ := h
  rw [hv] at e
  injection e with e _ _
  subst e
  have g1 : (u.map encU)[j]? = some (.int .u64 (x : Int)) := by rw [List.getElem?_map, hx]; rfl
  obtain ⟨b, o, e2, hb, hc⟩ := h2 (by intro e; rw [e] at g1; simp at g1)
  exact ⟨b, o, e2, hb, hc _ _ g1⟩
end
section
variable {w : World} {X : Nat} {M R : Nat → Prop} {s : PSt}
theorem HLive.chg {w wk w' : World} {N : Nat → Prop} (h : HLive w wk X M R s) (hc : Chg N wk w') (hN : ∀ i, N i → ¬ M i ∧ ¬ R i ∧ w.heap.size ≤ i) : HLive w w' X M R s :=
  ⟨h.fol.chg hc (fun i hi => ⟨(hN i hi).1, (hN i hi).2.1⟩), h.below.trans (hc.below h.below.size (fun i hi => (hN i hi).2.2)), h.newM⟩
theorem hlive_m (h : HFolM w X M R s) (hl : s.safe.length ≤ 200) (hla : s.last ≤ 10000) : Calls Tryz.prog 62 #[.pointer (some ⟨X, 0, none⟩)] w fun e w' => ∃ v, e = .returned v ∧ UsR w' (newB w w') v s.live ∧ Below w.heap.size w w' := by
  obtain ⟨bs, bn, Ad, cd, hc, hs, hn⟩ := h.cells
  refine (hlive_c hc (sortedAt hs hl) (by rw [(inosL_perm s.safe).length_eq, List.length_map]; omega) h.ok.settled (by omega)).mono ?_
  rintro e w' ⟨v, rfl, ho, hb⟩
  obtain ⟨A, c, rfl, h1, h2, _⟩ := own_slice ho
  exact ⟨_, rfl, ⟨A, c, rfl, h1, h2, rdR_of_own ho⟩, hb⟩
theorem hfind_m (h : HFolM w X M R s) {n : ByteArray} (hn : n.size ≤ maxLen) : Calls Tryz.prog 115 #[.pointer (some ⟨X, 0, none⟩), .string n] w fun e w' => e = .returned (.tuple #[.int .u64 (((findL s.now n).getD 0 : Nat) : Int), .bool (findL s.now n).isSome]) ∧ w = w' := by
  obtain ⟨bs, bn, Ad, cd, hc, hs, hm⟩ := h.cells
  exact hfind hc hm hn
end
end Go.Proofs.YtfabodpefbdbjaaGreatDoor

/- JxPlain -/

/-
  Layer 7: a file system as plain mathematics: a folder's state, a file for each inode, the quota, the power, the fuse; what each call tells and makes.
-/
set_option linter.unusedVariables false
set_option linter.unusedSimpArgs false
namespace Go.Proofs.YtfabodpefbdbjaaGreatDoor
open Go.RowKit

structure FsP where
  dir : PSt
  file : Nat → FSt
  quota : Nat
  off : Bool
  steps : Nat
  fuse : Option Nat
def upd (g : Nat → FSt) (i : Nat) (t : FSt) : Nat → FSt := fun j => if j = i then t else g j
theorem upd_same (g : Nat → FSt) (i : Nat) (t : FSt) : upd g i t i = t := by simp [upd]
theorem upd_other (g : Nat → FSt) {i j : Nat} (t : FSt) (h : j ≠ i) : upd g i t j = g j := by simp [upd, h]
def FsP.new (q : Nat) : FsP := ⟨PSt.new, fun _ => FSt.new [], q, false, 0, none⟩
/-- how many bytes the files have to which a name leads -/
def usedL (g : Nat → FSt) (l : List Ent) : Nat := (l.map fun x => (g x.2).bytes.length).sum
def FsP.used (s : FsP) : Nat := usedL s.file s.dir.now
/-- a step begins: what is wrong, and what is left -/
def beginF (s : FsP) : Nat × FsP :=
  if s.off then (20, s) else if s.fuse = some 0 then (20, { s with off := true, steps := s.steps + 1 }) else (0, { s with steps := s.steps + 1, fuse := s.fuse.map (· - 1) })
/-- a step: what it does if nothing is wrong at its beginning -/
def stepF (s : FsP) (k : FsP → Nat × FsP) : Nat × FsP := if (beginF s).1 = 0 then k (beginF s).2 else ((beginF s).1, (beginF s).2)
/-- the inode of a name, or what is wrong -/
def nodeF (s : FsP) (n : ByteArray) : Nat × Nat := if mayN n = false then (1, 0) else match findL s.dir.now n with
  | none => (6, 0)
  | some i => (0, i)
/-- a step on a file -/
def onF (s : FsP) (n : ByteArray) (k : FSt → Nat × FSt) : Nat × FsP :=
  if (nodeF s n).1 = 0 then ((k (s.file (nodeF s n).2)).1, { s with file := upd s.file (nodeF s n).2 (k (s.file (nodeF s n).2)).2 }) else ((nodeF s n).1, s)
def createK (n : ByteArray) (s : FsP) : Nat × FsP :=
  ((createP s.dir n).2.1, { s with dir := (createP s.dir n).2.2, file := if (createP s.dir n).2.1 = 0 then upd s.file (s.dir.last + 1) (FSt.new []) else s.file })
def appT (used quota : Nat) (b : List UInt8) (t : FSt) : Nat × FSt := if quota < used + b.length then (21, t) else if b = [] then (0, t) else (0, t.app b)
def syncT (t : FSt) : Nat × FSt := (0, t.settled t.loose)
def appendK (n : ByteArray) (b : List UInt8) (s : FsP) : Nat × FsP := onF s n (appT s.used s.quota b)
def syncK (n : ByteArray) (s : FsP) : Nat × FsP := onF s n syncT
def syncDirK (s : FsP) : Nat × FsP := (0, { s with dir := s.dir.settle s.dir.deeds.length })
def removeK (n : ByteArray) (s : FsP) : Nat × FsP := ((removeP s.dir n).1, { s with dir := (removeP s.dir n).2 })
/-- how much of each file a crash by picks keeps -/
def pickAt (picks : List Int) (i : Nat) : Nat := ((picks[i]?).getD 0).toNat
def crashD (s : FsP) (picks : List Int) : PSt := s.dir.settle (pickAt picks 0 % (s.dir.deeds.length + 1))
def crashT (picks : List Int) (l : List Nat) (g : Nat → FSt) (i : Nat) : FSt := if i ∈ l then (g i).settled (pickAt picks (l.idxOf i + 1) % ((g i).loose + 1)) else g i
def crashK (s : FsP) (picks : List Int) : Nat × FsP :=
  if picks.any (· < 0) then (1, s) else (0, { s with dir := crashD s picks, file := crashT picks (inosL (crashD s picks).safe) s.file, off := false, fuse := none })

/-- all that is there: no step makes more than one of it at a time -/
def totL (g : Nat → FSt) (n : Nat) : Nat := ((List.range (n + 1)).map fun i => (g i).big).sum
theorem sum_perm {f : Nat → Nat} {l m : List Nat} (h : l.Perm m) : (l.map f).sum = (m.map f).sum := by
  induction h with
  | nil => rfl
  | cons x _ ih => simp only [List.map_cons, List.sum_cons, ih]
  | swap x y l => simp only [List.map_cons, List.sum_cons]; omega
  | trans _ _ ih1 ih2 => exact ih1.trans ih2
theorem sum_mono {α : Type} {f g : α → Nat} : ∀ {l : List α}, (∀ x ∈ l, f x ≤ g x) → (l.map f).sum ≤ (l.map g).sum
  | [], _ => Nat.le_refl _
  | x :: r, h => by
    have h1 := h x (by simp)
    have h2 := sum_mono (l := r) (f := f) (g := g) (fun y hy => h y (by simp [hy]))
    simp only [List.map_cons, List.sum_cons]
    omega
theorem sum_nodup_lt {f : Nat → Nat} : ∀ {n : Nat} {l : List Nat}, l.Nodup → (∀ i ∈ l, i < n) → (l.map f).sum ≤ ((List.range n).map f).sum
  | 0, [], _, _ => Nat.le_refl _
  | 0, x :: r, _, h => absurd (h x (by simp)) (by omega)
  | n + 1, l, hd, h => by
    rw [List.range_succ, List.map_append, List.sum_append]
    simp only [List.map_cons, List.map_nil, List.sum_cons, List.sum_nil, Nat.add_zero]
    by_cases hn : n ∈ l
    · have hp := List.perm_cons_erase hn
      rw [sum_perm hp]
      simp only [List.map_cons, List.sum_cons]
      have hd2 := hp.nodup_iff.1 hd
      obtain ⟨h1, h2⟩ := List.nodup_cons.1 hd2
      have h3 := sum_nodup_lt (f := f) (n := n) h2 (fun i hi => by
        have h4 := h i (List.mem_of_mem_erase hi)
        have h5 : i ≠ n := fun e => by subst e; exact h1 hi
        omega)
      omega
    · have h3 := sum_nodup_lt (f := f) (n := n) hd (fun i hi => by
        have h4 := h i hi
        have h5 : i ≠ n := fun e => by subst e; exact hn hi
        omega)
      omega
theorem sum_nodup_le {f : Nat → Nat} {l : List Nat} {n : Nat} (hd : l.Nodup) (h : ∀ i ∈ l, i ≤ n) : (l.map f).sum ≤ ((List.range (n + 1)).map f).sum :=
  sum_nodup_lt hd (fun i hi => by have := h i hi; omega)
theorem totL_next (g : Nat → FSt) (n : Nat) : totL g (n + 1) = totL g n + (g (n + 1)).big := by
  unfold totL
  rw [List.range_succ, List.map_append, List.sum_append]
  simp
theorem totL_congr {g h : Nat → FSt} {n : Nat} (e : ∀ i, i ≤ n → (h i).big ≤ (g i).big) : totL h n ≤ totL g n :=
  sum_mono (fun i hi => e i (by have := List.mem_range.1 hi; omega))
theorem totL_upd (g : Nat → FSt) {i n : Nat} (t : FSt) (d : Nat) (h : t.big ≤ (g i).big + d) : totL (upd g i t) n ≤ totL g n + d := by
  by_cases hi : i ≤ n
  · induction n with
    | zero =>
      obtain rfl : i = 0 := by omega
      simp [totL, upd]
      omega
    | succ n ih =>
      rw [totL_next, totL_next]
      by_cases e : i = n + 1
      · subst e
        rw [upd_same]
        have h1 : totL (upd g (n + 1) t) n ≤ totL g n := totL_congr (fun j hj => by rw [upd_other _ _ (by omega)]; exact Nat.le_refl _)
        omega
      · have h1 := ih (by omega)
        rw [upd_other _ _ (show n + 1 ≠ i by omega)]
        omega
  · exact Nat.le_trans (totL_congr (fun j hj => by rw [upd_other _ _ (by omega)]; exact Nat.le_refl _)) (Nat.le_add_right _ _)
/-- what a file system keeps, step by step -/
structure FInv (s : FsP) (q T : Nat) : Prop where
  dir : s.dir.Ok
  ino : GInv s.dir
  files : ∀ i, (s.file i).Ok
  tot : totL s.file s.dir.last ≤ T
  last : s.dir.last ≤ q
  few : s.dir.big ≤ q
theorem FInv.used_le {s : FsP} {q T : Nat} (h : FInv s q T) : s.used ≤ T := by
  have h1 : s.used ≤ (s.dir.now.map fun x => (s.file x.2).big).sum := sum_mono (fun x _ => FSt.bytes_length (h.files x.2))
  have h2 : (s.dir.now.map fun x => (s.file x.2).big) = (s.dir.now.map (·.2)).map fun i => (s.file i).big := by rw [List.map_map]; rfl
  rw [h2] at h1
  have hg := h.ino.now
  have hd : (s.dir.now.map (·.2)).Nodup := List.pairwise_map.2 (h.dir.now.1.nodup.imp_of_mem (fun {a b} ha hb hn e => hn (hg.2 a ha b hb e)))
  have h3 := sum_nodup_le (f := fun i => (s.file i).big) (n := s.dir.last) hd (fun i hi => by
    obtain ⟨x, hx, rfl⟩ := List.mem_map.1 hi
    exact (hg.1 x hx).2.2)
  exact Nat.le_trans h1 (Nat.le_trans h3 h.tot)
theorem FInv.mono {s : FsP} {q q' T T' : Nat} (h : FInv s q T) (h1 : q ≤ q') (h2 : T ≤ T') : FInv s q' T' := ⟨h.dir, h.ino, h.files, Nat.le_trans h.tot h2, Nat.le_trans h.last h1, Nat.le_trans h.few h1⟩
theorem FInv.new (q : Nat) : FInv (FsP.new q) 0 0 := ⟨PSt.new_ok, GInv.new, fun _ => FSt.new_ok _, by simp [totL, FsP.new, PSt.new, FSt.new, FSt.big, FSt.loose, unitsL], by simp [FsP.new, PSt.new], by simp [FsP.new, PSt.new, PSt.big]⟩
end Go.Proofs.YtfabodpefbdbjaaGreatDoor

/-
  Layer 7: what a file system keeps, call by call (plain mathematics).
-/
set_option linter.unusedVariables false
set_option linter.unusedSimpArgs false
namespace Go.Proofs.YtfabodpefbdbjaaGreatDoor
open Go.RowKit

theorem doP_ok {s : PSt} (ho : s.Ok) (c : Call6) (hf : s.safe.length + s.deeds.length < 100000) (hl : s.last + 1 < 100000000) : (doP s c).2.2.Ok := by
  rcases doP_cases s c with e | ⟨e, _, _, hn, _⟩ | ⟨e, _, _, ha, hb, _⟩ | ⟨e, _, _, hn, _⟩ | ⟨k, hk, e, _⟩
  · rw [e]; exact ho
  · rw [e]
    have h0 : PSt.Ok { s with last := s.last + 1 } := ⟨ho.safe, ho.deeds, hl, by have := ho.settled; show s.settled ≤ s.last + 1; omega, ho.few⟩
    exact PSt.push_ok h0 ⟨mayN_size hn, by omega⟩ hf
  · rw [e]; exact PSt.push_ok ho ⟨mayN_size ha, mayN_size hb⟩ hf
  · rw [e]; exact PSt.push_ok ho (mayN_size hn) hf
  · rw [e]; exact PSt.settle_ok ho k
/-- the folder's calls as calls of the folder's laws -/
theorem createP_do (s : PSt) (n : ByteArray) : doP s ⟨0, n, n, 0⟩ = createP s n := by unfold doP; rw [if_pos (.inl rfl)]
theorem removeP_do (s : PSt) (n : ByteArray) : doP s ⟨4, n, n, 0⟩ = (0, (removeP s n).1, (removeP s n).2) := by
  unfold doP
  rw [if_neg (by simp), if_neg (by simp), if_pos rfl]
section
variable {s : FsP} {q T : Nat}
theorem beginF_is (s : FsP) : (beginF s).2.dir = s.dir ∧ (beginF s).2.file = s.file ∧ (beginF s).2.quota = s.quota := by
  unfold beginF
  split
  · exact ⟨rfl, rfl, rfl⟩
  · split <;> exact ⟨rfl, rfl, rfl⟩
theorem FInv.same {s' : FsP} (h : FInv s q T) (h1 : s'.dir = s.dir) (h2 : s'.file = s.file) : FInv s' q T := ⟨h1 ▸ h.dir, h1 ▸ h.ino, h2 ▸ h.files, by rw [h1, h2]; exact h.tot, h1 ▸ h.last, h1 ▸ h.few⟩
theorem FInv.step (h : FInv s q T) {k : FsP → Nat × FsP} {q' T' : Nat} (hq : q ≤ q') (hT : T ≤ T') (hk : FInv (beginF s).2 q T → FInv (k (beginF s).2).2 q' T') : FInv (stepF s k).2 q' T' := by
  have h0 : FInv (beginF s).2 q T := h.same (beginF_is s).1 (beginF_is s).2.1
  unfold stepF
  split
  · exact hk h0
  · exact h0.mono hq hT
/-- the folder goes on, no new inode -/
theorem FInv.dir_ (h : FInv s q T) (hq : q ≤ 1000) (c : Call6) (hw : ¬ (c.what = 0 ∨ c.what = 1 ∨ c.what = 2)) : FInv { s with dir := (doP s.dir c).2.2 } (q + 1) T := by
  have hb := doP_big s.dir c
  have hf := h.few
  have hl := h.last
  have hlast : (doP s.dir c).2.2.last = s.dir.last := by
    rcases doP_cases s.dir c with e | ⟨e, hx, _⟩ | ⟨e, _⟩ | ⟨e, _⟩ | ⟨k, hk, e, _⟩
    · rw [e]
    · exact absurd (by omega) hw
    · rw [e]; rfl
    · rw [e]; rfl
    · rw [e]; rfl
  exact ⟨doP_ok h.dir c (by unfold PSt.big at hf; omega) (by omega), h.ino.doP h.dir c, h.files, by rw [show (FsP.dir { s with dir := (doP s.dir c).2.2 }).last = s.dir.last from hlast]; exact h.tot, by show (doP s.dir c).2.2.last ≤ _; omega, by show (doP s.dir c).2.2.big ≤ _; omega⟩
theorem FInv.createK_ (h : FInv s q T) (hq : q ≤ 1000) (n : ByteArray) : FInv (createK n s).2 (q + 1) T := by
  have hb := doP_big s.dir ⟨0, n, n, 0⟩
  have hok := doP_ok h.dir ⟨0, n, n, 0⟩ (by have := h.few; unfold PSt.big at this; omega) (by have := h.last; omega)
  have hg := h.ino.doP h.dir ⟨0, n, n, 0⟩
  have ht := told_make (s := s.dir) (c := ⟨0, n, n, 0⟩) ⟨by simp, by simp⟩
  rw [createP_do] at hb hok hg ht
  have hf := h.few
  have hl := h.last
  rcases ht with ⟨e0, e1, e2⟩ | ⟨e0, e1, e2⟩
  · refine ⟨hok, hg, fun i => ?_, ?_, by show (createP s.dir n).2.2.last ≤ _; omega, by show (createP s.dir n).2.2.big ≤ _; omega⟩
    · show ((if (createP s.dir n).2.1 = 0 then upd s.file (s.dir.last + 1) (FSt.new []) else s.file) i).Ok
      rw [if_pos e0]
      by_cases e : i = s.dir.last + 1
      · subst e; rw [upd_same]; exact FSt.new_ok _
      · rw [upd_other _ _ e]; exact h.files i
    · show totL (if (createP s.dir n).2.1 = 0 then upd s.file (s.dir.last + 1) (FSt.new []) else s.file) (createP s.dir n).2.2.last ≤ T
      rw [if_pos e0, e2, totL_next, upd_same]
      have h1 : totL (upd s.file (s.dir.last + 1) (FSt.new [])) s.dir.last ≤ totL s.file s.dir.last := totL_congr (fun j hj => by rw [upd_other _ _ (by omega)]; exact Nat.le_refl _)
      have h2 : (FSt.new []).big = 0 := rfl
      have := h.tot
      omega
  · refine ⟨hok, hg, fun i => ?_, ?_, by show (createP s.dir n).2.2.last ≤ _; omega, by show (createP s.dir n).2.2.big ≤ _; omega⟩
    · show ((if (createP s.dir n).2.1 = 0 then upd s.file (s.dir.last + 1) (FSt.new []) else s.file) i).Ok
      rw [if_neg e0]
      exact h.files i
    · show totL (if (createP s.dir n).2.1 = 0 then upd s.file (s.dir.last + 1) (FSt.new []) else s.file) (createP s.dir n).2.2.last ≤ T
      rw [if_neg e0, e2]
      exact h.tot
/-- a step on a file that makes no more of it than d -/
theorem FInv.onF_ (h : FInv s q T) (n : ByteArray) {k : FSt → Nat × FSt} (d : Nat) (hk : ∀ t : FSt, t.Ok → (k t).2.Ok ∧ (k t).2.big ≤ t.big + d) : FInv (onF s n k).2 q (T + d) := by
  unfold onF
  split
  · refine ⟨h.dir, h.ino, fun i => ?_, ?_, h.last, h.few⟩
    · show (upd s.file (nodeF s n).2 (k (s.file (nodeF s n).2)).2 i).Ok
      by_cases e : i = (nodeF s n).2
      · subst e; rw [upd_same]; exact (hk _ (h.files _)).1
      · rw [upd_other _ _ e]; exact h.files i
    · exact Nat.le_trans (totL_upd s.file _ d (hk _ (h.files _)).2) (Nat.add_le_add_right h.tot d)
  · exact h.mono (Nat.le_refl _) (Nat.le_add_right _ _)
theorem appT_ok (u z : Nat) (b : List UInt8) (t : FSt) (h : t.Ok) : (appT u z b t).2.Ok ∧ (appT u z b t).2.big ≤ t.big + b.length := by
  unfold appT
  split
  · exact ⟨h, by simp⟩
  · split
    · exact ⟨h, by simp⟩
    · rename_i hb
      exact ⟨FSt.app_ok h hb, by rw [show ((0, t.app b) : Nat × FSt).2 = t.app b from rfl, FSt.app_big]; exact Nat.le_refl _⟩
theorem syncT_ok (t : FSt) (h : t.Ok) : (syncT t).2.Ok ∧ (syncT t).2.big ≤ t.big + 0 := ⟨FSt.settled_ok _ _, FSt.settled_big t (Nat.le_refl _)⟩
end
end Go.Proofs.YtfabodpefbdbjaaGreatDoor

/- JfMem -/

/-
  Layer 7: the program's file system in memory: its own cells, its folder, its map of files, what is asked ahead of each step.
-/
set_option linter.unusedVariables false
set_option linter.unusedSimpArgs false
namespace Go.Proofs.YtfabodpefbdbjaaGreatDoor
open Go.RowKit Go.Maps

/-- a file's place as an element of a map -/
def fElem : Value → Option (DataW Unit × List MemPlace)
  | .pointer (some ⟨b, 0, none⟩) => some (.lit (.int .i64 (b : Int)), [])
  | .pointer none => some (.nil, [])
  | _ => none
theorem fElem_mk (b : Nat) : fElem (.pointer (some ⟨b, 0, none⟩)) = some (.lit (.int .i64 (b : Int)), []) := rfl
theorem fElem_inv {v : Value} {b : Nat} {ps : List MemPlace} (h : fElem v = some (.lit (.int .i64 (b : Int)), ps)) : v = .pointer (some ⟨b, 0, none⟩) := by
  unfold fElem at h
  split at h
  · rename_i c
    injection h with h
    injection h with h _
    injection h with h
    injection h with _ h
    have : c = b := by omega
    rw [this]
  · injection h with h
    injection h with h _
    cases h
  · cases h
def updN (g : Nat → Nat) (i F : Nat) : Nat → Nat := fun j => if j = i then F else g j
theorem updN_same (g : Nat → Nat) (i F : Nat) : updN g i F i = F := by simp [updN]
theorem updN_other (g : Nat → Nat) {i j : Nat} (F : Nat) (h : j ≠ i) : updN g i F j = g j := by simp [updN, h]
/-- block b is a map of at most n keys, of which those of K lead to the files in blocks g, and no others are there -/
def MapF (w : World) (b n : Nat) (K : List Nat) (g : Nat → Nat) : Prop := ∃ D : DataW Unit, w.ownsMap Tryz.prog 41 fElem b n D ∧ (∀ i, i ∈ K → ∀ zd, D.atKey (ku i) zd = .lit (.int .i64 (g i : Int))) ∧ (∀ k, (∀ i, i ∈ K → k ≠ ku i) → Maps.has D k = false)
section
variable {w w' : World} {b n : Nat} {K : List Nat} {g : Nat → Nat} {M : Nat → Prop}
theorem MapF.lt (h : MapF w b n K g) : b < w.heap.size := by obtain ⟨D, h, _⟩ := h; exact h.lt
theorem MapF.no_cell (h : MapF w b n K g) (o : Nat) : w.cell? ⟨b, o, none⟩ = none := by
  obtain ⟨D, ⟨es, clock, hb, _⟩, _⟩ := h
  simp [World.cell?, hb]
theorem MapF.of_block (h : MapF w b n K g) (hb : w'.heap[b]? = w.heap[b]?) : MapF w' b n K g := by
  obtain ⟨D, ⟨es', clock, h1, h2⟩, hr⟩ := h
  exact ⟨D, ⟨es', clock, hb.trans h1, h2⟩, hr⟩
theorem MapF.chg (h : MapF w b n K g) (hc : Chg M w w') (hM : ¬ M b) : MapF w' b n K g := h.of_block (hc.block b h.lt hM)
theorem MapF.on (h : MapF w b n K g) (hb : Below w.heap.size w w') : MapF w' b n K g := h.of_block (hb.block b h.lt)
theorem MapF.new (w : World) (g : Nat → Nat) : MapF (w.alloc (.map #[] 0)) w.heap.size 0 [] g := ⟨_, World.ownsMap_made w _ _ _, (fun i hi => absurd hi (by simp)), (fun k _ => rfl)⟩
theorem MapF.congr {K' : List Nat} {g' : Nat → Nat} (h : MapF w b n K g) (he : ∀ i, i ∈ K ↔ i ∈ K') (hg : ∀ i, i ∈ K' → g' i = g i) : MapF w b n K' g' := by
  obtain ⟨D, h1, h2, h3⟩ := h
  exact ⟨D, h1, fun i hi zd => by rw [hg i hi]; exact h2 i ((he i).2 hi) zd, fun k hk => h3 k (fun i hi => hk i ((he i).1 hi))⟩
theorem zeroPF (w : World) : (zeroValue 112).run Tryz.prog w = .ok (.pointer none) w := by kernel_rfl
set_option maxRecDepth 100000 in
theorem MapF.look (h : MapF w b n K g) {i : Nat} (hi : i < 1000000000) (hm : i ∈ K) :
    (Instr.lookup 92 (.map (some b)) (.int .u64 (i : Int)) false).run Tryz.prog w = .ok (.pointer (some ⟨g i, 0, none⟩)) w := by
  obtain ⟨D, hown, h1, h2⟩ := h
  obtain ⟨v, ps, hrun, e⟩ := hown.lookup keyedU Tryz.underlying92 (zeroPF w) (show fElem (.pointer none) = some (.nil, []) from rfl) (keyOf_ku hi)
  rw [h1 i hm] at e
  rw [hrun, fElem_inv e]
set_option maxRecDepth 100000 in
theorem MapF.store (h : MapF w b n K g) (hn : n ≤ 100000000) {i : Nat} (hi : i < 1000000000) (F : Nat) :
    ∃ w', (Instr.mapUpdate 92 (.map (some b)) (.int .u64 (i : Int)) (.pointer (some ⟨F, 0, none⟩))).run Tryz.prog w = .ok () w' ∧ MapF w' b (n + 1) (i :: K) (updN g i F) ∧ w.mapTurned w' b := by
  obtain ⟨D, hown, h1, h2⟩ := h
  obtain ⟨w', hrun, r1, r2⟩ := hown.store keyedU Tryz.underlying92 (by unfold maxLen; omega) (keyOf_ku hi) (fElem_mk F)
  refine ⟨w', hrun, ⟨_, r1, fun j hj zd => ?_, fun k hk => ?_⟩, r2⟩
  · by_cases e : j = i
    · subst e; rw [updN_same]; exact atKey_put_same hown.isMap (isKey_ku j) _ _
    · rcases List.mem_cons.1 hj with e' | hj
      · exact absurd e' e
      · rw [updN_other _ _ e]; exact (atKey_put_other (fun e' => e (ku_inj e')) _ _).trans (h1 j hj zd)
  · exact (has_put_other (hk i (by simp)) _).trans (h2 k (fun j hj => hk j (by simp [hj])))
end
/-- a file system's cells -/
structure FsC (w : World) (A X B q u st : Nat) (on : Bool) (hv : Value) : Prop where
  c0 : w.cell? ⟨A, 0, none⟩ = some (.pointer (some ⟨X, 0, none⟩))
  c1 : w.cell? ⟨A, 1, none⟩ = some (.map (some B))
  c2 : w.cell? ⟨A, 2, none⟩ = some (.int .i64 (q : Int))
  c3 : w.cell? ⟨A, 3, none⟩ = some (.int .i64 (u : Int))
  c4 : w.cell? ⟨A, 4, none⟩ = some (.int .i64 (st : Int))
  c5 : w.cell? ⟨A, 5, none⟩ = some (.bool on)
  c6 : w.cell? ⟨A, 6, none⟩ = some hv
  f0 : w.frozen? ⟨A, 0, none⟩ = false
  f1 : w.frozen? ⟨A, 1, none⟩ = false
  f2 : w.frozen? ⟨A, 2, none⟩ = false
  f3 : w.frozen? ⟨A, 3, none⟩ = false
  f4 : w.frozen? ⟨A, 4, none⟩ = false
  f5 : w.frozen? ⟨A, 5, none⟩ = false
  f6 : w.frozen? ⟨A, 6, none⟩ = false
section
variable {w w' : World} {A X B q u st : Nat} {on : Bool} {hv : Value}
theorem FsC.lt (h : FsC w A X B q u st on hv) : A < w.heap.size := fblock_of_cell h.c0
theorem FsC.of_block (h : FsC w A X B q u st on hv) (hb : w'.heap[A]? = w.heap[A]?) : FsC w' A X B q u st on hv := by
  have hc : ∀ o, w'.cell? ⟨A, o, none⟩ = w.cell? ⟨A, o, none⟩ := fun o => World.cell?_of_block hb
  have hf : ∀ o, w'.frozen? ⟨A, o, none⟩ = w.frozen? ⟨A, o, none⟩ := fun o => World.frozen?_of_block hb
  exact ⟨(hc 0).trans h.c0, (hc 1).trans h.c1, (hc 2).trans h.c2, (hc 3).trans h.c3, (hc 4).trans h.c4, (hc 5).trans h.c5, (hc 6).trans h.c6, (hf 0).trans h.f0, (hf 1).trans h.f1, (hf 2).trans h.f2, (hf 3).trans h.f3, (hf 4).trans h.f4, (hf 5).trans h.f5, (hf 6).trans h.f6⟩
theorem FsC.on_ (h : FsC w A X B q u st on hv) (hb : Below w.heap.size w w') : FsC w' A X B q u st on hv := h.of_block (hb.block A h.lt)
theorem FsC.drew (h : FsC w A X B q u st on hv) : FsC w.drew A X B q u st on hv := h.of_block rfl
theorem FsC.set1 (h : FsC w A X B q u st on hv) (k : Nat) : FsC (w.setCell ⟨A, 1, none⟩ (.map (some k))) A X k q u st on hv := by
  obtain ⟨c0, c1, c2, c3, c4, c5, c6, f0, f1, f2, f3, f4, f5, f6⟩ := h
  refine ⟨?_, World.cell?_setCell_same _ _ _ c1, ?_, ?_, ?_, ?_, ?_, by rw [World.frozen?_setCell]; assumption, by rw [World.frozen?_setCell]; assumption, by rw [World.frozen?_setCell]; assumption, by rw [World.frozen?_setCell]; assumption, by rw [World.frozen?_setCell]; assumption, by rw [World.frozen?_setCell]; assumption, by rw [World.frozen?_setCell]; assumption⟩ <;>
    (rw [World.cell?_setCell_other _ _ _ _ (by intro e; injection e with e1 e2; omega)]; assumption)
theorem FsC.set3 (h : FsC w A X B q u st on hv) (k : Nat) : FsC (w.setCell ⟨A, 3, none⟩ (.int .i64 (k : Int))) A X B q k st on hv := by
  obtain ⟨c0, c1, c2, c3, c4, c5, c6, f0, f1, f2, f3, f4, f5, f6⟩ := h
  refine ⟨?_, ?_, ?_, World.cell?_setCell_same _ _ _ c3, ?_, ?_, ?_, by rw [World.frozen?_setCell]; assumption, by rw [World.frozen?_setCell]; assumption, by rw [World.frozen?_setCell]; assumption, by rw [World.frozen?_setCell]; assumption, by rw [World.frozen?_setCell]; assumption, by rw [World.frozen?_setCell]; assumption, by rw [World.frozen?_setCell]; assumption⟩ <;>
    (rw [World.cell?_setCell_other _ _ _ _ (by intro e; injection e with e1 e2; omega)]; assumption)
theorem FsC.set4 (h : FsC w A X B q u st on hv) (k : Nat) : FsC (w.setCell ⟨A, 4, none⟩ (.int .i64 (k : Int))) A X B q u k on hv := by
  obtain ⟨c0, c1, c2, c3, c4, c5, c6, f0, f1, f2, f3, f4, f5, f6⟩ := h
  refine ⟨?_, ?_, ?_, ?_, World.cell?_setCell_same _ _ _ c4, ?_, ?_, by rw [World.frozen?_setCell]; assumption, by rw [World.frozen?_setCell]; assumption, by rw [World.frozen?_setCell]; assumption, by rw [World.frozen?_setCell]; assumption, by rw [World.frozen?_setCell]; assumption, by rw [World.frozen?_setCell]; assumption, by rw [World.frozen?_setCell]; assumption⟩ <;>
    (rw [World.cell?_setCell_other _ _ _ _ (by intro e; injection e with e1 e2; omega)]; assumption)
theorem FsC.set5 (h : FsC w A X B q u st on hv) (k : Bool) : FsC (w.setCell ⟨A, 5, none⟩ (.bool k)) A X B q u st k hv := by
  obtain ⟨c0, c1, c2, c3, c4, c5, c6, f0, f1, f2, f3, f4, f5, f6⟩ := h
  refine ⟨?_, ?_, ?_, ?_, ?_, World.cell?_setCell_same _ _ _ c5, ?_, by rw [World.frozen?_setCell]; assumption, by rw [World.frozen?_setCell]; assumption, by rw [World.frozen?_setCell]; assumption, by rw [World.frozen?_setCell]; assumption, by rw [World.frozen?_setCell]; assumption, by rw [World.frozen?_setCell]; assumption, by rw [World.frozen?_setCell]; assumption⟩ <;>
    (rw [World.cell?_setCell_other _ _ _ _ (by intro e; injection e with e1 e2; omega)]; assumption)
theorem FsC.new (w : World) (X B q : Nat) (u st : Nat) (on : Bool) (hv : Value) (t : TypeId) : FsC (w.alloc (.cells #[.pointer (some ⟨X, 0, none⟩), .map (some B), .int .i64 (q : Int), .int .i64 (u : Int), .int .i64 (st : Int), .bool on, hv] t)) w.heap.size X B q u st on hv := by
  refine ⟨by simp, by simp, by simp, by simp, by simp, by simp, by simp, by simp, by simp, by simp, by simp, by simp, by simp, by simp⟩
end
/-- what is asked ahead of each step -/
def HoldAt (w : World) (R : Nat → Prop) (hv : Value) (st : Nat) : Option Nat → Prop
  | none => hv = .func (.func 43) #[] #[]
  | some n => False
section
variable {w w' : World} {R R' M : Nat → Prop} {hv : Value} {st : Nat} {o : Option Nat}
theorem HoldAt.mono (h : HoldAt w R hv st o) (hR : ∀ i, R i → R' i) : HoldAt w R' hv st o := by
  cases o with
  | none => exact h
  | some n => exact h.elim
theorem HoldAt.chg (h : HoldAt w R hv st o) (hc : Chg M w w') (hM : ∀ i, M i → ¬ R i) : HoldAt w' R hv st o := by
  cases o with
  | none => exact h
  | some n => exact h.elim
end
theorem FileM.rise {w : World} {F : Nat} {M R R' : Nat → Prop} {s : FSt} (h : FileM w F M R s) (hR : ∀ i, R i → R' i) (hM : ∀ i, M i → ¬ R' i) (hl : ∀ i, R' i → i < w.heap.size) : FileM w F M R' s := by
  obtain ⟨h0, h1, h2, h3, vs, vt, vd, dvs, h, h4⟩ := h
  exact ⟨h0, hM, h2, hl, vs, vt, vd, dvs, ⟨h.cells, h.safe, h.tail, h.deeds, h.each.mono hR, h.apart, fun i hi => hM i (h4 i hi)⟩, h4⟩
theorem HFolM.rise {w : World} {X : Nat} {M R R' : Nat → Prop} {s : PSt} (h : HFolM w X M R s) (hR : ∀ i, R i → R' i) (hM : ∀ i, M i → ¬ R' i) (hl : ∀ i, R' i → i < w.heap.size) : HFolM w X M R' s := by
  obtain ⟨h0, h1, h2, h3, bs, bn, vd, dvs, h, hx, h4⟩ := h
  exact ⟨h0, hM, h2, hl, bs, bn, vd, dvs, ⟨h.cells, h.safe, h.now, h.deeds, h.each.mono hR, h.ne, fun i hi => hM i (h4 i hi)⟩, hx, h4⟩
/-- a file system's memory: u is the cell 'used'; M its own blocks, R what nobody writes -/
structure FsAt (w : World) (A X B n u : Nat) (hv : Value) (K : List Nat) (g : Nat → Nat) (MX : Nat → Prop) (MF : Nat → Nat → Prop) (M R : Nat → Prop) (s : FsP) : Prop where
  mr : ∀ i, M i → ¬ R i
  ml : ∀ i, M i → i < w.heap.size
  rl : ∀ i, R i → i < w.heap.size
  cells : FsC w A X B s.quota u s.steps (!s.off) hv
  hold : s.off = false → HoldAt w R hv s.steps s.fuse
  hvf : ∃ f cap, hv = .func (.func f) #[] cap
  map : MapF w B n K g
  ks : ∀ i, i ∈ K → i < 1000000000
  dir : HFolM w X MX R s.dir
  files : ∀ i, i ∈ K → FileM w (g i) (MF i) R (s.file i)
  mA : M A
  mB : M B
  mX : ∀ i, MX i → M i
  mF : ∀ i, i ∈ K → ∀ j, MF i j → M j
  xA : ¬ MX A
  xB : ¬ MX B
  fA : ∀ i, i ∈ K → ¬ MF i A
  fB : ∀ i, i ∈ K → ¬ MF i B
  fX : ∀ i, i ∈ K → ∀ j, MF i j → ¬ MX j
  ff : ∀ i, i ∈ K → ∀ k, k ∈ K → i ≠ k → ∀ j, MF i j → ¬ MF k j
section
variable {w w' : World} {A X B n u : Nat} {hv : Value} {K : List Nat} {g : Nat → Nat} {MX M R N : Nat → Prop} {MF : Nat → Nat → Prop} {s : FsP}
theorem FsAt.ab (h : FsAt w A X B n u hv K g MX MF M R s) : A ≠ B := fun e => by
  have h1 := h.cells.c0
  rw [e, h.map.no_cell 0] at h1
  cases h1
theorem FsAt.chg (h : FsAt w A X B n u hv K g MX MF M R s) (hc : Chg N w w') (hN : ∀ i, N i → ¬ M i ∧ ¬ R i) : FsAt w' A X B n u hv K g MX MF M R s :=
  { h with
    ml := fun i hi => Nat.lt_of_lt_of_le (h.ml i hi) hc.size
    rl := fun i hi => Nat.lt_of_lt_of_le (h.rl i hi) hc.size
    cells := h.cells.of_block (hc.block A h.cells.lt (fun e => (hN A e).1 h.mA))
    hold := fun ho => (h.hold ho).chg hc (fun i e => (hN i e).2)
    map := h.map.chg hc (fun e => (hN B e).1 h.mB)
    dir := h.dir.chg hc (fun i e => ⟨fun e' => (hN i e).1 (h.mX i e'), (hN i e).2⟩)
    files := fun i hi => (h.files i hi).chg hc (fun j e => ⟨fun e' => (hN j e).1 (h.mF i hi j e'), (hN j e).2⟩) }
theorem FsAt.on (h : FsAt w A X B n u hv K g MX MF M R s) (hb : Below w.heap.size w w') : FsAt w' A X B n u hv K g MX MF M R s := h.chg (Chg.of_below (M := fun _ => False) hb) (fun i e => e.elim)
theorem FsAt.drew (h : FsAt w A X B n u hv K g MX MF M R s) : FsAt w.drew A X B n u hv K g MX MF M R s := h.on (Below.refl _ _).drew
/-- a store in its own cells -/
theorem FsAt.own_set (h : FsAt w A X B n u hv K g MX MF M R s) (hg : Chg (fun i => i = A) w w') {u' : Nat} {hv' : Value} {s' : FsP} (hc : FsC w' A X B s'.quota u' s'.steps (!s'.off) hv') (hd : s'.dir = s.dir) (hf : s'.file = s.file)
    (hh : s'.off = false → HoldAt w R hv' s'.steps s'.fuse) (hff : ∃ f cap, hv' = .func (.func f) #[] cap) : FsAt w' A X B n u' hv' K g MX MF M R s' :=
  { h with
    hvf := hff
    ml := fun i hi => Nat.lt_of_lt_of_le (h.ml i hi) hg.size
    rl := fun i hi => Nat.lt_of_lt_of_le (h.rl i hi) hg.size
    cells := hc
    hold := fun ho => (hh ho).chg hg (fun i e => by rw [e]; exact h.mr A h.mA)
    map := h.map.chg hg (fun e => h.ab e.symm)
    dir := by rw [hd]; exact h.dir.chg hg (fun i e => by rw [e]; exact ⟨h.xA, h.mr A h.mA⟩)
    files := fun i hi => by rw [hf]; exact (h.files i hi).chg hg (fun j e => by rw [e]; exact ⟨h.fA i hi, h.mr A h.mA⟩) }
theorem chg_set (w : World) (A o : Nat) (val : Value) : Chg (fun i => i = A) w (w.setCell ⟨A, o, none⟩ val) := (Chg.refl (M := fun i => i = A) (w := w)).setCell (p := ⟨A, o, none⟩) rfl _
theorem FsAt.cell_set (h : FsAt w A X B n u hv K g MX MF M R s) (o : Nat) (val : Value) {u' : Nat} {hv' : Value} {s' : FsP} (hc : FsC (w.setCell ⟨A, o, none⟩ val) A X B s'.quota u' s'.steps (!s'.off) hv') (hd : s'.dir = s.dir) (hf : s'.file = s.file)
    (hh : s'.off = false → HoldAt w R hv' s'.steps s'.fuse) (hff : ∃ f cap, hv' = .func (.func f) #[] cap) : FsAt (w.setCell ⟨A, o, none⟩ val) A X B n u' hv' K g MX MF M R s' := h.own_set (chg_set w A o val) hc hd hf hh hff
theorem FsAt.setU (h : FsAt w A X B n u hv K g MX MF M R s) (k : Nat) : FsAt (w.setCell ⟨A, 3, none⟩ (.int .i64 (k : Int))) A X B n k hv K g MX MF M R s := h.cell_set 3 _ (h.cells.set3 k) rfl rfl h.hold h.hvf
/-- another map, of fewer files -/
theorem FsAt.swap {B' n' : Nat} {K' : List Nat} (h : FsAt w A X B n u hv K g MX MF M R s) (hm : MapF w B' n' K' g) (hK : ∀ i, i ∈ K' → i ∈ K) (h1 : ¬ M B') (h2 : ¬ R B') : FsAt (w.setCell ⟨A, 1, none⟩ (.map (some B'))) A X B' n' u hv K' g MX MF (fun i => M i ∨ i = B') R s := by
  have hg := chg_set w A 1 (.map (some B'))
  have hlt := hm.lt
  have hAB : A ≠ B' := fun e => h1 (e ▸ h.mA)
  exact { h with
    mr := fun i hi e => hi.elim (fun hi => h.mr i hi e) (fun hi => h2 (hi ▸ e))
    ml := fun i hi => Nat.lt_of_lt_of_le (hi.elim (h.ml i) (fun e => e ▸ hlt)) hg.size
    rl := fun i hi => Nat.lt_of_lt_of_le (h.rl i hi) hg.size
    cells := h.cells.set1 B'
    hold := fun ho => (h.hold ho).chg hg (fun i e => by rw [e]; exact h.mr A h.mA)
    map := hm.chg hg (fun e => hAB e.symm)
    ks := fun i hi => h.ks i (hK i hi)
    dir := h.dir.chg hg (fun i e => by rw [e]; exact ⟨h.xA, h.mr A h.mA⟩)
    files := fun i hi => (h.files i (hK i hi)).chg hg (fun j e => by rw [e]; exact ⟨h.fA i (hK i hi), h.mr A h.mA⟩)
    mA := .inl h.mA
    mB := .inr rfl
    mX := fun i hi => .inl (h.mX i hi)
    mF := fun i hi j e => .inl (h.mF i (hK i hi) j e)
    xB := fun e => h1 (h.mX _ e)
    fA := fun i hi => h.fA i (hK i hi)
    fB := fun i hi e => h1 (h.mF i (hK i hi) _ e)
    fX := fun i hi => h.fX i (hK i hi)
    ff := fun i hi k hk => h.ff i (hK i hi) k (hK k hk) }
/-- a new file -/
theorem FsAt.add {w2 w3 : World} {F i n' : Nat} {M1 R1 : Nat → Prop} {t : FSt} (h : FsAt w A X B n u hv K g MX MF M R s) (hb : Below w.heap.size w w2) (hf : FileM w2 F M1 R1 t) (hR1 : ∀ j, R1 j → R j) (hM1 : ∀ j, M1 j → w.heap.size ≤ j)
    (hmap : MapF w3 B n' (i :: K) (updN g i F)) (hc : Chg (fun j => j = B) w2 w3) (hi : i < 1000000000) :
    FsAt w3 A X B n' u hv (i :: K) (updN g i F) MX (fun k => if k = i then M1 else MF k) (fun j => M j ∨ M1 j) R { s with file := upd s.file i t } := by
  have h2 := h.on hb
  have hsz := hc.size
  have hsz2 := hb.size
  have mr : ∀ j, (M j ∨ M1 j) → ¬ R j := fun j e e' => e.elim (fun e => h.mr j e e') (fun e => by have := hM1 j e; have := h.rl j e'; omega)
  have hrl : ∀ j, R j → j < w3.heap.size := fun j e => by have := h.rl j e; omega
  have hK : ∀ k, k ∈ i :: K → k ≠ i → k ∈ K := fun k hk e => (List.mem_cons.1 hk).resolve_left e
  have hBM1 : ∀ j, j = B → ¬ M1 j := fun j e e' => by have := hM1 j e'; have := h.ml B h.mB; omega
  refine ⟨mr, fun j e => Nat.lt_of_lt_of_le (e.elim (h2.ml j) (hf.2.2.1 j)) hsz, hrl, h2.cells.of_block (hc.block A h2.cells.lt (fun e => h.ab e)), fun ho => (h2.hold ho).chg hc (fun j e => by rw [e]; exact h.mr B h.mB), h.hvf, hmap, ?_, h2.dir.chg hc (fun j e => by rw [e]; exact ⟨h.xB, h.mr B h.mB⟩), ?_, .inl h.mA, .inl h.mB, fun j e => .inl (h.mX j e), ?_, h.xA, h.xB, ?_, ?_, ?_, ?_⟩
  · intro k hk
    rcases List.mem_cons.1 hk with rfl | hk
    · exact hi
    · exact h.ks k hk
  · intro k hk
    by_cases e : k = i
    · subst e
      simp only [if_true, updN_same, upd_same]
      exact (hf.chg hc (fun j e => ⟨hBM1 j e, fun e' => h.mr B h.mB (e ▸ hR1 j e')⟩)).rise hR1 (fun j e => mr j (.inr e)) hrl
    · simp only [if_neg e, updN_other _ _ e, upd_other _ _ e]
      exact (h2.files k (hK k hk e)).chg hc (fun j e' => by rw [e']; exact ⟨h.fB k (hK k hk e), h.mr B h.mB⟩)
  · intro k hk j e'
    by_cases e : k = i
    · rw [if_pos e] at e'; exact .inr e'
    · rw [if_neg e] at e'; exact .inl (h.mF k (hK k hk e) j e')
  · intro k hk e'
    by_cases e : k = i
    · rw [if_pos e] at e'; have := hM1 A e'; have := h.ml A h.mA; omega
    · rw [if_neg e] at e'; exact h.fA k (hK k hk e) e'
  · intro k hk e'
    by_cases e : k = i
    · rw [if_pos e] at e'; have := hM1 B e'; have := h.ml B h.mB; omega
    · rw [if_neg e] at e'; exact h.fB k (hK k hk e) e'
  · intro k hk j e' ex
    by_cases e : k = i
    · rw [if_pos e] at e'; have := hM1 j e'; have := h.ml j (h.mX j ex); omega
    · rw [if_neg e] at e'; exact h.fX k (hK k hk e) j e' ex
  · intro k hk l hl hkl j e1 e2
    by_cases e : k = i
    · rw [if_pos e] at e1
      rw [if_neg (fun e' => hkl (e.trans e'.symm))] at e2
      have := hM1 j e1
      have := h.ml j (h.mF l (hK l hl (fun e' => hkl (e.trans e'.symm))) j e2)
      omega
    · rw [if_neg e] at e1
      by_cases e3 : l = i
      · rw [if_pos e3] at e2
        have := hM1 j e2
        have := h.ml j (h.mF k (hK k hk e) j e1)
        omega
      · rw [if_neg e3] at e2
        exact h.ff k (hK k hk e) l (hK l hl e3) hkl j e1 e2
/-- a call on a file -/
theorem FsAt.file_mut (h : FsAt w A X B n u hv K g MX MF M R s) {i : Nat} (hi : i ∈ K) {t : FSt} (hm : Mut w w' (g i) (MF i) R t) :
    ∃ MF' M' R', FsAt w' A X B n u hv K g MX MF' M' R' { s with file := upd s.file i t } ∧ Chg M w w' ∧ (∀ i, M' i → M i ∨ w.heap.size ≤ i) ∧ (∀ i, R' i → R i ∨ w.heap.size ≤ i) := by
  obtain ⟨M1, R1, hf, hc, h1, h2⟩ := hm
  have hsz := hc.size
  have hR' : ∀ j, (R j ∨ R1 j) → R j ∨ w.heap.size ≤ j := fun j e => e.elim .inl (h2 j)
  have hM' : ∀ j, (M j ∨ M1 j) → M j ∨ w.heap.size ≤ j := fun j e => e.elim .inl (fun e => (h1 j e).elim (fun e => .inl (h.mF i hi j e)) .inr)
  have mr : ∀ j, (M j ∨ M1 j) → ¬ (R j ∨ R1 j) := by
    intro j e e'
    rcases e with e | e
    · rcases hR' j e' with e'' | e''
      · exact h.mr j e e''
      · have := h.ml j e; omega
    · rcases e' with e' | e'
      · rcases h1 j e with e'' | e''
        · exact h.mr j (h.mF i hi j e'') e'
        · have := h.rl j e'; omega
      · exact hf.2.1 j e e'
  have hrl : ∀ j, (R j ∨ R1 j) → j < w'.heap.size := fun j e => e.elim (fun e => Nat.lt_of_lt_of_le (h.rl j e) hsz) (hf.2.2.2.1 j)
  have hNew : ∀ {j}, M1 j → ∀ {P : Prop}, (MF i j → P) → (w.heap.size ≤ j → P) → P := fun {j} e P a b => (h1 j e).elim a b
  refine ⟨fun k => if k = i then M1 else MF k, fun j => M j ∨ M1 j, fun j => R j ∨ R1 j, ?_, hc.mono (h.mF i hi), hM', hR'⟩
  have hne : ∀ k, k ∈ K → k ≠ i → ∀ j, MF i j → ¬ MF k j := fun k hk hki j e e' => h.ff k hk i hi hki j e' e
  refine ⟨mr, fun j e => e.elim (fun e => Nat.lt_of_lt_of_le (h.ml j e) hsz) (hf.2.2.1 j), hrl, ?_, fun ho => ((h.hold ho).chg hc (fun j e => h.mr j (h.mF i hi j e))).mono (fun j => .inl), h.hvf, h.map.chg hc (h.fB i hi), h.ks, ?_, ?_, .inl h.mA, .inl h.mB, fun j e => .inl (h.mX j e), ?_, h.xA, h.xB, ?_, ?_, ?_, ?_⟩
  · exact h.cells.of_block (hc.block A h.cells.lt (h.fA i hi))
  · exact (h.dir.chg hc (fun j e => ⟨h.fX i hi j e, h.mr j (h.mF i hi j e)⟩)).rise (fun j => .inl) (fun j e => mr j (.inl (h.mX j e))) hrl
  · intro k hk
    by_cases e : k = i
    · subst e
      simp only [if_true, upd_same]
      exact hf.rise (fun j => .inr) (fun j e => mr j (.inr e)) hrl
    · simp only [if_neg e, upd_other _ _ e]
      exact ((h.files k hk).chg hc (fun j e' => ⟨hne k hk e j e', h.mr j (h.mF i hi j e')⟩)).rise (fun j => .inl) (fun j e' => mr j (.inl (h.mF k hk j e'))) hrl
  · intro k hk j e'
    by_cases e : k = i
    · rw [if_pos e] at e'; exact .inr e'
    · rw [if_neg e] at e'; exact .inl (h.mF k hk j e')
  · intro k hk e'
    by_cases e : k = i
    · rw [if_pos e] at e'; exact hNew e' (h.fA i hi) (fun e => by have := h.ml A h.mA; omega)
    · rw [if_neg e] at e'; exact h.fA k hk e'
  · intro k hk e'
    by_cases e : k = i
    · rw [if_pos e] at e'; exact hNew e' (h.fB i hi) (fun e => by have := h.ml B h.mB; omega)
    · rw [if_neg e] at e'; exact h.fB k hk e'
  · intro k hk j e' ex
    by_cases e : k = i
    · rw [if_pos e] at e'; exact hNew e' (fun e' => h.fX i hi j e' ex) (fun e => by have := h.ml j (h.mX j ex); omega)
    · rw [if_neg e] at e'; exact h.fX k hk j e' ex
  · intro k hk l hl hkl j e1 e2
    by_cases e : k = i
    · rw [if_pos e] at e1
      rw [if_neg (fun e' => hkl (e.trans e'.symm))] at e2
      exact hNew e1 (fun e' => h.ff k hk l hl hkl j (e ▸ e') e2) (fun e' => by have := h.ml j (h.mF l hl j e2); omega)
    · rw [if_neg e] at e1
      by_cases e3 : l = i
      · rw [if_pos e3] at e2
        exact hNew e2 (fun e' => h.ff k hk l hl hkl j e1 (e3 ▸ e')) (fun e' => by have := h.ml j (h.mF k hk j e1); omega)
      · rw [if_neg e3] at e2
        exact h.ff k hk l hl hkl j e1 e2
/-- a call on the folder -/
theorem FsAt.dir_mut (h : FsAt w A X B n u hv K g MX MF M R s) {d : PSt} (hm : HMut w w' X MX R d) :
    ∃ MX' M' R', FsAt w' A X B n u hv K g MX' MF M' R' { s with dir := d } ∧ Chg M w w' ∧ (∀ i, M' i → M i ∨ w.heap.size ≤ i) ∧ (∀ i, R' i → R i ∨ w.heap.size ≤ i) := by
  obtain ⟨M1, R1, hf, hc, h1, h2⟩ := hm
  have hsz := hc.size
  have hR' : ∀ j, (R j ∨ R1 j) → R j ∨ w.heap.size ≤ j := fun j e => e.elim .inl (h2 j)
  have hM' : ∀ j, (M j ∨ M1 j) → M j ∨ w.heap.size ≤ j := fun j e => e.elim .inl (fun e => (h1 j e).elim (fun e => .inl (h.mX j e)) .inr)
  have mr : ∀ j, (M j ∨ M1 j) → ¬ (R j ∨ R1 j) := by
    intro j e e'
    rcases e with e | e
    · rcases hR' j e' with e'' | e''
      · exact h.mr j e e''
      · have := h.ml j e; omega
    · rcases e' with e' | e'
      · rcases h1 j e with e'' | e''
        · exact h.mr j (h.mX j e'') e'
        · have := h.rl j e'; omega
      · exact hf.2.1 j e e'
  have hrl : ∀ j, (R j ∨ R1 j) → j < w'.heap.size := fun j e => e.elim (fun e => Nat.lt_of_lt_of_le (h.rl j e) hsz) (hf.2.2.2.1 j)
  refine ⟨M1, fun j => M j ∨ M1 j, fun j => R j ∨ R1 j, ?_, hc.mono h.mX, hM', hR'⟩
  refine ⟨mr, fun j e => e.elim (fun e => Nat.lt_of_lt_of_le (h.ml j e) hsz) (hf.2.2.1 j), hrl, h.cells.of_block (hc.block A h.cells.lt h.xA), fun ho => ((h.hold ho).chg hc (fun j e => h.mr j (h.mX j e))).mono (fun j => .inl), h.hvf, h.map.chg hc h.xB, h.ks, hf.rise (fun j => .inr) (fun j e => mr j (.inr e)) hrl, ?_, .inl h.mA, .inl h.mB, fun j e => .inr e, fun k hk j e => .inl (h.mF k hk j e), ?_, ?_, h.fA, h.fB, ?_, h.ff⟩
  · intro k hk
    exact ((h.files k hk).chg hc (fun j e' => ⟨fun e => h.fX k hk j e e', h.mr j (h.mX j e')⟩)).rise (fun j => .inl) (fun j e' => mr j (.inl (h.mF k hk j e'))) hrl
  · exact fun e => (h1 A e).elim h.xA (fun e => by have := h.ml A h.mA; omega)
  · exact fun e => (h1 B e).elim h.xB (fun e => by have := h.ml B h.mB; omega)
  · exact fun k hk j e e' => (h1 j e').elim (h.fX k hk j e) (fun e' => by have := h.ml j (h.mF k hk j e); omega)
end
/-- the file system in block A holds s -/
def FsM (w : World) (A u : Nat) (M R : Nat → Prop) (s : FsP) : Prop :=
  ∃ X B n hv K g MX MF, FsAt w A X B n u hv K g MX MF M R s ∧ n ≤ s.dir.last + 1 ∧ (∀ i, i ∈ K → i ≤ s.dir.last) ∧ ∀ i, i ∈ s.dir.live → i ∈ K
/-- what a call leaves that changes the file system -/
def FsMut (w w' : World) (A u : Nat) (M R : Nat → Prop) (s : FsP) : Prop :=
  ∃ M' R', FsM w' A u M' R' s ∧ Chg M w w' ∧ (∀ i, M' i → M i ∨ w.heap.size ≤ i) ∧ (∀ i, R' i → R i ∨ w.heap.size ≤ i)
section
variable {w w' w'' : World} {A u u' : Nat} {M M' R R' N : Nat → Prop} {s t : FsP}
theorem FsM.ltA (h : FsM w A u M R s) : A < w.heap.size := by obtain ⟨X, B, n, hv, K, g, MX, MF, h, _⟩ := h; exact h.cells.lt
theorem FsM.mr (h : FsM w A u M R s) : ∀ i, M i → ¬ R i := by obtain ⟨X, B, n, hv, K, g, MX, MF, h, _⟩ := h; exact h.mr
theorem FsM.ml (h : FsM w A u M R s) : ∀ i, M i → i < w.heap.size := by obtain ⟨X, B, n, hv, K, g, MX, MF, h, _⟩ := h; exact h.ml
theorem FsM.rl (h : FsM w A u M R s) : ∀ i, R i → i < w.heap.size := by obtain ⟨X, B, n, hv, K, g, MX, MF, h, _⟩ := h; exact h.rl
theorem FsM.chg (h : FsM w A u M R s) (hc : Chg N w w') (hN : ∀ i, N i → ¬ M i ∧ ¬ R i) : FsM w' A u M R s := by
  obtain ⟨X, B, n, hv, K, g, MX, MF, h, h1⟩ := h
  exact ⟨X, B, n, hv, K, g, MX, MF, h.chg hc hN, h1⟩
theorem FsM.on (h : FsM w A u M R s) (hb : Below w.heap.size w w') : FsM w' A u M R s := h.chg (Chg.of_below (M := fun _ => False) hb) (fun i e => e.elim)
theorem FsM.drew (h : FsM w A u M R s) : FsM w.drew A u M R s := h.on (Below.refl _ _).drew
theorem FsM.ok (h : FsM w A u M R s) : s.dir.Ok := by obtain ⟨X, B, n, hv, K, g, MX, MF, h, _⟩ := h; exact h.dir.ok
theorem FsMut.of_below (h : FsM w A u M R s) (hb : Below w.heap.size w w') : FsMut w w' A u M R s := ⟨M, R, h.on hb, Chg.of_below hb, fun _ => .inl, fun _ => .inl⟩
theorem FsMut.refl (h : FsM w A u M R s) : FsMut w w A u M R s := .of_below h (Below.refl _ _)
theorem FsMut.on (h : FsMut w w' A u M R s) (hb : Below w'.heap.size w' w'') : FsMut w w'' A u M R s := by
  obtain ⟨M1, R1, h1, h2, h3, h4⟩ := h
  exact ⟨M1, R1, h1.on hb, h2.trans (Chg.of_below (M := fun _ => False) hb) (fun i e => e.elim), h3, h4⟩
theorem FsM.setU (h : FsM w A u M R s) (k : Nat) : FsM (w.setCell ⟨A, 3, none⟩ (.int .i64 (k : Int))) A k M R s := by
  obtain ⟨X, B, n, hv, K, g, MX, MF, h, h1⟩ := h
  exact ⟨X, B, n, hv, K, g, MX, MF, h.setU k, h1⟩
theorem FsM.mA (h : FsM w A u M R s) : M A := by obtain ⟨X, B, n, hv, K, g, MX, MF, h, _⟩ := h; exact h.mA
theorem FsMut.after (hc : Chg M w w') (h3 : ∀ i, M' i → M i ∨ w.heap.size ≤ i) (h4 : ∀ i, R' i → R i ∨ w.heap.size ≤ i) (k : FsMut w' w'' A u M' R' t) : FsMut w w'' A u M R t := by
  obtain ⟨M1, R1, k1, k2, k3, k4⟩ := k
  exact ⟨M1, R1, k1, hc.trans k2 h3, fun i e => (k3 i e).elim (h3 i) (fun e => .inr (Nat.le_trans hc.size e)), fun i e => (k4 i e).elim (h4 i) (fun e => .inr (Nat.le_trans hc.size e))⟩
end
end Go.Proofs.YtfabodpefbdbjaaGreatDoor

/- JxShelf -/

/-
  Layer 7: what the laws use of the shelf: slices.Clone of numbers, slices.Equal of names, a map of names whose keys are at 1, cleared; a mask.
-/
set_option linter.unusedVariables false
set_option linter.unusedSimpArgs false
namespace Go.Proofs.YtfabodpefbdbjaaGreatDoor
open Go.RowKit Go.Maps

/-- numbers as cells -/
def ivs (l : List Int) : List Value := l.map (Value.int .i64)
/-- strings as cells -/
def svs (l : List ByteArray) : List Value := l.map Value.string
theorem svs_get {l : List ByteArray} {k : Nat} {x : ByteArray} (h : l[k]? = some x) : (svs l)[k]? = some (.string x) := by simp [svs, h]
/-- The value v is a slice that reads as the strings l, out of a block of R. -/
def SsR (w : World) (R : Nat → Prop) (v : Value) (l : List ByteArray) : Prop := ∃ A c, v = .slice A l.length c ∧ l.length ≤ c ∧ c ≤ maxLen ∧ RdR w R A (svs l)
section
variable {w w' : World} {R R' M : Nat → Prop} {v : Value} {l : List ByteArray}
theorem SsR.chg (h : SsR w R v l) (hc : Chg M w w') (hM : ∀ i, M i → ¬ R i) : SsR w' R v l := by
  obtain ⟨A, c, h1, h2, h3, h4⟩ := h
  exact ⟨A, c, h1, h2, h3, h4.chg hc hM⟩
theorem SsR.on (h : SsR w R v l) (hb : Below w.heap.size w w') : SsR w' R v l := h.chg (Chg.of_below (M := fun _ => False) hb) (fun _ e => e.elim)
theorem SsR.mono (h : SsR w R v l) (hR : ∀ i, R i → R' i) : SsR w R' v l := by
  obtain ⟨A, c, h1, h2, h3, h4⟩ := h
  exact ⟨A, c, h1, h2, h3, h4.mono hR⟩
theorem SsR.at_ (h : SsR w R v l) {A : Option Addr} {n c : Nat} (hv : v = .slice A n c) {j : Nat} {x : ByteArray} (hx : l[j]? = some x) :
    ∃ b o, A = some ⟨b, o, none⟩ ∧ R b ∧ w.cell? ⟨b, o + j, none⟩ = some (.string x) := by
  obtain ⟨A', c', e, _, _, h2⟩ := h
  rw [hv] at e
  injection e with e _ _
  subst e
  have g1 := svs_get hx
  obtain ⟨b, o, e2, hb, hc⟩ := h2 (by intro e; rw [e] at g1; simp at g1)
  exact ⟨b, o, e2, hb, hc _ _ g1⟩
end
def ks (n : ByteArray) : Lit := .string n.data.toList
/-- block b is a map of at most n names, of which those of l are at 1, and no others there -/
def MapS (w : World) (b n : Nat) (l : List ByteArray) : Prop := ∃ D : DataW Unit, w.ownsMap Tryz.prog 9 (plainElem Tryz.prog 3) b n D ∧ (∀ i, i ∈ l → ∀ zd, D.atKey (ks i) zd = .lit (.int .i64 1)) ∧ (∀ k, (∀ i, i ∈ l → k ≠ ks i) → Maps.has D k = false)
section
variable {w w' : World} {b n : Nat} {l : List ByteArray} {M : Nat → Prop}
theorem MapS.lt (h : MapS w b n l) : b < w.heap.size := by obtain ⟨D, h, _⟩ := h; exact h.lt
theorem MapS.of_block (h : MapS w b n l) (hb : w'.heap[b]? = w.heap[b]?) : MapS w' b n l := by
  obtain ⟨D, ⟨es', clock, h1, h2⟩, hr⟩ := h
  exact ⟨D, ⟨es', clock, hb.trans h1, h2⟩, hr⟩
theorem MapS.chg (h : MapS w b n l) (hc : Chg M w w') (hM : ¬ M b) : MapS w' b n l := h.of_block (hc.block b h.lt hM)
theorem MapS.on (h : MapS w b n l) (hb : Below w.heap.size w w') : MapS w' b n l := h.of_block (hb.block b h.lt)
theorem MapS.new (w : World) : MapS (w.alloc (.map #[] 0)) w.heap.size 0 [] := ⟨_, World.ownsMap_made w _ _ _, (fun i hi => absurd hi (by simp)), (fun k _ => rfl)⟩
theorem MapS.congr {l' : List ByteArray} (h : MapS w b n l) (he : ∀ i, i ∈ l ↔ i ∈ l') : MapS w b n l' := by
  obtain ⟨D, h1, h2, h3⟩ := h
  exact ⟨D, h1, fun i hi => h2 i ((he i).2 hi), fun k hk => h3 k (fun i hi => hk i ((he i).1 hi))⟩
end
end Go.Proofs.YtfabodpefbdbjaaGreatDoor

/- JfLook -/

/-
  Layer 7: what only looks: made, ready, the bytes of names, the file of a name.
-/
set_option linter.unusedVariables false
set_option linter.unusedSimpArgs false
namespace Go.Proofs.YtfabodpefbdbjaaGreatDoor
open Go.RowKit Go.Maps

/-- how many bytes the file of a name has -/
def lenAt (g : Nat → FSt) (now : List Ent) (n : ByteArray) : Nat := match findL now n with
  | some i => (g i).bytes.length
  | none => 0
def bytesN (g : Nat → FSt) (now : List Ent) (ns : List ByteArray) : Nat := (ns.map (lenAt g now)).sum
theorem bytesN_take (g : Nat → FSt) (now : List Ent) {ns : List ByteArray} {k : Nat} {x : ByteArray} (hx : ns[k]? = some x) : bytesN g now (ns.take (k + 1)) = bytesN g now (ns.take k) + lenAt g now x := by
  unfold bytesN
  rw [List.take_add_one, hx]
  simp
theorem bytesN_le (g : Nat → FSt) (now : List Ent) (ns : List ByteArray) (k : Nat) : bytesN g now (ns.take k) ≤ bytesN g now ns := by
  unfold bytesN
  conv => rhs; rw [← List.take_append_drop k ns, List.map_append, List.sum_append]
  exact Nat.le_add_right _ _
theorem bytesN_one (g : Nat → FSt) (now : List Ent) (x : ByteArray) : bytesN g now [x] = lenAt g now x := by simp [bytesN]
theorem bytesN_nil (g : Nat → FSt) (now : List Ent) : bytesN g now [] = 0 := rfl
section
variable {w w' : World} {A X B n u q st : Nat} {on : Bool} {hv : Value} {K : List Nat} {g : Nat → Nat} {MX M R N : Nat → Prop} {MF : Nat → Nat → Prop} {s : FsP}
set_option maxRecDepth 100000 in
theorem kmade (h : FsC w A X B q u st on hv) : Calls Tryz.prog 55 #[.pointer (some ⟨A, 0, none⟩)] w fun e w' => e = .returned (.bool true) ∧ w = w' := by
  have hc := h.c0
  clear h
  go_enter Tryz.func55, Tryz.ntmps55
  go_wp2
  go_ret
  exact ⟨rfl, rfl⟩
set_option maxRecDepth 100000 in
theorem kready (h : FsC w A X B q u st on hv) : Calls Tryz.prog 120 #[.pointer (some ⟨A, 0, none⟩)] w fun e w' => e = .returned (.int .i64 ((if on then 0 else 20 : Nat) : Int)) ∧ w = w' := by
  have H := Lib.hid h
  have hc := h.c5
  clear h
  cases on
  · go_enter Tryz.func120, Tryz.ntmps120
    go_wp2_with (go_at_call 55; refine (kmade H.out).mono ?_; rintro e w' ⟨rfl, rfl⟩)
    go_ret
    exact ⟨rfl, rfl⟩
  · go_enter Tryz.func120, Tryz.ntmps120
    go_wp2_with (go_at_call 55; refine (kmade H.out).mono ?_; rintro e w' ⟨rfl, rfl⟩)
    go_ret
    exact ⟨rfl, rfl⟩
set_option maxRecDepth 100000 in
set_option maxHeartbeats 4000000 in
theorem kbytesOf {v : Value} {ns : List ByteArray} (h : FsAt w A X B n u hv K g MX MF M R s) (hk : ∀ x, x ∈ s.dir.now → x.2 ∈ K) (hb : ∀ i, i ∈ K → (s.file i).big ≤ 1000000) (hT : bytesN s.file s.dir.now ns ≤ 1000000000)
    (hvs : SsR w N v ns) (hns : ∀ x, x ∈ ns → x.size ≤ maxLen) (hlen : ns.length ≤ 1000000) :
    Calls Tryz.prog 65 #[.pointer (some ⟨A, 0, none⟩), v] w fun e w' => e = .returned (.int .i64 ((bytesN s.file s.dir.now ns : Nat) : Int)) ∧ Below w.heap.size w w' := by
  have H := Lib.hid h
  have HV := Lib.hid hvs
  have HK := Lib.hid hk
  have HB := Lib.hid hb
  have HT := Lib.hid hT
  have HN := Lib.hid hns
  obtain ⟨V, c, rfl, hc1, hc2, _⟩ := hvs
  obtain ⟨m, hm⟩ : ∃ m, m = ns.length := ⟨_, rfl⟩
  rw [← hm] at hc1 hlen HV ⊢
  have Hm := Lib.hid hm
  clear hm h hk hb hT hns
  go_enter Tryz.func65, Tryz.ntmps65
  go_wp2_with fail
  go_loopw [5, 12] (fun a i wr => ∃ k : Nat, k ≤ m ∧ i = .int .i64 k ∧ a = .int .i64 ((bytesN s.file s.dir.now (ns.take k) : Nat) : Int) ∧ Below w.heap.size w wr) (fun _ i _ => m - (intOf i).toNat)
  case atStart => exact ⟨0, by omega, rfl, by simp [bytesN], Below.refl _ _⟩
  case round =>
    obtain ⟨k, hk, rfl, rfl, hbw⟩ := hrel
    have HBW := Lib.hid hbw
    clear hbw
    by_cases hkm : k < m
    · have hdk : decide ((k : Int) < (m : Int)) = true := decide_eq_true (by omega)
      obtain ⟨x, hx⟩ : ∃ x, ns[k]? = some x := ⟨ns[k]'(by have := Hm.out; omega), List.getElem?_eq_getElem _⟩
      have HX := Lib.hid hx
      have HS := Lib.hid (bytesN_take s.file s.dir.now hx)
      have hS1 := Nat.le_trans (bytesN_le s.file s.dir.now ns (k + 1)) HT.out
      rw [HS.out] at hS1
      obtain ⟨b1, o1, rfl, _, e0⟩ := (HV.out.on HBW.out).at_ rfl hx
      have H1 := Lib.hid (H.out.on HBW.out)
      have hc0 := H1.out.cells.c0
      have hc1' := H1.out.cells.c1
      have hfind := hfind_m H1.out.dir (HN.out x (List.mem_of_getElem? hx))
      have hdk3 : (k : Int) < (m : Int) := by omega
      clear hx
      rcases hf : findL s.dir.now x with _ | i
      · rw [hf] at hfind
        simp only [Option.getD_none, Option.isSome_none] at hfind
        have hl0 : lenAt s.file s.dir.now x = 0 := by unfold lenAt; rw [hf]
        rw [hl0, Nat.add_zero] at HS
        have HF := Lib.hid hfind
        clear hfind hl0 hS1
        generalize bytesN s.file s.dir.now (ns.take k) = S at *
        go_wp2_with (go_at_call 115; refine HF.out.mono ?_; rintro e w' ⟨rfl, rfl⟩)
        go_roundw
        case rel => exact ⟨k + 1, by omega, by go_num, by rw [HS.out]; simp, HBW.out⟩
        case measure => simp [intOf]; omega
      · rw [hf] at hfind
        simp only [Option.getD_some, Option.isSome_some] at hfind
        have hl0 : lenAt s.file s.dir.now x = (s.file i).bytes.length := by unfold lenAt; rw [hf]
        rw [hl0] at HS hS1
        have hiK : i ∈ K := HK.out _ (findL_mem hf)
        have hlook := H1.out.map.look (H1.out.ks i hiK) hiK
        have hsz := fsize_m (H1.out.files i hiK) (Nat.le_trans (HB.out i hiK) (by omega)) _ rfl
        have HF := Lib.hid hfind
        have HZ := Lib.hid hsz
        clear hfind hl0 hsz
        generalize bytesN s.file s.dir.now (ns.take k) = S at *
        generalize (s.file i).bytes.length = L at *
        generalize g i = Fi at *
        go_wp2_with (first
          | (go_at_call 115; refine HF.out.mono ?_; rintro e w' ⟨rfl, rfl⟩)
          | (go_at_call 98; refine HZ.out.mono ?_; rintro e w2 ⟨rfl, hb2⟩; have HB2 := Lib.hid (HBW.out.trans (hb2.mono HBW.out.size)); clear hb2))
        go_roundw
        case rel => exact ⟨k + 1, by omega, by go_num, by rw [HS.out]; go_num, HB2.out⟩
        case measure => simp [intOf]; omega
    · have hdk : decide ((k : Int) < (m : Int)) = false := decide_eq_false (by omega)
      have hfin := Lib.hid (show bytesN s.file s.dir.now ns = bytesN s.file s.dir.now (ns.take k) by rw [List.take_of_length_le (by have := Hm.out; omega)])
      go_wp2_with fail
      go_ret
      exact ⟨by rw [hfin.out]; rfl, HBW.out⟩
set_option maxRecDepth 100000 in
set_option maxHeartbeats 4000000 in
theorem kfind {nm : ByteArray} (h : FsAt w A X B n u hv K g MX MF M R s) (hk : ∀ x, x ∈ s.dir.now → x.2 ∈ K) (ho : s.off = false) (hn : nm.size ≤ maxLen) :
    Calls Tryz.prog 70 #[.pointer (some ⟨A, 0, none⟩), .string nm] w fun e w' => e = .returned (.tuple #[.pointer (if (nodeF s nm).1 = 0 then some ⟨g (nodeF s nm).2, 0, none⟩ else none), .int .i64 ((nodeF s nm).1 : Int)]) ∧ Below w.heap.size w w' := by
  have H := Lib.hid h
  have hon := kready h.cells
  rw [ho] at hon
  simp only [Bool.not_false, if_true] at hon
  have HON := Lib.hid hon
  have HM := Lib.hid (hmay nm w (by unfold maxLen at hn; omega))
  clear hon
  cases hmy : mayN nm
  · have hnd : nodeF s nm = (1, 0) := by unfold nodeF; rw [if_pos hmy]
    rw [hnd]
    rw [hmy] at HM
    clear h hk hnd
    go_enter Tryz.func70, Tryz.ntmps70
    go_wp2_with (first
      | (go_at_call 120; refine HON.out.mono ?_; rintro e w' ⟨rfl, rfl⟩)
      | (go_at_call 121; refine HM.out.mono ?_; rintro e w1 ⟨rfl, hb1⟩; have HB1 := Lib.hid hb1; clear hb1))
    go_ret2
    exact ⟨rfl, HB1.out⟩
  · rw [hmy] at HM
    rcases hf : findL s.dir.now nm with _ | i
    · have hnd : nodeF s nm = (6, 0) := by unfold nodeF; rw [if_neg (by simp [hmy]), hf]
      rw [hnd]
      have HF : Hid (∀ w1, Below w.heap.size w w1 → Calls Tryz.prog 115 #[.pointer (some ⟨X, 0, none⟩), .string nm] w1 fun e w' => e = .returned (.tuple #[.int .u64 ((0 : Nat) : Int), .bool false]) ∧ w1 = w') := fun w1 hb => by
        have h1 := hfind_m (H.out.on hb).dir hn
        rw [hf] at h1
        simpa only [Option.getD_none, Option.isSome_none] using h1
      clear h hk hnd
      go_enter Tryz.func70, Tryz.ntmps70
      go_wp2_with (first
        | (go_at_call 120; refine HON.out.mono ?_; rintro e w' ⟨rfl, rfl⟩)
        | (go_at_call 121; refine HM.out.mono ?_; rintro e w1 ⟨rfl, hb1⟩; have HB1 := Lib.hid hb1; have hc0 := (H.out.on hb1).cells.c0; clear hb1)
        | (go_at_call 115; refine (HF.out _ HB1.out).mono ?_; rintro e w' ⟨rfl, rfl⟩))
      go_ret2
      exact ⟨rfl, HB1.out⟩
    · have hnd : nodeF s nm = (0, i) := by unfold nodeF; rw [if_neg (by simp [hmy]), hf]
      rw [hnd]
      have hiK : i ∈ K := hk _ (findL_mem hf)
      have HF : Hid (∀ w1, Below w.heap.size w w1 → Calls Tryz.prog 115 #[.pointer (some ⟨X, 0, none⟩), .string nm] w1 fun e w' => e = .returned (.tuple #[.int .u64 (i : Int), .bool true]) ∧ w1 = w') := fun w1 hb => by
        have h1 := hfind_m (H.out.on hb).dir hn
        rw [hf] at h1
        simpa only [Option.getD_some, Option.isSome_some] using h1
      have HL : Hid (∀ w1, Below w.heap.size w w1 → (Instr.lookup 92 (.map (some B)) (.int .u64 (i : Int)) false).run Tryz.prog w1 = .ok (.pointer (some ⟨g i, 0, none⟩)) w1) := fun w1 hb => (H.out.on hb).map.look (h.ks i hiK) hiK
      clear h hk hnd
      simp only [if_true]
      generalize g i = Fi at *
      go_enter Tryz.func70, Tryz.ntmps70
      go_wp2_with (first
        | (go_at_call 120; refine HON.out.mono ?_; rintro e w' ⟨rfl, rfl⟩)
        | (go_at_call 121; refine HM.out.mono ?_; rintro e w1 ⟨rfl, hb1⟩; have HB1 := Lib.hid hb1; have hc0 := (H.out.on hb1).cells.c0; have hc1 := (H.out.on hb1).cells.c1; have hlk := HL.out _ hb1; clear hb1)
        | (go_at_call 115; refine (HF.out _ HB1.out).mono ?_; rintro e w' ⟨rfl, rfl⟩))
      go_ret2
      exact ⟨rfl, HB1.out⟩
end
end Go.Proofs.YtfabodpefbdbjaaGreatDoor

/-
  Layer 7: a step: what is asked ahead of it, and what is kept of the bytes.
-/
set_option linter.unusedVariables false
set_option linter.unusedSimpArgs false
namespace Go.Proofs.YtfabodpefbdbjaaGreatDoor
open Go.RowKit Go.Maps

theorem FInv.big_le {s : FsP} {q T : Nat} (h : FInv s q T) {i : Nat} (hi : i ≤ s.dir.last) : (s.file i).big ≤ T := by
  have h1 := sum_nodup_le (f := fun i => (s.file i).big) (l := [i]) (n := s.dir.last) (by simp) (fun j hj => by simp at hj; omega)
  simp at h1
  exact Nat.le_trans h1 h.tot
theorem FInv.len_le {s : FsP} {q T : Nat} (h : FInv s q T) (x : ByteArray) : lenAt s.file s.dir.now x ≤ T := by
  unfold lenAt
  split
  · rename_i i hi
    exact Nat.le_trans (FSt.bytes_length (h.files i)) (h.big_le (h.ino.now.1 _ (findL_mem hi)).2.2)
  · exact Nat.zero_le _
theorem FInv.bytesN_le {s : FsP} {q T : Nat} (h : FInv s q T) : ∀ ns : List ByteArray, bytesN s.file s.dir.now ns ≤ ns.length * T
  | [] => by simp [bytesN]
  | x :: r => by
    have h1 := h.bytesN_le r
    have h2 := h.len_le x
    unfold bytesN at h1 ⊢
    simp only [List.map_cons, List.sum_cons, List.length_cons, Nat.succ_mul]
    omega
theorem FsM.kfacts {w : World} {A u q T : Nat} {M R : Nat → Prop} {s : FsP} (h : FsM w A u M R s) (hf : FInv s q T) :
    ∃ X B n hv K g MX MF, FsAt w A X B n u hv K g MX MF M R s ∧ n ≤ s.dir.last + 1 ∧ (∀ i, i ∈ K → i ≤ s.dir.last) ∧ (∀ i, i ∈ s.dir.live → i ∈ K) ∧ (∀ x, x ∈ s.dir.now → x.2 ∈ K) ∧ (∀ i, i ∈ K → (s.file i).big ≤ T) := by
  obtain ⟨X, B, n, hv, K, g, MX, MF, h, h1, h2, h3⟩ := h
  exact ⟨X, B, n, hv, K, g, MX, MF, h, h1, h2, h3, fun x hx => h3 _ (hf.ino.live_now hf.dir.settled x hx), fun i hi => hf.big_le (h2 i hi)⟩
set_option maxRecDepth 100000 in
theorem kalways (w : World) (x : Int) : Calls Tryz.prog 43 #[.int .i64 x] w fun e w' => e = .returned (.bool true) ∧ w = w' := by
  go_enter Tryz.func43, Tryz.ntmps43
  go_wp2
  go_ret
  exact ⟨rfl, rfl⟩
theorem khold {w : World} {R : Nat → Prop} {hv : Value} {st : Nat} {o : Option Nat} (h : HoldAt w R hv st o) (hst : st + 1 ≤ 1000000) :
    ∃ f cap, hv = .func (.func f) #[] cap ∧ (∀ args w', (callFunc f args).run Tryz.prog w' = .ok (.enter f args) w') ∧
      ∀ w', HoldAt w' R hv st o → Calls Tryz.prog f (#[.int .i64 ((st + 1 : Nat) : Int)] ++ cap) w' fun e w'' => e = .returned (.bool (decide (o ≠ some 0))) ∧ w' = w'' := by
  cases o with
  | none =>
    refine ⟨_, _, h, fun args w' => enters_of Tryz.func43 (by kernel_rfl) rfl args w', fun w' h' => ?_⟩
    refine (kalways w' _).mono ?_
    rintro e w'' ⟨rfl, rfl⟩
    exact ⟨by simp, rfl⟩
  | some n => exact h.elim
section
variable {w w' : World} {A X B n u q T : Nat} {hv : Value} {K : List Nat} {g : Nat → Nat} {MX M R N : Nat → Prop} {MF : Nat → Nat → Prop} {s : FsP}
theorem FsAt.beginOn (h : FsAt w A X B n u hv K g MX MF M R s) (ho : s.off = false) (hz : s.fuse ≠ some 0) (hg : Chg (fun i => i = A) w w') (hc : FsC w' A X B s.quota u (s.steps + 1) true hv) : FsAt w' A X B n u hv K g MX MF M R (beginF s).2 ∧ (beginF s).1 = 0 := by
  have e : beginF s = (0, { s with steps := s.steps + 1, fuse := s.fuse.map (· - 1) }) := by unfold beginF; rw [if_neg (by simp [ho]), if_neg hz]
  rw [e]
  refine ⟨h.own_set hg (by simpa [ho] using hc) rfl rfl (fun _ => ?_) h.hvf, rfl⟩
  have h1 := h.hold ho
  show HoldAt w R hv (s.steps + 1) (s.fuse.map (· - 1))
  cases hf : s.fuse with
  | none => rw [hf] at h1; exact h1
  | some k =>
    rw [hf] at h1 hz
    exact h1.elim
theorem FsAt.beginOff (h : FsAt w A X B n u hv K g MX MF M R s) (ho : s.off = false) (hz : s.fuse = some 0) (hg : Chg (fun i => i = A) w w') (hc : FsC w' A X B s.quota u (s.steps + 1) false hv) : FsAt w' A X B n u hv K g MX MF M R (beginF s).2 ∧ (beginF s).1 = 20 := by
  have e : beginF s = (20, { s with off := true, steps := s.steps + 1 }) := by unfold beginF; rw [if_neg (by simp [ho]), if_pos hz]
  rw [e]
  exact ⟨h.own_set hg hc rfl rfl (fun e => by simp at e) h.hvf, rfl⟩
theorem beginF_off (ho : s.off = true) : beginF s = (20, s) := by unfold beginF; rw [if_pos ho]
set_option maxRecDepth 100000 in
set_option maxHeartbeats 4000000 in
theorem kstep_off {a b : Value} (h : FsM w A u M R s) (ho : s.off = true) :
    Calls Tryz.prog 117 #[.pointer (some ⟨A, 0, none⟩), a, b] w fun e w' => e = .returned (.int .i64 20) ∧ w = w' := by
  obtain ⟨X, B, n, hv, K, g, MX, MF, h, _⟩ := h
  have hon := kready h.cells
  rw [ho] at hon
  simp only [Bool.not_true] at hon
  have HON := Lib.hid hon
  clear hon h
  go_enter Tryz.func117, Tryz.ntmps117
  go_wp2_with (go_at_call 120; refine HON.out.mono ?_; rintro e w' ⟨rfl, rfl⟩)
  go_ret
  exact ⟨rfl, rfl⟩
set_option maxRecDepth 100000 in
set_option maxHeartbeats 4000000 in
/-- a step -/
theorem kstep {v : Value} {ns : List ByteArray} {dg : Nat} {dcap : Array Value} {k : FsP → Nat × FsP} (h : FsM w A s.used M R s) (hf : FInv s q T) (hT : T ≤ 100000) (hst : s.steps + 1 ≤ 1000000)
    (hvs : SsR w N v ns) (hN : ∀ i, M i → ¬ N i) (hns : ∀ x, x ∈ ns → x.size ≤ maxLen) (hlen : ns.length ≤ 1000)
    (hen : ∀ args w', (callFunc dg args).run Tryz.prog w' = .ok (.enter dg args) w')
    (hdo : (beginF s).1 = 0 → ∀ w1, FsM w1 A s.used M R (beginF s).2 → Chg (fun i => i = A) w w1 →
      Calls Tryz.prog dg dcap w1 fun e w' => e = .returned (.int .i64 ((k (beginF s).2).1 : Int)) ∧ FsMut w1 w' A s.used M R (k (beginF s).2).2)
    (hinv : (beginF s).1 = 0 → ∃ q', FInv (k (beginF s).2).2 q' (T + 1200))
    (hus : (beginF s).1 = 0 → (k (beginF s).2).2.used + bytesN s.file s.dir.now ns = s.used + bytesN (k (beginF s).2).2.file (k (beginF s).2).2.dir.now ns) :
    Calls Tryz.prog 117 #[.pointer (some ⟨A, 0, none⟩), .func (.func dg) #[] dcap, v] w fun e w' => e = .returned (.int .i64 ((stepF s k).1 : Int)) ∧ FsMut w w' A (stepF s k).2.used M R (stepF s k).2 := by
  cases ho : s.off
  case true =>
    have e : stepF s k = (20, s) := by unfold stepF; rw [beginF_off ho]; simp
    rw [e]
    refine (kstep_off h ho).mono ?_
    rintro e w' ⟨rfl, rfl⟩
    exact ⟨rfl, FsMut.refl h⟩
  case false =>
    obtain ⟨ans, hans⟩ : ∃ ans, ans = stepF s k := ⟨_, rfl⟩
    rw [← hans]
    have Hans := Lib.hid hans
    clear hans
    obtain ⟨X, B, n, hv, K, g, MX, MF, ha, hn1, hn2, hn3, hnow, hbig⟩ := h.kfacts hf
    have hon := kready ha.cells
    rw [ho] at hon
    simp only [Bool.not_false, if_true] at hon
    have HON := Lib.hid hon
    obtain ⟨fg, fcap, hfv, hfe, hfc⟩ := khold (ha.hold ho) hst
    subst hfv
    have HA := Lib.hid ha
    obtain ⟨bz, hbz⟩ : ∃ bz, bz = decide (s.fuse ≠ some 0) := ⟨_, rfl⟩
    rw [← hbz] at hfc
    have Hbz := Lib.hid hbz
    obtain ⟨st1, hst1⟩ : ∃ st1, st1 = s.steps + 1 := ⟨_, rfl⟩
    rw [← hst1] at hfc
    have Hst1 := Lib.hid hst1
    have HH : Hid (∀ w', HoldAt w' R (.func (.func fg) #[] fcap) s.steps s.fuse → Calls Tryz.prog fg (#[.int .i64 (st1 : Int)] ++ fcap) w' fun e w'' => e = .returned (.bool bz) ∧ w' = w'') := hfc
    have c4 := ha.cells.c4
    have f4 := ha.cells.f4
    have Hn := Lib.hid (show n ≤ s.dir.last + 1 ∧ (∀ i, i ∈ K → i ≤ s.dir.last) ∧ (∀ i, i ∈ s.dir.live → i ∈ K) ∧ (∀ x, x ∈ s.dir.now → x.2 ∈ K) ∧ (∀ i, i ∈ K → (s.file i).big ≤ T) from ⟨hn1, hn2, hn3, hnow, hbig⟩)
    have HC2 : Hid (FsC (w.setCell ⟨A, 4, none⟩ (.int .i64 (st1 : Int))).drew A X B s.quota s.used st1 true (.func (.func fg) #[] fcap)) := by
      have h1 := (ha.cells.set4 st1).drew
      rw [ho] at h1
      exact h1
    have HG2 : Hid (Chg (fun i => i = A) w (w.setCell ⟨A, 4, none⟩ (.int .i64 (st1 : Int))).drew) := (chg_set w A 4 _).drew
    have HHo2 : Hid (HoldAt (w.setCell ⟨A, 4, none⟩ (.int .i64 (st1 : Int))).drew R (.func (.func fg) #[] fcap) s.steps s.fuse) := (ha.hold ho).chg HG2.out (fun i e => by rw [e]; exact ha.mr A ha.mA)
    have HO := Lib.hid ho
    have HF := Lib.hid hf
    have HV := Lib.hid hvs
    have HN := Lib.hid hN
    have HNS := Lib.hid hns
    have HD := Lib.hid hdo
    have HI := Lib.hid hinv
    have HU := Lib.hid hus
    have HMA : Hid (M A) := ha.mA
    have hwr : IntKind.i64.wrap ((s.steps : Int) + 1) = (st1 : Int) := by rw [IntWalk.i64_in _ (by rw [hst1] at *; omega)]; rw [hst1]; push_cast; rfl
    clear hon ha hn1 hn2 hn3 hnow hbig hfc hbz hst1 ho hf hvs hN hns hdo hinv hus h
    go_enter Tryz.func117, Tryz.ntmps117
    go_wp2_with (go_at_call 120; refine HON.out.mono ?_; rintro e w' ⟨rfl, rfl⟩)
    clear c4 f4
    generalize (w.setCell ⟨A, 4, none⟩ (.int .i64 (st1 : Int))) = W0 at *
    refine wp_region_noPanic ?_
    refine wp_region_held_drew (S := fun w' => w'.cell? ⟨A, 6, none⟩ = some (.func (.func fg) #[] fcap) ∧ w'.cell? ⟨A, 4, none⟩ = some (.int .i64 (st1 : Int))) (by kernel_rfl) ⟨HC2.out.c6, HC2.out.c4⟩ (fun hHeld => ?_)
    generalize World.drew _ = W at *
    refine wpAnyH_take (i := 0) (v := ?_) opAt_0 (by kernel_rfl) (by kernel_rfl) (by kernel_rfl) (fun _ _ _ h => h) (Or.inl ⟨by rfl, ?_⟩) hHeld ?_
    rotate_left
    · (intro w' hSw; obtain ⟨k6, k4⟩ := hSw; go_simp; try with_reducible rfl)
    try simp only [Act.put, List.setIfInBounds_toArray, List.set_cons_zero, List.set_cons_succ]
    refine wpAnyH_take (i := 1) (v := ?_) opAt_1 (by kernel_rfl) (by kernel_rfl) (by kernel_rfl) (fun _ _ _ h => h) (Or.inl ⟨by rfl, ?_⟩) hHeld ?_
    rotate_left
    · (intro w' hSw; obtain ⟨k6, k4⟩ := hSw; go_simp; try with_reducible rfl)
    try simp only [Act.put, List.setIfInBounds_toArray, List.set_cons_zero, List.set_cons_succ]
    refine wpAnyH_take (i := 2) (v := ?_) opAt_2 (by kernel_rfl) (by kernel_rfl) (by kernel_rfl) (fun _ _ _ h => h) (Or.inl ⟨by rfl, ?_⟩) hHeld ?_
    rotate_left
    · (intro w' hSw; obtain ⟨k6, k4⟩ := hSw; go_simp; try with_reducible rfl)
    try simp only [Act.put, List.setIfInBounds_toArray, List.set_cons_zero, List.set_cons_succ]
    refine wpAnyH_take (i := 3) (v := ?_) opAt_3 (by kernel_rfl) (by kernel_rfl) (by kernel_rfl) (fun _ _ _ h => h) (Or.inl ⟨by rfl, ?_⟩) hHeld ?_
    rotate_left
    · (intro w' hSw; obtain ⟨k6, k4⟩ := hSw; go_simp; try with_reducible rfl)
    try simp only [Act.put, List.setIfInBounds_toArray, List.set_cons_zero, List.set_cons_succ]
    refine wpAnyH_take (i := 4) (v := ?_) opAt_4 (by kernel_rfl) (by kernel_rfl) (by kernel_rfl) (fun _ _ _ h => h) (Or.inl ⟨by rfl, ?_⟩) hHeld ?_
    rotate_left
    · (intro w' hSw; obtain ⟨k6, k4⟩ := hSw; go_simp; try with_reducible rfl)
    try simp only [Act.put, List.setIfInBounds_toArray, List.set_cons_zero, List.set_cons_succ]
    refine wpAnyH_take (i := 5) (v := ?_) opAt_5 (by kernel_rfl) (by kernel_rfl) (by kernel_rfl) (fun _ _ _ h => h) (Or.inl ⟨by rfl, ?_⟩) hHeld ?_
    rotate_left
    · (intro w' hSw; obtain ⟨k6, k4⟩ := hSw; go_simp; try with_reducible rfl)
    try simp only [Act.put, List.setIfInBounds_toArray, List.set_cons_zero, List.set_cons_succ]
    refine wpAnyH_take (i := 6) (v := ?_) opAt_6 (by kernel_rfl) (by kernel_rfl) (by kernel_rfl) (fun _ _ _ h => h) (Or.inl ⟨by rfl, ?_⟩) hHeld ?_
    rotate_left
    · (intro w' hSw; obtain ⟨k6, k4⟩ := hSw; go_simp; try with_reducible rfl)
    try simp only [Act.put, List.setIfInBounds_toArray, List.set_cons_zero, List.set_cons_succ]
    refine wpAnyH_take (i := 7) (v := ?_) opAt_7 (by kernel_rfl) (by kernel_rfl) (by kernel_rfl) (fun _ _ _ h => h) (Or.inl ⟨by rfl, ?_⟩) hHeld ?_
    rotate_left
    · (intro w' hSw; obtain ⟨k6, k4⟩ := hSw; go_simp; try with_reducible rfl)
    try simp only [Act.put, List.setIfInBounds_toArray, List.set_cons_zero, List.set_cons_succ]
    refine wpAnyH_ready (rs := [8]) (by kernel_rfl) (by simp) ?_
    refine AllReadyH.cons rfl (fun K hK => ?_) AllReadyH.nil
    go_simp
    refine (HH.out _ HHo2.out).mono ?_
    rintro e w2 ⟨rfl, rfl⟩
    go_wp2_with fail
    refine hK.out _ _ hHeld (fun hHeld => ?_)
    clear hK K
    try simp only [Act.put, List.setIfInBounds_toArray, List.set_cons_zero, List.set_cons_succ]
    refine wpAnyH_take (i := 9) (v := ?_) opAt_9 (by kernel_rfl) (by kernel_rfl) (by kernel_rfl) (fun _ _ _ h => h) (Or.inl ⟨by rfl, ?_⟩) hHeld ?_
    rotate_left
    · (intro w' hSw; obtain ⟨k6, k4⟩ := hSw; go_simp; try with_reducible rfl)
    try simp only [Act.put, List.setIfInBounds_toArray, List.set_cons_zero, List.set_cons_succ]
    refine wpAnyH_done (by kernel_rfl) ?_ _
    refine NoPanic.normal ?_
    clear hHeld hwr HON
    cases bz
    case false =>
      have hz : s.fuse = some 0 := by have h1 := Hbz.out; simpa using h1
      have hc5 := HC2.out.c5
      have hf5 := HC2.out.f5
      go_wp2_with fail
      go_ret
      obtain ⟨hB1, hB2⟩ := HA.out.beginOff HO.out hz (HG2.out.trans (chg_set W A 5 (.bool false)) (fun i e => .inl e)) (by rw [← Hst1.out]; exact HC2.out.set5 false)
      have hs : stepF s k = (20, (beginF s).2) := by unfold stepF; rw [hB2]; simp
      rw [Hans.out, hs]
      refine ⟨rfl, M, R, ?_, (HG2.out.trans (chg_set W A 5 (.bool false)) (fun i e => .inl e)).mono (fun i e => by rw [e]; exact HMA.out), fun _ => .inl, fun _ => .inl⟩
      have hbi := beginF_is s
      have hu : (beginF s).2.used = s.used := by unfold FsP.used; rw [hbi.1, hbi.2.1]
      rw [hu]
      exact ⟨X, B, n, _, K, g, MX, MF, hB1, by rw [hbi.1]; exact Hn.out.1, by rw [hbi.1]; exact Hn.out.2.1, by rw [hbi.1]; exact Hn.out.2.2.1⟩
    case true =>
      have hz : s.fuse ≠ some 0 := by have h1 := Hbz.out; simpa using h1
      obtain ⟨hB1, hB2⟩ := HA.out.beginOn HO.out hz HG2.out (by rw [← Hst1.out]; exact HC2.out)
      have hs : stepF s k = k (beginF s).2 := by unfold stepF; rw [if_pos hB2]
      rw [hs] at Hans
      have hbi := beginF_is s
      have HD1 := Lib.hid (HD.out hB2)
      have HI1 := Lib.hid (HI.out hB2)
      have HU1 := Lib.hid (HU.out hB2)
      have hF1 : FInv (beginF s).2 q T := HF.out.same hbi.1 hbi.2.1
      have Hbi := Lib.hid hbi
      clear HD HI HU hB2 hs hz Hbz
      generalize (beginF s).2 = s1 at *
      have HM1 : Hid (FsM W A s.used M R s1) := ⟨X, B, n, _, K, g, MX, MF, hB1, by rw [hbi.1]; exact Hn.out.1, by rw [hbi.1]; exact Hn.out.2.1, by rw [hbi.1]; exact Hn.out.2.2.1⟩
      have HV1 := Lib.hid (HV.out.chg HG2.out (fun i e => by rw [e]; exact HN.out A HMA.out))
      have hb1 := kbytesOf hB1 (by rw [hbi.1]; exact Hn.out.2.2.2.1) (fun i hi => by rw [hbi.2.1]; exact Nat.le_trans (Hn.out.2.2.2.2 i hi) (by omega)) (Nat.le_trans (hF1.bytesN_le ns) (Nat.le_trans (Nat.mul_le_mul hlen hT) (by decide))) HV1.out HNS.out (by omega)
      have HBo := Lib.hid hb1
      have hle0 := Nat.le_trans (hF1.bytesN_le ns) (Nat.mul_le_mul hlen hT)
      obtain ⟨a0, ha0⟩ : ∃ a0, a0 = bytesN s1.file s1.dir.now ns := ⟨_, rfl⟩
      rw [← ha0] at HBo hle0
      have Ha0 := Lib.hid ha0
      clear hb1 ha0 hB1 hF1 hbi
      go_wp2_with fail
      refine HBo.out.mono ?_
      rintro e W2 ⟨rfl, hb2⟩
      have HM2 := Lib.hid (HM1.out.on hb2)
      have HG3 : Hid (Chg (fun i => i = A) w W2) := HG2.out.trans (Chg.of_below (M := fun _ => False) hb2) (fun i e => e.elim)
      have HV2 := Lib.hid (HV1.out.on hb2)
      clear hb2 HBo
      go_wp2_with fail
      refine (HD1.out W2 HM2.out HG3.out).mono ?_
      rintro e W3 ⟨rfl, hmut⟩
      obtain ⟨M3, R3, hm3, hg3, h31, h32⟩ := hmut
      have HV3 := Lib.hid ((HV2.out.chg hg3 HN.out).on ((Below.refl W3.heap.size W3).drew))
      obtain ⟨q', hI⟩ := HI1.out
      have HG4 : Hid (Chg M w W3.drew) := ((HG3.out.mono (fun i e => by rw [e]; exact HMA.out)).trans hg3 (fun i e => .inl e)).drew
      have HS4 : Hid (w.heap.size ≤ W2.heap.size) := HG3.out.size
      have HM4 := Lib.hid hm3.drew
      have H31 := Lib.hid h31
      have H32 := Lib.hid h32
      have hU := HU1.out
      have hlen2 := Nat.le_trans (hI.bytesN_le ns) (Nat.mul_le_mul hlen (show T + 1200 ≤ 101200 by omega))
      have hus2 := hI.used_le
      have hus1 := (HF.out).used_le
      have hbN : bytesN s.file s.dir.now ns = a0 := by rw [Ha0.out, Hbi.out.1, Hbi.out.2.1]
      rw [hbN] at hU
      generalize k s1 = ks at *
      obtain ⟨X3, B3, n3, hv3, K3, g3, MX3, MF3, ha3, hn31, hn32, hn33, hnow3, hbig3⟩ := HM4.out.kfacts hI
      have hb4 := kbytesOf ha3 hnow3 (fun i hi => Nat.le_trans (hbig3 i hi) (by omega)) (Nat.le_trans hlen2 (by decide)) HV3.out HNS.out (by omega)
      have HBo := Lib.hid hb4
      have HC3 := Lib.hid ha3.cells
      obtain ⟨a1, ha1⟩ : ∃ a1, a1 = bytesN ks.2.file ks.2.dir.now ns := ⟨_, rfl⟩
      rw [← ha1] at HBo hU hlen2
      obtain ⟨u1, hu1⟩ : ∃ u1, u1 = s.used := ⟨_, rfl⟩
      rw [← hu1] at HC3 HM4 hU hus1
      obtain ⟨u2, hu2⟩ : ∃ u2, u2 = ks.2.used := ⟨_, rfl⟩
      rw [← hu2] at hU hus2
      have Hu2 := Lib.hid hu2
      obtain ⟨dI, hdI⟩ : ∃ dI : Int, dI = (a1 : Int) - (a0 : Int) := ⟨_, rfl⟩
      have hw1 : IntKind.i64.wrap ((a1 : Int) - (a0 : Int)) = dI := by rw [IntWalk.i64_in _ (by omega), hdI]
      have hw2 : IntKind.i64.wrap ((u1 : Int) + dI) = (u2 : Int) := by rw [IntWalk.i64_in _ (by omega)]; omega
      clear hb4 ha3 hn31 hn32 hn33 hnow3 hbig3 ha1 hu1 hu2 hdI hU hus1 hus2 hlen2 hm3 hg3 h31 h32 hI hbN hle0
      go_wp2_with fail
      refine wp_region_noPanic ?_
      refine OrdL.wpL_region (fun w' => w'.cell? ⟨A, 3, none⟩ = some (.int .i64 (u1 : Int))) 12 (by kernel_rfl) ?_
      generalize World.drew _ = W4 at *
      have hHeld := HC3.out.c3
      refine OrdL.wpL_take (i := 0) (v := ?_) opAt_0 [] (by kernel_rfl) (by kernel_rfl) (by kernel_rfl) (by kernel_rfl) (by kernel_rfl) (by kernel_rfl) (fun _ _ _ h => h) (Or.inl ⟨by rfl, ?_⟩) hHeld ?_
      rotate_left
      · (intro w' hSw; go_simp; try with_reducible rfl)
      try simp only [Act.put, List.setIfInBounds_toArray, List.set_cons_zero, List.set_cons_succ]
      refine OrdL.wpL_take (i := 1) (v := ?_) opAt_1 [] (by kernel_rfl) (by kernel_rfl) (by kernel_rfl) (by kernel_rfl) (by kernel_rfl) (by kernel_rfl) (fun _ _ _ h => h) (Or.inl ⟨by rfl, ?_⟩) hHeld ?_
      rotate_left
      · (intro w' hSw; go_simp; try with_reducible rfl)
      try simp only [Act.put, List.setIfInBounds_toArray, List.set_cons_zero, List.set_cons_succ]
      refine OrdL.wpL_take (i := 2) (v := ?_) opAt_2 [] (by kernel_rfl) (by kernel_rfl) (by kernel_rfl) (by kernel_rfl) (by kernel_rfl) (by kernel_rfl) (fun _ _ _ h => h) (Or.inl ⟨by rfl, ?_⟩) hHeld ?_
      rotate_left
      · (intro w' hSw; go_simp; try with_reducible rfl)
      try simp only [Act.put, List.setIfInBounds_toArray, List.set_cons_zero, List.set_cons_succ]
      refine OrdL.wpL_take (i := 3) (v := ?_) opAt_3 [] (by kernel_rfl) (by kernel_rfl) (by kernel_rfl) (by kernel_rfl) (by kernel_rfl) (by kernel_rfl) (fun _ _ _ h => h) (Or.inl ⟨by rfl, ?_⟩) hHeld ?_
      rotate_left
      · (intro w' hSw; go_simp; try with_reducible rfl)
      try simp only [Act.put, List.setIfInBounds_toArray, List.set_cons_zero, List.set_cons_succ]
      refine OrdL.wpL_take (i := 4) (v := ?_) opAt_4 [] (by kernel_rfl) (by kernel_rfl) (by kernel_rfl) (by kernel_rfl) (by kernel_rfl) (by kernel_rfl) (fun _ _ _ h => h) (Or.inl ⟨by rfl, ?_⟩) hHeld ?_
      rotate_left
      · (intro w' hSw; go_simp; try with_reducible rfl)
      try simp only [Act.put, List.setIfInBounds_toArray, List.set_cons_zero, List.set_cons_succ]
      refine OrdL.wpL_take (i := 5) (v := ?_) opAt_5 [] (by kernel_rfl) (by kernel_rfl) (by kernel_rfl) (by kernel_rfl) (by kernel_rfl) (by kernel_rfl) (fun _ _ _ h => h) (Or.inl ⟨by rfl, ?_⟩) hHeld ?_
      rotate_left
      · (intro w' hSw; go_simp; try with_reducible rfl)
      try simp only [Act.put, List.setIfInBounds_toArray, List.set_cons_zero, List.set_cons_succ]
      refine OrdL.wpL_take (i := 7) (v := ?_) opAt_7 [] (by kernel_rfl) (by kernel_rfl) (by kernel_rfl) (by kernel_rfl) (by kernel_rfl) (by kernel_rfl) (fun _ _ _ h => h) (Or.inl ⟨by rfl, ?_⟩) hHeld ?_
      rotate_left
      · (intro w' hSw; go_simp; try with_reducible rfl)
      try simp only [Act.put, List.setIfInBounds_toArray, List.set_cons_zero, List.set_cons_succ]
      refine OrdL.wpL_ready (rs := [6]) (by kernel_rfl) (by simp) ?_
      refine OrdL.AllL.cons rfl (fun K hK => ?_) OrdL.AllL.nil
      go_simp
      refine HBo.out.mono ?_
      rintro e W5 ⟨rfl, hb5⟩
      go_wp2_with fail
      have HC5 := Lib.hid (HC3.out.on_ hb5)
      have HM5 := Lib.hid (HM4.out.on hb5)
      have HG5 : Hid (Chg M w W5) := HG4.out.trans (Chg.of_below (M := fun _ => False) hb5) (fun i e => e.elim)
      clear hHeld hb5
      have hHeld := HC5.out.c3
      refine hK.out _ _ (fun _ => hHeld) ?_
      clear hK K
      try simp only [Act.put, List.setIfInBounds_toArray, List.set_cons_zero, List.set_cons_succ]
      refine OrdL.wpL_take (i := 8) (v := ?_) opAt_8 [] (by kernel_rfl) (by kernel_rfl) (by kernel_rfl) (by kernel_rfl) (by kernel_rfl) (by kernel_rfl) (fun _ _ _ h => h) (Or.inl ⟨by rfl, ?_⟩) hHeld ?_
      rotate_left
      · (intro w' hSw; go_simp; try with_reducible rfl)
      try simp only [Act.put, List.setIfInBounds_toArray, List.set_cons_zero, List.set_cons_succ]
      refine OrdL.wpL_take (i := 9) (v := ?_) opAt_9 [] (by kernel_rfl) (by kernel_rfl) (by kernel_rfl) (by kernel_rfl) (by kernel_rfl) (by kernel_rfl) (fun _ _ _ h => h) (Or.inl ⟨by rfl, ?_⟩) hHeld ?_
      rotate_left
      · (intro w' hSw; go_simp; try with_reducible rfl)
      try simp only [Act.put, List.setIfInBounds_toArray, List.set_cons_zero, List.set_cons_succ]
      refine OrdL.wpL_take (i := 10) (v := ?_) opAt_10 [11] (by kernel_rfl) (by kernel_rfl) (by kernel_rfl) (by kernel_rfl) (by kernel_rfl) (by kernel_rfl) (fun _ _ _ h => h) (Or.inl ⟨by rfl, ?_⟩) hHeld ?_
      rotate_left
      · (intro w' hSw; go_simp; try with_reducible rfl)
      try simp only [Act.put, List.setIfInBounds_toArray, List.set_cons_zero, List.set_cons_succ]
      refine OrdL.wpL_take (i := 11) (v := ?_) opAt_11 [] (by kernel_rfl) (by kernel_rfl) (by kernel_rfl) (by kernel_rfl) (by kernel_rfl) (by kernel_rfl) (fun _ _ _ h => h) (Or.inl ⟨by rfl, ?_⟩) hHeld ?_
      rotate_left
      · (intro w' hSw; go_simp; try with_reducible rfl)
      try simp only [Act.put, List.setIfInBounds_toArray, List.set_cons_zero, List.set_cons_succ]
      refine OrdL.wpL_ready (rs := [12]) (by kernel_rfl) (by simp) ?_
      refine OrdL.AllL.cons rfl (fun K hK => ?_) OrdL.AllL.nil
      have f3 := HC5.out.f3
      go_simp
      refine hK.out _ _ (fun h => by simp at h) ?_
      refine OrdL.wpL_done (by kernel_rfl) ?_ _
      refine NoPanic.normal ?_
      go_wp2_with fail
      go_ret
      rw [Hans.out, ← Hu2.out]
      exact ⟨rfl, M3, R3, HM5.out.setU u2, HG5.out.setCell (HMA.out) _, fun i e => (H31.out i e).imp id (fun e => Nat.le_trans HS4.out e), fun i e => (H32.out i e).imp id (fun e => Nat.le_trans HS4.out e)⟩
end
end Go.Proofs.YtfabodpefbdbjaaGreatDoor

/-
  Layer 7: how many bytes the files have, call by call (plain mathematics).
-/
set_option linter.unusedVariables false
set_option linter.unusedSimpArgs false
namespace Go.Proofs.YtfabodpefbdbjaaGreatDoor
open Go.RowKit Go.Maps

theorem usedL_cons (g : Nat → FSt) (x : Ent) (l : List Ent) : usedL g (x :: l) = (g x.2).bytes.length + usedL g l := by simp [usedL]
theorem usedL_insL (g : Nat → FSt) (n : ByteArray) (i : Nat) : ∀ m : List Ent, usedL g (insL n i m) = usedL g m + (g i).bytes.length
  | [] => by simp [insL, usedL]
  | x :: r => by
    unfold insL
    split
    · simp only [usedL_cons]; omega
    · simp only [usedL_cons, usedL_insL g n i r]; omega
theorem usedL_congr {g h : Nat → FSt} {l : List Ent} (e : ∀ x, x ∈ l → h x.2 = g x.2) : usedL h l = usedL g l := by
  unfold usedL
  congr 1
  exact List.map_congr_left (fun x hx => by rw [e x hx])
theorem withoutL_none {l : List Ent} {n : ByteArray} (h : ∀ x, x ∈ l → x.1 ≠ n) : withoutL l n = l := by
  unfold withoutL
  exact List.filter_eq_self.2 (fun x hx => by simpa using toList_ne (h x hx))
theorem usedL_split (g : Nat → FSt) {l : List Ent} (hs : SortE l) (n : ByteArray) : usedL g l = usedL g (withoutL l n) + lenAt g l n := by
  induction l with
  | nil => simp [usedL, lenAt, withoutL, findL]
  | cons x r ih =>
    have hr : SortE r := (List.pairwise_cons.1 hs).2
    by_cases e : x.1 = n
    · have h1 : ∀ y, y ∈ r → y.1 ≠ n := fun y hy e' => (List.pairwise_cons.1 hs.ne).1 y hy (e.trans e'.symm)
      have h2 : withoutL (x :: r) n = r := by
        have h3 := withoutL_none h1
        unfold withoutL at h3 ⊢
        rw [List.filter_cons_of_neg (by simp [e]), h3]
      have h4 : lenAt g (x :: r) n = (g x.2).bytes.length := by
        have h5 : findL (x :: r) n = some x.2 := (findL_iff hs).2 (by rw [← e]; simp)
        unfold lenAt
        rw [h5]
      rw [h2, h4, usedL_cons]
      omega
    · have h2 : withoutL (x :: r) n = x :: withoutL r n := by
        unfold withoutL
        rw [List.filter_cons_of_pos (by simpa using toList_ne e)]
      have h4 : lenAt g (x :: r) n = lenAt g r n := by
        have h5 : findL (x :: r) n = findL r n := by
          unfold findL
          rw [List.find?_cons_of_neg (by simpa using toList_ne e)]
        unfold lenAt
        rw [h5]
      rw [h2, h4, usedL_cons, usedL_cons, ih hr]
      omega
theorem usedL_with (g : Nat → FSt) (l : List Ent) (n : ByteArray) (i : Nat) : usedL g (withL l n i) = usedL g (withoutL l n) + (g i).bytes.length := by
  rw [withL_eq, usedL_insL]
section
variable {s : FsP} {q T : Nat}
theorem used_create (hf : FInv s q T) (n : ByteArray) : (createK n s).2.used + bytesN s.file s.dir.now [n] = s.used + bytesN (createK n s).2.file (createK n s).2.dir.now [n] := by
  rw [bytesN_one, bytesN_one]
  unfold createK FsP.used createP
  split
  · simp
  · split
    · simp
    · split
      · simp
      · rename_i h1 h2 h3
        simp only [if_true]
        have hnone : findL s.dir.now n = none := by simpa using h2
        have hne := findL_none.1 hnone
        have hold : ∀ x, x ∈ s.dir.now → upd s.file (s.dir.last + 1) (FSt.new []) x.2 = s.file x.2 := fun x hx => upd_other _ _ (by have := (hf.ino.now.1 x hx).2.2; omega)
        have hnow : (s.dir.made n).now = withL s.dir.now n (s.dir.last + 1) := by unfold PSt.made; rw [PSt.push_now]; rfl
        rw [hnow]
        have e1 : usedL (upd s.file (s.dir.last + 1) (FSt.new [])) (withL s.dir.now n (s.dir.last + 1)) = usedL s.file s.dir.now := by
          rw [usedL_with, withoutL_none hne, usedL_congr hold, upd_same]
          simp [FSt.new, FSt.bytes]
        have e2 : lenAt s.file s.dir.now n = 0 := by unfold lenAt; rw [hnone]
        have e3 : lenAt (upd s.file (s.dir.last + 1) (FSt.new [])) (withL s.dir.now n (s.dir.last + 1)) n = 0 := by
          unfold lenAt
          rw [findL_with_same hf.dir.now.1]
          simp [upd_same, FSt.new, FSt.bytes]
        rw [e1, e2, e3]
theorem used_remove (hf : FInv s q T) (n : ByteArray) : (removeK n s).2.used + bytesN s.file s.dir.now [n] = s.used + bytesN (removeK n s).2.file (removeK n s).2.dir.now [n] := by
  rw [bytesN_one, bytesN_one]
  unfold removeK FsP.used removeP
  split
  · simp
  · split
    · simp only [PSt.push_now]
      have e1 := usedL_split s.file hf.dir.now.1 n
      have e2 : lenAt s.file ((Dd.rm n).app s.dir.now) n = 0 := by
        show lenAt s.file (withoutL s.dir.now n) n = 0
        unfold lenAt
        rw [findL_without_same]
      rw [e2, e1]
      rfl
    · simp
theorem used_sync (hf : FInv s q T) : (syncDirK s).2.used + bytesN s.file s.dir.now [] = s.used + bytesN (syncDirK s).2.file (syncDirK s).2.dir.now [] := by
  rw [bytesN_nil, bytesN_nil]
  have e : (s.dir.settle s.dir.deeds.length).now = s.dir.now := by
    unfold PSt.settle PSt.now
    rw [List.take_of_length_le (Nat.le_refl _)]
    rfl
  show usedL s.file (s.dir.settle s.dir.deeds.length).now + 0 = _
  rw [e]
  rfl
theorem used_on (hf : FInv s q T) (n : ByteArray) (k : FSt → Nat × FSt) : (onF s n k).2.used + bytesN s.file s.dir.now [n] = s.used + bytesN (onF s n k).2.file (onF s n k).2.dir.now [n] := by
  rw [bytesN_one, bytesN_one]
  unfold onF
  split
  · rename_i h0
    have hso := hf.dir.now.1
    generalize hj : (nodeF s n).2 = j
    have hi : findL s.dir.now n = some j := by
      unfold nodeF at h0 hj
      split at h0
      · cases h0
      · rename_i h1
        rw [if_neg h1] at hj
        cases hf2 : findL s.dir.now n with
        | none => rw [hf2] at h0; cases h0
        | some m => rw [hf2] at hj; rw [← hj]
    have hold : ∀ t : FSt, ∀ x, x ∈ withoutL s.dir.now n → upd s.file j t x.2 = s.file x.2 := fun t x hx => upd_other _ _ (fun e => by
      have h1 := mem_withoutL.1 hx
      have h2 := hf.ino.now.2 x h1.1 _ (findL_mem hi) e
      exact h1.2 (congrArg Prod.fst h2))
    unfold FsP.used
    simp only
    rw [usedL_split s.file hso n, usedL_split (upd s.file j _) hso n, usedL_congr (hold _)]
    omega
  · rfl
end
end Go.Proofs.YtfabodpefbdbjaaGreatDoor

/-
  Layer 7: bury: the files whose inodes live no more are dropped.
-/
set_option linter.unusedVariables false
set_option linter.unusedSimpArgs false
namespace Go.Proofs.YtfabodpefbdbjaaGreatDoor
open Go.RowKit Go.Maps

theorem hmkF (w : World) : (Instr.makeMap 92 none).run Tryz.prog w = .ok (.map (some w.heap.size)) (w.alloc (.map #[] 0)) := by
  simp [Instr.makeMap, run_underlying Tryz.underlying92, go_sem, Result.andThen]
theorem sum_ones {α : Type} : ∀ l : List α, (l.map fun _ => 1).sum = l.length
  | [] => rfl
  | x :: r => by simp only [List.map_cons, List.sum_cons, sum_ones r, List.length_cons]; omega
theorem GInv.live_few {s : PSt} (h : GInv s) (ho : s.Ok) : s.live.length ≤ s.last + 1 := by
  have hd : s.live.Nodup := (h.live_lt ho).imp (fun hlt e => by omega)
  have h1 := sum_nodup_le (f := fun _ => 1) (n := s.last) hd (fun i hi => (h.live_le ho.settled i hi).2)
  rw [sum_ones, sum_ones, List.length_range] at h1
  exact h1
section
variable {w w' : World} {A X B n u q T : Nat} {hv : Value} {K : List Nat} {g : Nat → Nat} {MX M R N : Nat → Prop} {MF : Nat → Nat → Prop} {s : FsP}
set_option maxRecDepth 100000 in
set_option maxHeartbeats 4000000 in
theorem kbury (h : FsAt w A X B n u hv K g MX MF M R s) (hlive : ∀ i, i ∈ s.dir.live → i ∈ K) (hgi : GInv s.dir) (hl : s.dir.safe.length ≤ 200) (hla : s.dir.last ≤ 10000) :
    Calls Tryz.prog 61 #[.pointer (some ⟨A, 0, none⟩)] w fun e w' => e = .returned (.tuple #[]) ∧ ∃ B' n', FsAt w' A X B' n' u hv s.dir.live g MX MF (fun i => M i ∨ i = B') R s ∧ Chg (fun i => i = A) w w' ∧ w.heap.size ≤ B' ∧ n' ≤ s.dir.live.length := by
  have H := Lib.hid h
  have HK := Lib.hid hlive
  have HL := Lib.hid (show s.dir.live.length ≤ 10001 from Nat.le_trans (hgi.live_few h.dir.ok) (by omega))
  obtain ⟨m, hm⟩ : ∃ m, m = w.heap.size := ⟨_, rfl⟩
  obtain ⟨wa, hwa⟩ : ∃ wa, wa = w.alloc (.map #[] 0) := ⟨_, rfl⟩
  have hba : Below w.heap.size w wa := by rw [hwa]; exact (Below.refl _ _).alloc (Nat.le_refl _) _
  have hU0 : MapF wa m 0 [] g := by rw [hwa, hm]; exact MapF.new w g
  have Ha := Lib.hid (H.out.on hba)
  have HBa := Lib.hid hba
  have hc0 := Ha.out.cells.c0
  have HX := Lib.hid (hlive_m Ha.out.dir hl hla)
  have HU0 := Lib.hid hU0
  have hmM : ∀ i, M i → i < m := fun i hi => by rw [hm]; exact h.ml i hi
  have hmR : ∀ i, R i → i < m := fun i hi => by rw [hm]; exact h.rl i hi
  have HmM := Lib.hid hmM
  have HmR := Lib.hid hmR
  have HA := Lib.hid (hmM A h.mA)
  have hmk : (Instr.makeMap 92 none).run Tryz.prog w = .ok (.map (some m)) wa := by rw [hm, hwa]; exact hmkF w
  have Hm := Lib.hid hm
  clear h hlive hgi hl hla hU0 hba hmM hmR hm hwa
  go_enter Tryz.func61, Tryz.ntmps61
  go_wp2_with fail
  refine HX.out.mono ?_
  rintro e w5 ⟨v, rfl, hus, hb5⟩
  have HB5 := Lib.hid (HBa.out.trans (hb5.mono HBa.out.size))
  have HU5 := Lib.hid (HU0.out.on hb5)
  have H5 := Lib.hid (Ha.out.on hb5)
  have HV5 := Lib.hid (hus.mono (R' := fun i => m < i) (fun i hi => by have := hi.1; have h1 := HU0.out.lt; omega))
  obtain ⟨A5, c5, rfl, h51, h52, _⟩ := hus
  obtain ⟨q, hq⟩ : ∃ q, q = s.dir.live.length := ⟨_, rfl⟩
  rw [← hq] at h51 HV5 HL ⊢
  have hq2 : q ≤ 10001 := HL.out
  have Hq := Lib.hid hq
  clear hb5 hq hc0
  go_wp2_with fail
  go_loopw [12] (fun i wr2 => ∃ (k n : Nat) (lU : List Nat), k ≤ q ∧ i = .int .i64 k ∧ Chg (fun i => i = m) w5 wr2 ∧ MapF wr2 m n lU g ∧ n ≤ k ∧ ∀ i, i ∈ lU ↔ i ∈ s.dir.live.take k) (fun i _ => q - (intOf i).toNat)
  case atStart => exact ⟨0, 0, [], by omega, rfl, Chg.refl, HU5.out, by omega, by simp⟩
  case round =>
    obtain ⟨k, nk, lU, hk, rfl, hch, hmu, hn, hmem⟩ := hrel
    have HCk := Lib.hid hch
    have HMk := Lib.hid hmu
    have Hmem := Lib.hid hmem
    have Hk := Lib.hid (H5.out.chg hch (fun i e => ⟨fun e' => by have := HmM.out i e'; omega, fun e' => by have := HmR.out i e'; omega⟩))
    clear hch hmu hmem
    by_cases hkq : k < q
    · have hdq : decide ((k : Int) < (q : Int)) = true := decide_eq_true (by omega)
      obtain ⟨xi, hx⟩ : ∃ x, s.dir.live[k]? = some x := ⟨s.dir.live[k]'(by have := Hq.out; omega), List.getElem?_eq_getElem _⟩
      obtain ⟨b5, o5, rfl, hb5, e0⟩ := (HV5.out.chg HCk.out (fun i hi e => by omega)).at_ rfl hx
      have hxK := HK.out xi (List.mem_of_getElem? hx)
      have hx9 : xi < 1000000000 := Hk.out.ks xi hxK
      have hlook := Hk.out.map.look hx9 hxK
      have hc0 := Hk.out.cells.c1
      obtain ⟨w6, hrun, hmu6, ht6⟩ := HMk.out.store (by omega) hx9 (g xi)
      have HM6 := Lib.hid (hmu6.congr (K' := xi :: lU) (g' := g) (fun i => Iff.rfl) (fun i hi => by unfold updN; split <;> simp_all))
      have HC6 := Lib.hid (HCk.out.trans (Chg.of_turned ht6) (fun i hi => .inl hi))
      have Hm6 : Hid (∀ i, i ∈ xi :: lU ↔ i ∈ s.dir.live.take (k + 1)) := Lib.hid (fun i => by
        rw [take_next6 hx, List.mem_cons, List.mem_append, Hmem.out i, List.mem_singleton]
        exact Or.comm)
      clear hx hb5 hmu6 ht6 hxK hx9
      generalize g xi = Fi at *
      go_wp2_with fail
      go_roundw
      case rel => exact ⟨k + 1, nk + 1, _, by omega, by go_num, HC6.out, HM6.out, by omega, Hm6.out⟩
      case measure => simp [intOf]; omega
    · have hdq : decide ((k : Int) < (q : Int)) = false := decide_eq_false (by omega)
      have hkk : k = q := by omega
      have HUl : Hid (MapF wr m nk s.dir.live g) := Lib.hid (HMk.out.congr (fun i => by rw [Hmem.out i, hkk, Hq.out, List.take_length]) (fun i hi => rfl))
      have hf1 := Hk.out.cells.f1
      have hc1 := Hk.out.cells.c1
      have HCw : Hid (Chg (fun i => i = A) w wr) := ⟨by rw [HCk.out.os, HB5.out.os], by rw [HCk.out.tape, HB5.out.tape], by rw [HCk.out.output, HB5.out.output], Nat.le_trans HB5.out.size HCk.out.size, fun i hi hn => (HCk.out.block i (Nat.lt_of_lt_of_le hi HB5.out.size) (fun e => by have := Hm.out; omega)).trans (HB5.out.block i hi)⟩
      go_wp2_with fail
      go_end0
      exact ⟨rfl, m, nk, Hk.out.swap HUl.out HK.out (fun e => by have := HmM.out m e; omega) (fun e => by have := HmR.out m e; omega), HCw.out.setCell rfl _, by have := Hm.out; omega, by have := Hq.out; omega⟩
end
end Go.Proofs.YtfabodpefbdbjaaGreatDoor

