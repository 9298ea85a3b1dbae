/-
  SegNames, part 5 of what the law's proof leans on: SxRow, SxPart, SxPins, SxPdq.
-/
import Derived.Sort.LotA
import Derived.Sort.Row
import Derived.WalkKit
import Derived.BigGuard
import Derived.BigCall
import Derived.CellFam
import Derived.Deep.Draws
import Derived.Deep.QuietTactic
import Derived.BigQuiet
import Derived.Sort.LotB
import Derived.Test.YtfabodpefbdbjaaGreatDoorSegNamesQ4
import Derived.Sort.LotC
import Derived.Deep.CutRange
import Derived.Laws.Bits64b
import Derived.Sort.LotD3
import Derived.Deep.Cut
/- SxRow -/

/-
  slices.Sort at uint64: a row of numbers in memory; cmp.Less; insertionSortOrdered.
-/
set_option linter.unusedVariables false
set_option linter.unusedSimpArgs false
namespace Go.Proofs.YtfabodpefbdbjaaGreatDoor
open Go.RowKit Go.Sort

/-- block blk of w is a row of m numbers, which from off on are those of d -/
def RowU (w : World) (blk off m : Nat) (d : Array Int) : Prop := ∃ cur, w.heap[blk]? = some (.cells cur 41 (0, 0)) ∧ cur.size = m ∧ off + d.size ≤ m ∧ ∀ t, t < d.size → cur[off + t]? = some (.int .u64 d[t]!)
/-- what has become of the row since w0 -/
structure StU (w0 w : World) (blk off m : Nat) (d : Array Int) : Prop where
  row : RowU w blk off m d
  chg : Chg (fun i => i = blk) w0 w
section
variable {w0 w w' : World} {blk off m : Nat} {d : Array Int}
theorem RowU.lt (h : RowU w blk off m d) : blk < w.heap.size := by obtain ⟨cur, hb, _⟩ := h; exact (Array.getElem?_eq_some_iff.1 hb).1
theorem RowU.cell (h : RowU w blk off m d) {t : Nat} (ht : t < d.size) : w.cell? ⟨blk, off + t, none⟩ = some (.int .u64 d[t]!) := by
  obtain ⟨cur, hb, _, _, hc⟩ := h
  simp [World.cell?, hb, hc t ht]
theorem RowU.frozen (h : RowU w blk off m d) (t : Nat) : w.frozen? ⟨blk, off + t, none⟩ = false := by
  obtain ⟨cur, hb, _⟩ := h
  simp [World.frozen?, hb]
theorem RowU.of_block (h : RowU w blk off m d) (hb : w'.heap[blk]? = w.heap[blk]?) : RowU w' blk off m d := by
  obtain ⟨cur, h1, h2⟩ := h
  exact ⟨cur, hb.trans h1, h2⟩
theorem RowU.set (h : RowU w blk off m d) {t : Nat} (ht : t < d.size) (x : Int) : RowU (w.setCell ⟨blk, off + t, none⟩ (.int .u64 x)) blk off m (d.setIfInBounds t x) := by
  obtain ⟨cur, hb, hs, hm, hc⟩ := h
  have hlt := (Array.getElem?_eq_some_iff.1 hb).1
  have hx : off + t < cur.size := by omega
  refine ⟨cur.setIfInBounds (off + t) (.int .u64 x), ?_, by simp [hs], by simpa using hm, fun s hs2 => ?_⟩
  · rw [Go.Sort.setCell_eq]
    simp [Go.Sort.mapBlock, Array.getElem?_modify, hb, Go.Sort.onCells]
  · simp only [Array.size_setIfInBounds] at hs2
    by_cases e : s = t
    · subst e
      rw [Array.getElem?_setIfInBounds_self_of_lt hx]
      simp [getElem!_def, hs2]
    · have h1 : (d.setIfInBounds t x)[s]! = d[s]! := by
        simp only [getElem!_def, Array.getElem?_setIfInBounds]
        rw [if_neg (by omega)]
      rw [h1, Array.getElem?_setIfInBounds, if_neg (by omega)]
      exact hc s hs2
theorem StU.refl (h : RowU w blk off m d) : StU w w blk off m d := ⟨h, Chg.refl⟩
theorem StU.on (h : StU w0 w blk off m d) (hb : Below w.heap.size w w') : StU w0 w' blk off m d :=
  ⟨h.row.of_block (hb.block blk h.row.lt), h.chg.trans (Chg.of_below (M := fun _ => False) hb) (fun i e => e.elim)⟩
theorem StU.drewN (h : StU w0 w blk off m d) (q : Nat) : StU w0 (w.drewN q) blk off m d := h.on (below_drewN (Below.refl _ _) _)
theorem StU.set (h : StU w0 w blk off m d) {t : Nat} (ht : t < d.size) (x : Int) : StU w0 (w.setCell ⟨blk, off + t, none⟩ (.int .u64 x)) blk off m (d.setIfInBounds t x) := ⟨h.row.set ht x, h.chg.setCell rfl _⟩
theorem StU.swap (h : StU w0 w blk off m d) {j k : Nat} (hj : j < d.size) (hk : k < d.size) : StU w0 ((w.setCell ⟨blk, off + j, none⟩ (.int .u64 d[k]!)).setCell ⟨blk, off + k, none⟩ (.int .u64 d[j]!)) blk off m (swp d j k) :=
  (h.set hj _).set (by simpa using hk) _
theorem StU.then_ {w1 : World} {d' : Array Int} (h : StU w0 w blk off m d) (k : StU w w1 blk off m d') : StU w0 w1 blk off m d' := ⟨k.row, h.chg.trans k.chg (fun i e => .inl e)⟩
end
/-- the row as the functions take it -/
abbrev slU (blk off n cap : Nat) : Value := .slice (some ⟨blk, off, none⟩) n cap
set_option maxRecDepth 100000 in
theorem hless (x y : Int) (w : World) : Calls Tryz.prog 197 #[.int .u64 x, .int .u64 y] w fun e w' => e = .returned (.bool (ltInt x y)) ∧ w' = w := by
  unfold ltInt
  go_enter Tryz.func197, Tryz.ntmps197
  go_wp2
  go_ret
  exact ⟨rfl, rfl⟩
theorem ins_go (a j : Nat) (d : Array Int) (hj : a < j) (hl : ltInt d[j]! d[j - 1]! = true) : insInner ltInt a j d = insInner ltInt a (j - 1) (swp d j (j - 1)) := by
  obtain ⟨k, rfl⟩ : ∃ k, j = k + 1 := ⟨j - 1, by omega⟩
  rw [Nat.add_sub_cancel] at hl
  rw [insInner, if_pos (by simp [hj, hl]), Nat.add_sub_cancel]
theorem ins_stop (a j : Nat) (d : Array Int) (h : j ≤ a ∨ ltInt d[j]! d[j - 1]! = false) : insInner ltInt a j d = d := by
  cases j with
  | zero => rw [insInner]
  | succ k =>
    rw [insInner, if_neg]
    rcases h with h | h
    · simp; omega
    · rw [Nat.add_sub_cancel] at h; simp [h]
theorem out_go (a b i : Nat) (d : Array Int) (h : i < b) : insOuter ltInt a b i d = insOuter ltInt a b (i + 1) (insInner ltInt a i d) := by rw [insOuter, if_pos h]
theorem out_stop (a b i : Nat) (d : Array Int) (h : ¬ i < b) : insOuter ltInt a b i d = d := by rw [insOuter, if_neg h]
end Go.Proofs.YtfabodpefbdbjaaGreatDoor

/-
  slices.Sort at uint64: insertionSortOrdered.
-/
set_option linter.unusedVariables false
set_option linter.unusedSimpArgs false
namespace Go.Proofs.YtfabodpefbdbjaaGreatDoor
open Go.RowKit Go.Sort

set_option maxRecDepth 100000 in
set_option maxHeartbeats 4000000 in
theorem hins (blk off m cap a b : Nat) (d : Array Int) (w : World) (h : RowU w blk off m d) (hab : a ≤ b) (hb : b ≤ d.size) (hsz : d.size ≤ 1000000) :
    Calls Tryz.prog 191 #[slU blk off d.size cap, .int .i64 (a : Int), .int .i64 (b : Int)] w fun e w' => (∃ u, e = .returned u) ∧ StU w w' blk off m (insertionSort ltInt d a b) := by
  have H := Lib.hid h
  obtain ⟨n, hn⟩ : ∃ n, n = d.size := ⟨_, rfl⟩
  have Hn := Lib.hid hn
  rw [← hn] at hb hsz
  clear h
  unfold slU
  rw [← hn]
  clear hn
  go_enter Tryz.func191, Tryz.ntmps191
  go_wp2
  go_loopw [6] (fun vi wr => ∃ (i : Nat) (dk : Array Int), vi = .int .i64 i ∧ a < i ∧ i ≤ b + 1 ∧ dk.size = n ∧ StU w wr blk off m dk ∧ insOuter ltInt a b i dk = insertionSort ltInt d a b) (fun vi _ => b + 1 - (intOf vi).toNat)
  case atStart => exact ⟨a + 1, d, by go_num, by omega, by omega, Hn.out.symm, StU.refl H.out, rfl⟩
  case round =>
    obtain ⟨i, dk, rfl, hai, hib, hsk, hst, hO⟩ := hrel
    have HO := Lib.hid hO
    have HS := Lib.hid hst
    have Hsk := Lib.hid hsk
    clear hO hst hsk
    go_wp2
    · have hlt : i < b := by assumption
      go_loopw [7] (fun vj wr2 => ∃ (j : Nat) (dj : Array Int), vj = .int .i64 j ∧ a ≤ j ∧ j ≤ i ∧ dj.size = n ∧ StU w wr2 blk off m dj ∧ insInner ltInt a j dj = insInner ltInt a i dk) (fun vj _ => (intOf vj).toNat)
      case atStart => exact ⟨i, dk, rfl, by omega, Nat.le_refl _, Hsk.out, HS.out, rfl⟩
      case round =>
        obtain ⟨j, dj, rfl, haj, hji, hsj, hst2, hI⟩ := hrel
        obtain ⟨G, hG⟩ : ∃ G : Nat → Int, ∀ t, G t = dj[t]! := ⟨fun t => dj[t]!, fun _ => rfl⟩
        have hcw : ∀ t, t < n → wr.cell? ⟨blk, off + t, none⟩ = some (.int .u64 (G t)) := fun t ht => by rw [hG]; exact hst2.row.cell (by omega)
        have hfw : ∀ t, t < n → wr.frozen? ⟨blk, off + t, none⟩ = false := fun t _ => hst2.row.frozen t
        have HG := Lib.hid hG
        have HI := Lib.hid hI
        have HS2 := Lib.hid hst2
        have Hsj := Lib.hid hsj
        clear hG hI hst2 hsj
        have OUT : Hid ((j ≤ a ∨ ltInt dj[j]! dj[j - 1]! = false) → ∀ wq, StU w wq blk off m dj → ∃ (i' : Nat) (dk' : Array Int), Value.int .i64 ((i : Int) + 1) = .int .i64 (i' : Nat) ∧ a < i' ∧ i' ≤ b + 1 ∧ dk'.size = n ∧ StU w wq blk off m dk' ∧ insOuter ltInt a b i' dk' = insertionSort ltInt d a b) :=
          fun hs wq hq => ⟨i + 1, dj, by go_num, by omega, by omega, Hsj.out, hq, by rw [← HO.out, out_go _ _ _ _ hlt, ← HI.out, ins_stop _ _ _ hs]⟩
        go_wp2
        by_cases hja : a < j
        · go_quiet (first | (go_at_call 197; refine Calls.quiet_of_same (hless _ _ _)))
          go_wp2
          · have hl : ltInt (G j) (G (j - 1)) = true := by assumption
            go_region
            all_goals go_wp2
            go_roundw
            case rel =>
              refine ⟨j - 1, swp dj j (j - 1), by congr 1; omega, by omega, by omega, by rw [size_swp]; exact Hsj.out, ?_, ?_⟩
              · rw [HG.out, HG.out]
                exact (HS2.out.drewN _).swap (by have := Hsj.out; omega) (by have := Hsj.out; omega)
              · rw [← HI.out, ins_go a j dj hja (by rw [← HG.out, ← HG.out]; exact hl)]
            case measure => simp [intOf]; omega
          · have hl : ltInt (G j) (G (j - 1)) = false := by assumption
            go_roundw
            case rel => exact OUT.out (Or.inr (by rw [← HG.out, ← HG.out]; exact hl)) _ (HS2.out.drewN _)
            case measure => simp [intOf]; omega
        · go_quiet (first | (go_at_call 197; refine Calls.quiet_of_same (hless _ _ _)))
          go_wp2
          go_roundw
          case rel => exact OUT.out (Or.inl (by omega)) _ (HS2.out.drewN _)
          case measure => simp [intOf]; omega
    · have hge : ¬ i < b := by assumption
      go_end0
      exact ⟨⟨_, rfl⟩, by rw [← HO.out, out_stop _ _ _ _ hge]; exact HS.out⟩
end Go.Proofs.YtfabodpefbdbjaaGreatDoor

/-
  slices.Sort at uint64: siftDownOrdered, heapSortOrdered.
-/
set_option linter.unusedVariables false
set_option linter.unusedSimpArgs false
namespace Go.Proofs.YtfabodpefbdbjaaGreatDoor
open Go.RowKit Go.Sort

section
variable {hi f r : Nat} {d : Array Int}
theorem sd_stop (h : ¬ 2 * r + 1 < hi) : siftDown ltInt hi f r d = d := by rw [siftDown, dif_pos (by omega)]
theorem sd_right (h1 : 2 * r + 2 < hi) (h2 : ltInt d[f + (2 * r + 1)]! d[f + (2 * r + 1) + 1]! = true) :
    siftDown ltInt hi f r d = if ltInt d[f + r]! d[f + (2 * r + 2)]! then siftDown ltInt hi f (2 * r + 2) (swp d (f + r) (f + (2 * r + 2))) else d := by
  rw [siftDown, dif_neg (by omega), if_pos (by simp [h2]; omega)]
  cases h3 : ltInt d[f + r]! d[f + (2 * r + 2)]!
  · rfl
  · rw [if_neg (by simp), dif_pos h1, if_pos rfl]
theorem sd_left (h1 : 2 * r + 1 < hi) (h2 : ¬ 2 * r + 2 < hi ∨ ltInt d[f + (2 * r + 1)]! d[f + (2 * r + 1) + 1]! = false) :
    siftDown ltInt hi f r d = if ltInt d[f + r]! d[f + (2 * r + 1)]! then siftDown ltInt hi f (2 * r + 1) (swp d (f + r) (f + (2 * r + 1))) else d := by
  rw [siftDown, dif_neg (by omega), if_neg]
  · cases h3 : ltInt d[f + r]! d[f + (2 * r + 1)]!
    · rfl
    · rw [if_neg (by simp), if_pos rfl]
  · rcases h2 with h2 | h2
    · simp; omega
    · simp [h2]
end
set_option maxRecDepth 100000 in
set_option maxHeartbeats 8000000 in
theorem hsift (blk off m cap lo hi first : Nat) (d : Array Int) (w : World) (h : RowU w blk off m d) (hlo : lo ≤ 1000000) (hb : first + hi ≤ d.size) (hsz : d.size ≤ 1000000) :
    Calls Tryz.prog 204 #[slU blk off d.size cap, .int .i64 (lo : Int), .int .i64 (hi : Int), .int .i64 (first : Int)] w fun e w' => (∃ u, e = .returned u) ∧ StU w w' blk off m (siftDown ltInt hi first lo d) := by
  have H := Lib.hid h
  obtain ⟨n, hn⟩ : ∃ n, n = d.size := ⟨_, rfl⟩
  have Hn := Lib.hid hn
  rw [← hn] at hb hsz
  clear h
  unfold slU
  rw [← hn]
  clear hn
  go_enter Tryz.func204, Tryz.ntmps204
  go_wp2
  go_loopw [8] (fun vi wr => ∃ (r : Nat) (dj : Array Int), vi = .int .i64 r ∧ r ≤ 1000000 ∧ dj.size = n ∧ StU w wr blk off m dj ∧ siftDown ltInt hi first r dj = siftDown ltInt hi first lo d) (fun vi _ => hi - (intOf vi).toNat)
  case atStart => exact ⟨lo, d, rfl, hlo, Hn.out.symm, StU.refl H.out, rfl⟩
  case round =>
    obtain ⟨r, dj, rfl, hr, hsj, hst, hO⟩ := hrel
    obtain ⟨G, hG⟩ : ∃ G : Nat → Int, ∀ t, G t = dj[t]! := ⟨fun t => dj[t]!, fun _ => rfl⟩
    have hcw : ∀ t, t < n → wr.cell? ⟨blk, off + t, none⟩ = some (.int .u64 (G t)) := fun t ht => by rw [hG]; exact hst.row.cell (by omega)
    have hfw : ∀ t, t < n → wr.frozen? ⟨blk, off + t, none⟩ = false := fun t _ => hst.row.frozen t
    have HG := Lib.hid hG
    have HO := Lib.hid hO
    have HS := Lib.hid hst
    have Hsj := Lib.hid hsj
    clear hG hO hst hsj
    obtain ⟨c, hc⟩ : ∃ c, c = 2 * r + 1 := ⟨_, rfl⟩
    have hci : (2 : Int) * (r : Int) + 1 = (c : Int) := by omega
    obtain ⟨c1, hc1⟩ : ∃ c1, c1 = c + 1 := ⟨_, rfl⟩
    obtain ⟨p, hp⟩ : ∃ p, p = first + c := ⟨_, rfl⟩
    obtain ⟨p1, hp1⟩ : ∃ p1, p1 = p + 1 := ⟨_, rfl⟩
    obtain ⟨q, hq⟩ : ∃ q, q = first + r := ⟨_, rfl⟩
    by_cases h1 : c < hi
    · have w1 : IntKind.i64.wrap ((c : Int) + 1) = (c1 : Int) := by rw [show ((c : Int) + 1) = ((c1 : Nat) : Int) by omega]; exact IntWalk.i64_in _ (by omega)
      have w2 : IntKind.i64.wrap ((first : Int) + (c : Int)) = (p : Int) := by rw [show ((first : Int) + (c : Int)) = ((p : Nat) : Int) by omega]; exact IntWalk.i64_in _ (by omega)
      have w3 : IntKind.i64.wrap ((p : Int) + 1) = (p1 : Int) := by rw [show ((p : Int) + 1) = ((p1 : Nat) : Int) by omega]; exact IntWalk.i64_in _ (by omega)
      have w4 : IntKind.i64.wrap ((first : Int) + (r : Int)) = (q : Int) := by rw [show ((first : Int) + (r : Int)) = ((q : Nat) : Int) by omega]; exact IntWalk.i64_in _ (by omega)
      have w5 : IntKind.i64.wrap ((first : Int) + (c1 : Int)) = (p1 : Int) := by rw [show ((first : Int) + (c1 : Int)) = ((p1 : Nat) : Int) by omega]; exact IntWalk.i64_in _ (by omega)
      have w6 : (c : Int) + 1 = (c1 : Int) := by omega
      have b1 : p < n := by omega
      have b2 : q < n := by omega
      have b3 : c1 < hi → p1 < n := by omega
      have HE : Hid (c = 2 * r + 1 ∧ c1 = 2 * r + 2 ∧ p = first + (2 * r + 1) ∧ p1 = first + (2 * r + 1) + 1 ∧ p1 = first + (2 * r + 2) ∧ q = first + r) := by exact ⟨by omega, by omega, by omega, by omega, by omega, by omega⟩
      have hcb : c1 ≤ 1000001 := by omega
      have H1 : Hid (2 * r + 1 < hi) := by rw [← hc]; exact h1
      have Hrel : Hid (r < c ∧ r < c1) := ⟨by omega, by omega⟩
      have hne1 : ¬ (q = p) := by omega
      have hne2 : ¬ (q = p1) := by omega
      have hne3 : ¬ (p = q) := by omega
      have hne4 : ¬ (p1 = q) := by omega
      clear hc hc1 hp hp1 hq
      by_cases h2 : c1 < hi
      · have b4 := b3 h2
        have d2 : decide ((c1 : Int) < (hi : Int)) = true := decide_eq_true (by omega)
        cases hl1 : ltInt (G p) (G p1)
        · go_wp2
          go_quiet (first | (go_at_call 197; refine Calls.quiet_of_same (hless _ _ _)))
          go_wp2
          obtain ⟨W1, hW1⟩ : ∃ W1, W1 = wr.drewN nq := ⟨_, rfl⟩
          have hs1 : StU w W1 blk off m dj := by rw [hW1]; exact HS.out.drewN _
          rw [← hW1]
          clear hW1 hcw hfw
          have hcw : ∀ t, t < n → W1.cell? ⟨blk, off + t, none⟩ = some (.int .u64 (G t)) := fun t ht => by rw [HG.out]; exact hs1.row.cell (by have := Hsj.out; omega)
          have hfw : ∀ t, t < n → W1.frozen? ⟨blk, off + t, none⟩ = false := fun t _ => hs1.row.frozen t
          have HS1 := Lib.hid hs1
          clear hs1
          cases hl2 : ltInt (G q) (G p)
          · go_quiet (first | (go_at_call 197; refine Calls.quiet_of_same (hless _ _ _)))
            go_wp2
            first | go_end0 | refine bodyPost_ret (results_none rfl _ _ _) rfl ?_
            refine ⟨⟨_, rfl⟩, ?_⟩
            have e9 : siftDown ltInt hi first r dj = dj := by
              rw [sd_left H1.out (.inr (by rw [← HE.out.2.2.2.1, ← HE.out.2.2.1, ← HG.out, ← HG.out]; exact hl1)), if_neg]
              rw [← HE.out.2.2.1, ← HE.out.2.2.2.2.2, ← HG.out, ← HG.out, hl2]; simp
            rw [← HO.out, e9]
            exact HS1.out.drewN _
          · go_quiet (first | (go_at_call 197; refine Calls.quiet_of_same (hless _ _ _)))
            go_wp2
            go_region
            all_goals go_wp2
            go_roundw
            case rel =>
              refine ⟨c, swp dj q p, rfl, by omega, by rw [size_swp]; exact Hsj.out, ?_, ?_⟩
              · rw [HG.out, HG.out]
                exact (HS1.out.drewN _).swap (by have := Hsj.out; omega) (by have := Hsj.out; omega)
              · rw [← HO.out, sd_left (r := r) (d := dj) H1.out (.inr (by rw [← HE.out.2.2.2.1, ← HE.out.2.2.1, ← HG.out, ← HG.out]; exact hl1)), if_pos (by rw [← HE.out.2.2.1, ← HE.out.2.2.2.2.2, ← HG.out, ← HG.out]; exact hl2), ← HE.out.2.2.1, ← HE.out.2.2.2.2.2, HE.out.1]
            case measure => have h9 := Hrel.out; simp [intOf]; omega
        · go_wp2
          go_quiet (first | (go_at_call 197; refine Calls.quiet_of_same (hless _ _ _)))
          go_wp2
          obtain ⟨W1, hW1⟩ : ∃ W1, W1 = wr.drewN nq := ⟨_, rfl⟩
          have hs1 : StU w W1 blk off m dj := by rw [hW1]; exact HS.out.drewN _
          rw [← hW1]
          clear hW1 hcw hfw
          have hcw : ∀ t, t < n → W1.cell? ⟨blk, off + t, none⟩ = some (.int .u64 (G t)) := fun t ht => by rw [HG.out]; exact hs1.row.cell (by have := Hsj.out; omega)
          have hfw : ∀ t, t < n → W1.frozen? ⟨blk, off + t, none⟩ = false := fun t _ => hs1.row.frozen t
          have HS1 := Lib.hid hs1
          clear hs1
          cases hl2 : ltInt (G q) (G p1)
          · go_quiet (first | (go_at_call 197; refine Calls.quiet_of_same (hless _ _ _)))
            go_wp2
            first | go_end0 | refine bodyPost_ret (results_none rfl _ _ _) rfl ?_
            refine ⟨⟨_, rfl⟩, ?_⟩
            have e9 : siftDown ltInt hi first r dj = dj := by
              rw [sd_right (by have := HE.out.2.1; omega) (by rw [← HE.out.2.2.2.1, ← HE.out.2.2.1, ← HG.out, ← HG.out]; exact hl1), if_neg]
              rw [← HE.out.2.2.2.2.1, ← HE.out.2.2.2.2.2, ← HG.out, ← HG.out, hl2]; simp
            rw [← HO.out, e9]
            exact HS1.out.drewN _
          · go_quiet (first | (go_at_call 197; refine Calls.quiet_of_same (hless _ _ _)))
            go_wp2
            go_region
            all_goals go_wp2
            go_roundw
            case rel =>
              refine ⟨c1, swp dj q p1, rfl, by omega, by rw [size_swp]; exact Hsj.out, ?_, ?_⟩
              · rw [HG.out, HG.out]
                exact (HS1.out.drewN _).swap (by have := Hsj.out; omega) (by have := Hsj.out; omega)
              · rw [← HO.out, sd_right (r := r) (d := dj) (by have := HE.out.2.1; omega) (by rw [← HE.out.2.2.2.1, ← HE.out.2.2.1, ← HG.out, ← HG.out]; exact hl1), if_pos (by rw [← HE.out.2.2.2.2.1, ← HE.out.2.2.2.2.2, ← HG.out, ← HG.out]; exact hl2), ← HE.out.2.2.2.2.1, ← HE.out.2.2.2.2.2, HE.out.2.1]
            case measure => have h9 := Hrel.out; simp [intOf]; omega
      · have d2 : decide ((c1 : Int) < (hi : Int)) = false := decide_eq_false (by omega)
        go_wp2
        go_quiet (first | (go_at_call 197; refine Calls.quiet_of_same (hless _ _ _)))
        go_wp2
        obtain ⟨W1, hW1⟩ : ∃ W1, W1 = wr.drewN nq := ⟨_, rfl⟩
        have hs1 : StU w W1 blk off m dj := by rw [hW1]; exact HS.out.drewN _
        rw [← hW1]
        clear hW1 hcw hfw
        have hcw : ∀ t, t < n → W1.cell? ⟨blk, off + t, none⟩ = some (.int .u64 (G t)) := fun t ht => by rw [HG.out]; exact hs1.row.cell (by have := Hsj.out; omega)
        have hfw : ∀ t, t < n → W1.frozen? ⟨blk, off + t, none⟩ = false := fun t _ => hs1.row.frozen t
        have HS1 := Lib.hid hs1
        clear hs1
        cases hl2 : ltInt (G q) (G p)
        · go_quiet (first | (go_at_call 197; refine Calls.quiet_of_same (hless _ _ _)))
          go_wp2
          first | go_end0 | refine bodyPost_ret (results_none rfl _ _ _) rfl ?_
          refine ⟨⟨_, rfl⟩, ?_⟩
          have e9 : siftDown ltInt hi first r dj = dj := by
            rw [sd_left H1.out (.inl (by have := HE.out.2.1; omega)), if_neg]
            rw [← HE.out.2.2.1, ← HE.out.2.2.2.2.2, ← HG.out, ← HG.out, hl2]; simp
          rw [← HO.out, e9]
          exact HS1.out.drewN _
        · go_quiet (first | (go_at_call 197; refine Calls.quiet_of_same (hless _ _ _)))
          go_wp2
          go_region
          all_goals go_wp2
          go_roundw
          case rel =>
            refine ⟨c, swp dj q p, rfl, by omega, by rw [size_swp]; exact Hsj.out, ?_, ?_⟩
            · rw [HG.out, HG.out]
              exact (HS1.out.drewN _).swap (by have := Hsj.out; omega) (by have := Hsj.out; omega)
            · rw [← HO.out, sd_left (r := r) (d := dj) H1.out (.inl (by have := HE.out.2.1; omega)), if_pos (by rw [← HE.out.2.2.1, ← HE.out.2.2.2.2.2, ← HG.out, ← HG.out]; exact hl2), ← HE.out.2.2.1, ← HE.out.2.2.2.2.2, HE.out.1]
          case measure => have h9 := Hrel.out; simp [intOf]; omega
    · have HN : Hid (¬ 2 * r + 1 < hi) := by rw [← hc]; exact h1
      clear hc hc1 hp hp1 hq
      go_wp2
      first | go_end0 | refine bodyPost_ret (results_none rfl _ _ _) rfl ?_
      exact ⟨⟨_, rfl⟩, by rw [← HO.out, sd_stop HN.out]; exact HS.out⟩
end Go.Proofs.YtfabodpefbdbjaaGreatDoor

/-
  slices.Sort at uint64: heapSortOrdered, reverseRangeOrdered.
-/
set_option linter.unusedVariables false
set_option linter.unusedSimpArgs false
namespace Go.Proofs.YtfabodpefbdbjaaGreatDoor
open Go.RowKit Go.Sort

theorem size_sift (hi f : Nat) : ∀ (k r : Nat) (d : Array Int), hi - r ≤ k → (siftDown ltInt hi f r d).size = d.size := by
  intro k
  induction k with
  | zero => intro r d h; rw [sd_stop (by omega)]
  | succ k ih =>
    intro r d h
    by_cases h1 : 2 * r + 1 < hi
    · by_cases h2 : 2 * r + 2 < hi ∧ ltInt d[f + (2 * r + 1)]! d[f + (2 * r + 1) + 1]! = true
      · rw [sd_right h2.1 h2.2]
        split
        · rw [ih _ _ (by omega), size_swp]
        · rfl
      · rw [sd_left h1 (by
          rcases Classical.em (2 * r + 2 < hi) with h3 | h3
          · refine .inr ?_
            cases h4 : ltInt d[f + (2 * r + 1)]! d[f + (2 * r + 1) + 1]!
            · rfl
            · exact absurd ⟨h3, h4⟩ h2
          · exact .inl h3)]
        split
        · rw [ih _ _ (by omega), size_swp]
        · rfl
    · rw [sd_stop h1]
theorem size_siftDown (hi f r : Nat) (d : Array Int) : (siftDown ltInt hi f r d).size = d.size := size_sift hi f _ r d (Nat.le_refl _)
set_option maxRecDepth 100000 in
set_option maxHeartbeats 8000000 in
theorem hheap (blk off m cap a b : Nat) (d : Array Int) (w : World) (h : RowU w blk off m d) (hab : a ≤ b) (hb : b ≤ d.size) (hsz : d.size ≤ 1000000) :
    Calls Tryz.prog 192 #[slU blk off d.size cap, .int .i64 (a : Int), .int .i64 (b : Int)] w fun e w' => (∃ u, e = .returned u) ∧ StU w w' blk off m (heapSort ltInt d a b) := by
  have H := Lib.hid h
  obtain ⟨n, hn⟩ : ∃ n, n = d.size := ⟨_, rfl⟩
  have Hn := Lib.hid hn
  rw [← hn] at hb hsz
  clear h
  unfold slU
  rw [← hn]
  clear hn
  obtain ⟨hi, hhi⟩ : ∃ hi, hi = b - a := ⟨_, rfl⟩
  have e1 : (b : Int) - (a : Int) = (hi : Int) := by omega
  obtain ⟨k0, hk0⟩ : ∃ k0, k0 = (hi - 1) / 2 := ⟨_, rfl⟩
  have e2 : Int.tdiv ((hi : Int) - 1) 2 = (k0 : Int) := by
    by_cases h0 : hi = 0
    · rw [hk0, h0]; decide
    · rw [show (hi : Int) - 1 = ((hi - 1 : Nat) : Int) by omega, hk0]
      exact Int.ofNat_tdiv _ _ |>.symm
  have hib : hi ≤ 1000000 := by omega
  have hfi : a + hi ≤ n := by omega
  have Hhi := Lib.hid hhi
  have Hk0 := Lib.hid hk0
  have hk0b : k0 ≤ 1000000 := by omega
  clear hhi hk0
  go_enter Tryz.func192, Tryz.ntmps192
  go_wp2
  go_loopw [9] (fun vi wr => ∃ (k : Nat) (dk : Array Int), vi = .int .i64 ((k : Int) - 1) ∧ k ≤ k0 + 1 ∧ dk.size = n ∧ StU w wr blk off m dk ∧ heapBuild ltInt hi a k dk = heapBuild ltInt hi a (k0 + 1) d) (fun vi _ => (intOf vi + 1).toNat)
  case atStart => exact ⟨k0 + 1, d, by congr 1; omega, by omega, Hn.out.symm, StU.refl H.out, rfl⟩
  case round =>
    obtain ⟨k, dk, rfl, hk, hsk, hst, hO⟩ := hrel
    have HO := Lib.hid hO
    have HS := Lib.hid hst
    have Hsk := Lib.hid hsk
    clear hO hst hsk
    rcases k with _ | k
    · have e3 : ((0 : Nat) : Int) - 1 = -1 := by omega
      rw [e3]
      have HB : Hid (dk = heapBuild ltInt hi a (k0 + 1) d) := HO.out
      go_wp2_with fail
      go_loopw [10] (fun vi wr2 => ∃ (k : Nat) (dj : Array Int), vi = .int .i64 ((k : Int) - 1) ∧ k ≤ hi ∧ dj.size = n ∧ StU w wr2 blk off m dj ∧ heapPop ltInt a k dj = heapSort ltInt d a b) (fun vi _ => (intOf vi + 1).toNat)
      case atStart => exact ⟨hi, dk, by congr 1, by omega, Hsk.out, HS.out, by unfold heapSort; rw [← Hhi.out, ← Hk0.out, ← HB.out]⟩
      case round =>
        obtain ⟨k, dj, rfl, hk2, hsj, hst2, hO2⟩ := hrel
        have HO2 := Lib.hid hO2
        have HS2 := Lib.hid hst2
        have Hsj := Lib.hid hsj
        clear hO2 hst2 hsj
        rcases k with _ | k
        · have e4 : ((0 : Nat) : Int) - 1 = -1 := by omega
          rw [e4]
          go_wp2_with fail
          go_end0
          exact ⟨⟨_, rfl⟩, by rw [← HO2.out]; exact HS2.out⟩
        · have e4 : ((k + 1 : Nat) : Int) - 1 = (k : Int) := by omega
          rw [e4]
          obtain ⟨G, hG⟩ : ∃ G : Nat → Int, ∀ t, G t = dj[t]! := ⟨fun t => dj[t]!, fun _ => rfl⟩
          have hcw : ∀ t, t < n → wr.cell? ⟨blk, off + t, none⟩ = some (.int .u64 (G t)) := fun t ht => by rw [hG]; exact HS2.out.row.cell (by have := Hsj.out; omega)
          have hfw : ∀ t, t < n → wr.frozen? ⟨blk, off + t, none⟩ = false := fun t _ => HS2.out.row.frozen t
          have HG := Lib.hid hG
          clear hG
          obtain ⟨q, hq⟩ : ∃ q, q = a + k := ⟨_, rfl⟩
          have w1 : IntKind.i64.wrap ((a : Int) + (k : Int)) = (q : Int) := by rw [show ((a : Int) + (k : Int)) = ((q : Nat) : Int) by omega]; exact IntWalk.i64_in _ (by omega)
          have b1 : q < n := by omega
          have b2 : a < n := by omega
          have Hq := Lib.hid hq
          have hgo : ∀ wq, StU w wq blk off m (swp dj a q) → ∀ (Q : Ending → World → Prop), (∀ e w', (∃ u, e = .returned u) → StU w w' blk off m (siftDown ltInt k a 0 (swp dj a q)) → Q e w') →
              Calls Tryz.prog 204 #[slU blk off n cap, .int .i64 ((0 : Nat) : Int), .int .i64 (k : Int), .int .i64 (a : Int)] wq Q := fun wq hq Q hQ => by
            have hz : (swp dj a q).size = n := by rw [size_swp]; exact Hsj.out
            have hc := hsift blk off m cap 0 k a (swp dj a q) wq hq.row (by omega) (by rw [hz]; omega) (by rw [hz]; omega)
            rw [hz] at hc
            exact hc.mono fun e w' ⟨he, hs⟩ => hQ e w' he (hq.then_ hs)
          have Hgo := Lib.hid hgo
          have hend : ∀ w', StU w w' blk off m (siftDown ltInt k a 0 (swp dj a q)) → ∃ (k' : Nat) (dj' : Array Int), Value.int .i64 ((k : Int) - 1) = .int .i64 ((k' : Int) - 1) ∧ k' ≤ hi ∧ dj'.size = n ∧ StU w w' blk off m dj' ∧ heapPop ltInt a k' dj' = heapSort ltInt d a b :=
            fun w' hs => ⟨k, _, rfl, by omega, by rw [size_siftDown, size_swp]; exact Hsj.out, hs, by rw [← HO2.out, Hq.out]; rfl⟩
          have Hend := Lib.hid hend
          clear hgo hend
          by_cases hk0' : k = 0
          · have hqa : q = a := by omega
            clear hq
            subst hk0'
            subst hqa
            go_wp2_with fail
            go_region
            all_goals go_wp2_with fail
            refine Hgo.out _ (by simp only [HG.out]; exact (HS2.out.swap (by have := Hsj.out; omega) (by have := Hsj.out; omega)).on (Below.refl _ _).drew) _ ?_
            rintro e w3 ⟨u, rfl⟩ hs3
            have HS3 := Lib.hid hs3
            clear hs3
            go_wp2_with fail
            go_roundw
            case rel => exact Hend.out _ HS3.out
            case measure => simp [intOf]
          · have hne : ¬ a = q := by omega
            have hne2 : ¬ q = a := by omega
            clear hq
            go_wp2_with fail
            go_region
            all_goals go_wp2_with fail
            refine Hgo.out _ (by simp only [HG.out]; exact (HS2.out.swap (by have := Hsj.out; omega) (by have := Hsj.out; omega)).on (Below.refl _ _).drew) _ ?_
            rintro e w3 ⟨u, rfl⟩ hs3
            have HS3 := Lib.hid hs3
            clear hs3
            go_wp2_with fail
            go_roundw
            case rel => exact Hend.out _ HS3.out
            case measure => simp [intOf]
    · have e3 : ((k + 1 : Nat) : Int) - 1 = (k : Int) := by omega
      rw [e3]
      go_wp2_with fail
      have hc := hsift blk off m cap k hi a dk wr HS.out.row (by omega) (by rw [Hsk.out]; omega) (by rw [Hsk.out]; omega)
      rw [Hsk.out] at hc
      refine Calls.mono hc ?_
      rintro e w1 ⟨⟨u, rfl⟩, hs⟩
      have HS1 := Lib.hid (HS.out.then_ hs)
      clear hs hc
      go_wp2_with fail
      go_roundw
      case rel => exact ⟨k, _, rfl, by omega, by rw [size_siftDown]; exact Hsk.out, HS1.out, HO.out⟩
      case measure => simp [intOf]
theorem rev_go {i j : Nat} {d : Array Int} (h : i < j) : reverseLoop i j d = reverseLoop (i + 1) (j - 1) (swp d i j) := by rw [reverseLoop, if_pos h]
theorem rev_stop {i j : Nat} {d : Array Int} (h : ¬ i < j) : reverseLoop i j d = d := by rw [reverseLoop, if_neg h]
set_option maxRecDepth 100000 in
set_option maxHeartbeats 8000000 in
theorem hrev (blk off m cap a b : Nat) (d : Array Int) (w : World) (h : RowU w blk off m d) (hab : a < b) (hb : b ≤ d.size) (hsz : d.size ≤ 1000000) :
    Calls Tryz.prog 195 #[slU blk off d.size cap, .int .i64 (a : Int), .int .i64 (b : Int)] w fun e w' => (∃ u, e = .returned u) ∧ StU w w' blk off m (reverseRange d a b) := by
  have H := Lib.hid h
  obtain ⟨n, hn⟩ : ∃ n, n = d.size := ⟨_, rfl⟩
  have Hn := Lib.hid hn
  rw [← hn] at hb hsz
  clear h
  unfold slU
  rw [← hn]
  clear hn
  obtain ⟨z, hz⟩ : ∃ z, z = b - 1 := ⟨_, rfl⟩
  have e1 : (b : Int) - 1 = (z : Int) := by omega
  have Hz := Lib.hid hz
  have hzb : z < n := by omega
  clear hz
  go_enter Tryz.func195, Tryz.ntmps195
  go_wp2
  go_loopw [6, 7] (fun vi vj wr => ∃ (i j : Nat) (dk : Array Int), vi = .int .i64 i ∧ vj = .int .i64 j ∧ i ≤ n ∧ j < n ∧ dk.size = n ∧ StU w wr blk off m dk ∧ reverseLoop i j dk = reverseRange d a b) (fun vi vj _ => (intOf vj).toNat - (intOf vi).toNat)
  case atStart => exact ⟨a, z, d, rfl, rfl, by omega, hzb, Hn.out.symm, StU.refl H.out, by rw [Hz.out]; rfl⟩
  case round =>
    obtain ⟨i, j, dk, rfl, rfl, hin, hjn, hsk, hst, hO⟩ := hrel
    obtain ⟨G, hG⟩ : ∃ G : Nat → Int, ∀ t, G t = dk[t]! := ⟨fun t => dk[t]!, fun _ => rfl⟩
    have hcw : ∀ t, t < n → wr.cell? ⟨blk, off + t, none⟩ = some (.int .u64 (G t)) := fun t ht => by rw [hG]; exact hst.row.cell (by omega)
    have hfw : ∀ t, t < n → wr.frozen? ⟨blk, off + t, none⟩ = false := fun t _ => hst.row.frozen t
    have HG := Lib.hid hG
    have HO := Lib.hid hO
    have HS := Lib.hid hst
    have Hsk := Lib.hid hsk
    clear hG hO hst hsk
    by_cases hij : i < j
    · have hne : ¬ i = j := by omega
      have hne2 : ¬ j = i := by omega
      go_wp2_with fail
      go_region
      all_goals go_wp2_with fail
      go_roundw
      case rel =>
        refine ⟨i + 1, j - 1, swp dk i j, by go_num, by congr 1; omega, by omega, by omega, by rw [size_swp]; exact Hsk.out, ?_, by rw [← HO.out, rev_go hij]⟩
        rw [HG.out, HG.out]
        first | exact (HS.out.swap (by have := Hsk.out; omega) (by have := Hsk.out; omega)).on (Below.refl _ _).drew | exact (HS.out.drewN _).swap (by have := Hsk.out; omega) (by have := Hsk.out; omega)
      case measure => simp [intOf]; omega
    · go_wp2_with fail
      go_end0
      exact ⟨⟨_, rfl⟩, by rw [← HO.out, rev_stop hij]; exact HS.out⟩
end Go.Proofs.YtfabodpefbdbjaaGreatDoor

/- SxPart -/

/-
  slices.Sort at uint64: partitionEqualOrdered.
-/
set_option linter.unusedVariables false
set_option linter.unusedSimpArgs false
namespace Go.Proofs.YtfabodpefbdbjaaGreatDoor
open Go.RowKit Go.Sort

section
variable {p : Int → Bool} {d : Array Int} {i j : Nat}
theorem up_go (h : i ≤ j) (hp : p d[i]! = true) : scanUp p d j i = scanUp p d j (i + 1) := by rw [scanUp, if_pos (by simp [h, hp])]
theorem up_end (h : ¬ i ≤ j ∨ p d[i]! = false) : scanUp p d j i = i := by
  rw [scanUp, if_neg]
  rcases h with h | h
  · simp [h]
  · simp [h]
theorem down_go (h : i ≤ j) (h0 : 0 < j) (hp : p d[j]! = true) : scanDown p d i j = scanDown p d i (j - 1) := by
  obtain ⟨k, rfl⟩ : ∃ k, j = k + 1 := ⟨j - 1, by omega⟩
  rw [scanDown, if_pos (by simp [h, hp]), Nat.add_sub_cancel]
theorem down_end (h : ¬ i ≤ j ∨ p d[j]! = false) : scanDown p d i j = j := by
  cases j with
  | zero => rw [scanDown]
  | succ k =>
    rw [scanDown, if_neg]
    rcases h with h | h
    · simp [h]
    · simp [h]
end
/-- one round of partitionEqual's loop, by where the scans stop -/
theorem partEq_step {a i j i2 j2 : Nat} {d : Array Int} (h1 : scanUp (fun x => !ltInt d[a]! x) d j i = i2) (h2 : scanDown (fun x => ltInt d[a]! x) d i2 j = j2) :
    partEqLoop ltInt a i j d = if i2 > j2 then (i2, d) else partEqLoop ltInt a (i2 + 1) (j2 - 1) (swp d i2 j2) := by
  subst h1 h2
  exact partEqLoop_eq ltInt a i j d
set_option maxRecDepth 100000 in
set_option maxHeartbeats 16000000 in
theorem hpartEq (blk off m cap a b pv : Nat) (d : Array Int) (w : World) (h : RowU w blk off m d) (hap : a ≤ pv) (hpb : pv < b) (hb : b ≤ d.size) (hsz : d.size ≤ 1000000) :
    Calls Tryz.prog 198 #[slU blk off d.size cap, .int .i64 (a : Int), .int .i64 (b : Int), .int .i64 (pv : Int)] w fun e w' => e = .returned (.int .i64 ((partitionEqual ltInt d a b pv).1 : Int)) ∧ StU w w' blk off m (partitionEqual ltInt d a b pv).2 := by
  have H := Lib.hid h
  obtain ⟨n, hn⟩ : ∃ n, n = d.size := ⟨_, rfl⟩
  have Hn := Lib.hid hn
  rw [← hn] at hb hsz
  clear h
  unfold slU
  rw [← hn]
  clear hn
  obtain ⟨z, hz⟩ : ∃ z, z = b - 1 := ⟨_, rfl⟩
  have e1 : (b : Int) - 1 = (z : Int) := by omega
  have Hz := Lib.hid hz
  have hzn : z < n := by omega
  have haz : a ≤ z := by omega
  clear hz
  obtain ⟨G0, hG0⟩ : ∃ G : Nat → Int, ∀ t, G t = d[t]! := ⟨fun t => d[t]!, fun _ => rfl⟩
  have hcw : ∀ t, t < n → w.cell? ⟨blk, off + t, none⟩ = some (.int .u64 (G0 t)) := fun t ht => by rw [hG0]; exact H.out.cell (by have := Hn.out; omega)
  have hfw : ∀ t, t < n → w.frozen? ⟨blk, off + t, none⟩ = false := fun t _ => H.out.frozen t
  have HG0 := Lib.hid hG0
  clear hG0
  have Hhap := Lib.hid hap
  -- the rest, behind the first swap
  have REST : Hid (∀ w1, StU w w1 blk off m (swp d a pv) → ∃ (i j : Nat) (dk : Array Int), Value.int .i64 ((a : Int) + 1) = .int .i64 i ∧ Value.int .i64 (z : Int) = .int .i64 j ∧ a < i ∧ i ≤ j + 1 ∧ j < n ∧ dk.size = n ∧ StU w w1 blk off m dk ∧ partEqLoop ltInt a i j dk = partitionEqual ltInt d a b pv) :=
    fun w1 hs => ⟨a + 1, z, swp d a pv, by go_num, rfl, by omega, by omega, hzn, by rw [size_swp]; exact Hn.out.symm, hs, by rw [Hz.out]; rfl⟩
  go_enter Tryz.func198, Tryz.ntmps198
  have hx : (w.setCell ⟨blk, off + a, none⟩ (.int .u64 (G0 pv))).cell? ⟨blk, off + pv, none⟩ = some (.int .u64 (G0 pv)) := by
    by_cases e : a = pv
    · subst e; exact World.cell?_setCell_same _ _ _ (hcw a (by omega))
    · exact (World.cell?_setCell_other _ _ _ _ (by intro e2; injection e2 with _ e2; omega)).trans (hcw pv (by omega))
  go_wp2_with fail
  go_region
  all_goals go_wp2_with fail
  have hs1 : StU w (((w.setCell ⟨blk, off + a, none⟩ (.int .u64 (G0 pv))).setCell ⟨blk, off + pv, none⟩ (.int .u64 (G0 a))).drew) blk off m (swp d a pv) := by
    simp only [HG0.out]
    exact ((StU.refl H.out).swap (by have := Hn.out; omega) (by have := Hn.out; omega)).on (Below.refl _ _).drew
  have HR1 := REST.out _ hs1
  clear hs1
  revert HR1
  generalize World.drew _ = w1
  intro HR1
  have HR1' := Lib.hid HR1
  clear HR1 hcw hfw hx
  go_loopw [9, 10] (fun vi vj wr => ∃ (i j : Nat) (dk : Array Int), vi = .int .i64 i ∧ vj = .int .i64 j ∧ a < i ∧ i ≤ j + 1 ∧ j < n ∧ dk.size = n ∧ StU w wr blk off m dk ∧ partEqLoop ltInt a i j dk = partitionEqual ltInt d a b pv) (fun vi vj _ => (intOf vj + 1 - intOf vi).toNat)
  case atStart => exact HR1'.out
  case round =>
    obtain ⟨i, j, dk, rfl, rfl, hai, hij, hjn, hsk, hst, hO⟩ := hrel
    have HO := Lib.hid hO
    have HS := Lib.hid hst
    have Hsk := Lib.hid hsk
    have Hmono := Lib.hid hij
    clear hO hst hsk
    obtain ⟨G, hG⟩ : ∃ G : Nat → Int, ∀ t, G t = dk[t]! := ⟨fun t => dk[t]!, fun _ => rfl⟩
    have HG := Lib.hid hG
    clear hG
    go_wp2_with fail
    go_loopw [9] (fun vi wr2 => ∃ i1 : Nat, vi = .int .i64 i1 ∧ i ≤ i1 ∧ i1 ≤ j + 1 ∧ StU w wr2 blk off m dk ∧ scanUp (fun x => !ltInt dk[a]! x) dk j i1 = scanUp (fun x => !ltInt dk[a]! x) dk j i) (fun vi _ => (j : Nat) + 1 - (intOf vi).toNat)
    case atStart => exact ⟨i, rfl, Nat.le_refl _, hij, HS.out, rfl⟩
    case round =>
      obtain ⟨i1, rfl, hi1, hi1j, hst1, hU⟩ := hrel
      have HU := Lib.hid hU
      have HS1 := Lib.hid hst1
      have hcw : ∀ t, t < n → wr.cell? ⟨blk, off + t, none⟩ = some (.int .u64 (G t)) := fun t ht => by rw [HG.out]; exact HS1.out.row.cell (by have := Hsk.out; omega)
      clear hU hst1
      by_cases hgo : i1 ≤ j ∧ ltInt (G a) (G i1) = false
      · obtain ⟨g1, g2⟩ := hgo
        go_wp2_with fail
        go_quiet (first | (go_at_call 197; refine Calls.quiet_of_same (hless _ _ _)))
        go_wp2_with fail
        go_roundw
        case rel => exact ⟨i1 + 1, by go_num, by omega, by omega, HS1.out.drewN _, by rw [← HU.out, up_go g1 (by show (!ltInt dk[a]! dk[i1]!) = true; rw [← HG.out, ← HG.out, g2]; rfl)]⟩
        case measure => simp [intOf]; omega
      · have hend : scanUp (fun x => !ltInt dk[a]! x) dk j i = i1 := by
          rw [← HU.out]
          refine up_end ?_
          rcases Classical.em (i1 ≤ j) with g | g
          · refine .inr ?_
            show (!ltInt dk[a]! dk[i1]!) = false
            rw [← HG.out, ← HG.out]
            cases h9 : ltInt (G a) (G i1)
            · exact absurd ⟨g, h9⟩ hgo
            · rfl
          · exact .inl g
        have HEnd := Lib.hid hend
        have hcs : (¬ i1 ≤ j) ∨ (i1 ≤ j ∧ ltInt (G a) (G i1) = true) := by
          rcases Classical.em (i1 ≤ j) with g | g
          · cases h9 : ltInt (G a) (G i1)
            · exact absurd ⟨g, h9⟩ hgo
            · exact .inr ⟨g, rfl⟩
          · exact .inl g
        have HNe : Hid (i1 ≤ j → ltInt (G a) (G i1) = true) := Lib.hid fun g => hcs.elim (fun h => absurd g h) (fun h => h.2)
        clear hend hgo
        rcases hcs with g | ⟨g, g2⟩
        all_goals
          go_wp2_with fail
          go_quiet (first | (go_at_call 197; refine Calls.quiet_of_same (hless _ _ _)))
          go_wp2_with fail
          clear g
          go_loopw [10] (fun vj wr3 => ∃ j1 : Nat, vj = .int .i64 j1 ∧ j1 ≤ j ∧ i1 ≤ j1 + 1 ∧ StU w wr3 blk off m dk ∧ scanDown (fun x => ltInt dk[a]! x) dk i1 j1 = scanDown (fun x => ltInt dk[a]! x) dk i1 j) (fun vj _ => (intOf vj).toNat)
          case atStart => exact ⟨j, rfl, Nat.le_refl _, hi1j, HS1.out.drewN _, rfl⟩
          case round =>
            obtain ⟨j1, rfl, hj1, hij1, hst3, hD⟩ := hrel
            have HD := Lib.hid hD
            have HS3 := Lib.hid hst3
            have hcw : ∀ t, t < n → wr.cell? ⟨blk, off + t, none⟩ = some (.int .u64 (G t)) := fun t ht => by rw [HG.out]; exact HS3.out.row.cell (by have := Hsk.out; omega)
            have hfw : ∀ t, t < n → wr.frozen? ⟨blk, off + t, none⟩ = false := fun t _ => HS3.out.row.frozen t
            clear hD hst3
            have hpos : 0 < i1 := by omega
            by_cases hgo : i1 ≤ j1 ∧ ltInt (G a) (G j1) = true
            · obtain ⟨g1, g2⟩ := hgo
              go_wp2_with fail
              go_quiet (first | (go_at_call 197; refine Calls.quiet_of_same (hless _ _ _)))
              go_wp2_with fail
              go_roundw
              case rel => exact ⟨j1 - 1, by congr 1; omega, by omega, by omega, HS3.out.drewN _, by rw [← HD.out, down_go g1 (by omega) (by show ltInt dk[a]! dk[j1]! = true; rw [← HG.out, ← HG.out, g2])]⟩
              case measure => simp [intOf]; omega
            · have hend2 : scanDown (fun x => ltInt dk[a]! x) dk i1 j = j1 := by
                rw [← HD.out]
                refine down_end ?_
                rcases Classical.em (i1 ≤ j1) with g | g
                · refine .inr ?_
                  show ltInt dk[a]! dk[j1]! = false
                  rw [← HG.out, ← HG.out]
                  cases h9 : ltInt (G a) (G j1)
                  · rfl
                  · exact absurd ⟨g, h9⟩ hgo
                · exact .inl g
              have HR := Lib.hid (partEq_step HEnd.out hend2)
              have hcs : (¬ i1 ≤ j1) ∨ (i1 ≤ j1 ∧ ltInt (G a) (G j1) = false) := by
                rcases Classical.em (i1 ≤ j1) with g | g
                · cases h9 : ltInt (G a) (G j1)
                  · exact .inr ⟨g, rfl⟩
                  · exact absurd ⟨g, h9⟩ hgo
                · exact .inl g
              clear hend2 hgo
              rcases hcs with g | ⟨g, g2⟩
              · have g3 : ¬ (i1 : Int) ≤ (j1 : Int) := by omega
                go_wp2_with fail
                go_quiet (first | (go_at_call 197; refine Calls.quiet_of_same (hless _ _ _)))
                go_wp2_with fail
                go_ret
                have e9 : partitionEqual ltInt d a b pv = (i1, dk) := by rw [← HO.out, HR.out, if_pos (by omega)]
                rw [e9]
                exact ⟨rfl, HS3.out.drewN _⟩
              · go_wp2_with fail
                go_quiet (first | (go_at_call 197; refine Calls.quiet_of_same (hless _ _ _)))
                obtain ⟨W1, hW1⟩ : ∃ W1, W1 = wr.drewN nq := ⟨_, rfl⟩
                have hs1 : StU w W1 blk off m dk := by rw [hW1]; exact HS3.out.drewN _
                rw [← hW1]
                clear hW1 hcw hfw
                have hcw : ∀ t, t < n → W1.cell? ⟨blk, off + t, none⟩ = some (.int .u64 (G t)) := fun t ht => by rw [HG.out]; exact hs1.row.cell (by have := Hsk.out; omega)
                have hfw : ∀ t, t < n → W1.frozen? ⟨blk, off + t, none⟩ = false := fun t _ => hs1.row.frozen t
                have hij2 : i1 < j1 := by
                  rcases Nat.lt_or_ge i1 j1 with h | h
                  · exact h
                  · have e : i1 = j1 := by omega
                    subst e
                    rw [HNe.out (by omega)] at g2
                    cases g2
                have b1 : i1 < n := by omega
                have b2 : j1 < n := by omega
                have hx : (W1.setCell ⟨blk, off + i1, none⟩ (.int .u64 (G j1))).cell? ⟨blk, off + j1, none⟩ = some (.int .u64 (G j1)) := by
                  by_cases e : i1 = j1
                  · subst e; exact World.cell?_setCell_same _ _ _ (hcw i1 b1)
                  · exact (World.cell?_setCell_other _ _ _ _ (by intro e2; injection e2 with _ e2; omega)).trans (hcw j1 b2)
                have HS4 := Lib.hid hs1
                clear hs1
                go_wp2_with fail
                go_region
                all_goals go_wp2_with fail
                go_roundw
                case rel =>
                  refine ⟨i1 + 1, j1 - 1, swp dk i1 j1, by go_num, by congr 1; omega, by omega, by omega, by omega, by rw [size_swp]; exact Hsk.out, ?_, ?_⟩
                  · rw [HG.out, HG.out]
                    first | exact ((HS4.out).swap (by have := Hsk.out; omega) (by have := Hsk.out; omega)).on (Below.refl _ _).drew | exact (HS4.out.drewN _).swap (by have := Hsk.out; omega) (by have := Hsk.out; omega)
                  · rw [← HO.out, HR.out, if_neg (by omega)]
                case measure => simp [intOf]; omega
end Go.Proofs.YtfabodpefbdbjaaGreatDoor

/-
  slices.Sort at uint64: partitionOrdered. (Printed by tools/gen/sx_part.py.)
-/
set_option linter.unusedVariables false
set_option linter.unusedSimpArgs false
namespace Go.Proofs.YtfabodpefbdbjaaGreatDoor
open Go.RowKit Go.Sort

/-- one round of partition's loop, by where the scans stop -/
theorem part_step {a i j i2 j2 : Nat} {d : Array Int} (h1 : scanUp (fun x => ltInt x d[a]!) d j i = i2) (h2 : scanDown (fun x => !ltInt x d[a]!) d i2 j = j2) :
    partLoop ltInt a i j d = if i2 > j2 then (j2, d) else partLoop ltInt a (i2 + 1) (j2 - 1) (swp d i2 j2) := by
  subst h1 h2
  exact partLoop_eq ltInt a i j d
/-- partition, by where its first scans stop -/
theorem partition_step {a b pv z i2 j2 : Nat} {d d1 : Array Int} (hd : d1 = swp d a pv) (hz : z = b - 1) (h1 : scanUp (fun x => ltInt x d1[a]!) d1 z (a + 1) = i2) (h2 : scanDown (fun x => !ltInt x d1[a]!) d1 i2 z = j2) :
    partition ltInt d a b pv = if i2 > j2 then (j2, true, swp d1 j2 a) else ((partLoop ltInt a (i2 + 1) (j2 - 1) (swp d1 i2 j2)).1, false, swp (partLoop ltInt a (i2 + 1) (j2 - 1) (swp d1 i2 j2)).2 (partLoop ltInt a (i2 + 1) (j2 - 1) (swp d1 i2 j2)).1 a) := by
  subst h1 h2 hd hz
  rfl
set_option maxRecDepth 100000 in
set_option maxHeartbeats 16000000 in
theorem hpart (blk off m cap a b pv : Nat) (d : Array Int) (w : World) (h : RowU w blk off m d) (hap : a ≤ pv) (hpb : pv < b) (hb : b ≤ d.size) (hsz : d.size ≤ 1000000) :
    Calls Tryz.prog 199 #[slU blk off d.size cap, .int .i64 (a : Int), .int .i64 (b : Int), .int .i64 (pv : Int)] w fun e w' => e = .returned (.tuple #[.int .i64 ((partition ltInt d a b pv).1 : Int), .bool (partition ltInt d a b pv).2.1]) ∧ StU w w' blk off m (partition ltInt d a b pv).2.2 := by
  have H := Lib.hid h
  obtain ⟨n, hn⟩ : ∃ n, n = d.size := ⟨_, rfl⟩
  have Hn := Lib.hid hn
  rw [← hn] at hb hsz
  clear h
  unfold slU
  rw [← hn]
  clear hn
  obtain ⟨z, hz⟩ : ∃ z, z = b - 1 := ⟨_, rfl⟩
  have e1 : (b : Int) - 1 = (z : Int) := by omega
  have Hzb := Lib.hid hz
  have hzn : z < n := by omega
  have haz : a ≤ z := by omega
  clear hz
  obtain ⟨G0, hG0⟩ : ∃ G : Nat → Int, ∀ t, G t = d[t]! := ⟨fun t => d[t]!, fun _ => rfl⟩
  have hcw : ∀ t, t < n → w.cell? ⟨blk, off + t, none⟩ = some (.int .u64 (G0 t)) := fun t ht => by rw [hG0]; exact H.out.cell (by have := Hn.out; omega)
  have hfw : ∀ t, t < n → w.frozen? ⟨blk, off + t, none⟩ = false := fun t _ => H.out.frozen t
  have HG0 := Lib.hid hG0
  clear hG0
  go_enter Tryz.func199, Tryz.ntmps199
  have hx : (w.setCell ⟨blk, off + a, none⟩ (.int .u64 (G0 pv))).cell? ⟨blk, off + pv, none⟩ = some (.int .u64 (G0 pv)) := by
    by_cases e : a = pv
    · subst e; exact World.cell?_setCell_same _ _ _ (hcw a (by omega))
    · exact (World.cell?_setCell_other _ _ _ _ (by intro e2; injection e2 with _ e2; omega)).trans (hcw pv (by omega))
  go_wp2_with fail
  go_region
  all_goals go_wp2_with fail
  obtain ⟨d1, hd1⟩ : ∃ d1, d1 = swp d a pv := ⟨_, rfl⟩
  have HS0 : StU w (((w.setCell ⟨blk, off + a, none⟩ (.int .u64 (G0 pv))).setCell ⟨blk, off + pv, none⟩ (.int .u64 (G0 a))).drew) blk off m d1 := by
    rw [hd1]
    simp only [HG0.out]
    exact ((StU.refl H.out).swap (by have := Hn.out; omega) (by have := Hn.out; omega)).on (Below.refl _ _).drew
  have hsk : d1.size = n := by rw [hd1, size_swp]; exact Hn.out.symm
  have HS := Lib.hid HS0
  have Hsk := Lib.hid hsk
  have Hd1 := Lib.hid hd1
  clear HS0 hcw hfw hx hsk hd1
  revert HS
  generalize World.drew _ = w1
  intro HS
  obtain ⟨G, hG⟩ : ∃ G : Nat → Int, ∀ t, G t = d1[t]! := ⟨fun t => d1[t]!, fun _ => rfl⟩
  have HG := Lib.hid hG
  clear hG
  go_loopw [10] (fun vi wr2 => ∃ i1 : Nat, vi = .int .i64 i1 ∧ a + 1 ≤ i1 ∧ i1 ≤ z + 1 ∧ StU w wr2 blk off m d1 ∧ scanUp (fun x => ltInt x d1[a]!) d1 z i1 = scanUp (fun x => ltInt x d1[a]!) d1 z (a + 1)) (fun vi _ => (z : Nat) + 1 - (intOf vi).toNat)
  case atStart => exact ⟨a + 1, by go_num, Nat.le_refl _, by omega, HS.out, rfl⟩
  case round =>
    obtain ⟨i1, rfl, hi1, hi1j, hst1, hU⟩ := hrel
    have HU := Lib.hid hU
    have HS1 := Lib.hid hst1
    have hcw : ∀ t, t < n → wr.cell? ⟨blk, off + t, none⟩ = some (.int .u64 (G t)) := fun t ht => by rw [HG.out]; exact HS1.out.row.cell (by have := Hsk.out; omega)
    have hfw : ∀ t, t < n → wr.frozen? ⟨blk, off + t, none⟩ = false := fun t _ => HS1.out.row.frozen t
    clear hU hst1
    by_cases hgo : i1 ≤ z ∧ ltInt (G i1) (G a) = true
    · obtain ⟨g1, g2⟩ := hgo
      go_wp2_with fail
      go_quiet (first | (go_at_call 197; refine Calls.quiet_of_same (hless _ _ _)))
      go_wp2_with fail
      go_roundw
      case rel => exact ⟨i1 + 1, by go_num, by omega, by omega, HS1.out.drewN _, by rw [← HU.out, up_go g1 (by show ltInt d1[i1]! d1[a]! = true; rw [← HG.out, ← HG.out, g2])]⟩
      case measure => simp [intOf]; omega
    · have hend : scanUp (fun x => ltInt x d1[a]!) d1 z (a + 1) = i1 := by
        rw [← HU.out]
        refine up_end ?_
        rcases Classical.em (i1 ≤ z) with g | g
        · refine .inr ?_
          show ltInt d1[i1]! d1[a]! = false
          rw [← HG.out, ← HG.out]
          cases h9 : ltInt (G i1) (G a)
          · rfl
          · exact absurd ⟨g, h9⟩ hgo
        · exact .inl g
      have HEnd := Lib.hid hend
      have hcs : (¬ i1 ≤ z) ∨ (i1 ≤ z ∧ ltInt (G i1) (G a) = false) := by
        rcases Classical.em (i1 ≤ z) with g | g
        · cases h9 : ltInt (G i1) (G a)
          · exact .inr ⟨g, rfl⟩
          · exact absurd ⟨g, h9⟩ hgo
        · exact .inl g
      have HNe : Hid (i1 ≤ z → ltInt (G i1) (G a) = false) := Lib.hid fun g => hcs.elim (fun h => absurd g h) (fun h => h.2)
      clear hend hgo
      rcases hcs with g | ⟨g, g2⟩
      all_goals
        go_wp2_with fail
        go_quiet (first | (go_at_call 197; refine Calls.quiet_of_same (hless _ _ _)))
        go_wp2_with fail
        clear g
        go_loopw [11] (fun vj wr3 => ∃ j1 : Nat, vj = .int .i64 j1 ∧ j1 ≤ z ∧ i1 ≤ j1 + 1 ∧ StU w wr3 blk off m d1 ∧ scanDown (fun x => !ltInt x d1[a]!) d1 i1 j1 = scanDown (fun x => !ltInt x d1[a]!) d1 i1 z) (fun vj _ => (intOf vj).toNat)
        case atStart => exact ⟨z, rfl, Nat.le_refl _, hi1j, HS1.out.drewN _, rfl⟩
        case round =>
          obtain ⟨j1, rfl, hj1, hij1, hst3, hD⟩ := hrel
          have HD := Lib.hid hD
          have HS3 := Lib.hid hst3
          have hcw : ∀ t, t < n → wr.cell? ⟨blk, off + t, none⟩ = some (.int .u64 (G t)) := fun t ht => by rw [HG.out]; exact HS3.out.row.cell (by have := Hsk.out; omega)
          have hfw : ∀ t, t < n → wr.frozen? ⟨blk, off + t, none⟩ = false := fun t _ => HS3.out.row.frozen t
          clear hD hst3
          have hpos : 0 < i1 := by omega
          by_cases hgo : i1 ≤ j1 ∧ ltInt (G j1) (G a) = false
          · obtain ⟨g1, g2⟩ := hgo
            go_wp2_with fail
            go_quiet (first | (go_at_call 197; refine Calls.quiet_of_same (hless _ _ _)))
            go_wp2_with fail
            go_roundw
            case rel => exact ⟨j1 - 1, by congr 1; omega, by omega, by omega, HS3.out.drewN _, by rw [← HD.out, down_go g1 (by omega) (by show (!ltInt d1[j1]! d1[a]!) = true; rw [← HG.out, ← HG.out, g2]; rfl)]⟩
            case measure => simp [intOf]; omega
          · have hend2 : scanDown (fun x => !ltInt x d1[a]!) d1 i1 z = j1 := by
              rw [← HD.out]
              refine down_end ?_
              rcases Classical.em (i1 ≤ j1) with g | g
              · refine .inr ?_
                show (!ltInt d1[j1]! d1[a]!) = false
                rw [← HG.out, ← HG.out]
                cases h9 : ltInt (G j1) (G a)
                · exact absurd ⟨g, h9⟩ hgo
                · rfl
              · exact .inl g
            have hcs : (¬ i1 ≤ j1) ∨ (i1 ≤ j1 ∧ ltInt (G j1) (G a) = true) := by
              rcases Classical.em (i1 ≤ j1) with g | g
              · cases h9 : ltInt (G j1) (G a)
                · exact absurd ⟨g, h9⟩ hgo
                · exact .inr ⟨g, rfl⟩
              · exact .inl g
            have HE2 := Lib.hid hend2
            clear hend2 hgo
            rcases hcs with g | ⟨g, g2⟩
            · have g3 : ¬ (i1 : Int) ≤ (j1 : Int) := by omega
              have haj : a ≤ j1 := by omega
              go_wp2_with fail
              go_quiet (first | (go_at_call 197; refine Calls.quiet_of_same (hless _ _ _)))
              obtain ⟨W1, hW1⟩ : ∃ W1, W1 = wr.drewN nq := ⟨_, rfl⟩
              have hs1 : StU w W1 blk off m d1 := by rw [hW1]; exact HS3.out.drewN _
              rw [← hW1]
              clear hW1 hcw hfw
              have hcw : ∀ t, t < n → W1.cell? ⟨blk, off + t, none⟩ = some (.int .u64 (G t)) := fun t ht => by rw [HG.out]; exact hs1.row.cell (by have := Hsk.out; omega)
              have hfw : ∀ t, t < n → W1.frozen? ⟨blk, off + t, none⟩ = false := fun t _ => hs1.row.frozen t
              have HS4 := Lib.hid hs1
              clear hs1
              have b1 : a < n := by omega
              have b2 : j1 < n := by omega
              have hx : (W1.setCell ⟨blk, off + j1, none⟩ (.int .u64 (G a))).cell? ⟨blk, off + a, none⟩ = some (.int .u64 (G a)) := by
                by_cases e : j1 = a
                · rw [← e]; exact World.cell?_setCell_same _ _ _ (hcw j1 (by omega))
                · exact (World.cell?_setCell_other _ _ _ _ (by intro e2; injection e2 with _ e2; omega)).trans (hcw a (by omega))
              go_wp2_with fail
              go_region
              all_goals go_wp2_with fail
              go_ret2
              rw [partition_step Hd1.out Hzb.out HEnd.out HE2.out, if_pos (by omega)]
              refine ⟨rfl, ?_⟩
              rw [HG.out, HG.out]
              first | exact ((HS4.out).swap (by have := Hsk.out; omega) (by have := Hsk.out; omega)).on (Below.refl _ _).drew | exact ((HS4.out).drewN _).swap (by have := Hsk.out; omega) (by have := Hsk.out; omega)
            · go_wp2_with fail
              go_quiet (first | (go_at_call 197; refine Calls.quiet_of_same (hless _ _ _)))
              have hij2 : i1 < j1 := by
                rcases Nat.lt_or_ge i1 j1 with h | h
                · exact h
                · have e : i1 = j1 := by omega
                  subst e
                  rw [HNe.out (by omega)] at g2
                  cases g2
              obtain ⟨W1, hW1⟩ : ∃ W1, W1 = wr.drewN nq := ⟨_, rfl⟩
              have hs1 : StU w W1 blk off m d1 := by rw [hW1]; exact HS3.out.drewN _
              rw [← hW1]
              clear hW1 hcw hfw
              have hcw : ∀ t, t < n → W1.cell? ⟨blk, off + t, none⟩ = some (.int .u64 (G t)) := fun t ht => by rw [HG.out]; exact hs1.row.cell (by have := Hsk.out; omega)
              have hfw : ∀ t, t < n → W1.frozen? ⟨blk, off + t, none⟩ = false := fun t _ => hs1.row.frozen t
              have HS4 := Lib.hid hs1
              clear hs1
              have b1 : i1 < n := by omega
              have b2 : j1 < n := by omega
              have hx : (W1.setCell ⟨blk, off + i1, none⟩ (.int .u64 (G j1))).cell? ⟨blk, off + j1, none⟩ = some (.int .u64 (G j1)) := by
                by_cases e : i1 = j1
                · rw [← e]; exact World.cell?_setCell_same _ _ _ (hcw i1 (by omega))
                · exact (World.cell?_setCell_other _ _ _ _ (by intro e2; injection e2 with _ e2; omega)).trans (hcw j1 (by omega))
              go_wp2_with fail
              go_region
              all_goals go_wp2_with fail
              have hs5 : ∀ wq, StU w wq blk off m (swp d1 i1 j1) → ∃ r, (∀ (j : Nat) (dk : Array Int), r = (j, dk) → partition ltInt d a b pv = (j, false, swp dk j a)) ∧ ∃ (i j : Nat) (dk : Array Int), Value.int .i64 ((i1 : Int) + 1) = .int .i64 i ∧ Value.int .i64 ((j1 : Int) - 1) = .int .i64 j ∧ a < i ∧ i ≤ j + 1 ∧ j < n ∧ dk.size = n ∧ StU w wq blk off m dk ∧ partLoop ltInt a i j dk = r := fun wq hq =>
                ⟨_, fun j dk e => by rw [partition_step Hd1.out Hzb.out HEnd.out HE2.out, if_neg (by omega), e], i1 + 1, j1 - 1, _, by go_num, by congr 1; omega, by omega, by omega, by omega, by rw [size_swp]; exact Hsk.out, hq, rfl⟩
              have HS5 := Lib.hid hs5
              clear hs5
              obtain ⟨W2, hW2⟩ : ∃ W2, W2 = ((W1.setCell ⟨blk, off + i1, none⟩ (.int .u64 (G j1))).setCell ⟨blk, off + j1, none⟩ (.int .u64 (G i1))).drew := ⟨_, rfl⟩
              have hs6 : StU w W2 blk off m (swp d1 i1 j1) := by
                rw [hW2, HG.out, HG.out]
                exact ((HS4.out).swap (by have := Hsk.out; omega) (by have := Hsk.out; omega)).on (Below.refl _ _).drew
              obtain ⟨r, hres, hst0⟩ := HS5.out W2 hs6
              have HRes : Hid (∀ (j : Nat) (dk : Array Int) (wq : World), r = (j, dk) → StU w wq blk off m (swp dk j a) → (Ending.returned (.tuple #[.int .i64 (j : Int), .bool false]) = .returned (.tuple #[.int .i64 ((partition ltInt d a b pv).1 : Int), .bool (partition ltInt d a b pv).2.1])) ∧ StU w wq blk off m (partition ltInt d a b pv).2.2) :=
                Lib.hid fun j dk wq e hq => by rw [hres j dk e]; exact ⟨rfl, hq⟩
              have HSt0 := Lib.hid hst0
              rw [← hW2]
              clear hs6 hres hst0 hcw hfw hx hW2
              go_loopw [10, 11] (fun vi vj wr => ∃ (i j : Nat) (dk : Array Int), vi = .int .i64 i ∧ vj = .int .i64 j ∧ a < i ∧ i ≤ j + 1 ∧ j < n ∧ dk.size = n ∧ StU w wr blk off m dk ∧ partLoop ltInt a i j dk = r) (fun vi vj _ => (intOf vj + 1 - intOf vi).toNat)
              case atStart => exact HSt0.out
              case round =>
                obtain ⟨i, j, dk, rfl, rfl, hai, hij, hjn, hsk, hst, hO⟩ := hrel
                have HO := Lib.hid hO
                have HS := Lib.hid hst
                have Hsk := Lib.hid hsk
                clear hO hst hsk
                obtain ⟨G, hG⟩ : ∃ G : Nat → Int, ∀ t, G t = dk[t]! := ⟨fun t => dk[t]!, fun _ => rfl⟩
                have HG := Lib.hid hG
                clear hG
                go_wp2_with fail
                go_loopw [10] (fun vi wr2 => ∃ i1 : Nat, vi = .int .i64 i1 ∧ i ≤ i1 ∧ i1 ≤ j + 1 ∧ StU w wr2 blk off m dk ∧ scanUp (fun x => ltInt x dk[a]!) dk j i1 = scanUp (fun x => ltInt x dk[a]!) dk j (i)) (fun vi _ => (j : Nat) + 1 - (intOf vi).toNat)
                case atStart => exact ⟨i, by go_num, Nat.le_refl _, by omega, HS.out, rfl⟩
                case round =>
                  obtain ⟨i1, rfl, hi1, hi1j, hst1, hU⟩ := hrel
                  have HU := Lib.hid hU
                  have HS1 := Lib.hid hst1
                  have hcw : ∀ t, t < n → wr.cell? ⟨blk, off + t, none⟩ = some (.int .u64 (G t)) := fun t ht => by rw [HG.out]; exact HS1.out.row.cell (by have := Hsk.out; omega)
                  have hfw : ∀ t, t < n → wr.frozen? ⟨blk, off + t, none⟩ = false := fun t _ => HS1.out.row.frozen t
                  clear hU hst1
                  by_cases hgo : i1 ≤ j ∧ ltInt (G i1) (G a) = true
                  · obtain ⟨g1, g2⟩ := hgo
                    go_wp2_with fail
                    go_quiet (first | (go_at_call 197; refine Calls.quiet_of_same (hless _ _ _)))
                    go_wp2_with fail
                    go_roundw
                    case rel => exact ⟨i1 + 1, by go_num, by omega, by omega, HS1.out.drewN _, by rw [← HU.out, up_go g1 (by show ltInt dk[i1]! dk[a]! = true; rw [← HG.out, ← HG.out, g2])]⟩
                    case measure => simp [intOf]; omega
                  · have hend : scanUp (fun x => ltInt x dk[a]!) dk j (i) = i1 := by
                      rw [← HU.out]
                      refine up_end ?_
                      rcases Classical.em (i1 ≤ j) with g | g
                      · refine .inr ?_
                        show ltInt dk[i1]! dk[a]! = false
                        rw [← HG.out, ← HG.out]
                        cases h9 : ltInt (G i1) (G a)
                        · rfl
                        · exact absurd ⟨g, h9⟩ hgo
                      · exact .inl g
                    have HEnd := Lib.hid hend
                    have hcs : (¬ i1 ≤ j) ∨ (i1 ≤ j ∧ ltInt (G i1) (G a) = false) := by
                      rcases Classical.em (i1 ≤ j) with g | g
                      · cases h9 : ltInt (G i1) (G a)
                        · exact .inr ⟨g, rfl⟩
                        · exact absurd ⟨g, h9⟩ hgo
                      · exact .inl g
                    have HNe : Hid (i1 ≤ j → ltInt (G i1) (G a) = false) := Lib.hid fun g => hcs.elim (fun h => absurd g h) (fun h => h.2)
                    clear hend hgo
                    rcases hcs with g | ⟨g, g2⟩
                    all_goals
                      go_wp2_with fail
                      go_quiet (first | (go_at_call 197; refine Calls.quiet_of_same (hless _ _ _)))
                      go_wp2_with fail
                      clear g
                      go_loopw [11] (fun vj wr3 => ∃ j1 : Nat, vj = .int .i64 j1 ∧ j1 ≤ j ∧ i1 ≤ j1 + 1 ∧ StU w wr3 blk off m dk ∧ scanDown (fun x => !ltInt x dk[a]!) dk i1 j1 = scanDown (fun x => !ltInt x dk[a]!) dk i1 j) (fun vj _ => (intOf vj).toNat)
                      case atStart => exact ⟨j, rfl, Nat.le_refl _, hi1j, HS1.out.drewN _, rfl⟩
                      case round =>
                        obtain ⟨j1, rfl, hj1, hij1, hst3, hD⟩ := hrel
                        have HD := Lib.hid hD
                        have HS3 := Lib.hid hst3
                        have hcw : ∀ t, t < n → wr.cell? ⟨blk, off + t, none⟩ = some (.int .u64 (G t)) := fun t ht => by rw [HG.out]; exact HS3.out.row.cell (by have := Hsk.out; omega)
                        have hfw : ∀ t, t < n → wr.frozen? ⟨blk, off + t, none⟩ = false := fun t _ => HS3.out.row.frozen t
                        clear hD hst3
                        have hpos : 0 < i1 := by omega
                        by_cases hgo : i1 ≤ j1 ∧ ltInt (G j1) (G a) = false
                        · obtain ⟨g1, g2⟩ := hgo
                          go_wp2_with fail
                          go_quiet (first | (go_at_call 197; refine Calls.quiet_of_same (hless _ _ _)))
                          go_wp2_with fail
                          go_roundw
                          case rel => exact ⟨j1 - 1, by congr 1; omega, by omega, by omega, HS3.out.drewN _, by rw [← HD.out, down_go g1 (by omega) (by show (!ltInt dk[j1]! dk[a]!) = true; rw [← HG.out, ← HG.out, g2]; rfl)]⟩
                          case measure => simp [intOf]; omega
                        · have hend2 : scanDown (fun x => !ltInt x dk[a]!) dk i1 j = j1 := by
                            rw [← HD.out]
                            refine down_end ?_
                            rcases Classical.em (i1 ≤ j1) with g | g
                            · refine .inr ?_
                              show (!ltInt dk[j1]! dk[a]!) = false
                              rw [← HG.out, ← HG.out]
                              cases h9 : ltInt (G j1) (G a)
                              · exact absurd ⟨g, h9⟩ hgo
                              · rfl
                            · exact .inl g
                          have hcs : (¬ i1 ≤ j1) ∨ (i1 ≤ j1 ∧ ltInt (G j1) (G a) = true) := by
                            rcases Classical.em (i1 ≤ j1) with g | g
                            · cases h9 : ltInt (G j1) (G a)
                              · exact absurd ⟨g, h9⟩ hgo
                              · exact .inr ⟨g, rfl⟩
                            · exact .inl g
                          have HE2 := Lib.hid hend2
                          clear hend2 hgo
                          rcases hcs with g | ⟨g, g2⟩
                          · have g3 : ¬ (i1 : Int) ≤ (j1 : Int) := by omega
                            have haj : a ≤ j1 := by omega
                            go_wp2_with fail
                            go_quiet (first | (go_at_call 197; refine Calls.quiet_of_same (hless _ _ _)))
                            obtain ⟨W1, hW1⟩ : ∃ W1, W1 = wr.drewN nq := ⟨_, rfl⟩
                            have hs1 : StU w W1 blk off m dk := by rw [hW1]; exact HS3.out.drewN _
                            rw [← hW1]
                            clear hW1 hcw hfw
                            have hcw : ∀ t, t < n → W1.cell? ⟨blk, off + t, none⟩ = some (.int .u64 (G t)) := fun t ht => by rw [HG.out]; exact hs1.row.cell (by have := Hsk.out; omega)
                            have hfw : ∀ t, t < n → W1.frozen? ⟨blk, off + t, none⟩ = false := fun t _ => hs1.row.frozen t
                            have HS4 := Lib.hid hs1
                            clear hs1
                            have b1 : a < n := by omega
                            have b2 : j1 < n := by omega
                            have hx : (W1.setCell ⟨blk, off + j1, none⟩ (.int .u64 (G a))).cell? ⟨blk, off + a, none⟩ = some (.int .u64 (G a)) := by
                              by_cases e : j1 = a
                              · rw [← e]; exact World.cell?_setCell_same _ _ _ (hcw j1 (by omega))
                              · exact (World.cell?_setCell_other _ _ _ _ (by intro e2; injection e2 with _ e2; omega)).trans (hcw a (by omega))
                            go_wp2_with fail
                            go_region
                            all_goals go_wp2_with fail
                            go_ret2
                            have e9 : r = (j1, dk) := by rw [← HO.out, part_step HEnd.out HE2.out, if_pos (by omega)]
                            refine HRes.out _ _ _ e9 ?_
                            rw [HG.out, HG.out]
                            first | exact ((HS4.out).swap (by have := Hsk.out; omega) (by have := Hsk.out; omega)).on (Below.refl _ _).drew | exact ((HS4.out).drewN _).swap (by have := Hsk.out; omega) (by have := Hsk.out; omega)
                          · go_wp2_with fail
                            go_quiet (first | (go_at_call 197; refine Calls.quiet_of_same (hless _ _ _)))
                            have hij2 : i1 < j1 := by
                              rcases Nat.lt_or_ge i1 j1 with h | h
                              · exact h
                              · have e : i1 = j1 := by omega
                                subst e
                                rw [HNe.out (by omega)] at g2
                                cases g2
                            obtain ⟨W1, hW1⟩ : ∃ W1, W1 = wr.drewN nq := ⟨_, rfl⟩
                            have hs1 : StU w W1 blk off m dk := by rw [hW1]; exact HS3.out.drewN _
                            rw [← hW1]
                            clear hW1 hcw hfw
                            have hcw : ∀ t, t < n → W1.cell? ⟨blk, off + t, none⟩ = some (.int .u64 (G t)) := fun t ht => by rw [HG.out]; exact hs1.row.cell (by have := Hsk.out; omega)
                            have hfw : ∀ t, t < n → W1.frozen? ⟨blk, off + t, none⟩ = false := fun t _ => hs1.row.frozen t
                            have HS4 := Lib.hid hs1
                            clear hs1
                            have b1 : i1 < n := by omega
                            have b2 : j1 < n := by omega
                            have hx : (W1.setCell ⟨blk, off + i1, none⟩ (.int .u64 (G j1))).cell? ⟨blk, off + j1, none⟩ = some (.int .u64 (G j1)) := by
                              by_cases e : i1 = j1
                              · rw [← e]; exact World.cell?_setCell_same _ _ _ (hcw i1 (by omega))
                              · exact (World.cell?_setCell_other _ _ _ _ (by intro e2; injection e2 with _ e2; omega)).trans (hcw j1 (by omega))
                            go_wp2_with fail
                            go_region
                            all_goals go_wp2_with fail
                            go_roundw
                            case rel =>
                              refine ⟨i1 + 1, j1 - 1, swp dk i1 j1, by go_num, by congr 1; omega, by omega, by omega, by omega, by rw [size_swp]; exact Hsk.out, ?_, ?_⟩
                              · rw [HG.out, HG.out]
                                first | exact ((HS4.out).swap (by have := Hsk.out; omega) (by have := Hsk.out; omega)).on (Below.refl _ _).drew | exact ((HS4.out).drewN _).swap (by have := Hsk.out; omega) (by have := Hsk.out; omega)
                              · rw [← HO.out, part_step HEnd.out HE2.out, if_neg (by omega)]
                            case measure => simp [intOf]; omega
end Go.Proofs.YtfabodpefbdbjaaGreatDoor

/- SxPins -/

/-
  slices.Sort at uint64: partialInsertionSortOrdered.
-/
set_option linter.unusedVariables false
set_option linter.unusedSimpArgs false
namespace Go.Proofs.YtfabodpefbdbjaaGreatDoor
open Go.RowKit Go.Sort

section
variable {b i j : Nat} {d : Array Int}
theorem ss_go (h : i < b) (hl : ltInt d[i]! d[i - 1]! = false) : scanSorted ltInt d b i = scanSorted ltInt d b (i + 1) := by rw [scanSorted, if_pos (by simp [h, hl])]
theorem ss_end (h : ¬ i < b ∨ ltInt d[i]! d[i - 1]! = true) : scanSorted ltInt d b i = i := by
  rw [scanSorted, if_neg]
  rcases h with h | h
  · simp; omega
  · simp [h]
theorem sdn_go (h : 0 < j) (hl : ltInt d[j]! d[j - 1]! = true) : shiftDown ltInt j d = shiftDown ltInt (j - 1) (swp d j (j - 1)) := by
  obtain ⟨k, rfl⟩ : ∃ k, j = k + 1 := ⟨j - 1, by omega⟩
  rw [Nat.add_sub_cancel] at hl
  rw [shiftDown, if_neg (by simp [hl]), Nat.add_sub_cancel]
theorem sdn_stop (h : j = 0 ∨ ltInt d[j]! d[j - 1]! = false) : shiftDown ltInt j d = d := by
  cases j with
  | zero => rw [shiftDown]
  | succ k =>
    rcases h with h | h
    · omega
    · rw [Nat.add_sub_cancel] at h
      rw [shiftDown, if_pos (by simp [h])]
theorem su_go (h : j < b) (hl : ltInt d[j]! d[j - 1]! = true) : shiftUp ltInt b j d = shiftUp ltInt b (j + 1) (swp d j (j - 1)) := by
  rw [shiftUp, if_pos h, if_neg (by simp [hl])]
theorem su_stop (h : ¬ j < b ∨ ltInt d[j]! d[j - 1]! = false) : shiftUp ltInt b j d = d := by
  rw [shiftUp]
  rcases h with h | h
  · rw [if_neg h]
  · split
    · rw [if_pos (by simp [h])]
    · rfl
end
theorem pins_step {a b s i i1 : Nat} {d : Array Int} (h : scanSorted ltInt d b i = i1) : partialIns ltInt a b (s + 1) i d =
    if i1 = b then (d, true) else if b - a < 50 then (d, false) else partialIns ltInt a b s i1 (fixUp ltInt b i1 (fixDown ltInt a i1 (swp d i1 (i1 - 1)))) := by
  subst h
  rfl
set_option maxRecDepth 100000 in
set_option maxHeartbeats 16000000 in
theorem hpins (blk off m cap a b : Nat) (d : Array Int) (w : World) (h : RowU w blk off m d) (hab : a < b) (hb : b ≤ d.size) (hsz : d.size ≤ 1000000) :
    Calls Tryz.prog 196 #[slU blk off d.size cap, .int .i64 (a : Int), .int .i64 (b : Int)] w fun e w' => e = .returned (.bool (partialInsertionSort ltInt d a b).2) ∧ StU w w' blk off m (partialInsertionSort ltInt d a b).1 := by
  have H := Lib.hid h
  obtain ⟨n, hn⟩ : ∃ n, n = d.size := ⟨_, rfl⟩
  have Hn := Lib.hid hn
  rw [← hn] at hb hsz
  clear h
  unfold slU
  rw [← hn]
  clear hn
  obtain ⟨r, hr⟩ : ∃ r, r = partialInsertionSort ltInt d a b := ⟨_, rfl⟩
  rw [← hr]
  have Hr := Lib.hid hr
  clear hr
  go_enter Tryz.func196, Tryz.ntmps196
  go_wp2_with fail
  go_loopw [7, 8] (fun vi vj wr => ∃ (i jj s : Nat) (dk : Array Int), vi = .int .i64 i ∧ vj = .int .i64 jj ∧ jj + s = 5 ∧ a < i ∧ i ≤ b ∧ dk.size = n ∧ StU w wr blk off m dk ∧ partialIns ltInt a b s i dk = r) (fun _ vj _ => (5 - intOf vj).toNat)
  case atStart => exact ⟨a + 1, 0, 5, d, by go_num, rfl, rfl, by omega, by omega, Hn.out.symm, StU.refl H.out, Hr.out.symm⟩
  case round =>
    obtain ⟨i, jj, s, dk, rfl, rfl, hjs, hai, hib, hsk, hst, hO⟩ := hrel
    have HO := Lib.hid hO
    have HS := Lib.hid hst
    have Hsk := Lib.hid hsk
    clear hO hst hsk
    rcases s with _ | s
    · obtain rfl : jj = 5 := by omega
      go_wp2_with fail
      go_ret
      have e9 : r = (dk, false) := by rw [← HO.out]; rfl
      rw [e9]
      exact ⟨rfl, HS.out⟩
    · have hj5 : (jj : Int) < 5 := by omega
      obtain ⟨G, hG⟩ : ∃ G : Nat → Int, ∀ t, G t = dk[t]! := ⟨fun t => dk[t]!, fun _ => rfl⟩
      have HG := Lib.hid hG
      clear hG
      go_wp2_with fail
      go_loopw [7] (fun vi wr2 => ∃ i1 : Nat, vi = .int .i64 i1 ∧ i ≤ i1 ∧ i1 ≤ b ∧ StU w wr2 blk off m dk ∧ scanSorted ltInt dk b i1 = scanSorted ltInt dk b i) (fun vi _ => (b : Nat) - (intOf vi).toNat)
      case atStart => exact ⟨i, rfl, Nat.le_refl _, hib, HS.out, rfl⟩
      case round =>
        obtain ⟨i1, rfl, hi1, hi1b, hst1, hU⟩ := hrel
        have HU := Lib.hid hU
        have HS1 := Lib.hid hst1
        have hcw : ∀ t, t < n → wr.cell? ⟨blk, off + t, none⟩ = some (.int .u64 (G t)) := fun t ht => by rw [HG.out]; exact HS1.out.row.cell (by have := Hsk.out; omega)
        have hfw : ∀ t, t < n → wr.frozen? ⟨blk, off + t, none⟩ = false := fun t _ => HS1.out.row.frozen t
        clear hU hst1
        by_cases hgo : i1 < b ∧ ltInt (G i1) (G (i1 - 1)) = false
        · obtain ⟨g1, g2⟩ := hgo
          go_wp2_with fail
          go_quiet (first | (go_at_call 197; refine Calls.quiet_of_same (hless _ _ _)))
          go_wp2_with fail
          go_roundw
          case rel => exact ⟨i1 + 1, by go_num, by omega, by omega, HS1.out.drewN _, by rw [← HU.out, ss_go g1 (by rw [← HG.out, ← HG.out]; exact g2)]⟩
          case measure => simp [intOf]; omega
        · have hcs : i1 = b ∨ (i1 < b ∧ ltInt (G i1) (G (i1 - 1)) = true) := by
            rcases Classical.em (i1 < b) with g | g
            · cases h9 : ltInt (G i1) (G (i1 - 1))
              · exact absurd ⟨g, h9⟩ hgo
              · exact .inr ⟨g, rfl⟩
            · exact .inl (by omega)
          have hend : scanSorted ltInt dk b i = i1 := by
            rw [← HU.out]
            refine ss_end ?_
            rcases hcs with g | ⟨_, g⟩
            · exact .inl (by omega)
            · exact .inr (by rw [← HG.out, ← HG.out]; exact g)
          have HEnd := Lib.hid (pins_step (a := a) (s := s) hend)
          clear hend hgo
          rcases hcs with g | ⟨g, g2⟩
          · subst g
            go_wp2_with fail
            go_quiet (first | (go_at_call 197; refine Calls.quiet_of_same (hless _ _ _)))
            go_wp2_with fail
            go_ret
            have e9 : r = (dk, true) := by rw [← HO.out, HEnd.out]; simp
            rw [e9]
            exact ⟨rfl, HS1.out.drewN _⟩
          · have hne : ¬ ((i1 : Int) = (b : Int)) := by omega
            by_cases h50 : b - a < 50
            · have h50z : (b : Int) - (a : Int) < 50 := by omega
              go_wp2_with fail
              go_quiet (first | (go_at_call 197; refine Calls.quiet_of_same (hless _ _ _)))
              go_wp2_with fail
              go_ret
              have e9 : r = (dk, false) := by rw [← HO.out, HEnd.out, if_neg (by omega), if_pos h50]
              rw [e9]
              exact ⟨rfl, HS1.out.drewN _⟩
            · have h50z : ¬ ((b : Int) - (a : Int) < 50) := by omega
              go_wp2_with fail
              go_quiet (first | (go_at_call 197; refine Calls.quiet_of_same (hless _ _ _)))
              obtain ⟨W1, hW1⟩ : ∃ W1, W1 = wr.drewN nq := ⟨_, rfl⟩
              have hs1 : StU w W1 blk off m dk := by rw [hW1]; exact HS1.out.drewN _
              rw [← hW1]
              clear hW1 hcw hfw
              have hcw : ∀ t, t < n → W1.cell? ⟨blk, off + t, none⟩ = some (.int .u64 (G t)) := fun t ht => by rw [HG.out]; exact hs1.row.cell (by have := Hsk.out; omega)
              have hfw : ∀ t, t < n → W1.frozen? ⟨blk, off + t, none⟩ = false := fun t _ => hs1.row.frozen t
              have HS4 := Lib.hid hs1
              clear hs1
              go_wp2_with fail
              go_region
              all_goals go_upto_if 61 with fail
              obtain ⟨dS, hdS⟩ : ∃ dS, dS = swp dk i1 (i1 - 1) := ⟨_, rfl⟩
              have HR : Hid (partialIns ltInt a b s i1 (fixUp ltInt b i1 (fixDown ltInt a i1 dS)) = r) := Lib.hid (by rw [hdS, ← HO.out, HEnd.out, if_neg (by omega), if_neg h50])
              have HdS : Hid (∀ W, StU w W blk off m (swp dk i1 (i1 - 1)) → StU w W blk off m dS ∧ dS.size = n) := Lib.hid fun W hW => by rw [hdS]; exact ⟨hW, by rw [size_swp]; exact Hsk.out⟩
              clear hdS
              have hs5 : StU w (((W1.setCell ⟨blk, off + i1, none⟩ (.int .u64 (G (i1 - 1)))).setCell ⟨blk, off + (i1 - 1), none⟩ (.int .u64 (G i1))).drew) blk off m (swp dk i1 (i1 - 1)) := by
                rw [HG.out, HG.out]
                exact ((HS4.out).swap (by have := Hsk.out; omega) (by have := Hsk.out; omega)).on (Below.refl _ _).drew
              obtain ⟨hsS, hnS⟩ := HdS.out _ hs5
              have HSS := Lib.hid hsS
              have HnS := Lib.hid hnS
              clear hs5 hsS hnS hcw hfw HdS
              revert HSS
              generalize World.drew _ = w2
              intro HSS
              go_cut [] from 13 to 132 (fun wc => StU w wc blk off m (fixDown ltInt a i1 dS) ∧ (fixDown ltInt a i1 dS).size = n)
              case first =>
                by_cases h2 : i1 - a ≥ 2
                · have h2z : 2 ≤ (i1 : Int) - (a : Int) := by omega
                  go_wp2_with fail
                  go_loopw [9] (fun vj wr3 => ∃ (j : Nat) (dj : Array Int), vj = .int .i64 j ∧ j < n ∧ dj.size = n ∧ StU w wr3 blk off m dj ∧ shiftDown ltInt j dj = fixDown ltInt a i1 dS) (fun vj _ => (intOf vj).toNat)
                  case atStart => exact ⟨i1 - 1, dS, by congr 1; omega, by omega, HnS.out, HSS.out, by unfold fixDown; rw [if_pos h2]⟩
                  case round =>
                    obtain ⟨j, dj, rfl, hjn, hsj, hst3, hI⟩ := hrel
                    obtain ⟨G, hG⟩ : ∃ G : Nat → Int, ∀ t, G t = dj[t]! := ⟨fun t => dj[t]!, fun _ => rfl⟩
                    have hcw : ∀ t, t < n → wr.cell? ⟨blk, off + t, none⟩ = some (.int .u64 (G t)) := fun t ht => by rw [hG]; exact hst3.row.cell (by omega)
                    have hfw : ∀ t, t < n → wr.frozen? ⟨blk, off + t, none⟩ = false := fun t _ => hst3.row.frozen t
                    have HG := Lib.hid hG
                    have HI := Lib.hid hI
                    have HS3 := Lib.hid hst3
                    have Hsj := Lib.hid hsj
                    clear hG hI hst3 hsj
                    have OUT : Hid ((j = 0 ∨ ltInt dj[j]! dj[j - 1]! = false) → ∀ wq, StU w wq blk off m dj → StU w wq blk off m (fixDown ltInt a i1 dS) ∧ (fixDown ltInt a i1 dS).size = n) :=
                      Lib.hid fun hs wq hq => by rw [← HI.out, sdn_stop hs]; exact ⟨hq, Hsj.out⟩
                    by_cases hja : 0 < j
                    · have hjz : 1 ≤ (j : Int) := by omega
                      cases hl : ltInt (G j) (G (j - 1))
                      · go_wp2_with fail
                        go_quiet (first | (go_at_call 197; refine Calls.quiet_of_same (hless _ _ _)))
                        go_wp2_with fail
                        go_meet
                        case rel => exact OUT.out (Or.inr (by rw [← HG.out, ← HG.out]; exact hl)) _ (HS3.out.drewN _)
                      · go_wp2_with fail
                        go_quiet (first | (go_at_call 197; refine Calls.quiet_of_same (hless _ _ _)))
                        go_wp2_with fail
                        go_region
                        all_goals go_wp2_with fail
                        go_roundw
                        case rel =>
                          refine ⟨j - 1, swp dj j (j - 1), by congr 1; omega, by omega, by rw [size_swp]; exact Hsj.out, ?_, ?_⟩
                          · rw [HG.out, HG.out]
                            exact (HS3.out.drewN _).swap (by have := Hsj.out; omega) (by have := Hsj.out; omega)
                          · rw [← HI.out, sdn_go hja (by rw [← HG.out, ← HG.out]; exact hl)]
                        case measure => simp [intOf]; omega
                    · obtain rfl : j = 0 := by omega
                      go_wp2_with fail
                      go_meet
                      case rel => exact OUT.out (Or.inl (by trivial)) _ HS3.out
                · have h2z : ¬ 2 ≤ (i1 : Int) - (a : Int) := by omega
                  go_wp2_with fail
                  go_meet
                  case rel => exact (by unfold fixDown; rw [if_neg h2]; exact ⟨HSS.out, HnS.out⟩)
              case rest =>
                obtain ⟨hSF, hnF⟩ := hcut
                obtain ⟨dF, hdF⟩ : ∃ dF, dF = fixDown ltInt a i1 dS := ⟨_, rfl⟩
                have HdF := Lib.hid hdF
                rw [← hdF] at hSF hnF
                have HSF := Lib.hid hSF
                have HnF := Lib.hid hnF
                clear hdF hSF hnF
                have FIN : Hid (∀ wq dj, dj = fixUp ltInt b i1 dF → dj.size = n → StU w wq blk off m dj → ∃ (i' jj' s' : Nat) (dk' : Array Int), Value.int .i64 (i1 : Int) = .int .i64 (i' : Nat) ∧ Value.int .i64 ((jj : Int) + 1) = .int .i64 (jj' : Nat) ∧ jj' + s' = 5 ∧ a < i' ∧ i' ≤ b ∧ dk'.size = n ∧ StU w wq blk off m dk' ∧ partialIns ltInt a b s' i' dk' = r) :=
                  Lib.hid fun wq dj hd hz hq => ⟨i1, jj + 1, s, dj, rfl, by go_num, by omega, by omega, hi1b, hz, hq, by rw [← HR.out, hd, HdF.out]⟩
                by_cases h2 : b - i1 ≥ 2
                · have h2z : 2 ≤ (b : Int) - (i1 : Int) := by omega
                  go_wp2_with fail
                  go_loopw [10] (fun vj wr3 => ∃ (j : Nat) (dj : Array Int), vj = .int .i64 j ∧ 0 < j ∧ j ≤ b ∧ dj.size = n ∧ StU w wr3 blk off m dj ∧ shiftUp ltInt b j dj = fixUp ltInt b i1 dF) (fun vj _ => (b - (intOf vj).toNat))
                  case atStart => exact ⟨i1 + 1, dF, by go_num, by omega, by omega, HnF.out, HSF.out, by unfold fixUp; rw [if_pos h2]⟩
                  case round =>
                    obtain ⟨j, dj, rfl, hj0, hjn, hsj, hst3, hI⟩ := hrel
                    obtain ⟨G, hG⟩ : ∃ G : Nat → Int, ∀ t, G t = dj[t]! := ⟨fun t => dj[t]!, fun _ => rfl⟩
                    have hcw : ∀ t, t < n → wr.cell? ⟨blk, off + t, none⟩ = some (.int .u64 (G t)) := fun t ht => by rw [hG]; exact hst3.row.cell (by omega)
                    have hfw : ∀ t, t < n → wr.frozen? ⟨blk, off + t, none⟩ = false := fun t _ => hst3.row.frozen t
                    have HG := Lib.hid hG
                    have HI := Lib.hid hI
                    have HS3 := Lib.hid hst3
                    have Hsj := Lib.hid hsj
                    clear hG hI hst3 hsj
                    by_cases hja : j < b
                    · cases hl : ltInt (G j) (G (j - 1))
                      · go_wp2_with fail
                        go_quiet (first | (go_at_call 197; refine Calls.quiet_of_same (hless _ _ _)))
                        go_wp2_with fail
                        go_roundw
                        case rel => exact FIN.out _ dj (by rw [← HI.out, su_stop (Or.inr (by rw [← HG.out, ← HG.out]; exact hl))]) Hsj.out (HS3.out.drewN _)
                        case measure => simp [intOf]; omega
                      · go_wp2_with fail
                        go_quiet (first | (go_at_call 197; refine Calls.quiet_of_same (hless _ _ _)))
                        go_wp2_with fail
                        go_region
                        all_goals go_wp2_with fail
                        go_roundw
                        case rel =>
                          refine ⟨j + 1, swp dj j (j - 1), by go_num, by omega, by omega, by rw [size_swp]; exact Hsj.out, ?_, ?_⟩
                          · rw [HG.out, HG.out]
                            exact (HS3.out.drewN _).swap (by have := Hsj.out; omega) (by have := Hsj.out; omega)
                          · rw [← HI.out, su_go hja (by rw [← HG.out, ← HG.out]; exact hl)]
                        case measure => simp [intOf]; omega
                    · go_wp2_with fail
                      go_roundw
                      case rel => exact FIN.out _ dj (by rw [← HI.out, su_stop (Or.inl hja)]) Hsj.out HS3.out
                      case measure => simp [intOf]; omega
                · have h2z : ¬ 2 ≤ (b : Int) - (i1 : Int) := by omega
                  go_wp2_with fail
                  go_roundw
                  case rel => exact FIN.out _ dF (by unfold fixUp; rw [if_neg h2]) HnF.out HSF.out
                  case measure => simp [intOf]; omega
end Go.Proofs.YtfabodpefbdbjaaGreatDoor

/-
  slices.Sort at uint64: bits.Len of a small number; nextPowerOfTwo; xorshift.Next.
-/
set_option linter.unusedVariables false
set_option linter.unusedSimpArgs false
namespace Go.Proofs.YtfabodpefbdbjaaGreatDoor
open Go.RowKit Go.Sort

/-- what Len says of x: how many bits it has -/
def LenOk (x k : Nat) : Prop := k ≤ 8 ∧ x < 2 ^ k ∧ (0 < x → 2 ^ k ≤ 2 * x)
instance (x k : Nat) : Decidable (LenOk x k) := by unfold LenOk; infer_instance
theorem lenOk_of {B : ByteArray} {x : Nat} {pf : x < B.size} (h : B.size = 256) (k : ∀ y : Fin 256, LenOk y.1 (B[y.1]'(by rw [h]; exact y.2)).toNat) : LenOk x (B[x]'pf).toNat := k ⟨x, h ▸ pf⟩
theorem wrap64_two (t : Nat) (h : t ≤ 8) : wrap64 (wrap64 (t : Int)) = (t : Int) := by
  unfold wrap64
  omega
set_option maxRecDepth 100000 in
set_option maxHeartbeats 4000000 in
theorem hlen64 (x : Nat) (w : World) (hx : x < 256) : Calls Tryz.prog 174 #[.int .u64 (x : Int)] w fun e w' => (∃ k : Nat, e = .returned (.int .i64 (k : Int)) ∧ LenOk x k) ∧ w' = w := by
  go_enter Tryz.func174, Tryz.ntmps174
  have h1 : ¬ ((4294967296 : Int) ≤ (x : Int)) := by omega
  have h2 : ¬ ((65536 : Int) ≤ (x : Int)) := by omega
  have h3 : ¬ ((256 : Int) ≤ (x : Int)) := by omega
  go_wp2_with fail
  go_ret
  clear h1 h2
  have hw : ∀ (t : Nat), LenOk x t → (∃ k : Nat, Ending.returned (.int .i64 (wrap64 (wrap64 (t : Int)))) = Ending.returned (.int .i64 (k : Int)) ∧ LenOk x k) ∧ w = w := fun t h => ⟨⟨t, by rw [wrap64_two t h.1], h⟩, rfl⟩
  refine hw _ ?_
  clear hw w
  refine lenOk_of (by decide +kernel) ?_
  decide +kernel
set_option maxRecDepth 100000 in
theorem hlen (x : Nat) (w : World) (hx : x < 256) : Calls Tryz.prog 184 #[.int .u64 (x : Int)] w fun e w' => (∃ k : Nat, e = .returned (.int .i64 (k : Int)) ∧ LenOk x k) ∧ w' = w := by
  go_enter Tryz.func184, Tryz.ntmps184
  go_wp2_with (go_at_call 174; refine (hlen64 x _ hx).mono ?_; rintro e w1 ⟨⟨k, rfl, hk⟩, rfl⟩)
  go_ret
  exact ⟨⟨k, rfl, hk⟩, rfl⟩
/-- nextPowerOfTwo: a power of two, of which the number is less, and which is not more than twice the number -/
def PowOk (x p : Nat) : Prop := x < p ∧ (0 < x → p ≤ 2 * x) ∧ p ≤ 256 ∧ 0 < p
set_option maxRecDepth 100000 in
theorem hpow (x : Nat) (w : World) (hx : x < 256) : Calls Tryz.prog 205 #[.int .i64 (x : Int)] w fun e w' => (∃ p : Nat, e = .returned (.int .u64 (p : Int)) ∧ PowOk x p) ∧ w' = w := by
  go_enter Tryz.func205, Tryz.ntmps205
  go_wp2_with (go_at_call 184; refine (hlen x _ hx).mono ?_; rintro e w1 ⟨⟨k, rfl, hk⟩, rfl⟩)
  go_ret
  have e1 : min k 64 = k := by have := hk.1; omega
  rw [e1]
  refine ⟨⟨2 ^ k, ?_, hk.2.1, hk.2.2, ?_, Nat.two_pow_pos k⟩, rfl⟩
  · have h8 : (2 : Nat) ^ k ≤ 2 ^ 8 := Nat.pow_le_pow_right (by omega) hk.1
    have e2 : IntKind.u64.wrap ((2 : Int) ^ k) = ((2 ^ k : Nat) : Int) := by
      rw [IntKind.wrap_u64, show ((2 : Int) ^ k) = ((2 ^ k : Nat) : Int) by simp]
      have := Nat.two_pow_pos k
      generalize (2 : Nat) ^ k = c at *
      omega
    show Ending.returned (.int .u64 _) = _
    rw [e2]
  · exact Nat.pow_le_pow_right (by omega : 0 < 2) hk.1
theorem xor_nat (a : Nat) (b : Int) (ha : a < 18446744073709551616) (h0 : 0 ≤ b) (h1 : b < 18446744073709551616) : ∃ A : Nat, A < 18446744073709551616 ∧ bits .xor .u64 (a : Int) b = (A : Int) := by
  obtain ⟨c, rfl⟩ : ∃ c : Nat, b = (c : Int) := ⟨b.toNat, by omega⟩
  exact ⟨a ^^^ c, Nat.xor_lt_two_pow (n := 64) (by omega) (by omega), bits_xor_u64_nat _ _ ha (by omega)⟩
/-- a block of one number; what has become of it -/
structure NxSt (w0 w : World) (X : Nat) (ty : Nat) (x : Nat) : Prop where
  heap : w.heap[X]? = some (.cells #[.int .u64 (x : Int)] ty (0, 0))
  chg : Chg (fun i => i = X) w0 w
section
variable {w0 w w' : World} {X ty x : Nat}
theorem NxSt.cell (h : NxSt w0 w X ty x) : w.cell? ⟨X, 0, none⟩ = some (.int .u64 (x : Int)) := by simp [World.cell?, h.heap]
theorem NxSt.frozen (h : NxSt w0 w X ty x) : w.frozen? ⟨X, 0, none⟩ = false := by simp [World.frozen?, h.heap]
theorem NxSt.lt (h : NxSt w0 w X ty x) : X < w.heap.size := (Array.getElem?_eq_some_iff.1 h.heap).1
theorem NxSt.on (h : NxSt w0 w X ty x) (hb : Below w.heap.size w w') : NxSt w0 w' X ty x := ⟨(hb.block X h.lt).trans h.heap, h.chg.trans (Chg.of_below (M := fun _ => False) hb) (fun i e => e.elim)⟩
theorem NxSt.set (h : NxSt w0 w X ty x) (y : Nat) : NxSt w0 (w.setCell ⟨X, 0, none⟩ (.int .u64 (y : Int))) X ty y := by
  refine ⟨?_, h.chg.setCell rfl _⟩
  rw [Go.Sort.setCell_eq]
  simp [Go.Sort.mapBlock, Array.getElem?_modify, h.heap, Go.Sort.onCells]
end
set_option maxRecDepth 100000 in
set_option maxHeartbeats 4000000 in
theorem hnext (X : Nat) (x : Nat) (ty : Nat) (w0 w : World) (hx : x < 18446744073709551616) (h : NxSt w0 w X ty x) :
    Calls Tryz.prog 206 #[.pointer (some ⟨X, 0, none⟩)] w fun e w' => ∃ r : Nat, r < 18446744073709551616 ∧ e = .returned (.int .u64 (r : Int)) ∧ NxSt w0 w' X ty r := by
  obtain ⟨A, hA, eA⟩ := xor_nat x (IntKind.u64.wrap ((x : Int) * 8192)) hx (by rw [IntKind.wrap_u64]; omega) (by rw [IntKind.wrap_u64]; omega)
  obtain ⟨B, hB, eB⟩ := xor_nat A ((A : Int) / 128) hA (by omega) (by omega)
  obtain ⟨C, hC, eC⟩ := xor_nat B (IntKind.u64.wrap ((B : Int) * 131072)) hB (by rw [IntKind.wrap_u64]; omega) (by rw [IntKind.wrap_u64]; omega)
  have HS := Lib.hid h
  have hc := h.cell
  have hf := h.frozen
  clear h
  go_enter Tryz.func206, Tryz.ntmps206
  go_wp2_with fail
  go_region
  all_goals go_wp2_with fail
  have h1 := (HS.out.set A).on (Below.refl _ _).drew
  have HS1 := Lib.hid h1
  have hc1 := h1.cell
  have hf1 := h1.frozen
  clear h1 hc hf
  revert HS1 hc1 hf1
  generalize World.drew _ = w1
  intro HS1 hc1 hf1
  go_region
  all_goals go_wp2_with fail
  have h1 := (HS1.out.set B).on (Below.refl _ _).drew
  have HS2 := Lib.hid h1
  have hc2 := h1.cell
  have hf2 := h1.frozen
  clear h1 hc1 hf1
  revert HS2 hc2 hf2
  generalize World.drew _ = w2
  intro HS2 hc2 hf2
  go_region
  all_goals go_wp2_with fail
  have h1 := (HS2.out.set C).on (Below.refl _ _).drew
  have HS3 := Lib.hid h1
  have hc3 := h1.cell
  have hf3 := h1.frozen
  clear h1 hc2 hf2
  revert HS3 hc3 hf3
  generalize World.drew _ = w3
  intro HS3 hc3 hf3
  go_wp2_with fail
  go_ret
  exact ⟨C, hC, rfl, HS3.out⟩
end Go.Proofs.YtfabodpefbdbjaaGreatDoor

/-
  slices.Sort at uint64: order2Ordered, medianOrdered, medianAdjacentOrdered, choosePivotOrdered: which place comes out is left open; it lies in the part.
-/
set_option linter.unusedVariables false
set_option linter.unusedSimpArgs false
namespace Go.Proofs.YtfabodpefbdbjaaGreatDoor
open Go.RowKit Go.Sort

/-- the row, and beside it a counter that alone has changed -/
structure PvSt (w0 w : World) (blk off m : Nat) (d : Array Int) (Y ty : Nat) : Prop where
  row : RowU w blk off m d
  cnt : ∃ s : Int, w.heap[Y]? = some (.cells #[.int .i64 s] ty (0, 0))
  chg : Chg (fun i => i = Y) w0 w
  ne : Y ≠ blk
section
variable {w0 w w' : World} {blk off m : Nat} {d : Array Int} {Y ty : Nat}
theorem PvSt.lt (h : PvSt w0 w blk off m d Y ty) : Y < w.heap.size := by obtain ⟨s, h⟩ := h.cnt; exact (Array.getElem?_eq_some_iff.1 h).1
theorem PvSt.on (h : PvSt w0 w blk off m d Y ty) (hb : Below w.heap.size w w') : PvSt w0 w' blk off m d Y ty := by
  obtain ⟨s, hs⟩ := h.cnt
  exact ⟨h.row.of_block (hb.block blk h.row.lt), ⟨s, (hb.block Y h.lt).trans hs⟩, h.chg.trans (Chg.of_below (M := fun _ => False) hb) (fun i e => e.elim), h.ne⟩
theorem PvSt.get (h : PvSt w0 w blk off m d Y ty) : ∃ s : Int, w.cell? ⟨Y, 0, none⟩ = some (.int .i64 s) ∧ w.frozen? ⟨Y, 0, none⟩ = false := by
  obtain ⟨s, hs⟩ := h.cnt
  exact ⟨s, by simp [World.cell?, hs], by simp [World.frozen?, hs]⟩
theorem PvSt.start (h : RowU w blk off m d) (ty : Nat) : PvSt (w.alloc (.cells #[.int .i64 0] ty (0, 0))) (w.alloc (.cells #[.int .i64 0] ty (0, 0))) blk off m d w.heap.size ty :=
  ⟨h.of_block (by show (w.heap.push _)[blk]? = _; rw [Array.getElem?_push, if_neg (by have := h.lt; omega)]), ⟨0, by show (w.heap.push _)[w.heap.size]? = _; simp⟩, Chg.refl, by have := h.lt; omega⟩
theorem PvSt.drewN (h : PvSt w0 w blk off m d Y ty) (q : Nat) : PvSt w0 (w.drewN q) blk off m d Y ty := h.on (below_drewN (Below.refl _ _) _)
theorem PvSt.set (h : PvSt w0 w blk off m d Y ty) (x : Int) : PvSt w0 (w.setCell ⟨Y, 0, none⟩ (.int .i64 x)) blk off m d Y ty := by
  obtain ⟨s, hs⟩ := h.cnt
  refine ⟨h.row.of_block ?_, ⟨x, ?_⟩, h.chg.setCell rfl _, h.ne⟩
  · rw [Go.Sort.setCell_eq]
    simp [Go.Sort.mapBlock, Array.getElem?_modify, h.ne]
  · rw [Go.Sort.setCell_eq]
    simp [Go.Sort.mapBlock, Array.getElem?_modify, hs, Go.Sort.onCells]
end
set_option maxRecDepth 100000 in
set_option maxHeartbeats 4000000 in
theorem horder2 (blk off m cap a b Y ty : Nat) (d : Array Int) (w0 w : World) (h : PvSt w0 w blk off m d Y ty) (ha : a < d.size) (hb : b < d.size) (hsz : d.size ≤ 1000000) :
    Calls Tryz.prog 219 #[slU blk off d.size cap, .int .i64 (a : Int), .int .i64 (b : Int), .pointer (some ⟨Y, 0, none⟩)] w fun e w' => ∃ p q : Nat, e = .returned (.tuple #[.int .i64 (p : Int), .int .i64 (q : Int)]) ∧ ((p = a ∧ q = b) ∨ (p = b ∧ q = a)) ∧ PvSt w0 w' blk off m d Y ty := by
  have HS := Lib.hid h
  obtain ⟨n, hn⟩ : ∃ n, n = d.size := ⟨_, rfl⟩
  have Hn := Lib.hid hn
  rw [← hn] at ha hb hsz
  clear h
  unfold slU
  rw [← hn]
  clear hn
  obtain ⟨G, hG⟩ : ∃ G : Nat → Int, ∀ t, G t = d[t]! := ⟨fun t => d[t]!, fun _ => rfl⟩
  have hcw : ∀ t, t < n → w.cell? ⟨blk, off + t, none⟩ = some (.int .u64 (G t)) := fun t ht => by rw [hG]; exact HS.out.row.cell (by have := Hn.out; omega)
  have hfw : ∀ t, t < n → w.frozen? ⟨blk, off + t, none⟩ = false := fun t _ => HS.out.row.frozen t
  clear hG
  go_enter Tryz.func219, Tryz.ntmps219
  go_wp2_with fail
  go_quiet (first | (go_at_call 197; refine Calls.quiet_of_same (hless _ _ _)))
  obtain ⟨W1, hW1⟩ : ∃ W1, W1 = w.drewN nq := ⟨_, rfl⟩
  have hs1 : PvSt w0 W1 blk off m d Y ty := by rw [hW1]; exact HS.out.drewN _
  rw [← hW1]
  clear hW1 hcw hfw
  have HS1 := Lib.hid hs1
  obtain ⟨s, hs⟩ := hs1.cnt
  have hcY : W1.cell? ⟨Y, 0, none⟩ = some (.int .i64 s) := by simp [World.cell?, hs]
  have hfY : W1.frozen? ⟨Y, 0, none⟩ = false := by simp [World.frozen?, hs]
  clear hs hs1
  cases hl : ltInt (G b) (G a)
  · go_wp2_with fail
    go_ret2
    exact ⟨a, b, rfl, .inl ⟨rfl, rfl⟩, HS1.out⟩
  · go_wp2_with fail
    go_ret2
    exact ⟨b, a, rfl, .inr ⟨rfl, rfl⟩, HS1.out.set _⟩
set_option maxRecDepth 100000 in
set_option maxHeartbeats 4000000 in
theorem hmedian (blk off m cap a b c Y ty : Nat) (d : Array Int) (w0 w : World) (h : PvSt w0 w blk off m d Y ty) (ha : a < d.size) (hb : b < d.size) (hc : c < d.size) (hsz : d.size ≤ 1000000) :
    Calls Tryz.prog 208 #[slU blk off d.size cap, .int .i64 (a : Int), .int .i64 (b : Int), .int .i64 (c : Int), .pointer (some ⟨Y, 0, none⟩)] w fun e w' => ∃ r : Nat, e = .returned (.int .i64 (r : Int)) ∧ (r = a ∨ r = b ∨ r = c) ∧ PvSt w0 w' blk off m d Y ty := by
  have H : ∀ (x y : Nat) (w1 : World), PvSt w0 w1 blk off m d Y ty → x < d.size → y < d.size → Calls Tryz.prog 219 #[slU blk off d.size cap, .int .i64 (x : Int), .int .i64 (y : Int), .pointer (some ⟨Y, 0, none⟩)] w1 fun e w' => ∃ p q : Nat, e = .returned (.tuple #[.int .i64 (p : Int), .int .i64 (q : Int)]) ∧ ((p = x ∧ q = y) ∨ (p = y ∧ q = x)) ∧ PvSt w0 w' blk off m d Y ty :=
    fun x y w1 h hx hy => horder2 blk off m cap x y Y ty d w0 w1 h hx hy hsz
  unfold slU at H ⊢
  go_enter Tryz.func208, Tryz.ntmps208
  go_wp2_with (go_at_call 219; refine (H _ _ _ (by assumption) (by omega) (by omega)).mono ?_; rintro e w1 ⟨p1, q1, rfl, hpq1, hs1⟩)
  go_ret
  rename_i hs1
  exact ⟨_, rfl, by omega, by assumption⟩
set_option maxRecDepth 100000 in
theorem hmedianA (blk off m cap a Y ty : Nat) (d : Array Int) (w0 w : World) (h : PvSt w0 w blk off m d Y ty) (h1 : 1 ≤ a) (ha : a + 1 < d.size) (hsz : d.size ≤ 1000000) :
    Calls Tryz.prog 207 #[slU blk off d.size cap, .int .i64 (a : Int), .pointer (some ⟨Y, 0, none⟩)] w fun e w' => ∃ r : Nat, e = .returned (.int .i64 (r : Int)) ∧ (r = a - 1 ∨ r = a ∨ r = a + 1) ∧ PvSt w0 w' blk off m d Y ty := by
  have H := hmedian blk off m cap (a - 1) a (a + 1) Y ty d w0 w h (by omega) (by omega) (by omega) hsz
  have e1 : ((a - 1 : Nat) : Int) = (a : Int) - 1 := by omega
  have e2 : ((a + 1 : Nat) : Int) = (a : Int) + 1 := by omega
  rw [e1, e2] at H
  have HH := Lib.hid H
  clear e1 e2 H
  unfold slU at HH ⊢
  go_enter Tryz.func207, Tryz.ntmps207
  go_wp2_with (go_at_call 208; refine (HH.out).mono ?_; rintro e w1 ⟨r, rfl, hr, hs1⟩)
  go_ret
  exact ⟨r, rfl, hr, hs1⟩
set_option maxRecDepth 100000 in
set_option maxHeartbeats 8000000 in
/-- choosePivot, of a part of more than twelve: a place in it, and one of three hints -/
theorem hpivot (blk off m cap a b : Nat) (d : Array Int) (w : World) (h : RowU w blk off m d) (hab : a + 12 < b) (hb : b ≤ d.size) (hsz : d.size ≤ 1000000) :
    Calls Tryz.prog 194 #[slU blk off d.size cap, .int .i64 (a : Int), .int .i64 (b : Int)] w fun e w' => ∃ (p k : Nat), e = .returned (.tuple #[.int .i64 (p : Int), .int .i64 (k : Int)]) ∧ a ≤ p ∧ p < b ∧ k ≤ 2 ∧ StU w w' blk off m d := by
  have H := Lib.hid h
  obtain ⟨n, hn⟩ : ∃ n, n = d.size := ⟨_, rfl⟩
  have Hn := Lib.hid hn
  rw [← hn] at hb hsz
  have hlt := h.lt
  have hm : ∀ (ty : Nat) (w1 : World) (x y z : Nat), PvSt (w.alloc (.cells #[.int .i64 0] ty (0, 0))) w1 blk off m d w.heap.size ty → x < n → y < n → z < n → Calls Tryz.prog 208 #[.slice (some ⟨blk, off, none⟩) n cap, .int .i64 (x : Int), .int .i64 (y : Int), .int .i64 (z : Int), .pointer (some ⟨w.heap.size, 0, none⟩)] w1 fun e w' => ∃ r : Nat, e = .returned (.int .i64 (r : Int)) ∧ (r = x ∨ r = y ∨ r = z) ∧ PvSt (w.alloc (.cells #[.int .i64 0] ty (0, 0))) w' blk off m d w.heap.size ty :=
    fun ty w1 x y z h hx hy hz => by rw [hn]; exact hmedian blk off m cap x y z _ ty d _ w1 h (by omega) (by omega) (by omega) (by omega)
  have hma : ∀ (ty : Nat) (w1 : World) (x : Nat), PvSt (w.alloc (.cells #[.int .i64 0] ty (0, 0))) w1 blk off m d w.heap.size ty → 1 ≤ x → x + 1 < n → Calls Tryz.prog 207 #[.slice (some ⟨blk, off, none⟩) n cap, .int .i64 (x : Int), .pointer (some ⟨w.heap.size, 0, none⟩)] w1 fun e w' => ∃ r : Nat, e = .returned (.int .i64 (r : Int)) ∧ (r = x - 1 ∨ r = x ∨ r = x + 1) ∧ PvSt (w.alloc (.cells #[.int .i64 0] ty (0, 0))) w' blk off m d w.heap.size ty :=
    fun ty w1 x h hx hy => by rw [hn]; exact hmedianA blk off m cap x _ ty d _ w1 h (by omega) (by omega) (by omega)
  have HM := Lib.hid hm
  have HMA := Lib.hid hma
  clear hm hma h
  unfold slU
  rw [← hn]
  clear hn
  obtain ⟨l, hl⟩ : ∃ l, l = b - a := ⟨_, rfl⟩
  obtain ⟨q, hq⟩ : ∃ q, q = l / 4 := ⟨_, rfl⟩
  obtain ⟨i, hi⟩ : ∃ i, i = a + q := ⟨_, rfl⟩
  obtain ⟨j, hj⟩ : ∃ j, j = a + q * 2 := ⟨_, rfl⟩
  obtain ⟨k, hk⟩ : ∃ k, k = a + q * 3 := ⟨_, rfl⟩
  have el : (b : Int) - (a : Int) = (l : Int) := by omega
  have eq : (l : Int) / 4 = (q : Int) := by omega
  have ei : (a : Int) + (q : Int) = (i : Int) := by omega
  have ej : (a : Int) + (q : Int) * 2 = (j : Int) := by omega
  have ek : (a : Int) + (q : Int) * 3 = (k : Int) := by omega
  have r1 : a + 3 ≤ i := by omega
  have r2 : i + 3 ≤ j := by omega
  have r3 : j + 3 ≤ k := by omega
  have r4 : k + 3 ≤ b := by omega
  have r5 : k < b := by omega
  have r6 : l ≤ 1000000 := by omega
  have r7 : q ≤ 1000000 := by omega
  have r8 : 8 ≤ (l : Int) := by omega
  clear hl hq hi hj hk
  have HP0 : Hid (∀ ty : Nat, PvSt (w.alloc (.cells #[.int .i64 0] ty (0, 0))) (w.alloc (.cells #[.int .i64 0] ty (0, 0))) blk off m d w.heap.size ty) := Lib.hid fun ty => PvSt.start H.out ty
  have HFIN : Hid (∀ (ty : Nat) (w1 : World), PvSt (w.alloc (.cells #[.int .i64 0] ty (0, 0))) w1 blk off m d w.heap.size ty → StU w w1 blk off m d) := Lib.hid fun ty w1 h =>
    ⟨h.row, (Chg.refl.alloc _).trans h.chg (fun i e => .inr (by omega))⟩
  go_enter Tryz.func194, Tryz.ntmps194
  by_cases h50 : 50 ≤ (l : Int)
  all_goals
    go_wp2_with (first
      | (go_at_call 207; refine (HMA.out _ _ _ (by first | exact HP0.out _ | assumption) (by omega) (by omega)).mono ?_; rintro e w1 ⟨r, rfl, hr, hs1⟩; obtain ⟨s, hcY, hfY⟩ := hs1.get)
      | (go_at_call 208; refine (HM.out _ _ _ _ _ (by first | exact HP0.out _ | assumption) (by omega) (by omega) (by omega)).mono ?_; rintro e w1 ⟨r, rfl, hr, hs1⟩; obtain ⟨s, hcY, hfY⟩ := hs1.get))
    all_goals
      go_ret2
      first
        | exact ⟨_, 1, rfl, by omega, by omega, by omega, HFIN.out _ _ (by assumption)⟩
        | exact ⟨_, 2, rfl, by omega, by omega, by omega, HFIN.out _ _ (by assumption)⟩
        | exact ⟨_, 0, rfl, by omega, by omega, by omega, HFIN.out _ _ (by assumption)⟩
end Go.Proofs.YtfabodpefbdbjaaGreatDoor

/-
  slices.Sort at uint64: breakPatternsOrdered: some permutation of the part.
-/
set_option linter.unusedVariables false
set_option linter.unusedSimpArgs false
namespace Go.Proofs.YtfabodpefbdbjaaGreatDoor
open Go.RowKit Go.Sort

/-- the row, and beside it the random number, in a block of its own -/
structure BrSt (w0 w : World) (blk off m : Nat) (d : Array Int) (X ty x : Nat) : Prop where
  row : RowU w blk off m d
  rnd : w.heap[X]? = some (.cells #[.int .u64 (x : Int)] ty (0, 0))
  lt : x < 18446744073709551616
  chg : Chg (fun i => i = blk) w0 w
  old : w0.heap.size ≤ X
  ob : blk < w0.heap.size
section
variable {w0 w w' : World} {blk off m : Nat} {d : Array Int} {X ty x : Nat}
theorem BrSt.nx (h : BrSt w0 w blk off m d X ty x) : NxSt w w X ty x := ⟨h.rnd, Chg.refl⟩
theorem BrSt.next (h : BrSt w0 w blk off m d X ty x) {r : Nat} (hr : r < 18446744073709551616) (k : NxSt w w' X ty r) : BrSt w0 w' blk off m d X ty r :=
  ⟨h.row.of_block (k.chg.block blk h.row.lt (by have := h.old; have := h.ob; omega)), k.heap, hr, h.chg.trans k.chg (fun i e => .inr (by have := h.old; omega)), h.old, h.ob⟩
theorem BrSt.on (h : BrSt w0 w blk off m d X ty x) (hb : Below w.heap.size w w') : BrSt w0 w' blk off m d X ty x :=
  ⟨h.row.of_block (hb.block blk h.row.lt), (hb.block X (Array.getElem?_eq_some_iff.1 h.rnd).1).trans h.rnd, h.lt, h.chg.trans (Chg.of_below (M := fun _ => False) hb) (fun i e => e.elim), h.old, h.ob⟩
theorem BrSt.st (h : BrSt w0 w blk off m d X ty x) : StU w0 w blk off m d := ⟨h.row, h.chg⟩
theorem heap_setCell_other (w : World) {q t i : Nat} (v : Value) (hi : q ≠ i) : (w.setCell ⟨q, t, none⟩ v).heap[i]? = w.heap[i]? := by
  rw [Go.Sort.setCell_eq]
  simp [Go.Sort.mapBlock, Array.getElem?_modify, hi]
theorem BrSt.swap (h : BrSt w0 w blk off m d X ty x) {j k : Nat} (hj : j < d.size) (hk : k < d.size) : BrSt w0 ((w.setCell ⟨blk, off + j, none⟩ (.int .u64 d[k]!)).setCell ⟨blk, off + k, none⟩ (.int .u64 d[j]!)) blk off m (swp d j k) X ty x := by
  have hs := h.st.swap hj hk
  have hne : blk ≠ X := by have := h.old; have := h.ob; omega
  exact ⟨hs.row, (heap_setCell_other _ _ hne).trans ((heap_setCell_other _ _ hne).trans h.rnd), h.lt, hs.chg, h.old, h.ob⟩
theorem BrSt.start (h : RowU w blk off m d) (ty : Nat) (l : Nat) (hl : l < 18446744073709551616) : BrSt w (w.alloc (.cells #[.int .u64 (l : Int)] ty (0, 0))) blk off m d w.heap.size ty l :=
  ⟨h.of_block (by show (w.heap.push _)[blk]? = _; rw [Array.getElem?_push, if_neg (by have := h.lt; omega)]), by show (w.heap.push _)[w.heap.size]? = _; simp, hl, Chg.refl.alloc _, Nat.le_refl _, h.lt⟩
end
theorem and_some (R p1 : Nat) (hR : R < 18446744073709551616) (hp : p1 < 256) : ∃ O : Nat, O ≤ p1 ∧ bits .and .u64 (R : Int) (p1 : Int) = (O : Int) :=
  ⟨R &&& p1, Nat.and_le_right, bits_and_u64_nat _ _ hR (by omega)⟩
set_option maxRecDepth 100000 in
set_option maxHeartbeats 8000000 in
theorem hbreak (blk off m cap a b : Nat) (d : Array Int) (w : World) (h : RowU w blk off m d) (hab : a + 12 < b) (hb : b ≤ d.size) (hsz : d.size ≤ 200) :
    Calls Tryz.prog 193 #[slU blk off d.size cap, .int .i64 (a : Int), .int .i64 (b : Int)] w fun e w' => (∃ u, e = .returned u) ∧ ∃ d', PermIn a b d d' ∧ StU w w' blk off m d' := by
  have H := Lib.hid h
  obtain ⟨n, hn⟩ : ∃ n, n = d.size := ⟨_, rfl⟩
  have Hn := Lib.hid hn
  rw [← hn] at hb hsz
  clear h
  unfold slU
  rw [← hn]
  clear hn
  obtain ⟨l, hl⟩ : ∃ l, l = b - a := ⟨_, rfl⟩
  obtain ⟨c, hc⟩ : ∃ c, c = l / 4 := ⟨_, rfl⟩
  obtain ⟨u, hu⟩ : ∃ u, u = a + c * 2 := ⟨_, rfl⟩
  obtain ⟨I, hI⟩ : ∃ I, I = u - 1 := ⟨_, rfl⟩
  have el : (b : Int) - (a : Int) = (l : Int) := by omega
  have ec : (l : Int) / 4 = (c : Int) := by omega
  have eu : (a : Int) + (c : Int) * 2 = (u : Int) := by omega
  have eI : (u : Int) - 1 = (I : Int) := by omega
  have r1 : a + 3 ≤ u := by omega
  have r2 : u + 2 < b := by omega
  have r3 : l ≤ 200 := by omega
  have r4 : a + l = b := by omega
  have r5 : 8 ≤ (l : Int) := by omega
  have r6 : I + 1 = u := by omega
  have r7 : c ≤ 200 := by omega
  have hP := hpow l
  have HP := Lib.hid hP
  have hst0 : Hid (∀ ty : Nat, BrSt w (w.alloc (.cells #[.int .u64 (l : Int)] ty (0, 0))) blk off m d w.heap.size ty l) := Lib.hid fun ty => BrSt.start H.out ty l (by omega)
  clear hl hc hu hI hP
  go_enter Tryz.func193, Tryz.ntmps193
  go_wp2_with (go_at_call 205; refine (HP.out _ (by omega)).mono ?_; rintro e w1 ⟨⟨p, rfl, hp⟩, rfl⟩)
  obtain ⟨w1, hw1⟩ : ∃ w1, w1 = w.alloc (.cells #[.int .u64 (l : Int)] 253 (0, 0)) := ⟨_, rfl⟩
  have hs1 : BrSt w w1 blk off m d w.heap.size 253 l := by rw [hw1]; exact hst0.out _
  rw [← hw1]
  have HS1 := Lib.hid hs1
  clear hw1 hs1 hst0
  obtain ⟨p1, rfl⟩ : ∃ p1, p = p1 + 1 := ⟨p - 1, by have := hp.2.2.2; omega⟩
  have ep : ((p1 + 1 : Nat) : Int) - 1 = (p1 : Int) := by omega
  have q1 : p1 < 2 * l := by have := hp.2.1 (by omega); omega
  have q2 : p1 < 256 := by have := hp.2.2.1; omega
  obtain ⟨p, hpp⟩ : ∃ p, p = p1 + 1 := ⟨_, rfl⟩
  rw [← hpp] at ep ⊢
  have q3 : p ≤ 256 := by omega
  have q4 : 1 ≤ p := by omega
  clear hp hpp
  go_loopw [9] (fun vi wr => ∃ (x r : Nat) (dk : Array Int), vi = .int .i64 x ∧ u ≤ x + 1 ∧ x ≤ u + 2 ∧ dk.size = n ∧ PermIn a b d dk ∧ BrSt w wr blk off m dk w.heap.size 253 r) (fun vi _ => u + 2 - (intOf vi).toNat)
  case atStart => exact ⟨I, l, d, rfl, by omega, by omega, Hn.out.symm, permIn_refl _ _ _, HS1.out⟩
  case round =>
    obtain ⟨x, r, dk, rfl, hx1, hx2, hsk, hpm, hst⟩ := hrel
    have HPm := Lib.hid hpm
    have HS := Lib.hid hst
    have Hsk := Lib.hid hsk
    clear hpm hst hsk
    by_cases hgo : x ≤ u + 1
    · have hgoz : (x : Int) ≤ (u : Int) + 1 := by omega
      obtain ⟨G, hG⟩ : ∃ G : Nat → Int, ∀ t, G t = dk[t]! := ⟨fun t => dk[t]!, fun _ => rfl⟩
      have HG := Lib.hid hG
      clear hG
      have hN := fun ty (h : NxSt wr wr w.heap.size ty r) => hnext w.heap.size r ty wr wr HS.out.lt h
      have HN := Lib.hid (hN _ HS.out.nx)
      clear hN
      go_wp2_with (go_at_call 206; go_loud (refine (HN.out).mono ?_; rintro e w2 ⟨R, hR, rfl, hnx⟩; have hA := and_some R p1 hR q2; obtain ⟨O, hO1, eAnd⟩ := hA))
      · have hLO : l ≤ O := by first | assumption | omega
        obtain ⟨o, ho⟩ : ∃ o, o = O - l := ⟨_, rfl⟩
        have eo : (O : Int) - (l : Int) = (o : Int) := by omega
        rw [eo]
        have ho1 : o < l := by omega
        clear ho eo
        obtain ⟨q, hq⟩ : ∃ q, q = a + o := ⟨_, rfl⟩
        have eq : (a : Int) + (o : Int) = (q : Int) := by omega
        have wq : IntKind.i64.wrap ((a : Int) + (o : Int)) = (q : Int) := by rw [eq]; exact IntWalk.i64_in _ (by omega)
        have b1 : q < n := by omega
        have b2 : x < n := by omega
        have b3 : a ≤ x := by omega
        have b4 : x < b := by omega
        have b5 : a ≤ q := by omega
        have b6 : q < b := by omega
        clear hq
        have hs2 := HS.out.next hR hnx
        have HS2 := Lib.hid hs2
        have hcw : ∀ t, t < n → w2.cell? ⟨blk, off + t, none⟩ = some (.int .u64 (G t)) := fun t ht => by rw [HG.out]; exact HS2.out.row.cell (by have := Hsk.out; omega)
        have hfw : ∀ t, t < n → w2.frozen? ⟨blk, off + t, none⟩ = false := fun t _ => HS2.out.row.frozen t
        have hx : (w2.setCell ⟨blk, off + x, none⟩ (.int .u64 (G q))).cell? ⟨blk, off + q, none⟩ = some (.int .u64 (G q)) := by
          by_cases e : x = q
          · rw [← e]; exact World.cell?_setCell_same _ _ _ (hcw x (by omega))
          · exact (World.cell?_setCell_other _ _ _ _ (by intro e2; injection e2 with _ e2; omega)).trans (hcw q (by omega))
        clear hs2 hnx
        go_region
        all_goals go_wp2_with fail
        go_roundw
        case rel =>
          refine ⟨x + 1, R, swp dk x q, by go_num, by omega, by omega, by rw [size_swp]; exact Hsk.out, permIn_trans _ _ _ a b HPm.out (swp_permIn dk a b x q b3 b4 b5 b6 (by have := Hsk.out; omega)), ?_⟩
          rw [HG.out, HG.out]
          exact (HS2.out.swap (by have := Hsk.out; omega) (by have := Hsk.out; omega)).on (Below.refl _ _).drew
        case measure => simp [intOf]; omega
      · have hLO : ¬ l ≤ O := by first | assumption | omega
        obtain ⟨o, ho⟩ : ∃ o, o = O := ⟨_, rfl⟩
        have ho1 : o < l := by omega
        rw [← ho]
        clear ho
        obtain ⟨q, hq⟩ : ∃ q, q = a + o := ⟨_, rfl⟩
        have eq : (a : Int) + (o : Int) = (q : Int) := by omega
        have wq : IntKind.i64.wrap ((a : Int) + (o : Int)) = (q : Int) := by rw [eq]; exact IntWalk.i64_in _ (by omega)
        have b1 : q < n := by omega
        have b2 : x < n := by omega
        have b3 : a ≤ x := by omega
        have b4 : x < b := by omega
        have b5 : a ≤ q := by omega
        have b6 : q < b := by omega
        clear hq
        have hs2 := HS.out.next hR hnx
        have HS2 := Lib.hid hs2
        have hcw : ∀ t, t < n → w2.cell? ⟨blk, off + t, none⟩ = some (.int .u64 (G t)) := fun t ht => by rw [HG.out]; exact HS2.out.row.cell (by have := Hsk.out; omega)
        have hfw : ∀ t, t < n → w2.frozen? ⟨blk, off + t, none⟩ = false := fun t _ => HS2.out.row.frozen t
        have hx : (w2.setCell ⟨blk, off + x, none⟩ (.int .u64 (G q))).cell? ⟨blk, off + q, none⟩ = some (.int .u64 (G q)) := by
          by_cases e : x = q
          · rw [← e]; exact World.cell?_setCell_same _ _ _ (hcw x (by omega))
          · exact (World.cell?_setCell_other _ _ _ _ (by intro e2; injection e2 with _ e2; omega)).trans (hcw q (by omega))
        clear hs2 hnx
        go_region
        all_goals go_wp2_with fail
        go_roundw
        case rel =>
          refine ⟨x + 1, R, swp dk x q, by go_num, by omega, by omega, by rw [size_swp]; exact Hsk.out, permIn_trans _ _ _ a b HPm.out (swp_permIn dk a b x q b3 b4 b5 b6 (by have := Hsk.out; omega)), ?_⟩
          rw [HG.out, HG.out]
          exact (HS2.out.swap (by have := Hsk.out; omega) (by have := Hsk.out; omega)).on (Below.refl _ _).drew
        case measure => simp [intOf]; omega
    · have hgoz : ¬ (x : Int) ≤ (u : Int) + 1 := by omega
      go_wp2_with fail
      go_end0
      exact ⟨⟨_, rfl⟩, dk, HPm.out, HS.out.st⟩
end Go.Proofs.YtfabodpefbdbjaaGreatDoor

/- SxPdq -/

/-
  slices.Sort at uint64: pdqsortOrdered: the part comes out sorted, a permutation of what it was.
-/
set_option linter.unusedVariables false
set_option linter.unusedSimpArgs false
namespace Go.Proofs.YtfabodpefbdbjaaGreatDoor
open Go.RowKit Go.Sort

set_option maxRecDepth 1000000 in
set_option maxHeartbeats 16000000 in
theorem hpdq : ∀ (N blk off m cap a b limit : Nat) (d : Array Int) (w : World), b - a < N → RowU w blk off m d → a ≤ b → b ≤ d.size → d.size ≤ 200 → limit ≤ 1000 → Go.Sort.Below ltInt a b d →
    Calls Tryz.prog 183 #[slU blk off d.size cap, .int .i64 (a : Int), .int .i64 (b : Int), .int .i64 (limit : Int)] w fun e w' => (∃ u, e = .returned u) ∧ ∃ d', PermIn a b d d' ∧ SortedIn ltInt a b d' ∧ StU w w' blk off m d' := by
  intro N
  induction N with
  | zero => intro _ _ _ _ _ _ _ _ _ h; exact absurd h (Nat.not_lt_zero _)
  | succ N ih =>
    intro blk off m cap a b limit d w hN hrow hab hb hsz hlimit hBel0
    have IH := Lib.hid ih
    have H := Lib.hid hrow
    have HB0 := Lib.hid hBel0
    obtain ⟨n, hn⟩ : ∃ n, n = d.size := ⟨_, rfl⟩
    have Hn := Lib.hid hn
    rw [← hn] at hb hsz
    clear ih hrow hBel0
    unfold slU
    rw [← hn]
    clear hn
    go_enter Tryz.func183, Tryz.ntmps183
    go_wp2_with fail
    go_loopw [1, 2, 3, 8, 9] (fun s1 s2 s3 s8 s9 wr => ∃ (a' b' lim : Nat) (wb wp : Bool) (dk : Array Int), s1 = .int .i64 a' ∧ s2 = .int .i64 b' ∧ s3 = .int .i64 lim ∧ s8 = .bool wb ∧ s9 = .bool wp ∧ a' ≤ b' ∧ b' ≤ n ∧ b' - a' ≤ b - a ∧ lim ≤ 1000 ∧ dk.size = n ∧ Go.Sort.Below ltInt a' b' dk ∧ StU w wr blk off m dk ∧ (∀ R, PermIn a' b' dk R → SortedIn ltInt a' b' R → PermIn a b d R ∧ SortedIn ltInt a b R)) (fun s1 s2 _ _ _ _ => (intOf s2 - intOf s1).toNat)
    case atStart => exact ⟨a, b, limit, true, true, d, rfl, rfl, rfl, rfl, rfl, hab, hb, Nat.le_refl _, hlimit, Hn.out.symm, HB0.out, StU.refl H.out, fun R h1 h2 => ⟨h1, h2⟩⟩
    case round =>
      obtain ⟨a', b', lim, wb, wp, dk, rfl, rfl, rfl, rfl, rfl, hab', hb', hk, hlim, hds, hBel, hst, hF⟩ := hrel
      have HF := Lib.hid hF
      have HS := Lib.hid hst
      have HB := Lib.hid hBel
      have Hds := Lib.hid hds
      have hbd : b' ≤ dk.size := by rw [hds]; exact hb'
      have hzd : dk.size ≤ 200 := by rw [hds]; exact hsz
      clear hF hst hBel hds
      by_cases h12 : b' - a' ≤ 12
      · have h12z : (b' : Int) - (a' : Int) ≤ 12 := by omega
        have hc := hins blk off m cap a' b' dk wr HS.out.row hab' hbd (by omega)
        unfold slU at hc
        rw [Hds.out] at hc
        obtain ⟨hp, hs⟩ := insertionSort_holds swo_ltInt dk a' b' hab' hbd
        have HP := Lib.hid hp
        have HSo := Lib.hid hs
        have HC := Lib.hid hc
        clear hp hs hc
        go_wp2_with (go_at_call 191; refine (HC.out).mono ?_; rintro e w1 ⟨⟨u, rfl⟩, hw1⟩)
        (try simp only [Exit.inBlock, Exit.then])
        refine bodyPost_ret (results_none rfl _ _ _) rfl ?_
        exact ⟨⟨_, rfl⟩, _, (HF.out _ HP.out HSo.out).1, (HF.out _ HP.out HSo.out).2, HS.out.then_ hw1⟩
      · have h12z : ¬ ((b' : Int) - (a' : Int) ≤ 12) := by omega
        have h12g : a' + 12 < b' := by omega
        by_cases hl0 : lim = 0
        · subst hl0
          have hc := hheap blk off m cap a' b' dk wr HS.out.row hab' hbd (by omega)
          unfold slU at hc
          rw [Hds.out] at hc
          obtain ⟨hp, hs⟩ := heapSort_holds swo_ltInt dk a' b' hab' hbd
          have HP := Lib.hid hp
          have HSo := Lib.hid hs
          have HC := Lib.hid hc
          clear hp hs hc
          go_wp2_with (go_at_call 192; refine (HC.out).mono ?_; rintro e w1 ⟨⟨u, rfl⟩, hw1⟩)
          (try simp only [Exit.inBlock, Exit.then])
          refine bodyPost_ret (results_none rfl _ _ _) rfl ?_
          exact ⟨⟨_, rfl⟩, _, (HF.out _ HP.out HSo.out).1, (HF.out _ HP.out HSo.out).2, HS.out.then_ hw1⟩
        · have hl0z : ¬ ((lim : Int) = 0) := by omega
          go_upto_if 35 with fail
          go_cut [3] from 19 (fun s3 wc => ∃ (lim1 : Nat) (d1 : Array Int), s3 = .int .i64 lim1 ∧ lim1 ≤ 1000 ∧ PermIn a' b' dk d1 ∧ StU w wc blk off m d1)
          case first =>
            cases wb
            · have hc := hbreak blk off m cap a' b' dk wr HS.out.row h12g hbd hzd
              unfold slU at hc
              rw [Hds.out] at hc
              have HC := Lib.hid hc
              clear hc
              go_wp2_with (go_at_call 193; refine (HC.out).mono ?_; rintro e w1 ⟨⟨u, rfl⟩, d1, hp1, hw1⟩)
              go_meet
              case rel => exact ⟨lim - 1, d1, by congr 1; omega, by omega, hp1, HS.out.then_ hw1⟩
            · go_wp2_with fail
              go_meet
              case rel => exact ⟨lim, dk, rfl, hlim, permIn_refl _ _ _, HS.out⟩
          case rest =>
            obtain ⟨lim1, d1, rfl, hlim1, hp1, hst1⟩ := hcut
            have hz1 : d1.size = n := hp1.1.trans Hds.out
            have hb1 : b' ≤ d1.size := by omega
            have HP1 := Lib.hid hp1
            have HS1 := Lib.hid hst1
            have Hz1 := Lib.hid hz1
            have hc := hpivot blk off m cap a' b' d1 wc HS1.out.row h12g hb1 (by omega)
            unfold slU at hc
            rw [Hz1.out] at hc
            have HC := Lib.hid hc
            clear hc hp1 hst1 hz1 hb1
            go_upto_if 50 with (go_at_call 194; refine (HC.out).mono ?_; rintro e w2 ⟨p, k, rfl, hpa, hpb, hk2, hw2⟩)
            have HS2 := Lib.hid (HS1.out.then_ hw2)
            clear hw2 HC
            go_cut [11, 12] from 19 (fun s11 s12 wc => ∃ (p' k' : Nat) (d2 : Array Int), s11 = .int .i64 p' ∧ s12 = .int .i64 k' ∧ a' ≤ p' ∧ p' < b' ∧ k' ≤ 2 ∧ PermIn a' b' dk d2 ∧ StU w wc blk off m d2)
            case first =>
              by_cases hk2 : k = 2
              · subst hk2
                have hb1 : b' ≤ d1.size := by have := Hz1.out; omega
                have hc := hrev blk off m cap a' b' d1 w2 HS2.out.row (by omega) hb1 (by have := Hz1.out; omega)
                unfold slU at hc
                rw [Hz1.out] at hc
                have HC := Lib.hid hc
                have hpr := Lib.hid (permIn_trans _ _ _ a' b' HP1.out (reverseRange_holds d1 a' b' hab' hb1))
                clear hc hb1
                go_wp2_with (go_at_call 195; refine (HC.out).mono ?_; rintro e w3 ⟨⟨u, rfl⟩, hw3⟩)
                go_meet
                case rel => exact ⟨b' - 1 - (p - a'), 1, _, by congr 1; omega, rfl, by omega, by omega, by omega, hpr.out, HS2.out.then_ hw3⟩
              · have hkz : ¬ ((k : Int) = 2) := by omega
                go_wp2_with fail
                go_meet
                case rel => exact ⟨p, k, d1, rfl, rfl, hpa, hpb, by omega, HP1.out, HS2.out⟩
            case rest =>
              obtain ⟨p', k', d2, rfl, rfl, hpa', hpb', hk2', hp2, hst2⟩ := hcut
              have hz2 : d2.size = n := hp2.1.trans Hds.out
              have HP2 := Lib.hid hp2
              have HS3 := Lib.hid hst2
              have Hz2 := Lib.hid hz2
              clear hp2 hst2 hz2 HP1 HS1 Hz1 HS2
              go_upto_region 15 with fail
              go_cut [68] from 19 (fun s68 wx => (∃ t : Bool, s68 = .bool t) ∧ wx = wc)
              case first =>
                cases wb <;> cases wp <;>
                  (go_wp2_with fail
                   go_meet
                   exact ⟨⟨_, rfl⟩, rfl⟩)
              case rest =>
                obtain ⟨⟨t, rfl⟩, rfl⟩ := hcut
                go_upto_if 68 with fail
                go_cut [] from 19 (fun wx => ∃ d3, PermIn a' b' dk d3 ∧ StU w wx blk off m d3)
                case first =>
                  cases t
                  · go_wp2_with fail
                    go_meet
                    case rel => exact ⟨d2, HP2.out, HS3.out⟩
                  · have hb2 : b' ≤ d2.size := by have := Hz2.out; omega
                    obtain ⟨d3, t2, hx⟩ : ∃ d3 t2, partialInsertionSort ltInt d2 a' b' = (d3, t2) := ⟨_, _, rfl⟩
                    have hc := hpins blk off m cap a' b' d2 _ HS3.out.row (by omega) hb2 (by have := Hz2.out; omega)
                    have hpi := partialInsertionSort_holds swo_ltInt d2 a' b' (by omega) hb2 (Go.Sort.Below.perm HB.out hbd HP2.out)
                    unfold slU at hc
                    rw [Hz2.out, hx] at hc
                    rw [hx] at hpi
                    have HC := Lib.hid hc
                    have HPI := Lib.hid hpi
                    clear hc hpi hx hb2
                    cases t2
                    · go_wp2_with (go_at_call 196; refine (HC.out).mono ?_; rintro e w4 ⟨rfl, hw4⟩)
                      go_meet
                      case rel => exact ⟨d3, permIn_trans _ _ _ a' b' HP2.out HPI.out.1, HS3.out.then_ hw4⟩
                    · go_wp2_with (go_at_call 196; refine (HC.out).mono ?_; rintro e w4 ⟨rfl, hw4⟩)
                      (try simp only [Exit.inBlock, Exit.then])
                      refine bodyPost_ret (results_none rfl _ _ _) rfl ?_
                      have hf := HF.out d3 (permIn_trans _ _ _ a' b' HP2.out HPI.out.1) (by have h9 := HPI.out.2; simpa using h9)
                      exact ⟨⟨_, rfl⟩, d3, hf.1, hf.2, HS3.out.then_ hw4⟩
                case rest =>
                  obtain ⟨d3, hp3, hst3⟩ := hcut
                  have hz3 : d3.size = n := hp3.1.trans Hds.out
                  have HP3 := Lib.hid hp3
                  have HS4 := Lib.hid hst3
                  have Hz3 := Lib.hid hz3
                  have HB3 := Lib.hid (Go.Sort.Below.perm HB.out hbd hp3)
                  clear hp3 hst3 hz3 HP2 HS3 Hz2
                  obtain ⟨G, hG⟩ : ∃ G : Nat → Int, ∀ t, G t = d3[t]! := ⟨fun t => d3[t]!, fun _ => rfl⟩
                  have HG := Lib.hid hG
                  clear hG
                  have hcw : ∀ t, t < n → wc.cell? ⟨blk, off + t, none⟩ = some (.int .u64 (G t)) := fun t ht => by rw [HG.out]; exact HS4.out.row.cell (by have := Hz3.out; omega)
                  have hfw : ∀ t, t < n → wc.frozen? ⟨blk, off + t, none⟩ = false := fun t _ => HS4.out.row.frozen t
                  go_upto_region 17 with fail
                  go_cut [87] from 19 (fun s87 wx => (∃ t : Bool, s87 = .bool t ∧ (t = true → 0 < a' ∧ ltInt (G (a' - 1)) (G p') = false)) ∧ StU w wx blk off m d3)
                  case first =>
                    rcases Nat.eq_zero_or_pos a' with ha0 | ha0
                    · have ha0z : decide ((a' : Int) > 0) = false := decide_eq_false (by omega)
                      go_big_quiet (first | (go_at_call 197; refine Calls.quiet_of_same (hless _ _ _)))
                      go_wp2_with fail
                      go_meet
                      case rel => exact ⟨⟨false, rfl, fun h => by cases h⟩, HS4.out.drewN nq⟩
                    · have ha0z : (a' : Int) > 0 := by omega
                      go_big_quiet (first | (go_at_call 197; refine Calls.quiet_of_same (hless _ _ _)))
                      go_wp2_with fail
                      go_meet
                      case rel => exact ⟨⟨!ltInt (G (a' - 1)) (G p'), rfl, fun h => ⟨ha0, by simpa using h⟩⟩, HS4.out.drewN nq⟩
                  case rest =>
                    obtain ⟨⟨t, rfl, ht⟩, hst4⟩ := hcut
                    have HT := Lib.hid ht
                    have HS5 := Lib.hid hst4
                    have hb3 : b' ≤ d3.size := by have := Hz3.out; omega
                    have hz3' : d3.size ≤ 1000000 := by have := Hz3.out; omega
                    have HB3' := Lib.hid hb3
                    clear ht hst4 hcw hfw HS4 HS
                    cases t
                    · obtain ⟨mid, ap, d4, hx⟩ : ∃ mid ap d4, partition ltInt d3 a' b' p' = (mid, ap, d4) := ⟨_, _, _, rfl⟩
                      obtain ⟨g1, g2, hs4, hBa, hBr, hleft, hright⟩ := round_part swo_ltInt (partition_holds _) hpa' hpb' hb3 HB3.out hx
                      have hc := hpart blk off m cap a' b' p' d3 _ HS5.out.row hpa' hpb' hb3 hz3'
                      unfold slU at hc
                      rw [Hz3.out, hx] at hc
                      have HC := Lib.hid hc
                      have hz4 : d4.size = n := hs4.trans Hz3.out
                      have Hz4 := Lib.hid hz4
                      have HBa := Lib.hid hBa
                      have HBr := Lib.hid hBr
                      have HLf := Lib.hid hleft
                      have HRt := Lib.hid hright
                      clear hc hx hz3' hb3 hs4 hz4 hBa hBr hleft hright
                      by_cases hlt : mid - a' < b' - mid
                      · have hltz : decide ((mid : Int) - (a' : Int) < (b' : Int) - (mid : Int)) = true := decide_eq_true (by omega)
                        go_wp2_with (go_at_call 199; refine (HC.out).mono ?_; rintro e w5 ⟨rfl, hw5⟩)
                        have HS6 := Lib.hid (HS5.out.then_ hw5)
                        have hr := IH.out blk off m cap a' mid lim1 d4 _ (by omega) HS6.out.row g1 (by have := Hz4.out; omega) (by have := Hz4.out; omega) hlim1 HBa.out
                        unfold slU at hr
                        rw [Hz4.out] at hr
                        have HR := Lib.hid hr
                        clear hr hw5 HC
                        go_wp2_with (go_at_call 183; refine (HR.out).mono ?_; rintro e w6 ⟨⟨u, rfl⟩, d5, q1, q2, q3⟩)
                        obtain ⟨hBL, hfin⟩ := HLf.out d5 q1 q2
                        have hz5 : d5.size = n := q1.1.trans Hz4.out
                        go_roundw
                        case rel => exact ⟨mid + 1, b', lim1, _, _, d5, by go_num, rfl, rfl, rfl, rfl, by omega, hb', by omega, hlim1, hz5, hBL, HS6.out.then_ q3, fun R h1 h2 => HF.out R (permIn_trans _ _ _ a' b' HP3.out (hfin R h1 h2).1) (hfin R h1 h2).2⟩
                        case measure => simp [intOf]; omega
                      · have hltz : decide ((mid : Int) - (a' : Int) < (b' : Int) - (mid : Int)) = false := decide_eq_false (by omega)
                        go_wp2_with (go_at_call 199; refine (HC.out).mono ?_; rintro e w5 ⟨rfl, hw5⟩)
                        have hm1 : (mid : Int) + 1 = ((mid + 1 : Nat) : Int) := by omega
                        have HS6 := Lib.hid (HS5.out.then_ hw5)
                        have hr := IH.out blk off m cap (mid + 1) b' lim1 d4 _ (by omega) HS6.out.row (by omega) (by have := Hz4.out; omega) (by have := Hz4.out; omega) hlim1 HBr.out
                        unfold slU at hr
                        rw [Hz4.out, ← hm1] at hr
                        have HR := Lib.hid hr
                        clear hr hw5 HC
                        go_wp2_with (go_at_call 183; refine (HR.out).mono ?_; rintro e w6 ⟨⟨u, rfl⟩, d5, q1, q2, q3⟩)
                        obtain ⟨hBL, hfin⟩ := HRt.out d5 q1 q2
                        have hz5 : d5.size = n := q1.1.trans Hz4.out
                        go_roundw
                        case rel => exact ⟨a', mid, lim1, _, _, d5, rfl, rfl, rfl, rfl, rfl, g1, by omega, by omega, hlim1, hz5, hBL, HS6.out.then_ q3, fun R h1 h2 => HF.out R (permIn_trans _ _ _ a' b' HP3.out (hfin R h1 h2).1) (hfin R h1 h2).2⟩
                        case measure => simp [intOf]; omega
                    · obtain ⟨mid, d4, hx⟩ : ∃ mid d4, partitionEqual ltInt d3 a' b' p' = (mid, d4) := ⟨_, _, rfl⟩
                      obtain ⟨ha0, hnl⟩ := HT.out rfl
                      rw [HG.out, HG.out] at hnl
                      obtain ⟨g1, g2, hs4, hB4, hfin⟩ := round_eq swo_ltInt (partitionEqual_holds _) ha0 hpa' hpb' hb3 HB3.out hnl hx
                      have hc := hpartEq blk off m cap a' b' p' d3 _ HS5.out.row hpa' hpb' hb3 hz3'
                      unfold slU at hc
                      rw [Hz3.out, hx] at hc
                      have HC := Lib.hid hc
                      have Hz4 := Lib.hid (hs4.trans Hz3.out)
                      have HB4 := Lib.hid hB4
                      have HFn := Lib.hid hfin
                      clear hc hx hz3' hb3 hs4 hB4 hfin hnl
                      go_wp2_with (go_at_call 198; refine (HC.out).mono ?_; rintro e w5 ⟨rfl, hw5⟩)
                      go_roundw
                      case rel => exact ⟨mid, b', lim1, _, _, d4, rfl, rfl, rfl, rfl, rfl, g2, hb', by omega, hlim1, Hz4.out, HB4.out, HS5.out.then_ hw5, fun R h1 h2 => HF.out R (permIn_trans _ _ _ a' b' HP3.out (HFn.out R h1 h2).1) (HFn.out R h1 h2).2⟩
                      case measure => simp [intOf]; omega
end Go.Proofs.YtfabodpefbdbjaaGreatDoor

