/-
  SegKnown, part 10 of what the law's proof leans on: SxRow, SxPart.
-/
import Derived.Sort.LotA
import Derived.Sort.Row
import Derived.WalkKit
import Derived.BigGuard
import Derived.BigCall
import Derived.CellFam
import Derived.Deep.Draws
import Derived.Deep.QuietTactic
import Derived.BigQuiet
import Derived.Sort.LotB
import Derived.Test.YtaicibmaogiibaaGreatDoorSegKnownQ9
import Derived.Sort.LotC
/- SxRow -/

/-
  slices.Sort at uint64: a row of numbers in memory; cmp.Less; insertionSortOrdered.
-/
set_option linter.unusedVariables false
set_option linter.unusedSimpArgs false
namespace Go.Proofs.YtaicibmaogiibaaGreatDoor
open Go.RowKit Go.Sort

/-- block blk of w is a row of m numbers, which from off on are those of d -/
def RowU (w : World) (blk off m : Nat) (d : Array Int) : Prop := ∃ cur, w.heap[blk]? = some (.cells cur 37 (0, 0)) ∧ cur.size = m ∧ off + d.size ≤ m ∧ ∀ t, t < d.size → cur[off + t]? = some (.int .u64 d[t]!)
/-- what has become of the row since w0 -/
structure StU (w0 w : World) (blk off m : Nat) (d : Array Int) : Prop where
  row : RowU w blk off m d
  chg : Chg (fun i => i = blk) w0 w
section
variable {w0 w w' : World} {blk off m : Nat} {d : Array Int}
theorem RowU.lt (h : RowU w blk off m d) : blk < w.heap.size := by obtain ⟨cur, hb, _⟩ := h; exact (Array.getElem?_eq_some_iff.1 hb).1
theorem RowU.cell (h : RowU w blk off m d) {t : Nat} (ht : t < d.size) : w.cell? ⟨blk, off + t, none⟩ = some (.int .u64 d[t]!) := by
  obtain ⟨cur, hb, _, _, hc⟩ := h
  simp [World.cell?, hb, hc t ht]
theorem RowU.frozen (h : RowU w blk off m d) (t : Nat) : w.frozen? ⟨blk, off + t, none⟩ = false := by
  obtain ⟨cur, hb, _⟩ := h
  simp [World.frozen?, hb]
theorem RowU.of_block (h : RowU w blk off m d) (hb : w'.heap[blk]? = w.heap[blk]?) : RowU w' blk off m d := by
  obtain ⟨cur, h1, h2⟩ := h
  exact ⟨cur, hb.trans h1, h2⟩
theorem RowU.set (h : RowU w blk off m d) {t : Nat} (ht : t < d.size) (x : Int) : RowU (w.setCell ⟨blk, off + t, none⟩ (.int .u64 x)) blk off m (d.setIfInBounds t x) := by
  obtain ⟨cur, hb, hs, hm, hc⟩ := h
  have hlt := (Array.getElem?_eq_some_iff.1 hb).1
  have hx : off + t < cur.size := by omega
  refine ⟨cur.setIfInBounds (off + t) (.int .u64 x), ?_, by simp [hs], by simpa using hm, fun s hs2 => ?_⟩
  · rw [Go.Sort.setCell_eq]
    simp [Go.Sort.mapBlock, Array.getElem?_modify, hb, Go.Sort.onCells]
  · simp only [Array.size_setIfInBounds] at hs2
    by_cases e : s = t
    · subst e
      rw [Array.getElem?_setIfInBounds_self_of_lt hx]
      simp [getElem!_def, hs2]
    · have h1 : (d.setIfInBounds t x)[s]! = d[s]! := by
        simp only [getElem!_def, Array.getElem?_setIfInBounds]
        rw [if_neg (by omega)]
      rw [h1, Array.getElem?_setIfInBounds, if_neg (by omega)]
      exact hc s hs2
theorem StU.refl (h : RowU w blk off m d) : StU w w blk off m d := ⟨h, Chg.refl⟩
theorem StU.on (h : StU w0 w blk off m d) (hb : Below w.heap.size w w') : StU w0 w' blk off m d :=
  ⟨h.row.of_block (hb.block blk h.row.lt), h.chg.trans (Chg.of_below (M := fun _ => False) hb) (fun i e => e.elim)⟩
theorem StU.drewN (h : StU w0 w blk off m d) (q : Nat) : StU w0 (w.drewN q) blk off m d := h.on (below_drewN (Below.refl _ _) _)
theorem StU.set (h : StU w0 w blk off m d) {t : Nat} (ht : t < d.size) (x : Int) : StU w0 (w.setCell ⟨blk, off + t, none⟩ (.int .u64 x)) blk off m (d.setIfInBounds t x) := ⟨h.row.set ht x, h.chg.setCell rfl _⟩
theorem StU.swap (h : StU w0 w blk off m d) {j k : Nat} (hj : j < d.size) (hk : k < d.size) : StU w0 ((w.setCell ⟨blk, off + j, none⟩ (.int .u64 d[k]!)).setCell ⟨blk, off + k, none⟩ (.int .u64 d[j]!)) blk off m (swp d j k) :=
  (h.set hj _).set (by simpa using hk) _
theorem StU.then_ {w1 : World} {d' : Array Int} (h : StU w0 w blk off m d) (k : StU w w1 blk off m d') : StU w0 w1 blk off m d' := ⟨k.row, h.chg.trans k.chg (fun i e => .inl e)⟩
theorem StU.sz (h : StU w0 w blk off m d) : off + d.size ≤ m := by obtain ⟨cur, _, _, h, _⟩ := h.row; exact h
end
/-- the row as the functions take it -/
abbrev slU (blk off n cap : Nat) : Value := .slice (some ⟨blk, off, none⟩) n cap
set_option maxRecDepth 100000 in
theorem hless (x y : Int) (w : World) : Calls Tryz.prog 191 #[.int .u64 x, .int .u64 y] w fun e w' => e = .returned (.bool (ltInt x y)) ∧ w' = w := by
  unfold ltInt
  go_enter Tryz.func191, Tryz.ntmps191
  go_wp2
  go_ret
  exact ⟨rfl, rfl⟩
theorem ins_go (a j : Nat) (d : Array Int) (hj : a < j) (hl : ltInt d[j]! d[j - 1]! = true) : insInner ltInt a j d = insInner ltInt a (j - 1) (swp d j (j - 1)) := by
  obtain ⟨k, rfl⟩ : ∃ k, j = k + 1 := ⟨j - 1, by omega⟩
  rw [Nat.add_sub_cancel] at hl
  rw [insInner, if_pos (by simp [hj, hl]), Nat.add_sub_cancel]
theorem ins_stop (a j : Nat) (d : Array Int) (h : j ≤ a ∨ ltInt d[j]! d[j - 1]! = false) : insInner ltInt a j d = d := by
  cases j with
  | zero => rw [insInner]
  | succ k =>
    rw [insInner, if_neg]
    rcases h with h | h
    · simp; omega
    · rw [Nat.add_sub_cancel] at h; simp [h]
theorem out_go (a b i : Nat) (d : Array Int) (h : i < b) : insOuter ltInt a b i d = insOuter ltInt a b (i + 1) (insInner ltInt a i d) := by rw [insOuter, if_pos h]
theorem out_stop (a b i : Nat) (d : Array Int) (h : ¬ i < b) : insOuter ltInt a b i d = d := by rw [insOuter, if_neg h]
end Go.Proofs.YtaicibmaogiibaaGreatDoor

/-
  slices.Sort at uint64: insertionSortOrdered.
-/
set_option linter.unusedVariables false
set_option linter.unusedSimpArgs false
namespace Go.Proofs.YtaicibmaogiibaaGreatDoor
open Go.RowKit Go.Sort

set_option maxRecDepth 100000 in
set_option maxHeartbeats 4000000 in
theorem hins (blk off m cap a b : Nat) (d : Array Int) (w : World) (h : RowU w blk off m d) (hab : a ≤ b) (hb : b ≤ d.size) (hsz : d.size ≤ 1000000) :
    Calls Tryz.prog 185 #[slU blk off d.size cap, .int .i64 (a : Int), .int .i64 (b : Int)] w fun e w' => (∃ u, e = .returned u) ∧ StU w w' blk off m (insertionSort ltInt d a b) := by
  have H := Lib.hid h
  obtain ⟨n, hn⟩ : ∃ n, n = d.size := ⟨_, rfl⟩
  have Hn := Lib.hid hn
  rw [← hn] at hb hsz
  clear h
  unfold slU
  rw [← hn]
  clear hn
  go_enter Tryz.func185, Tryz.ntmps185
  go_wp2
  go_loopw [6] (fun vi wr => ∃ (i : Nat) (dk : Array Int), vi = .int .i64 i ∧ a < i ∧ i ≤ b + 1 ∧ dk.size = n ∧ StU w wr blk off m dk ∧ insOuter ltInt a b i dk = insertionSort ltInt d a b) (fun vi _ => b + 1 - (intOf vi).toNat)
  case atStart => exact ⟨a + 1, d, by go_num, by omega, by omega, Hn.out.symm, StU.refl H.out, rfl⟩
  case round =>
    obtain ⟨i, dk, rfl, hai, hib, hsk, hst, hO⟩ := hrel
    have HO := Lib.hid hO
    have HS := Lib.hid hst
    have Hsk := Lib.hid hsk
    clear hO hst hsk
    go_wp2
    · have hlt : i < b := by assumption
      go_loopw [7] (fun vj wr2 => ∃ (j : Nat) (dj : Array Int), vj = .int .i64 j ∧ a ≤ j ∧ j ≤ i ∧ dj.size = n ∧ StU w wr2 blk off m dj ∧ insInner ltInt a j dj = insInner ltInt a i dk) (fun vj _ => (intOf vj).toNat)
      case atStart => exact ⟨i, dk, rfl, by omega, Nat.le_refl _, Hsk.out, HS.out, rfl⟩
      case round =>
        obtain ⟨j, dj, rfl, haj, hji, hsj, hst2, hI⟩ := hrel
        obtain ⟨G, hG⟩ : ∃ G : Nat → Int, ∀ t, G t = dj[t]! := ⟨fun t => dj[t]!, fun _ => rfl⟩
        have hcw : ∀ t, t < n → wr.cell? ⟨blk, off + t, none⟩ = some (.int .u64 (G t)) := fun t ht => by rw [hG]; exact hst2.row.cell (by omega)
        have hfw : ∀ t, t < n → wr.frozen? ⟨blk, off + t, none⟩ = false := fun t _ => hst2.row.frozen t
        have HG := Lib.hid hG
        have HI := Lib.hid hI
        have HS2 := Lib.hid hst2
        have Hsj := Lib.hid hsj
        clear hG hI hst2 hsj
        have OUT : Hid ((j ≤ a ∨ ltInt dj[j]! dj[j - 1]! = false) → ∀ wq, StU w wq blk off m dj → ∃ (i' : Nat) (dk' : Array Int), Value.int .i64 ((i : Int) + 1) = .int .i64 (i' : Nat) ∧ a < i' ∧ i' ≤ b + 1 ∧ dk'.size = n ∧ StU w wq blk off m dk' ∧ insOuter ltInt a b i' dk' = insertionSort ltInt d a b) :=
          fun hs wq hq => ⟨i + 1, dj, by go_num, by omega, by omega, Hsj.out, hq, by rw [← HO.out, out_go _ _ _ _ hlt, ← HI.out, ins_stop _ _ _ hs]⟩
        go_wp2
        by_cases hja : a < j
        · go_quiet (first | (go_at_call 191; refine Calls.quiet_of_same (hless _ _ _)))
          go_wp2
          · have hl : ltInt (G j) (G (j - 1)) = true := by assumption
            go_region
            all_goals go_wp2
            go_roundw
            case rel =>
              refine ⟨j - 1, swp dj j (j - 1), by congr 1; omega, by omega, by omega, by rw [size_swp]; exact Hsj.out, ?_, ?_⟩
              · rw [HG.out, HG.out]
                exact (HS2.out.drewN _).swap (by have := Hsj.out; omega) (by have := Hsj.out; omega)
              · rw [← HI.out, ins_go a j dj hja (by rw [← HG.out, ← HG.out]; exact hl)]
            case measure => simp [intOf]; omega
          · have hl : ltInt (G j) (G (j - 1)) = false := by assumption
            go_roundw
            case rel => exact OUT.out (Or.inr (by rw [← HG.out, ← HG.out]; exact hl)) _ (HS2.out.drewN _)
            case measure => simp [intOf]; omega
        · go_quiet (first | (go_at_call 191; refine Calls.quiet_of_same (hless _ _ _)))
          go_wp2
          go_roundw
          case rel => exact OUT.out (Or.inl (by omega)) _ (HS2.out.drewN _)
          case measure => simp [intOf]; omega
    · have hge : ¬ i < b := by assumption
      go_end0
      exact ⟨⟨_, rfl⟩, by rw [← HO.out, out_stop _ _ _ _ hge]; exact HS.out⟩
end Go.Proofs.YtaicibmaogiibaaGreatDoor

/-
  slices.Sort at uint64: siftDownOrdered, heapSortOrdered.
-/
set_option linter.unusedVariables false
set_option linter.unusedSimpArgs false
namespace Go.Proofs.YtaicibmaogiibaaGreatDoor
open Go.RowKit Go.Sort

section
variable {hi f r : Nat} {d : Array Int}
theorem sd_stop (h : ¬ 2 * r + 1 < hi) : siftDown ltInt hi f r d = d := by rw [siftDown, dif_pos (by omega)]
theorem sd_right (h1 : 2 * r + 2 < hi) (h2 : ltInt d[f + (2 * r + 1)]! d[f + (2 * r + 1) + 1]! = true) :
    siftDown ltInt hi f r d = if ltInt d[f + r]! d[f + (2 * r + 2)]! then siftDown ltInt hi f (2 * r + 2) (swp d (f + r) (f + (2 * r + 2))) else d := by
  rw [siftDown, dif_neg (by omega), if_pos (by simp [h2]; omega)]
  cases h3 : ltInt d[f + r]! d[f + (2 * r + 2)]!
  · rfl
  · rw [if_neg (by simp), dif_pos h1, if_pos rfl]
theorem sd_left (h1 : 2 * r + 1 < hi) (h2 : ¬ 2 * r + 2 < hi ∨ ltInt d[f + (2 * r + 1)]! d[f + (2 * r + 1) + 1]! = false) :
    siftDown ltInt hi f r d = if ltInt d[f + r]! d[f + (2 * r + 1)]! then siftDown ltInt hi f (2 * r + 1) (swp d (f + r) (f + (2 * r + 1))) else d := by
  rw [siftDown, dif_neg (by omega), if_neg]
  · cases h3 : ltInt d[f + r]! d[f + (2 * r + 1)]!
    · rfl
    · rw [if_neg (by simp), if_pos rfl]
  · rcases h2 with h2 | h2
    · simp; omega
    · simp [h2]
end
set_option maxRecDepth 100000 in
set_option maxHeartbeats 8000000 in
theorem hsift (blk off m cap lo hi first : Nat) (d : Array Int) (w : World) (h : RowU w blk off m d) (hlo : lo ≤ 1000000) (hb : first + hi ≤ d.size) (hsz : d.size ≤ 1000000) :
    Calls Tryz.prog 200 #[slU blk off d.size cap, .int .i64 (lo : Int), .int .i64 (hi : Int), .int .i64 (first : Int)] w fun e w' => (∃ u, e = .returned u) ∧ StU w w' blk off m (siftDown ltInt hi first lo d) := by
  have H := Lib.hid h
  obtain ⟨n, hn⟩ : ∃ n, n = d.size := ⟨_, rfl⟩
  have Hn := Lib.hid hn
  rw [← hn] at hb hsz
  clear h
  unfold slU
  rw [← hn]
  clear hn
  go_enter Tryz.func200, Tryz.ntmps200
  go_wp2
  go_loopw [8] (fun vi wr => ∃ (r : Nat) (dj : Array Int), vi = .int .i64 r ∧ r ≤ 1000000 ∧ dj.size = n ∧ StU w wr blk off m dj ∧ siftDown ltInt hi first r dj = siftDown ltInt hi first lo d) (fun vi _ => hi - (intOf vi).toNat)
  case atStart => exact ⟨lo, d, rfl, hlo, Hn.out.symm, StU.refl H.out, rfl⟩
  case round =>
    obtain ⟨r, dj, rfl, hr, hsj, hst, hO⟩ := hrel
    obtain ⟨G, hG⟩ : ∃ G : Nat → Int, ∀ t, G t = dj[t]! := ⟨fun t => dj[t]!, fun _ => rfl⟩
    have hcw : ∀ t, t < n → wr.cell? ⟨blk, off + t, none⟩ = some (.int .u64 (G t)) := fun t ht => by rw [hG]; exact hst.row.cell (by omega)
    have hfw : ∀ t, t < n → wr.frozen? ⟨blk, off + t, none⟩ = false := fun t _ => hst.row.frozen t
    have HG := Lib.hid hG
    have HO := Lib.hid hO
    have HS := Lib.hid hst
    have Hsj := Lib.hid hsj
    clear hG hO hst hsj
    obtain ⟨c, hc⟩ : ∃ c, c = 2 * r + 1 := ⟨_, rfl⟩
    have hci : (2 : Int) * (r : Int) + 1 = (c : Int) := by omega
    obtain ⟨c1, hc1⟩ : ∃ c1, c1 = c + 1 := ⟨_, rfl⟩
    obtain ⟨p, hp⟩ : ∃ p, p = first + c := ⟨_, rfl⟩
    obtain ⟨p1, hp1⟩ : ∃ p1, p1 = p + 1 := ⟨_, rfl⟩
    obtain ⟨q, hq⟩ : ∃ q, q = first + r := ⟨_, rfl⟩
    by_cases h1 : c < hi
    · have w1 : IntKind.i64.wrap ((c : Int) + 1) = (c1 : Int) := by rw [show ((c : Int) + 1) = ((c1 : Nat) : Int) by omega]; exact IntWalk.i64_in _ (by omega)
      have w2 : IntKind.i64.wrap ((first : Int) + (c : Int)) = (p : Int) := by rw [show ((first : Int) + (c : Int)) = ((p : Nat) : Int) by omega]; exact IntWalk.i64_in _ (by omega)
      have w3 : IntKind.i64.wrap ((p : Int) + 1) = (p1 : Int) := by rw [show ((p : Int) + 1) = ((p1 : Nat) : Int) by omega]; exact IntWalk.i64_in _ (by omega)
      have w4 : IntKind.i64.wrap ((first : Int) + (r : Int)) = (q : Int) := by rw [show ((first : Int) + (r : Int)) = ((q : Nat) : Int) by omega]; exact IntWalk.i64_in _ (by omega)
      have w5 : IntKind.i64.wrap ((first : Int) + (c1 : Int)) = (p1 : Int) := by rw [show ((first : Int) + (c1 : Int)) = ((p1 : Nat) : Int) by omega]; exact IntWalk.i64_in _ (by omega)
      have w6 : (c : Int) + 1 = (c1 : Int) := by omega
      have b1 : p < n := by omega
      have b2 : q < n := by omega
      have b3 : c1 < hi → p1 < n := by omega
      have HE : Hid (c = 2 * r + 1 ∧ c1 = 2 * r + 2 ∧ p = first + (2 * r + 1) ∧ p1 = first + (2 * r + 1) + 1 ∧ p1 = first + (2 * r + 2) ∧ q = first + r) := by exact ⟨by omega, by omega, by omega, by omega, by omega, by omega⟩
      have hcb : c1 ≤ 1000001 := by omega
      have H1 : Hid (2 * r + 1 < hi) := by rw [← hc]; exact h1
      have Hrel : Hid (r < c ∧ r < c1) := ⟨by omega, by omega⟩
      have hne1 : ¬ (q = p) := by omega
      have hne2 : ¬ (q = p1) := by omega
      have hne3 : ¬ (p = q) := by omega
      have hne4 : ¬ (p1 = q) := by omega
      clear hc hc1 hp hp1 hq
      by_cases h2 : c1 < hi
      · have b4 := b3 h2
        have d2 : decide ((c1 : Int) < (hi : Int)) = true := decide_eq_true (by omega)
        cases hl1 : ltInt (G p) (G p1)
        · go_wp2
          go_quiet (first | (go_at_call 191; refine Calls.quiet_of_same (hless _ _ _)))
          go_wp2
          obtain ⟨W1, hW1⟩ : ∃ W1, W1 = wr.drewN nq := ⟨_, rfl⟩
          have hs1 : StU w W1 blk off m dj := by rw [hW1]; exact HS.out.drewN _
          rw [← hW1]
          clear hW1 hcw hfw
          have hcw : ∀ t, t < n → W1.cell? ⟨blk, off + t, none⟩ = some (.int .u64 (G t)) := fun t ht => by rw [HG.out]; exact hs1.row.cell (by have := Hsj.out; omega)
          have hfw : ∀ t, t < n → W1.frozen? ⟨blk, off + t, none⟩ = false := fun t _ => hs1.row.frozen t
          have HS1 := Lib.hid hs1
          clear hs1
          cases hl2 : ltInt (G q) (G p)
          · go_quiet (first | (go_at_call 191; refine Calls.quiet_of_same (hless _ _ _)))
            go_wp2
            first | go_end0 | refine bodyPost_ret (results_none rfl _ _ _) rfl ?_
            refine ⟨⟨_, rfl⟩, ?_⟩
            have e9 : siftDown ltInt hi first r dj = dj := by
              rw [sd_left H1.out (.inr (by rw [← HE.out.2.2.2.1, ← HE.out.2.2.1, ← HG.out, ← HG.out]; exact hl1)), if_neg]
              rw [← HE.out.2.2.1, ← HE.out.2.2.2.2.2, ← HG.out, ← HG.out, hl2]; simp
            rw [← HO.out, e9]
            exact HS1.out.drewN _
          · go_quiet (first | (go_at_call 191; refine Calls.quiet_of_same (hless _ _ _)))
            go_wp2
            go_region
            all_goals go_wp2
            go_roundw
            case rel =>
              refine ⟨c, swp dj q p, rfl, by omega, by rw [size_swp]; exact Hsj.out, ?_, ?_⟩
              · rw [HG.out, HG.out]
                exact (HS1.out.drewN _).swap (by have := Hsj.out; omega) (by have := Hsj.out; omega)
              · rw [← HO.out, sd_left (r := r) (d := dj) H1.out (.inr (by rw [← HE.out.2.2.2.1, ← HE.out.2.2.1, ← HG.out, ← HG.out]; exact hl1)), if_pos (by rw [← HE.out.2.2.1, ← HE.out.2.2.2.2.2, ← HG.out, ← HG.out]; exact hl2), ← HE.out.2.2.1, ← HE.out.2.2.2.2.2, HE.out.1]
            case measure => have h9 := Hrel.out; simp [intOf]; omega
        · go_wp2
          go_quiet (first | (go_at_call 191; refine Calls.quiet_of_same (hless _ _ _)))
          go_wp2
          obtain ⟨W1, hW1⟩ : ∃ W1, W1 = wr.drewN nq := ⟨_, rfl⟩
          have hs1 : StU w W1 blk off m dj := by rw [hW1]; exact HS.out.drewN _
          rw [← hW1]
          clear hW1 hcw hfw
          have hcw : ∀ t, t < n → W1.cell? ⟨blk, off + t, none⟩ = some (.int .u64 (G t)) := fun t ht => by rw [HG.out]; exact hs1.row.cell (by have := Hsj.out; omega)
          have hfw : ∀ t, t < n → W1.frozen? ⟨blk, off + t, none⟩ = false := fun t _ => hs1.row.frozen t
          have HS1 := Lib.hid hs1
          clear hs1
          cases hl2 : ltInt (G q) (G p1)
          · go_quiet (first | (go_at_call 191; refine Calls.quiet_of_same (hless _ _ _)))
            go_wp2
            first | go_end0 | refine bodyPost_ret (results_none rfl _ _ _) rfl ?_
            refine ⟨⟨_, rfl⟩, ?_⟩
            have e9 : siftDown ltInt hi first r dj = dj := by
              rw [sd_right (by have := HE.out.2.1; omega) (by rw [← HE.out.2.2.2.1, ← HE.out.2.2.1, ← HG.out, ← HG.out]; exact hl1), if_neg]
              rw [← HE.out.2.2.2.2.1, ← HE.out.2.2.2.2.2, ← HG.out, ← HG.out, hl2]; simp
            rw [← HO.out, e9]
            exact HS1.out.drewN _
          · go_quiet (first | (go_at_call 191; refine Calls.quiet_of_same (hless _ _ _)))
            go_wp2
            go_region
            all_goals go_wp2
            go_roundw
            case rel =>
              refine ⟨c1, swp dj q p1, rfl, by omega, by rw [size_swp]; exact Hsj.out, ?_, ?_⟩
              · rw [HG.out, HG.out]
                exact (HS1.out.drewN _).swap (by have := Hsj.out; omega) (by have := Hsj.out; omega)
              · rw [← HO.out, sd_right (r := r) (d := dj) (by have := HE.out.2.1; omega) (by rw [← HE.out.2.2.2.1, ← HE.out.2.2.1, ← HG.out, ← HG.out]; exact hl1), if_pos (by rw [← HE.out.2.2.2.2.1, ← HE.out.2.2.2.2.2, ← HG.out, ← HG.out]; exact hl2), ← HE.out.2.2.2.2.1, ← HE.out.2.2.2.2.2, HE.out.2.1]
            case measure => have h9 := Hrel.out; simp [intOf]; omega
      · have d2 : decide ((c1 : Int) < (hi : Int)) = false := decide_eq_false (by omega)
        go_wp2
        go_quiet (first | (go_at_call 191; refine Calls.quiet_of_same (hless _ _ _)))
        go_wp2
        obtain ⟨W1, hW1⟩ : ∃ W1, W1 = wr.drewN nq := ⟨_, rfl⟩
        have hs1 : StU w W1 blk off m dj := by rw [hW1]; exact HS.out.drewN _
        rw [← hW1]
        clear hW1 hcw hfw
        have hcw : ∀ t, t < n → W1.cell? ⟨blk, off + t, none⟩ = some (.int .u64 (G t)) := fun t ht => by rw [HG.out]; exact hs1.row.cell (by have := Hsj.out; omega)
        have hfw : ∀ t, t < n → W1.frozen? ⟨blk, off + t, none⟩ = false := fun t _ => hs1.row.frozen t
        have HS1 := Lib.hid hs1
        clear hs1
        cases hl2 : ltInt (G q) (G p)
        · go_quiet (first | (go_at_call 191; refine Calls.quiet_of_same (hless _ _ _)))
          go_wp2
          first | go_end0 | refine bodyPost_ret (results_none rfl _ _ _) rfl ?_
          refine ⟨⟨_, rfl⟩, ?_⟩
          have e9 : siftDown ltInt hi first r dj = dj := by
            rw [sd_left H1.out (.inl (by have := HE.out.2.1; omega)), if_neg]
            rw [← HE.out.2.2.1, ← HE.out.2.2.2.2.2, ← HG.out, ← HG.out, hl2]; simp
          rw [← HO.out, e9]
          exact HS1.out.drewN _
        · go_quiet (first | (go_at_call 191; refine Calls.quiet_of_same (hless _ _ _)))
          go_wp2
          go_region
          all_goals go_wp2
          go_roundw
          case rel =>
            refine ⟨c, swp dj q p, rfl, by omega, by rw [size_swp]; exact Hsj.out, ?_, ?_⟩
            · rw [HG.out, HG.out]
              exact (HS1.out.drewN _).swap (by have := Hsj.out; omega) (by have := Hsj.out; omega)
            · rw [← HO.out, sd_left (r := r) (d := dj) H1.out (.inl (by have := HE.out.2.1; omega)), if_pos (by rw [← HE.out.2.2.1, ← HE.out.2.2.2.2.2, ← HG.out, ← HG.out]; exact hl2), ← HE.out.2.2.1, ← HE.out.2.2.2.2.2, HE.out.1]
          case measure => have h9 := Hrel.out; simp [intOf]; omega
    · have HN : Hid (¬ 2 * r + 1 < hi) := by rw [← hc]; exact h1
      clear hc hc1 hp hp1 hq
      go_wp2
      first | go_end0 | refine bodyPost_ret (results_none rfl _ _ _) rfl ?_
      exact ⟨⟨_, rfl⟩, by rw [← HO.out, sd_stop HN.out]; exact HS.out⟩
end Go.Proofs.YtaicibmaogiibaaGreatDoor

/-
  slices.Sort at uint64: heapSortOrdered, reverseRangeOrdered.
-/
set_option linter.unusedVariables false
set_option linter.unusedSimpArgs false
namespace Go.Proofs.YtaicibmaogiibaaGreatDoor
open Go.RowKit Go.Sort

theorem size_sift (hi f : Nat) : ∀ (k r : Nat) (d : Array Int), hi - r ≤ k → (siftDown ltInt hi f r d).size = d.size := by
  intro k
  induction k with
  | zero => intro r d h; rw [sd_stop (by omega)]
  | succ k ih =>
    intro r d h
    by_cases h1 : 2 * r + 1 < hi
    · by_cases h2 : 2 * r + 2 < hi ∧ ltInt d[f + (2 * r + 1)]! d[f + (2 * r + 1) + 1]! = true
      · rw [sd_right h2.1 h2.2]
        split
        · rw [ih _ _ (by omega), size_swp]
        · rfl
      · rw [sd_left h1 (by
          rcases Classical.em (2 * r + 2 < hi) with h3 | h3
          · refine .inr ?_
            cases h4 : ltInt d[f + (2 * r + 1)]! d[f + (2 * r + 1) + 1]!
            · rfl
            · exact absurd ⟨h3, h4⟩ h2
          · exact .inl h3)]
        split
        · rw [ih _ _ (by omega), size_swp]
        · rfl
    · rw [sd_stop h1]
theorem size_siftDown (hi f r : Nat) (d : Array Int) : (siftDown ltInt hi f r d).size = d.size := size_sift hi f _ r d (Nat.le_refl _)
set_option maxRecDepth 100000 in
set_option maxHeartbeats 8000000 in
theorem hheap (blk off m cap a b : Nat) (d : Array Int) (w : World) (h : RowU w blk off m d) (hab : a ≤ b) (hb : b ≤ d.size) (hsz : d.size ≤ 1000000) :
    Calls Tryz.prog 186 #[slU blk off d.size cap, .int .i64 (a : Int), .int .i64 (b : Int)] w fun e w' => (∃ u, e = .returned u) ∧ StU w w' blk off m (heapSort ltInt d a b) := by
  have H := Lib.hid h
  obtain ⟨n, hn⟩ : ∃ n, n = d.size := ⟨_, rfl⟩
  have Hn := Lib.hid hn
  rw [← hn] at hb hsz
  clear h
  unfold slU
  rw [← hn]
  clear hn
  obtain ⟨hi, hhi⟩ : ∃ hi, hi = b - a := ⟨_, rfl⟩
  have e1 : (b : Int) - (a : Int) = (hi : Int) := by omega
  obtain ⟨k0, hk0⟩ : ∃ k0, k0 = (hi - 1) / 2 := ⟨_, rfl⟩
  have e2 : Int.tdiv ((hi : Int) - 1) 2 = (k0 : Int) := by
    by_cases h0 : hi = 0
    · rw [hk0, h0]; decide
    · rw [show (hi : Int) - 1 = ((hi - 1 : Nat) : Int) by omega, hk0]
      exact Int.ofNat_tdiv _ _ |>.symm
  have hib : hi ≤ 1000000 := by omega
  have hfi : a + hi ≤ n := by omega
  have Hhi := Lib.hid hhi
  have Hk0 := Lib.hid hk0
  have hk0b : k0 ≤ 1000000 := by omega
  clear hhi hk0
  go_enter Tryz.func186, Tryz.ntmps186
  go_wp2
  go_loopw [9] (fun vi wr => ∃ (k : Nat) (dk : Array Int), vi = .int .i64 ((k : Int) - 1) ∧ k ≤ k0 + 1 ∧ dk.size = n ∧ StU w wr blk off m dk ∧ heapBuild ltInt hi a k dk = heapBuild ltInt hi a (k0 + 1) d) (fun vi _ => (intOf vi + 1).toNat)
  case atStart => exact ⟨k0 + 1, d, by congr 1; omega, by omega, Hn.out.symm, StU.refl H.out, rfl⟩
  case round =>
    obtain ⟨k, dk, rfl, hk, hsk, hst, hO⟩ := hrel
    have HO := Lib.hid hO
    have HS := Lib.hid hst
    have Hsk := Lib.hid hsk
    clear hO hst hsk
    rcases k with _ | k
    · have e3 : ((0 : Nat) : Int) - 1 = -1 := by omega
      rw [e3]
      have HB : Hid (dk = heapBuild ltInt hi a (k0 + 1) d) := HO.out
      go_wp2_with fail
      go_loopw [10] (fun vi wr2 => ∃ (k : Nat) (dj : Array Int), vi = .int .i64 ((k : Int) - 1) ∧ k ≤ hi ∧ dj.size = n ∧ StU w wr2 blk off m dj ∧ heapPop ltInt a k dj = heapSort ltInt d a b) (fun vi _ => (intOf vi + 1).toNat)
      case atStart => exact ⟨hi, dk, by congr 1, by omega, Hsk.out, HS.out, by unfold heapSort; rw [← Hhi.out, ← Hk0.out, ← HB.out]⟩
      case round =>
        obtain ⟨k, dj, rfl, hk2, hsj, hst2, hO2⟩ := hrel
        have HO2 := Lib.hid hO2
        have HS2 := Lib.hid hst2
        have Hsj := Lib.hid hsj
        clear hO2 hst2 hsj
        rcases k with _ | k
        · have e4 : ((0 : Nat) : Int) - 1 = -1 := by omega
          rw [e4]
          go_wp2_with fail
          go_end0
          exact ⟨⟨_, rfl⟩, by rw [← HO2.out]; exact HS2.out⟩
        · have e4 : ((k + 1 : Nat) : Int) - 1 = (k : Int) := by omega
          rw [e4]
          obtain ⟨G, hG⟩ : ∃ G : Nat → Int, ∀ t, G t = dj[t]! := ⟨fun t => dj[t]!, fun _ => rfl⟩
          have hcw : ∀ t, t < n → wr.cell? ⟨blk, off + t, none⟩ = some (.int .u64 (G t)) := fun t ht => by rw [hG]; exact HS2.out.row.cell (by have := Hsj.out; omega)
          have hfw : ∀ t, t < n → wr.frozen? ⟨blk, off + t, none⟩ = false := fun t _ => HS2.out.row.frozen t
          have HG := Lib.hid hG
          clear hG
          obtain ⟨q, hq⟩ : ∃ q, q = a + k := ⟨_, rfl⟩
          have w1 : IntKind.i64.wrap ((a : Int) + (k : Int)) = (q : Int) := by rw [show ((a : Int) + (k : Int)) = ((q : Nat) : Int) by omega]; exact IntWalk.i64_in _ (by omega)
          have b1 : q < n := by omega
          have b2 : a < n := by omega
          have Hq := Lib.hid hq
          have hgo : ∀ wq, StU w wq blk off m (swp dj a q) → ∀ (Q : Ending → World → Prop), (∀ e w', (∃ u, e = .returned u) → StU w w' blk off m (siftDown ltInt k a 0 (swp dj a q)) → Q e w') →
              Calls Tryz.prog 200 #[slU blk off n cap, .int .i64 ((0 : Nat) : Int), .int .i64 (k : Int), .int .i64 (a : Int)] wq Q := fun wq hq Q hQ => by
            have hz : (swp dj a q).size = n := by rw [size_swp]; exact Hsj.out
            have hc := hsift blk off m cap 0 k a (swp dj a q) wq hq.row (by omega) (by rw [hz]; omega) (by rw [hz]; omega)
            rw [hz] at hc
            exact hc.mono fun e w' ⟨he, hs⟩ => hQ e w' he (hq.then_ hs)
          have Hgo := Lib.hid hgo
          have hend : ∀ w', StU w w' blk off m (siftDown ltInt k a 0 (swp dj a q)) → ∃ (k' : Nat) (dj' : Array Int), Value.int .i64 ((k : Int) - 1) = .int .i64 ((k' : Int) - 1) ∧ k' ≤ hi ∧ dj'.size = n ∧ StU w w' blk off m dj' ∧ heapPop ltInt a k' dj' = heapSort ltInt d a b :=
            fun w' hs => ⟨k, _, rfl, by omega, by rw [size_siftDown, size_swp]; exact Hsj.out, hs, by rw [← HO2.out, Hq.out]; rfl⟩
          have Hend := Lib.hid hend
          clear hgo hend
          by_cases hk0' : k = 0
          · have hqa : q = a := by omega
            clear hq
            subst hk0'
            subst hqa
            go_wp2_with fail
            go_region
            all_goals go_wp2_with fail
            refine Hgo.out _ (by simp only [HG.out]; exact (HS2.out.swap (by have := Hsj.out; omega) (by have := Hsj.out; omega)).on (Below.refl _ _).drew) _ ?_
            rintro e w3 ⟨u, rfl⟩ hs3
            have HS3 := Lib.hid hs3
            clear hs3
            go_wp2_with fail
            go_roundw
            case rel => exact Hend.out _ HS3.out
            case measure => simp [intOf]
          · have hne : ¬ a = q := by omega
            have hne2 : ¬ q = a := by omega
            clear hq
            go_wp2_with fail
            go_region
            all_goals go_wp2_with fail
            refine Hgo.out _ (by simp only [HG.out]; exact (HS2.out.swap (by have := Hsj.out; omega) (by have := Hsj.out; omega)).on (Below.refl _ _).drew) _ ?_
            rintro e w3 ⟨u, rfl⟩ hs3
            have HS3 := Lib.hid hs3
            clear hs3
            go_wp2_with fail
            go_roundw
            case rel => exact Hend.out _ HS3.out
            case measure => simp [intOf]
    · have e3 : ((k + 1 : Nat) : Int) - 1 = (k : Int) := by omega
      rw [e3]
      go_wp2_with fail
      have hc := hsift blk off m cap k hi a dk wr HS.out.row (by omega) (by rw [Hsk.out]; omega) (by rw [Hsk.out]; omega)
      rw [Hsk.out] at hc
      refine Calls.mono hc ?_
      rintro e w1 ⟨⟨u, rfl⟩, hs⟩
      have HS1 := Lib.hid (HS.out.then_ hs)
      clear hs hc
      go_wp2_with fail
      go_roundw
      case rel => exact ⟨k, _, rfl, by omega, by rw [size_siftDown]; exact Hsk.out, HS1.out, HO.out⟩
      case measure => simp [intOf]
theorem rev_go {i j : Nat} {d : Array Int} (h : i < j) : reverseLoop i j d = reverseLoop (i + 1) (j - 1) (swp d i j) := by rw [reverseLoop, if_pos h]
theorem rev_stop {i j : Nat} {d : Array Int} (h : ¬ i < j) : reverseLoop i j d = d := by rw [reverseLoop, if_neg h]
set_option maxRecDepth 100000 in
set_option maxHeartbeats 8000000 in
theorem hrev (blk off m cap a b : Nat) (d : Array Int) (w : World) (h : RowU w blk off m d) (hab : a < b) (hb : b ≤ d.size) (hsz : d.size ≤ 1000000) :
    Calls Tryz.prog 189 #[slU blk off d.size cap, .int .i64 (a : Int), .int .i64 (b : Int)] w fun e w' => (∃ u, e = .returned u) ∧ StU w w' blk off m (reverseRange d a b) := by
  have H := Lib.hid h
  obtain ⟨n, hn⟩ : ∃ n, n = d.size := ⟨_, rfl⟩
  have Hn := Lib.hid hn
  rw [← hn] at hb hsz
  clear h
  unfold slU
  rw [← hn]
  clear hn
  obtain ⟨z, hz⟩ : ∃ z, z = b - 1 := ⟨_, rfl⟩
  have e1 : (b : Int) - 1 = (z : Int) := by omega
  have Hz := Lib.hid hz
  have hzb : z < n := by omega
  clear hz
  go_enter Tryz.func189, Tryz.ntmps189
  go_wp2
  go_loopw [6, 7] (fun vi vj wr => ∃ (i j : Nat) (dk : Array Int), vi = .int .i64 i ∧ vj = .int .i64 j ∧ i ≤ n ∧ j < n ∧ dk.size = n ∧ StU w wr blk off m dk ∧ reverseLoop i j dk = reverseRange d a b) (fun vi vj _ => (intOf vj).toNat - (intOf vi).toNat)
  case atStart => exact ⟨a, z, d, rfl, rfl, by omega, hzb, Hn.out.symm, StU.refl H.out, by rw [Hz.out]; rfl⟩
  case round =>
    obtain ⟨i, j, dk, rfl, rfl, hin, hjn, hsk, hst, hO⟩ := hrel
    obtain ⟨G, hG⟩ : ∃ G : Nat → Int, ∀ t, G t = dk[t]! := ⟨fun t => dk[t]!, fun _ => rfl⟩
    have hcw : ∀ t, t < n → wr.cell? ⟨blk, off + t, none⟩ = some (.int .u64 (G t)) := fun t ht => by rw [hG]; exact hst.row.cell (by omega)
    have hfw : ∀ t, t < n → wr.frozen? ⟨blk, off + t, none⟩ = false := fun t _ => hst.row.frozen t
    have HG := Lib.hid hG
    have HO := Lib.hid hO
    have HS := Lib.hid hst
    have Hsk := Lib.hid hsk
    clear hG hO hst hsk
    by_cases hij : i < j
    · have hne : ¬ i = j := by omega
      have hne2 : ¬ j = i := by omega
      go_wp2_with fail
      go_region
      all_goals go_wp2_with fail
      go_roundw
      case rel =>
        refine ⟨i + 1, j - 1, swp dk i j, by go_num, by congr 1; omega, by omega, by omega, by rw [size_swp]; exact Hsk.out, ?_, by rw [← HO.out, rev_go hij]⟩
        rw [HG.out, HG.out]
        first | exact (HS.out.swap (by have := Hsk.out; omega) (by have := Hsk.out; omega)).on (Below.refl _ _).drew | exact (HS.out.drewN _).swap (by have := Hsk.out; omega) (by have := Hsk.out; omega)
      case measure => simp [intOf]; omega
    · go_wp2_with fail
      go_end0
      exact ⟨⟨_, rfl⟩, by rw [← HO.out, rev_stop hij]; exact HS.out⟩
end Go.Proofs.YtaicibmaogiibaaGreatDoor

/- SxPart -/

/-
  slices.Sort at uint64: partitionEqualOrdered.
-/
set_option linter.unusedVariables false
set_option linter.unusedSimpArgs false
namespace Go.Proofs.YtaicibmaogiibaaGreatDoor
open Go.RowKit Go.Sort

section
variable {p : Int → Bool} {d : Array Int} {i j : Nat}
theorem up_go (h : i ≤ j) (hp : p d[i]! = true) : scanUp p d j i = scanUp p d j (i + 1) := by rw [scanUp, if_pos (by simp [h, hp])]
theorem up_end (h : ¬ i ≤ j ∨ p d[i]! = false) : scanUp p d j i = i := by
  rw [scanUp, if_neg]
  rcases h with h | h
  · simp [h]
  · simp [h]
theorem down_go (h : i ≤ j) (h0 : 0 < j) (hp : p d[j]! = true) : scanDown p d i j = scanDown p d i (j - 1) := by
  obtain ⟨k, rfl⟩ : ∃ k, j = k + 1 := ⟨j - 1, by omega⟩
  rw [scanDown, if_pos (by simp [h, hp]), Nat.add_sub_cancel]
theorem down_end (h : ¬ i ≤ j ∨ p d[j]! = false) : scanDown p d i j = j := by
  cases j with
  | zero => rw [scanDown]
  | succ k =>
    rw [scanDown, if_neg]
    rcases h with h | h
    · simp [h]
    · simp [h]
end
/-- one round of partitionEqual's loop, by where the scans stop -/
theorem partEq_step {a i j i2 j2 : Nat} {d : Array Int} (h1 : scanUp (fun x => !ltInt d[a]! x) d j i = i2) (h2 : scanDown (fun x => ltInt d[a]! x) d i2 j = j2) :
    partEqLoop ltInt a i j d = if i2 > j2 then (i2, d) else partEqLoop ltInt a (i2 + 1) (j2 - 1) (swp d i2 j2) := by
  subst h1 h2
  exact partEqLoop_eq ltInt a i j d
set_option maxRecDepth 100000 in
set_option maxHeartbeats 16000000 in
theorem hpartEq (blk off m cap a b pv : Nat) (d : Array Int) (w : World) (h : RowU w blk off m d) (hap : a ≤ pv) (hpb : pv < b) (hb : b ≤ d.size) (hsz : d.size ≤ 1000000) :
    Calls Tryz.prog 192 #[slU blk off d.size cap, .int .i64 (a : Int), .int .i64 (b : Int), .int .i64 (pv : Int)] w fun e w' => e = .returned (.int .i64 ((partitionEqual ltInt d a b pv).1 : Int)) ∧ StU w w' blk off m (partitionEqual ltInt d a b pv).2 := by
  have H := Lib.hid h
  obtain ⟨n, hn⟩ : ∃ n, n = d.size := ⟨_, rfl⟩
  have Hn := Lib.hid hn
  rw [← hn] at hb hsz
  clear h
  unfold slU
  rw [← hn]
  clear hn
  obtain ⟨z, hz⟩ : ∃ z, z = b - 1 := ⟨_, rfl⟩
  have e1 : (b : Int) - 1 = (z : Int) := by omega
  have Hz := Lib.hid hz
  have hzn : z < n := by omega
  have haz : a ≤ z := by omega
  clear hz
  obtain ⟨G0, hG0⟩ : ∃ G : Nat → Int, ∀ t, G t = d[t]! := ⟨fun t => d[t]!, fun _ => rfl⟩
  have hcw : ∀ t, t < n → w.cell? ⟨blk, off + t, none⟩ = some (.int .u64 (G0 t)) := fun t ht => by rw [hG0]; exact H.out.cell (by have := Hn.out; omega)
  have hfw : ∀ t, t < n → w.frozen? ⟨blk, off + t, none⟩ = false := fun t _ => H.out.frozen t
  have HG0 := Lib.hid hG0
  clear hG0
  have Hhap := Lib.hid hap
  -- the rest, behind the first swap
  have REST : Hid (∀ w1, StU w w1 blk off m (swp d a pv) → ∃ (i j : Nat) (dk : Array Int), Value.int .i64 ((a : Int) + 1) = .int .i64 i ∧ Value.int .i64 (z : Int) = .int .i64 j ∧ a < i ∧ i ≤ j + 1 ∧ j < n ∧ dk.size = n ∧ StU w w1 blk off m dk ∧ partEqLoop ltInt a i j dk = partitionEqual ltInt d a b pv) :=
    fun w1 hs => ⟨a + 1, z, swp d a pv, by go_num, rfl, by omega, by omega, hzn, by rw [size_swp]; exact Hn.out.symm, hs, by rw [Hz.out]; rfl⟩
  go_enter Tryz.func192, Tryz.ntmps192
  have hx : (w.setCell ⟨blk, off + a, none⟩ (.int .u64 (G0 pv))).cell? ⟨blk, off + pv, none⟩ = some (.int .u64 (G0 pv)) := by
    by_cases e : a = pv
    · subst e; exact World.cell?_setCell_same _ _ _ (hcw a (by omega))
    · exact (World.cell?_setCell_other _ _ _ _ (by intro e2; injection e2 with _ e2; omega)).trans (hcw pv (by omega))
  go_wp2_with fail
  go_region
  all_goals go_wp2_with fail
  have hs1 : StU w (((w.setCell ⟨blk, off + a, none⟩ (.int .u64 (G0 pv))).setCell ⟨blk, off + pv, none⟩ (.int .u64 (G0 a))).drew) blk off m (swp d a pv) := by
    simp only [HG0.out]
    exact ((StU.refl H.out).swap (by have := Hn.out; omega) (by have := Hn.out; omega)).on (Below.refl _ _).drew
  have HR1 := REST.out _ hs1
  clear hs1
  revert HR1
  generalize World.drew _ = w1
  intro HR1
  have HR1' := Lib.hid HR1
  clear HR1 hcw hfw hx
  go_loopw [9, 10] (fun vi vj wr => ∃ (i j : Nat) (dk : Array Int), vi = .int .i64 i ∧ vj = .int .i64 j ∧ a < i ∧ i ≤ j + 1 ∧ j < n ∧ dk.size = n ∧ StU w wr blk off m dk ∧ partEqLoop ltInt a i j dk = partitionEqual ltInt d a b pv) (fun vi vj _ => (intOf vj + 1 - intOf vi).toNat)
  case atStart => exact HR1'.out
  case round =>
    obtain ⟨i, j, dk, rfl, rfl, hai, hij, hjn, hsk, hst, hO⟩ := hrel
    have HO := Lib.hid hO
    have HS := Lib.hid hst
    have Hsk := Lib.hid hsk
    have Hmono := Lib.hid hij
    clear hO hst hsk
    obtain ⟨G, hG⟩ : ∃ G : Nat → Int, ∀ t, G t = dk[t]! := ⟨fun t => dk[t]!, fun _ => rfl⟩
    have HG := Lib.hid hG
    clear hG
    go_wp2_with fail
    go_loopw [9] (fun vi wr2 => ∃ i1 : Nat, vi = .int .i64 i1 ∧ i ≤ i1 ∧ i1 ≤ j + 1 ∧ StU w wr2 blk off m dk ∧ scanUp (fun x => !ltInt dk[a]! x) dk j i1 = scanUp (fun x => !ltInt dk[a]! x) dk j i) (fun vi _ => (j : Nat) + 1 - (intOf vi).toNat)
    case atStart => exact ⟨i, rfl, Nat.le_refl _, hij, HS.out, rfl⟩
    case round =>
      obtain ⟨i1, rfl, hi1, hi1j, hst1, hU⟩ := hrel
      have HU := Lib.hid hU
      have HS1 := Lib.hid hst1
      have hcw : ∀ t, t < n → wr.cell? ⟨blk, off + t, none⟩ = some (.int .u64 (G t)) := fun t ht => by rw [HG.out]; exact HS1.out.row.cell (by have := Hsk.out; omega)
      clear hU hst1
      by_cases hgo : i1 ≤ j ∧ ltInt (G a) (G i1) = false
      · obtain ⟨g1, g2⟩ := hgo
        go_wp2_with fail
        go_quiet (first | (go_at_call 191; refine Calls.quiet_of_same (hless _ _ _)))
        go_wp2_with fail
        go_roundw
        case rel => exact ⟨i1 + 1, by go_num, by omega, by omega, HS1.out.drewN _, by rw [← HU.out, up_go g1 (by show (!ltInt dk[a]! dk[i1]!) = true; rw [← HG.out, ← HG.out, g2]; rfl)]⟩
        case measure => simp [intOf]; omega
      · have hend : scanUp (fun x => !ltInt dk[a]! x) dk j i = i1 := by
          rw [← HU.out]
          refine up_end ?_
          rcases Classical.em (i1 ≤ j) with g | g
          · refine .inr ?_
            show (!ltInt dk[a]! dk[i1]!) = false
            rw [← HG.out, ← HG.out]
            cases h9 : ltInt (G a) (G i1)
            · exact absurd ⟨g, h9⟩ hgo
            · rfl
          · exact .inl g
        have HEnd := Lib.hid hend
        have hcs : (¬ i1 ≤ j) ∨ (i1 ≤ j ∧ ltInt (G a) (G i1) = true) := by
          rcases Classical.em (i1 ≤ j) with g | g
          · cases h9 : ltInt (G a) (G i1)
            · exact absurd ⟨g, h9⟩ hgo
            · exact .inr ⟨g, rfl⟩
          · exact .inl g
        have HNe : Hid (i1 ≤ j → ltInt (G a) (G i1) = true) := Lib.hid fun g => hcs.elim (fun h => absurd g h) (fun h => h.2)
        clear hend hgo
        rcases hcs with g | ⟨g, g2⟩
        all_goals
          go_wp2_with fail
          go_quiet (first | (go_at_call 191; refine Calls.quiet_of_same (hless _ _ _)))
          go_wp2_with fail
          clear g
          go_loopw [10] (fun vj wr3 => ∃ j1 : Nat, vj = .int .i64 j1 ∧ j1 ≤ j ∧ i1 ≤ j1 + 1 ∧ StU w wr3 blk off m dk ∧ scanDown (fun x => ltInt dk[a]! x) dk i1 j1 = scanDown (fun x => ltInt dk[a]! x) dk i1 j) (fun vj _ => (intOf vj).toNat)
          case atStart => exact ⟨j, rfl, Nat.le_refl _, hi1j, HS1.out.drewN _, rfl⟩
          case round =>
            obtain ⟨j1, rfl, hj1, hij1, hst3, hD⟩ := hrel
            have HD := Lib.hid hD
            have HS3 := Lib.hid hst3
            have hcw : ∀ t, t < n → wr.cell? ⟨blk, off + t, none⟩ = some (.int .u64 (G t)) := fun t ht => by rw [HG.out]; exact HS3.out.row.cell (by have := Hsk.out; omega)
            have hfw : ∀ t, t < n → wr.frozen? ⟨blk, off + t, none⟩ = false := fun t _ => HS3.out.row.frozen t
            clear hD hst3
            have hpos : 0 < i1 := by omega
            by_cases hgo : i1 ≤ j1 ∧ ltInt (G a) (G j1) = true
            · obtain ⟨g1, g2⟩ := hgo
              go_wp2_with fail
              go_quiet (first | (go_at_call 191; refine Calls.quiet_of_same (hless _ _ _)))
              go_wp2_with fail
              go_roundw
              case rel => exact ⟨j1 - 1, by congr 1; omega, by omega, by omega, HS3.out.drewN _, by rw [← HD.out, down_go g1 (by omega) (by show ltInt dk[a]! dk[j1]! = true; rw [← HG.out, ← HG.out, g2])]⟩
              case measure => simp [intOf]; omega
            · have hend2 : scanDown (fun x => ltInt dk[a]! x) dk i1 j = j1 := by
                rw [← HD.out]
                refine down_end ?_
                rcases Classical.em (i1 ≤ j1) with g | g
                · refine .inr ?_
                  show ltInt dk[a]! dk[j1]! = false
                  rw [← HG.out, ← HG.out]
                  cases h9 : ltInt (G a) (G j1)
                  · rfl
                  · exact absurd ⟨g, h9⟩ hgo
                · exact .inl g
              have HR := Lib.hid (partEq_step HEnd.out hend2)
              have hcs : (¬ i1 ≤ j1) ∨ (i1 ≤ j1 ∧ ltInt (G a) (G j1) = false) := by
                rcases Classical.em (i1 ≤ j1) with g | g
                · cases h9 : ltInt (G a) (G j1)
                  · exact .inr ⟨g, rfl⟩
                  · exact absurd ⟨g, h9⟩ hgo
                · exact .inl g
              clear hend2 hgo
              rcases hcs with g | ⟨g, g2⟩
              · have g3 : ¬ (i1 : Int) ≤ (j1 : Int) := by omega
                go_wp2_with fail
                go_quiet (first | (go_at_call 191; refine Calls.quiet_of_same (hless _ _ _)))
                go_wp2_with fail
                go_ret
                have e9 : partitionEqual ltInt d a b pv = (i1, dk) := by rw [← HO.out, HR.out, if_pos (by omega)]
                rw [e9]
                exact ⟨rfl, HS3.out.drewN _⟩
              · go_wp2_with fail
                go_quiet (first | (go_at_call 191; refine Calls.quiet_of_same (hless _ _ _)))
                obtain ⟨W1, hW1⟩ : ∃ W1, W1 = wr.drewN nq := ⟨_, rfl⟩
                have hs1 : StU w W1 blk off m dk := by rw [hW1]; exact HS3.out.drewN _
                rw [← hW1]
                clear hW1 hcw hfw
                have hcw : ∀ t, t < n → W1.cell? ⟨blk, off + t, none⟩ = some (.int .u64 (G t)) := fun t ht => by rw [HG.out]; exact hs1.row.cell (by have := Hsk.out; omega)
                have hfw : ∀ t, t < n → W1.frozen? ⟨blk, off + t, none⟩ = false := fun t _ => hs1.row.frozen t
                have hij2 : i1 < j1 := by
                  rcases Nat.lt_or_ge i1 j1 with h | h
                  · exact h
                  · have e : i1 = j1 := by omega
                    subst e
                    rw [HNe.out (by omega)] at g2
                    cases g2
                have b1 : i1 < n := by omega
                have b2 : j1 < n := by omega
                have hx : (W1.setCell ⟨blk, off + i1, none⟩ (.int .u64 (G j1))).cell? ⟨blk, off + j1, none⟩ = some (.int .u64 (G j1)) := by
                  by_cases e : i1 = j1
                  · subst e; exact World.cell?_setCell_same _ _ _ (hcw i1 b1)
                  · exact (World.cell?_setCell_other _ _ _ _ (by intro e2; injection e2 with _ e2; omega)).trans (hcw j1 b2)
                have HS4 := Lib.hid hs1
                clear hs1
                go_wp2_with fail
                go_region
                all_goals go_wp2_with fail
                go_roundw
                case rel =>
                  refine ⟨i1 + 1, j1 - 1, swp dk i1 j1, by go_num, by congr 1; omega, by omega, by omega, by omega, by rw [size_swp]; exact Hsk.out, ?_, ?_⟩
                  · rw [HG.out, HG.out]
                    first | exact ((HS4.out).swap (by have := Hsk.out; omega) (by have := Hsk.out; omega)).on (Below.refl _ _).drew | exact (HS4.out.drewN _).swap (by have := Hsk.out; omega) (by have := Hsk.out; omega)
                  · rw [← HO.out, HR.out, if_neg (by omega)]
                case measure => simp [intOf]; omega
end Go.Proofs.YtaicibmaogiibaaGreatDoor

/-
  slices.Sort at uint64: partitionOrdered. (Printed by tools/gen/sx_part.py.)
-/
set_option linter.unusedVariables false
set_option linter.unusedSimpArgs false
namespace Go.Proofs.YtaicibmaogiibaaGreatDoor
open Go.RowKit Go.Sort

/-- one round of partition's loop, by where the scans stop -/
theorem part_step {a i j i2 j2 : Nat} {d : Array Int} (h1 : scanUp (fun x => ltInt x d[a]!) d j i = i2) (h2 : scanDown (fun x => !ltInt x d[a]!) d i2 j = j2) :
    partLoop ltInt a i j d = if i2 > j2 then (j2, d) else partLoop ltInt a (i2 + 1) (j2 - 1) (swp d i2 j2) := by
  subst h1 h2
  exact partLoop_eq ltInt a i j d
/-- partition, by where its first scans stop -/
theorem partition_step {a b pv z i2 j2 : Nat} {d d1 : Array Int} (hd : d1 = swp d a pv) (hz : z = b - 1) (h1 : scanUp (fun x => ltInt x d1[a]!) d1 z (a + 1) = i2) (h2 : scanDown (fun x => !ltInt x d1[a]!) d1 i2 z = j2) :
    partition ltInt d a b pv = if i2 > j2 then (j2, true, swp d1 j2 a) else ((partLoop ltInt a (i2 + 1) (j2 - 1) (swp d1 i2 j2)).1, false, swp (partLoop ltInt a (i2 + 1) (j2 - 1) (swp d1 i2 j2)).2 (partLoop ltInt a (i2 + 1) (j2 - 1) (swp d1 i2 j2)).1 a) := by
  subst h1 h2 hd hz
  rfl
set_option maxRecDepth 100000 in
set_option maxHeartbeats 16000000 in
theorem hpart (blk off m cap a b pv : Nat) (d : Array Int) (w : World) (h : RowU w blk off m d) (hap : a ≤ pv) (hpb : pv < b) (hb : b ≤ d.size) (hsz : d.size ≤ 1000000) :
    Calls Tryz.prog 193 #[slU blk off d.size cap, .int .i64 (a : Int), .int .i64 (b : Int), .int .i64 (pv : Int)] w fun e w' => e = .returned (.tuple #[.int .i64 ((partition ltInt d a b pv).1 : Int), .bool (partition ltInt d a b pv).2.1]) ∧ StU w w' blk off m (partition ltInt d a b pv).2.2 := by
  have H := Lib.hid h
  obtain ⟨n, hn⟩ : ∃ n, n = d.size := ⟨_, rfl⟩
  have Hn := Lib.hid hn
  rw [← hn] at hb hsz
  clear h
  unfold slU
  rw [← hn]
  clear hn
  obtain ⟨z, hz⟩ : ∃ z, z = b - 1 := ⟨_, rfl⟩
  have e1 : (b : Int) - 1 = (z : Int) := by omega
  have Hzb := Lib.hid hz
  have hzn : z < n := by omega
  have haz : a ≤ z := by omega
  clear hz
  obtain ⟨G0, hG0⟩ : ∃ G : Nat → Int, ∀ t, G t = d[t]! := ⟨fun t => d[t]!, fun _ => rfl⟩
  have hcw : ∀ t, t < n → w.cell? ⟨blk, off + t, none⟩ = some (.int .u64 (G0 t)) := fun t ht => by rw [hG0]; exact H.out.cell (by have := Hn.out; omega)
  have hfw : ∀ t, t < n → w.frozen? ⟨blk, off + t, none⟩ = false := fun t _ => H.out.frozen t
  have HG0 := Lib.hid hG0
  clear hG0
  go_enter Tryz.func193, Tryz.ntmps193
  have hx : (w.setCell ⟨blk, off + a, none⟩ (.int .u64 (G0 pv))).cell? ⟨blk, off + pv, none⟩ = some (.int .u64 (G0 pv)) := by
    by_cases e : a = pv
    · subst e; exact World.cell?_setCell_same _ _ _ (hcw a (by omega))
    · exact (World.cell?_setCell_other _ _ _ _ (by intro e2; injection e2 with _ e2; omega)).trans (hcw pv (by omega))
  go_wp2_with fail
  go_region
  all_goals go_wp2_with fail
  obtain ⟨d1, hd1⟩ : ∃ d1, d1 = swp d a pv := ⟨_, rfl⟩
  have HS0 : StU w (((w.setCell ⟨blk, off + a, none⟩ (.int .u64 (G0 pv))).setCell ⟨blk, off + pv, none⟩ (.int .u64 (G0 a))).drew) blk off m d1 := by
    rw [hd1]
    simp only [HG0.out]
    exact ((StU.refl H.out).swap (by have := Hn.out; omega) (by have := Hn.out; omega)).on (Below.refl _ _).drew
  have hsk : d1.size = n := by rw [hd1, size_swp]; exact Hn.out.symm
  have HS := Lib.hid HS0
  have Hsk := Lib.hid hsk
  have Hd1 := Lib.hid hd1
  clear HS0 hcw hfw hx hsk hd1
  revert HS
  generalize World.drew _ = w1
  intro HS
  obtain ⟨G, hG⟩ : ∃ G : Nat → Int, ∀ t, G t = d1[t]! := ⟨fun t => d1[t]!, fun _ => rfl⟩
  have HG := Lib.hid hG
  clear hG
  go_loopw [10] (fun vi wr2 => ∃ i1 : Nat, vi = .int .i64 i1 ∧ a + 1 ≤ i1 ∧ i1 ≤ z + 1 ∧ StU w wr2 blk off m d1 ∧ scanUp (fun x => ltInt x d1[a]!) d1 z i1 = scanUp (fun x => ltInt x d1[a]!) d1 z (a + 1)) (fun vi _ => (z : Nat) + 1 - (intOf vi).toNat)
  case atStart => exact ⟨a + 1, by go_num, Nat.le_refl _, by omega, HS.out, rfl⟩
  case round =>
    obtain ⟨i1, rfl, hi1, hi1j, hst1, hU⟩ := hrel
    have HU := Lib.hid hU
    have HS1 := Lib.hid hst1
    have hcw : ∀ t, t < n → wr.cell? ⟨blk, off + t, none⟩ = some (.int .u64 (G t)) := fun t ht => by rw [HG.out]; exact HS1.out.row.cell (by have := Hsk.out; omega)
    have hfw : ∀ t, t < n → wr.frozen? ⟨blk, off + t, none⟩ = false := fun t _ => HS1.out.row.frozen t
    clear hU hst1
    by_cases hgo : i1 ≤ z ∧ ltInt (G i1) (G a) = true
    · obtain ⟨g1, g2⟩ := hgo
      go_wp2_with fail
      go_quiet (first | (go_at_call 191; refine Calls.quiet_of_same (hless _ _ _)))
      go_wp2_with fail
      go_roundw
      case rel => exact ⟨i1 + 1, by go_num, by omega, by omega, HS1.out.drewN _, by rw [← HU.out, up_go g1 (by show ltInt d1[i1]! d1[a]! = true; rw [← HG.out, ← HG.out, g2])]⟩
      case measure => simp [intOf]; omega
    · have hend : scanUp (fun x => ltInt x d1[a]!) d1 z (a + 1) = i1 := by
        rw [← HU.out]
        refine up_end ?_
        rcases Classical.em (i1 ≤ z) with g | g
        · refine .inr ?_
          show ltInt d1[i1]! d1[a]! = false
          rw [← HG.out, ← HG.out]
          cases h9 : ltInt (G i1) (G a)
          · rfl
          · exact absurd ⟨g, h9⟩ hgo
        · exact .inl g
      have HEnd := Lib.hid hend
      have hcs : (¬ i1 ≤ z) ∨ (i1 ≤ z ∧ ltInt (G i1) (G a) = false) := by
        rcases Classical.em (i1 ≤ z) with g | g
        · cases h9 : ltInt (G i1) (G a)
          · exact .inr ⟨g, rfl⟩
          · exact absurd ⟨g, h9⟩ hgo
        · exact .inl g
      have HNe : Hid (i1 ≤ z → ltInt (G i1) (G a) = false) := Lib.hid fun g => hcs.elim (fun h => absurd g h) (fun h => h.2)
      clear hend hgo
      rcases hcs with g | ⟨g, g2⟩
      all_goals
        go_wp2_with fail
        go_quiet (first | (go_at_call 191; refine Calls.quiet_of_same (hless _ _ _)))
        go_wp2_with fail
        clear g
        go_loopw [11] (fun vj wr3 => ∃ j1 : Nat, vj = .int .i64 j1 ∧ j1 ≤ z ∧ i1 ≤ j1 + 1 ∧ StU w wr3 blk off m d1 ∧ scanDown (fun x => !ltInt x d1[a]!) d1 i1 j1 = scanDown (fun x => !ltInt x d1[a]!) d1 i1 z) (fun vj _ => (intOf vj).toNat)
        case atStart => exact ⟨z, rfl, Nat.le_refl _, hi1j, HS1.out.drewN _, rfl⟩
        case round =>
          obtain ⟨j1, rfl, hj1, hij1, hst3, hD⟩ := hrel
          have HD := Lib.hid hD
          have HS3 := Lib.hid hst3
          have hcw : ∀ t, t < n → wr.cell? ⟨blk, off + t, none⟩ = some (.int .u64 (G t)) := fun t ht => by rw [HG.out]; exact HS3.out.row.cell (by have := Hsk.out; omega)
          have hfw : ∀ t, t < n → wr.frozen? ⟨blk, off + t, none⟩ = false := fun t _ => HS3.out.row.frozen t
          clear hD hst3
          have hpos : 0 < i1 := by omega
          by_cases hgo : i1 ≤ j1 ∧ ltInt (G j1) (G a) = false
          · obtain ⟨g1, g2⟩ := hgo
            go_wp2_with fail
            go_quiet (first | (go_at_call 191; refine Calls.quiet_of_same (hless _ _ _)))
            go_wp2_with fail
            go_roundw
            case rel => exact ⟨j1 - 1, by congr 1; omega, by omega, by omega, HS3.out.drewN _, by rw [← HD.out, down_go g1 (by omega) (by show (!ltInt d1[j1]! d1[a]!) = true; rw [← HG.out, ← HG.out, g2]; rfl)]⟩
            case measure => simp [intOf]; omega
          · have hend2 : scanDown (fun x => !ltInt x d1[a]!) d1 i1 z = j1 := by
              rw [← HD.out]
              refine down_end ?_
              rcases Classical.em (i1 ≤ j1) with g | g
              · refine .inr ?_
                show (!ltInt d1[j1]! d1[a]!) = false
                rw [← HG.out, ← HG.out]
                cases h9 : ltInt (G j1) (G a)
                · exact absurd ⟨g, h9⟩ hgo
                · rfl
              · exact .inl g
            have hcs : (¬ i1 ≤ j1) ∨ (i1 ≤ j1 ∧ ltInt (G j1) (G a) = true) := by
              rcases Classical.em (i1 ≤ j1) with g | g
              · cases h9 : ltInt (G j1) (G a)
                · exact absurd ⟨g, h9⟩ hgo
                · exact .inr ⟨g, rfl⟩
              · exact .inl g
            have HE2 := Lib.hid hend2
            clear hend2 hgo
            rcases hcs with g | ⟨g, g2⟩
            · have g3 : ¬ (i1 : Int) ≤ (j1 : Int) := by omega
              have haj : a ≤ j1 := by omega
              go_wp2_with fail
              go_quiet (first | (go_at_call 191; refine Calls.quiet_of_same (hless _ _ _)))
              obtain ⟨W1, hW1⟩ : ∃ W1, W1 = wr.drewN nq := ⟨_, rfl⟩
              have hs1 : StU w W1 blk off m d1 := by rw [hW1]; exact HS3.out.drewN _
              rw [← hW1]
              clear hW1 hcw hfw
              have hcw : ∀ t, t < n → W1.cell? ⟨blk, off + t, none⟩ = some (.int .u64 (G t)) := fun t ht => by rw [HG.out]; exact hs1.row.cell (by have := Hsk.out; omega)
              have hfw : ∀ t, t < n → W1.frozen? ⟨blk, off + t, none⟩ = false := fun t _ => hs1.row.frozen t
              have HS4 := Lib.hid hs1
              clear hs1
              have b1 : a < n := by omega
              have b2 : j1 < n := by omega
              have hx : (W1.setCell ⟨blk, off + j1, none⟩ (.int .u64 (G a))).cell? ⟨blk, off + a, none⟩ = some (.int .u64 (G a)) := by
                by_cases e : j1 = a
                · rw [← e]; exact World.cell?_setCell_same _ _ _ (hcw j1 (by omega))
                · exact (World.cell?_setCell_other _ _ _ _ (by intro e2; injection e2 with _ e2; omega)).trans (hcw a (by omega))
              go_wp2_with fail
              go_region
              all_goals go_wp2_with fail
              go_ret2
              rw [partition_step Hd1.out Hzb.out HEnd.out HE2.out, if_pos (by omega)]
              refine ⟨rfl, ?_⟩
              rw [HG.out, HG.out]
              first | exact ((HS4.out).swap (by have := Hsk.out; omega) (by have := Hsk.out; omega)).on (Below.refl _ _).drew | exact ((HS4.out).drewN _).swap (by have := Hsk.out; omega) (by have := Hsk.out; omega)
            · go_wp2_with fail
              go_quiet (first | (go_at_call 191; refine Calls.quiet_of_same (hless _ _ _)))
              have hij2 : i1 < j1 := by
                rcases Nat.lt_or_ge i1 j1 with h | h
                · exact h
                · have e : i1 = j1 := by omega
                  subst e
                  rw [HNe.out (by omega)] at g2
                  cases g2
              obtain ⟨W1, hW1⟩ : ∃ W1, W1 = wr.drewN nq := ⟨_, rfl⟩
              have hs1 : StU w W1 blk off m d1 := by rw [hW1]; exact HS3.out.drewN _
              rw [← hW1]
              clear hW1 hcw hfw
              have hcw : ∀ t, t < n → W1.cell? ⟨blk, off + t, none⟩ = some (.int .u64 (G t)) := fun t ht => by rw [HG.out]; exact hs1.row.cell (by have := Hsk.out; omega)
              have hfw : ∀ t, t < n → W1.frozen? ⟨blk, off + t, none⟩ = false := fun t _ => hs1.row.frozen t
              have HS4 := Lib.hid hs1
              clear hs1
              have b1 : i1 < n := by omega
              have b2 : j1 < n := by omega
              have hx : (W1.setCell ⟨blk, off + i1, none⟩ (.int .u64 (G j1))).cell? ⟨blk, off + j1, none⟩ = some (.int .u64 (G j1)) := by
                by_cases e : i1 = j1
                · rw [← e]; exact World.cell?_setCell_same _ _ _ (hcw i1 (by omega))
                · exact (World.cell?_setCell_other _ _ _ _ (by intro e2; injection e2 with _ e2; omega)).trans (hcw j1 (by omega))
              go_wp2_with fail
              go_region
              all_goals go_wp2_with fail
              have hs5 : ∀ wq, StU w wq blk off m (swp d1 i1 j1) → ∃ r, (∀ (j : Nat) (dk : Array Int), r = (j, dk) → partition ltInt d a b pv = (j, false, swp dk j a)) ∧ ∃ (i j : Nat) (dk : Array Int), Value.int .i64 ((i1 : Int) + 1) = .int .i64 i ∧ Value.int .i64 ((j1 : Int) - 1) = .int .i64 j ∧ a < i ∧ i ≤ j + 1 ∧ j < n ∧ dk.size = n ∧ StU w wq blk off m dk ∧ partLoop ltInt a i j dk = r := fun wq hq =>
                ⟨_, fun j dk e => by rw [partition_step Hd1.out Hzb.out HEnd.out HE2.out, if_neg (by omega), e], i1 + 1, j1 - 1, _, by go_num, by congr 1; omega, by omega, by omega, by omega, by rw [size_swp]; exact Hsk.out, hq, rfl⟩
              have HS5 := Lib.hid hs5
              clear hs5
              obtain ⟨W2, hW2⟩ : ∃ W2, W2 = ((W1.setCell ⟨blk, off + i1, none⟩ (.int .u64 (G j1))).setCell ⟨blk, off + j1, none⟩ (.int .u64 (G i1))).drew := ⟨_, rfl⟩
              have hs6 : StU w W2 blk off m (swp d1 i1 j1) := by
                rw [hW2, HG.out, HG.out]
                exact ((HS4.out).swap (by have := Hsk.out; omega) (by have := Hsk.out; omega)).on (Below.refl _ _).drew
              obtain ⟨r, hres, hst0⟩ := HS5.out W2 hs6
              have HRes : Hid (∀ (j : Nat) (dk : Array Int) (wq : World), r = (j, dk) → StU w wq blk off m (swp dk j a) → (Ending.returned (.tuple #[.int .i64 (j : Int), .bool false]) = .returned (.tuple #[.int .i64 ((partition ltInt d a b pv).1 : Int), .bool (partition ltInt d a b pv).2.1])) ∧ StU w wq blk off m (partition ltInt d a b pv).2.2) :=
                Lib.hid fun j dk wq e hq => by rw [hres j dk e]; exact ⟨rfl, hq⟩
              have HSt0 := Lib.hid hst0
              rw [← hW2]
              clear hs6 hres hst0 hcw hfw hx hW2
              go_loopw [10, 11] (fun vi vj wr => ∃ (i j : Nat) (dk : Array Int), vi = .int .i64 i ∧ vj = .int .i64 j ∧ a < i ∧ i ≤ j + 1 ∧ j < n ∧ dk.size = n ∧ StU w wr blk off m dk ∧ partLoop ltInt a i j dk = r) (fun vi vj _ => (intOf vj + 1 - intOf vi).toNat)
              case atStart => exact HSt0.out
              case round =>
                obtain ⟨i, j, dk, rfl, rfl, hai, hij, hjn, hsk, hst, hO⟩ := hrel
                have HO := Lib.hid hO
                have HS := Lib.hid hst
                have Hsk := Lib.hid hsk
                clear hO hst hsk
                obtain ⟨G, hG⟩ : ∃ G : Nat → Int, ∀ t, G t = dk[t]! := ⟨fun t => dk[t]!, fun _ => rfl⟩
                have HG := Lib.hid hG
                clear hG
                go_wp2_with fail
                go_loopw [10] (fun vi wr2 => ∃ i1 : Nat, vi = .int .i64 i1 ∧ i ≤ i1 ∧ i1 ≤ j + 1 ∧ StU w wr2 blk off m dk ∧ scanUp (fun x => ltInt x dk[a]!) dk j i1 = scanUp (fun x => ltInt x dk[a]!) dk j (i)) (fun vi _ => (j : Nat) + 1 - (intOf vi).toNat)
                case atStart => exact ⟨i, by go_num, Nat.le_refl _, by omega, HS.out, rfl⟩
                case round =>
                  obtain ⟨i1, rfl, hi1, hi1j, hst1, hU⟩ := hrel
                  have HU := Lib.hid hU
                  have HS1 := Lib.hid hst1
                  have hcw : ∀ t, t < n → wr.cell? ⟨blk, off + t, none⟩ = some (.int .u64 (G t)) := fun t ht => by rw [HG.out]; exact HS1.out.row.cell (by have := Hsk.out; omega)
                  have hfw : ∀ t, t < n → wr.frozen? ⟨blk, off + t, none⟩ = false := fun t _ => HS1.out.row.frozen t
                  clear hU hst1
                  by_cases hgo : i1 ≤ j ∧ ltInt (G i1) (G a) = true
                  · obtain ⟨g1, g2⟩ := hgo
                    go_wp2_with fail
                    go_quiet (first | (go_at_call 191; refine Calls.quiet_of_same (hless _ _ _)))
                    go_wp2_with fail
                    go_roundw
                    case rel => exact ⟨i1 + 1, by go_num, by omega, by omega, HS1.out.drewN _, by rw [← HU.out, up_go g1 (by show ltInt dk[i1]! dk[a]! = true; rw [← HG.out, ← HG.out, g2])]⟩
                    case measure => simp [intOf]; omega
                  · have hend : scanUp (fun x => ltInt x dk[a]!) dk j (i) = i1 := by
                      rw [← HU.out]
                      refine up_end ?_
                      rcases Classical.em (i1 ≤ j) with g | g
                      · refine .inr ?_
                        show ltInt dk[i1]! dk[a]! = false
                        rw [← HG.out, ← HG.out]
                        cases h9 : ltInt (G i1) (G a)
                        · rfl
                        · exact absurd ⟨g, h9⟩ hgo
                      · exact .inl g
                    have HEnd := Lib.hid hend
                    have hcs : (¬ i1 ≤ j) ∨ (i1 ≤ j ∧ ltInt (G i1) (G a) = false) := by
                      rcases Classical.em (i1 ≤ j) with g | g
                      · cases h9 : ltInt (G i1) (G a)
                        · exact .inr ⟨g, rfl⟩
                        · exact absurd ⟨g, h9⟩ hgo
                      · exact .inl g
                    have HNe : Hid (i1 ≤ j → ltInt (G i1) (G a) = false) := Lib.hid fun g => hcs.elim (fun h => absurd g h) (fun h => h.2)
                    clear hend hgo
                    rcases hcs with g | ⟨g, g2⟩
                    all_goals
                      go_wp2_with fail
                      go_quiet (first | (go_at_call 191; refine Calls.quiet_of_same (hless _ _ _)))
                      go_wp2_with fail
                      clear g
                      go_loopw [11] (fun vj wr3 => ∃ j1 : Nat, vj = .int .i64 j1 ∧ j1 ≤ j ∧ i1 ≤ j1 + 1 ∧ StU w wr3 blk off m dk ∧ scanDown (fun x => !ltInt x dk[a]!) dk i1 j1 = scanDown (fun x => !ltInt x dk[a]!) dk i1 j) (fun vj _ => (intOf vj).toNat)
                      case atStart => exact ⟨j, rfl, Nat.le_refl _, hi1j, HS1.out.drewN _, rfl⟩
                      case round =>
                        obtain ⟨j1, rfl, hj1, hij1, hst3, hD⟩ := hrel
                        have HD := Lib.hid hD
                        have HS3 := Lib.hid hst3
                        have hcw : ∀ t, t < n → wr.cell? ⟨blk, off + t, none⟩ = some (.int .u64 (G t)) := fun t ht => by rw [HG.out]; exact HS3.out.row.cell (by have := Hsk.out; omega)
                        have hfw : ∀ t, t < n → wr.frozen? ⟨blk, off + t, none⟩ = false := fun t _ => HS3.out.row.frozen t
                        clear hD hst3
                        have hpos : 0 < i1 := by omega
                        by_cases hgo : i1 ≤ j1 ∧ ltInt (G j1) (G a) = false
                        · obtain ⟨g1, g2⟩ := hgo
                          go_wp2_with fail
                          go_quiet (first | (go_at_call 191; refine Calls.quiet_of_same (hless _ _ _)))
                          go_wp2_with fail
                          go_roundw
                          case rel => exact ⟨j1 - 1, by congr 1; omega, by omega, by omega, HS3.out.drewN _, by rw [← HD.out, down_go g1 (by omega) (by show (!ltInt dk[j1]! dk[a]!) = true; rw [← HG.out, ← HG.out, g2]; rfl)]⟩
                          case measure => simp [intOf]; omega
                        · have hend2 : scanDown (fun x => !ltInt x dk[a]!) dk i1 j = j1 := by
                            rw [← HD.out]
                            refine down_end ?_
                            rcases Classical.em (i1 ≤ j1) with g | g
                            · refine .inr ?_
                              show (!ltInt dk[j1]! dk[a]!) = false
                              rw [← HG.out, ← HG.out]
                              cases h9 : ltInt (G j1) (G a)
                              · exact absurd ⟨g, h9⟩ hgo
                              · rfl
                            · exact .inl g
                          have hcs : (¬ i1 ≤ j1) ∨ (i1 ≤ j1 ∧ ltInt (G j1) (G a) = true) := by
                            rcases Classical.em (i1 ≤ j1) with g | g
                            · cases h9 : ltInt (G j1) (G a)
                              · exact absurd ⟨g, h9⟩ hgo
                              · exact .inr ⟨g, rfl⟩
                            · exact .inl g
                          have HE2 := Lib.hid hend2
                          clear hend2 hgo
                          rcases hcs with g | ⟨g, g2⟩
                          · have g3 : ¬ (i1 : Int) ≤ (j1 : Int) := by omega
                            have haj : a ≤ j1 := by omega
                            go_wp2_with fail
                            go_quiet (first | (go_at_call 191; refine Calls.quiet_of_same (hless _ _ _)))
                            obtain ⟨W1, hW1⟩ : ∃ W1, W1 = wr.drewN nq := ⟨_, rfl⟩
                            have hs1 : StU w W1 blk off m dk := by rw [hW1]; exact HS3.out.drewN _
                            rw [← hW1]
                            clear hW1 hcw hfw
                            have hcw : ∀ t, t < n → W1.cell? ⟨blk, off + t, none⟩ = some (.int .u64 (G t)) := fun t ht => by rw [HG.out]; exact hs1.row.cell (by have := Hsk.out; omega)
                            have hfw : ∀ t, t < n → W1.frozen? ⟨blk, off + t, none⟩ = false := fun t _ => hs1.row.frozen t
                            have HS4 := Lib.hid hs1
                            clear hs1
                            have b1 : a < n := by omega
                            have b2 : j1 < n := by omega
                            have hx : (W1.setCell ⟨blk, off + j1, none⟩ (.int .u64 (G a))).cell? ⟨blk, off + a, none⟩ = some (.int .u64 (G a)) := by
                              by_cases e : j1 = a
                              · rw [← e]; exact World.cell?_setCell_same _ _ _ (hcw j1 (by omega))
                              · exact (World.cell?_setCell_other _ _ _ _ (by intro e2; injection e2 with _ e2; omega)).trans (hcw a (by omega))
                            go_wp2_with fail
                            go_region
                            all_goals go_wp2_with fail
                            go_ret2
                            have e9 : r = (j1, dk) := by rw [← HO.out, part_step HEnd.out HE2.out, if_pos (by omega)]
                            refine HRes.out _ _ _ e9 ?_
                            rw [HG.out, HG.out]
                            first | exact ((HS4.out).swap (by have := Hsk.out; omega) (by have := Hsk.out; omega)).on (Below.refl _ _).drew | exact ((HS4.out).drewN _).swap (by have := Hsk.out; omega) (by have := Hsk.out; omega)
                          · go_wp2_with fail
                            go_quiet (first | (go_at_call 191; refine Calls.quiet_of_same (hless _ _ _)))
                            have hij2 : i1 < j1 := by
                              rcases Nat.lt_or_ge i1 j1 with h | h
                              · exact h
                              · have e : i1 = j1 := by omega
                                subst e
                                rw [HNe.out (by omega)] at g2
                                cases g2
                            obtain ⟨W1, hW1⟩ : ∃ W1, W1 = wr.drewN nq := ⟨_, rfl⟩
                            have hs1 : StU w W1 blk off m dk := by rw [hW1]; exact HS3.out.drewN _
                            rw [← hW1]
                            clear hW1 hcw hfw
                            have hcw : ∀ t, t < n → W1.cell? ⟨blk, off + t, none⟩ = some (.int .u64 (G t)) := fun t ht => by rw [HG.out]; exact hs1.row.cell (by have := Hsk.out; omega)
                            have hfw : ∀ t, t < n → W1.frozen? ⟨blk, off + t, none⟩ = false := fun t _ => hs1.row.frozen t
                            have HS4 := Lib.hid hs1
                            clear hs1
                            have b1 : i1 < n := by omega
                            have b2 : j1 < n := by omega
                            have hx : (W1.setCell ⟨blk, off + i1, none⟩ (.int .u64 (G j1))).cell? ⟨blk, off + j1, none⟩ = some (.int .u64 (G j1)) := by
                              by_cases e : i1 = j1
                              · rw [← e]; exact World.cell?_setCell_same _ _ _ (hcw i1 (by omega))
                              · exact (World.cell?_setCell_other _ _ _ _ (by intro e2; injection e2 with _ e2; omega)).trans (hcw j1 (by omega))
                            go_wp2_with fail
                            go_region
                            all_goals go_wp2_with fail
                            go_roundw
                            case rel =>
                              refine ⟨i1 + 1, j1 - 1, swp dk i1 j1, by go_num, by congr 1; omega, by omega, by omega, by omega, by rw [size_swp]; exact Hsk.out, ?_, ?_⟩
                              · rw [HG.out, HG.out]
                                first | exact ((HS4.out).swap (by have := Hsk.out; omega) (by have := Hsk.out; omega)).on (Below.refl _ _).drew | exact ((HS4.out).drewN _).swap (by have := Hsk.out; omega) (by have := Hsk.out; omega)
                              · rw [← HO.out, part_step HEnd.out HE2.out, if_neg (by omega)]
                            case measure => simp [intOf]; omega
end Go.Proofs.YtaicibmaogiibaaGreatDoor

