
/-
  slices.Sort at uint64: breakPatternsOrdered: some permutation of the part.
-/
import Derived.Test.YtpjmjcjikaekiaaSxPivot
import Derived.Sort.LotD3
set_option linter.unusedVariables false
set_option linter.unusedSimpArgs false
namespace Go.Proofs.Ytpjmjcjikaekiaa
open Go.RowKit Go.Sort

/-- the row, and beside it the random number, in a block of its own -/
structure BrSt (w0 w : World) (blk off m : Nat) (d : Array Int) (X ty x : Nat) : Prop where
  row : RowU w blk off m d
  rnd : w.heap[X]? = some (.cells #[.int .u64 (x : Int)] ty (0, 0))
  lt : x < 18446744073709551616
  chg : Chg (fun i => i = blk) w0 w
  old : w0.heap.size ≤ X
  ob : blk < w0.heap.size
section
variable {w0 w w' : World} {blk off m : Nat} {d : Array Int} {X ty x : Nat}
theorem BrSt.nx (h : BrSt w0 w blk off m d X ty x) : NxSt w w X ty x := ⟨h.rnd, Chg.refl⟩
theorem BrSt.next (h : BrSt w0 w blk off m d X ty x) {r : Nat} (hr : r < 18446744073709551616) (k : NxSt w w' X ty r) : BrSt w0 w' blk off m d X ty r :=
  ⟨h.row.of_block (k.chg.block blk h.row.lt (by have := h.old; have := h.ob; omega)), k.heap, hr, h.chg.trans k.chg (fun i e => .inr (by have := h.old; omega)), h.old, h.ob⟩
theorem BrSt.on (h : BrSt w0 w blk off m d X ty x) (hb : Below w.heap.size w w') : BrSt w0 w' blk off m d X ty x :=
  ⟨h.row.of_block (hb.block blk h.row.lt), (hb.block X (Array.getElem?_eq_some_iff.1 h.rnd).1).trans h.rnd, h.lt, h.chg.trans (Chg.of_below (M := fun _ => False) hb) (fun i e => e.elim), h.old, h.ob⟩
theorem BrSt.st (h : BrSt w0 w blk off m d X ty x) : StU w0 w blk off m d := ⟨h.row, h.chg⟩
theorem heap_setCell_other (w : World) {q t i : Nat} (v : Value) (hi : q ≠ i) : (w.setCell ⟨q, t, none⟩ v).heap[i]? = w.heap[i]? := by
  rw [Go.Sort.setCell_eq]
  simp [Go.Sort.mapBlock, Array.getElem?_modify, hi]
theorem BrSt.swap (h : BrSt w0 w blk off m d X ty x) {j k : Nat} (hj : j < d.size) (hk : k < d.size) : BrSt w0 ((w.setCell ⟨blk, off + j, none⟩ (.int .u64 d[k]!)).setCell ⟨blk, off + k, none⟩ (.int .u64 d[j]!)) blk off m (swp d j k) X ty x := by
  have hs := h.st.swap hj hk
  have hne : blk ≠ X := by have := h.old; have := h.ob; omega
  exact ⟨hs.row, (heap_setCell_other _ _ hne).trans ((heap_setCell_other _ _ hne).trans h.rnd), h.lt, hs.chg, h.old, h.ob⟩
theorem BrSt.start (h : RowU w blk off m d) (ty : Nat) (l : Nat) (hl : l < 18446744073709551616) : BrSt w (w.alloc (.cells #[.int .u64 (l : Int)] ty (0, 0))) blk off m d w.heap.size ty l :=
  ⟨h.of_block (by show (w.heap.push _)[blk]? = _; rw [Array.getElem?_push, if_neg (by have := h.lt; omega)]), by show (w.heap.push _)[w.heap.size]? = _; simp, hl, Chg.refl.alloc _, Nat.le_refl _, h.lt⟩
end
theorem and_some (R p1 : Nat) (hR : R < 18446744073709551616) (hp : p1 < 256) : ∃ O : Nat, O ≤ p1 ∧ bits .and .u64 (R : Int) (p1 : Int) = (O : Int) :=
  ⟨R &&& p1, Nat.and_le_right, bits_and_u64_nat _ _ hR (by omega)⟩
set_option maxRecDepth 100000 in
set_option maxHeartbeats 8000000 in
theorem hbreak (blk off m cap a b : Nat) (d : Array Int) (w : World) (h : RowU w blk off m d) (hab : a + 12 < b) (hb : b ≤ d.size) (hsz : d.size ≤ 200) :
    Calls Try.prog 73 #[slU blk off d.size cap, .int .i64 (a : Int), .int .i64 (b : Int)] w fun e w' => (∃ u, e = .returned u) ∧ ∃ d', PermIn a b d d' ∧ StU w w' blk off m d' := by
  have H := Lib.hid h
  obtain ⟨n, hn⟩ : ∃ n, n = d.size := ⟨_, rfl⟩
  have Hn := Lib.hid hn
  rw [← hn] at hb hsz
  clear h
  unfold slU
  rw [← hn]
  clear hn
  obtain ⟨l, hl⟩ : ∃ l, l = b - a := ⟨_, rfl⟩
  obtain ⟨c, hc⟩ : ∃ c, c = l / 4 := ⟨_, rfl⟩
  obtain ⟨u, hu⟩ : ∃ u, u = a + c * 2 := ⟨_, rfl⟩
  obtain ⟨I, hI⟩ : ∃ I, I = u - 1 := ⟨_, rfl⟩
  have el : (b : Int) - (a : Int) = (l : Int) := by omega
  have ec : (l : Int) / 4 = (c : Int) := by omega
  have eu : (a : Int) + (c : Int) * 2 = (u : Int) := by omega
  have eI : (u : Int) - 1 = (I : Int) := by omega
  have r1 : a + 3 ≤ u := by omega
  have r2 : u + 2 < b := by omega
  have r3 : l ≤ 200 := by omega
  have r4 : a + l = b := by omega
  have r5 : 8 ≤ (l : Int) := by omega
  have r6 : I + 1 = u := by omega
  have r7 : c ≤ 200 := by omega
  have hP := hpow l
  have HP := Lib.hid hP
  have hst0 : Hid (∀ ty : Nat, BrSt w (w.alloc (.cells #[.int .u64 (l : Int)] ty (0, 0))) blk off m d w.heap.size ty l) := Lib.hid fun ty => BrSt.start H.out ty l (by omega)
  clear hl hc hu hI hP
  go_enter Try.func73, Try.ntmps73
  go_wp2_with (go_at_call 81; refine (HP.out _ (by omega)).mono ?_; rintro e w1 ⟨⟨p, rfl, hp⟩, rfl⟩)
  obtain ⟨w1, hw1⟩ : ∃ w1, w1 = w.alloc (.cells #[.int .u64 (l : Int)] 116 (0, 0)) := ⟨_, rfl⟩
  have hs1 : BrSt w w1 blk off m d w.heap.size 116 l := by rw [hw1]; exact hst0.out _
  rw [← hw1]
  have HS1 := Lib.hid hs1
  clear hw1 hs1 hst0
  obtain ⟨p1, rfl⟩ : ∃ p1, p = p1 + 1 := ⟨p - 1, by have := hp.2.2.2; omega⟩
  have ep : ((p1 + 1 : Nat) : Int) - 1 = (p1 : Int) := by omega
  have q1 : p1 < 2 * l := by have := hp.2.1 (by omega); omega
  have q2 : p1 < 256 := by have := hp.2.2.1; omega
  obtain ⟨p, hpp⟩ : ∃ p, p = p1 + 1 := ⟨_, rfl⟩
  rw [← hpp] at ep ⊢
  have q3 : p ≤ 256 := by omega
  have q4 : 1 ≤ p := by omega
  clear hp hpp
  go_loopw [9] (fun vi wr => ∃ (x r : Nat) (dk : Array Int), vi = .int .i64 x ∧ u ≤ x + 1 ∧ x ≤ u + 2 ∧ dk.size = n ∧ PermIn a b d dk ∧ BrSt w wr blk off m dk w.heap.size 116 r) (fun vi _ => u + 2 - (intOf vi).toNat)
  case atStart => exact ⟨I, l, d, rfl, by omega, by omega, Hn.out.symm, permIn_refl _ _ _, HS1.out⟩
  case round =>
    obtain ⟨x, r, dk, rfl, hx1, hx2, hsk, hpm, hst⟩ := hrel
    have HPm := Lib.hid hpm
    have HS := Lib.hid hst
    have Hsk := Lib.hid hsk
    clear hpm hst hsk
    by_cases hgo : x ≤ u + 1
    · have hgoz : (x : Int) ≤ (u : Int) + 1 := by omega
      obtain ⟨G, hG⟩ : ∃ G : Nat → Int, ∀ t, G t = dk[t]! := ⟨fun t => dk[t]!, fun _ => rfl⟩
      have HG := Lib.hid hG
      clear hG
      have hN := fun ty (h : NxSt wr wr w.heap.size ty r) => hnext w.heap.size r ty wr wr HS.out.lt h
      have HN := Lib.hid (hN _ HS.out.nx)
      clear hN
      go_wp2_with (go_at_call 82; go_loud (refine (HN.out).mono ?_; rintro e w2 ⟨R, hR, rfl, hnx⟩; have hA := and_some R p1 hR q2; obtain ⟨O, hO1, eAnd⟩ := hA))
      · have hLO : l ≤ O := by first | assumption | omega
        obtain ⟨o, ho⟩ : ∃ o, o = O - l := ⟨_, rfl⟩
        have eo : (O : Int) - (l : Int) = (o : Int) := by omega
        rw [eo]
        have ho1 : o < l := by omega
        clear ho eo
        obtain ⟨q, hq⟩ : ∃ q, q = a + o := ⟨_, rfl⟩
        have eq : (a : Int) + (o : Int) = (q : Int) := by omega
        have wq : IntKind.i64.wrap ((a : Int) + (o : Int)) = (q : Int) := by rw [eq]; exact IntWalk.i64_in _ (by omega)
        have b1 : q < n := by omega
        have b2 : x < n := by omega
        have b3 : a ≤ x := by omega
        have b4 : x < b := by omega
        have b5 : a ≤ q := by omega
        have b6 : q < b := by omega
        clear hq
        have hs2 := HS.out.next hR hnx
        have HS2 := Lib.hid hs2
        have hcw : ∀ t, t < n → w2.cell? ⟨blk, off + t, none⟩ = some (.int .u64 (G t)) := fun t ht => by rw [HG.out]; exact HS2.out.row.cell (by have := Hsk.out; omega)
        have hfw : ∀ t, t < n → w2.frozen? ⟨blk, off + t, none⟩ = false := fun t _ => HS2.out.row.frozen t
        have hx : (w2.setCell ⟨blk, off + x, none⟩ (.int .u64 (G q))).cell? ⟨blk, off + q, none⟩ = some (.int .u64 (G q)) := by
          by_cases e : x = q
          · rw [← e]; exact World.cell?_setCell_same _ _ _ (hcw x (by omega))
          · exact (World.cell?_setCell_other _ _ _ _ (by intro e2; injection e2 with _ e2; omega)).trans (hcw q (by omega))
        clear hs2 hnx
        go_region
        all_goals go_wp2_with fail
        go_roundw
        case rel =>
          refine ⟨x + 1, R, swp dk x q, by go_num, by omega, by omega, by rw [size_swp]; exact Hsk.out, permIn_trans _ _ _ a b HPm.out (swp_permIn dk a b x q b3 b4 b5 b6 (by have := Hsk.out; omega)), ?_⟩
          rw [HG.out, HG.out]
          exact (HS2.out.swap (by have := Hsk.out; omega) (by have := Hsk.out; omega)).on (Below.refl _ _).drew
        case measure => simp [intOf]; omega
      · have hLO : ¬ l ≤ O := by first | assumption | omega
        obtain ⟨o, ho⟩ : ∃ o, o = O := ⟨_, rfl⟩
        have ho1 : o < l := by omega
        rw [← ho]
        clear ho
        obtain ⟨q, hq⟩ : ∃ q, q = a + o := ⟨_, rfl⟩
        have eq : (a : Int) + (o : Int) = (q : Int) := by omega
        have wq : IntKind.i64.wrap ((a : Int) + (o : Int)) = (q : Int) := by rw [eq]; exact IntWalk.i64_in _ (by omega)
        have b1 : q < n := by omega
        have b2 : x < n := by omega
        have b3 : a ≤ x := by omega
        have b4 : x < b := by omega
        have b5 : a ≤ q := by omega
        have b6 : q < b := by omega
        clear hq
        have hs2 := HS.out.next hR hnx
        have HS2 := Lib.hid hs2
        have hcw : ∀ t, t < n → w2.cell? ⟨blk, off + t, none⟩ = some (.int .u64 (G t)) := fun t ht => by rw [HG.out]; exact HS2.out.row.cell (by have := Hsk.out; omega)
        have hfw : ∀ t, t < n → w2.frozen? ⟨blk, off + t, none⟩ = false := fun t _ => HS2.out.row.frozen t
        have hx : (w2.setCell ⟨blk, off + x, none⟩ (.int .u64 (G q))).cell? ⟨blk, off + q, none⟩ = some (.int .u64 (G q)) := by
          by_cases e : x = q
          · rw [← e]; exact World.cell?_setCell_same _ _ _ (hcw x (by omega))
          · exact (World.cell?_setCell_other _ _ _ _ (by intro e2; injection e2 with _ e2; omega)).trans (hcw q (by omega))
        clear hs2 hnx
        go_region
        all_goals go_wp2_with fail
        go_roundw
        case rel =>
          refine ⟨x + 1, R, swp dk x q, by go_num, by omega, by omega, by rw [size_swp]; exact Hsk.out, permIn_trans _ _ _ a b HPm.out (swp_permIn dk a b x q b3 b4 b5 b6 (by have := Hsk.out; omega)), ?_⟩
          rw [HG.out, HG.out]
          exact (HS2.out.swap (by have := Hsk.out; omega) (by have := Hsk.out; omega)).on (Below.refl _ _).drew
        case measure => simp [intOf]; omega
    · have hgoz : ¬ (x : Int) ≤ (u : Int) + 1 := by omega
      go_wp2_with fail
      go_end0
      exact ⟨⟨_, rfl⟩, dk, HPm.out, HS.out.st⟩
end Go.Proofs.Ytpjmjcjikaekiaa
