
/-
  slices.Sort at uint64: heapSortOrdered, reverseRangeOrdered.
-/
import Derived.Test.YtpjmjcjikaekiaaSxHeap
set_option linter.unusedVariables false
set_option linter.unusedSimpArgs false
namespace Go.Proofs.Ytpjmjcjikaekiaa
open Go.RowKit Go.Sort

theorem size_sift (hi f : Nat) : ∀ (k r : Nat) (d : Array Int), hi - r ≤ k → (siftDown ltInt hi f r d).size = d.size := by
  intro k
  induction k with
  | zero => intro r d h; rw [sd_stop (by omega)]
  | succ k ih =>
    intro r d h
    by_cases h1 : 2 * r + 1 < hi
    · by_cases h2 : 2 * r + 2 < hi ∧ ltInt d[f + (2 * r + 1)]! d[f + (2 * r + 1) + 1]! = true
      · rw [sd_right h2.1 h2.2]
        split
        · rw [ih _ _ (by omega), size_swp]
        · rfl
      · rw [sd_left h1 (by
          rcases Classical.em (2 * r + 2 < hi) with h3 | h3
          · refine .inr ?_
            cases h4 : ltInt d[f + (2 * r + 1)]! d[f + (2 * r + 1) + 1]!
            · rfl
            · exact absurd ⟨h3, h4⟩ h2
          · exact .inl h3)]
        split
        · rw [ih _ _ (by omega), size_swp]
        · rfl
    · rw [sd_stop h1]
theorem size_siftDown (hi f r : Nat) (d : Array Int) : (siftDown ltInt hi f r d).size = d.size := size_sift hi f _ r d (Nat.le_refl _)
set_option maxRecDepth 100000 in
set_option maxHeartbeats 8000000 in
theorem hheap (blk off m cap a b : Nat) (d : Array Int) (w : World) (h : RowU w blk off m d) (hab : a ≤ b) (hb : b ≤ d.size) (hsz : d.size ≤ 1000000) :
    Calls Try.prog 72 #[slU blk off d.size cap, .int .i64 (a : Int), .int .i64 (b : Int)] w fun e w' => (∃ u, e = .returned u) ∧ StU w w' blk off m (heapSort ltInt d a b) := by
  have H := Lib.hid h
  obtain ⟨n, hn⟩ : ∃ n, n = d.size := ⟨_, rfl⟩
  have Hn := Lib.hid hn
  rw [← hn] at hb hsz
  clear h
  unfold slU
  rw [← hn]
  clear hn
  obtain ⟨hi, hhi⟩ : ∃ hi, hi = b - a := ⟨_, rfl⟩
  have e1 : (b : Int) - (a : Int) = (hi : Int) := by omega
  obtain ⟨k0, hk0⟩ : ∃ k0, k0 = (hi - 1) / 2 := ⟨_, rfl⟩
  have e2 : Int.tdiv ((hi : Int) - 1) 2 = (k0 : Int) := by
    by_cases h0 : hi = 0
    · rw [hk0, h0]; decide
    · rw [show (hi : Int) - 1 = ((hi - 1 : Nat) : Int) by omega, hk0]
      exact Int.ofNat_tdiv _ _ |>.symm
  have hib : hi ≤ 1000000 := by omega
  have hfi : a + hi ≤ n := by omega
  have Hhi := Lib.hid hhi
  have Hk0 := Lib.hid hk0
  have hk0b : k0 ≤ 1000000 := by omega
  clear hhi hk0
  go_enter Try.func72, Try.ntmps72
  go_wp2
  go_loopw [9] (fun vi wr => ∃ (k : Nat) (dk : Array Int), vi = .int .i64 ((k : Int) - 1) ∧ k ≤ k0 + 1 ∧ dk.size = n ∧ StU w wr blk off m dk ∧ heapBuild ltInt hi a k dk = heapBuild ltInt hi a (k0 + 1) d) (fun vi _ => (intOf vi + 1).toNat)
  case atStart => exact ⟨k0 + 1, d, by congr 1; omega, by omega, Hn.out.symm, StU.refl H.out, rfl⟩
  case round =>
    obtain ⟨k, dk, rfl, hk, hsk, hst, hO⟩ := hrel
    have HO := Lib.hid hO
    have HS := Lib.hid hst
    have Hsk := Lib.hid hsk
    clear hO hst hsk
    rcases k with _ | k
    · have e3 : ((0 : Nat) : Int) - 1 = -1 := by omega
      rw [e3]
      have HB : Hid (dk = heapBuild ltInt hi a (k0 + 1) d) := HO.out
      go_wp2_with fail
      go_loopw [10] (fun vi wr2 => ∃ (k : Nat) (dj : Array Int), vi = .int .i64 ((k : Int) - 1) ∧ k ≤ hi ∧ dj.size = n ∧ StU w wr2 blk off m dj ∧ heapPop ltInt a k dj = heapSort ltInt d a b) (fun vi _ => (intOf vi + 1).toNat)
      case atStart => exact ⟨hi, dk, by congr 1, by omega, Hsk.out, HS.out, by unfold heapSort; rw [← Hhi.out, ← Hk0.out, ← HB.out]⟩
      case round =>
        obtain ⟨k, dj, rfl, hk2, hsj, hst2, hO2⟩ := hrel
        have HO2 := Lib.hid hO2
        have HS2 := Lib.hid hst2
        have Hsj := Lib.hid hsj
        clear hO2 hst2 hsj
        rcases k with _ | k
        · have e4 : ((0 : Nat) : Int) - 1 = -1 := by omega
          rw [e4]
          go_wp2_with fail
          go_end0
          exact ⟨⟨_, rfl⟩, by rw [← HO2.out]; exact HS2.out⟩
        · have e4 : ((k + 1 : Nat) : Int) - 1 = (k : Int) := by omega
          rw [e4]
          obtain ⟨G, hG⟩ : ∃ G : Nat → Int, ∀ t, G t = dj[t]! := ⟨fun t => dj[t]!, fun _ => rfl⟩
          have hcw : ∀ t, t < n → wr.cell? ⟨blk, off + t, none⟩ = some (.int .u64 (G t)) := fun t ht => by rw [hG]; exact HS2.out.row.cell (by have := Hsj.out; omega)
          have hfw : ∀ t, t < n → wr.frozen? ⟨blk, off + t, none⟩ = false := fun t _ => HS2.out.row.frozen t
          have HG := Lib.hid hG
          clear hG
          obtain ⟨q, hq⟩ : ∃ q, q = a + k := ⟨_, rfl⟩
          have w1 : IntKind.i64.wrap ((a : Int) + (k : Int)) = (q : Int) := by rw [show ((a : Int) + (k : Int)) = ((q : Nat) : Int) by omega]; exact IntWalk.i64_in _ (by omega)
          have b1 : q < n := by omega
          have b2 : a < n := by omega
          have Hq := Lib.hid hq
          have hgo : ∀ wq, StU w wq blk off m (swp dj a q) → ∀ (Q : Ending → World → Prop), (∀ e w', (∃ u, e = .returned u) → StU w w' blk off m (siftDown ltInt k a 0 (swp dj a q)) → Q e w') →
              Calls Try.prog 86 #[slU blk off n cap, .int .i64 ((0 : Nat) : Int), .int .i64 (k : Int), .int .i64 (a : Int)] wq Q := fun wq hq Q hQ => by
            have hz : (swp dj a q).size = n := by rw [size_swp]; exact Hsj.out
            have hc := hsift blk off m cap 0 k a (swp dj a q) wq hq.row (by omega) (by rw [hz]; omega) (by rw [hz]; omega)
            rw [hz] at hc
            exact hc.mono fun e w' ⟨he, hs⟩ => hQ e w' he (hq.then_ hs)
          have Hgo := Lib.hid hgo
          have hend : ∀ w', StU w w' blk off m (siftDown ltInt k a 0 (swp dj a q)) → ∃ (k' : Nat) (dj' : Array Int), Value.int .i64 ((k : Int) - 1) = .int .i64 ((k' : Int) - 1) ∧ k' ≤ hi ∧ dj'.size = n ∧ StU w w' blk off m dj' ∧ heapPop ltInt a k' dj' = heapSort ltInt d a b :=
            fun w' hs => ⟨k, _, rfl, by omega, by rw [size_siftDown, size_swp]; exact Hsj.out, hs, by rw [← HO2.out, Hq.out]; rfl⟩
          have Hend := Lib.hid hend
          clear hgo hend
          by_cases hk0' : k = 0
          · have hqa : q = a := by omega
            clear hq
            subst hk0'
            subst hqa
            go_wp2_with fail
            go_region
            all_goals go_wp2_with fail
            refine Hgo.out _ (by simp only [HG.out]; exact (HS2.out.swap (by have := Hsj.out; omega) (by have := Hsj.out; omega)).on (Below.refl _ _).drew) _ ?_
            rintro e w3 ⟨u, rfl⟩ hs3
            have HS3 := Lib.hid hs3
            clear hs3
            go_wp2_with fail
            go_roundw
            case rel => exact Hend.out _ HS3.out
            case measure => simp [intOf]
          · have hne : ¬ a = q := by omega
            have hne2 : ¬ q = a := by omega
            clear hq
            go_wp2_with fail
            go_region
            all_goals go_wp2_with fail
            refine Hgo.out _ (by simp only [HG.out]; exact (HS2.out.swap (by have := Hsj.out; omega) (by have := Hsj.out; omega)).on (Below.refl _ _).drew) _ ?_
            rintro e w3 ⟨u, rfl⟩ hs3
            have HS3 := Lib.hid hs3
            clear hs3
            go_wp2_with fail
            go_roundw
            case rel => exact Hend.out _ HS3.out
            case measure => simp [intOf]
    · have e3 : ((k + 1 : Nat) : Int) - 1 = (k : Int) := by omega
      rw [e3]
      go_wp2_with fail
      have hc := hsift blk off m cap k hi a dk wr HS.out.row (by omega) (by rw [Hsk.out]; omega) (by rw [Hsk.out]; omega)
      rw [Hsk.out] at hc
      refine Calls.mono hc ?_
      rintro e w1 ⟨⟨u, rfl⟩, hs⟩
      have HS1 := Lib.hid (HS.out.then_ hs)
      clear hs hc
      go_wp2_with fail
      go_roundw
      case rel => exact ⟨k, _, rfl, by omega, by rw [size_siftDown]; exact Hsk.out, HS1.out, HO.out⟩
      case measure => simp [intOf]
theorem rev_go {i j : Nat} {d : Array Int} (h : i < j) : reverseLoop i j d = reverseLoop (i + 1) (j - 1) (swp d i j) := by rw [reverseLoop, if_pos h]
theorem rev_stop {i j : Nat} {d : Array Int} (h : ¬ i < j) : reverseLoop i j d = d := by rw [reverseLoop, if_neg h]
set_option maxRecDepth 100000 in
set_option maxHeartbeats 8000000 in
theorem hrev (blk off m cap a b : Nat) (d : Array Int) (w : World) (h : RowU w blk off m d) (hab : a < b) (hb : b ≤ d.size) (hsz : d.size ≤ 1000000) :
    Calls Try.prog 75 #[slU blk off d.size cap, .int .i64 (a : Int), .int .i64 (b : Int)] w fun e w' => (∃ u, e = .returned u) ∧ StU w w' blk off m (reverseRange d a b) := by
  have H := Lib.hid h
  obtain ⟨n, hn⟩ : ∃ n, n = d.size := ⟨_, rfl⟩
  have Hn := Lib.hid hn
  rw [← hn] at hb hsz
  clear h
  unfold slU
  rw [← hn]
  clear hn
  obtain ⟨z, hz⟩ : ∃ z, z = b - 1 := ⟨_, rfl⟩
  have e1 : (b : Int) - 1 = (z : Int) := by omega
  have Hz := Lib.hid hz
  have hzb : z < n := by omega
  clear hz
  go_enter Try.func75, Try.ntmps75
  go_wp2
  go_loopw [6, 7] (fun vi vj wr => ∃ (i j : Nat) (dk : Array Int), vi = .int .i64 i ∧ vj = .int .i64 j ∧ i ≤ n ∧ j < n ∧ dk.size = n ∧ StU w wr blk off m dk ∧ reverseLoop i j dk = reverseRange d a b) (fun vi vj _ => (intOf vj).toNat - (intOf vi).toNat)
  case atStart => exact ⟨a, z, d, rfl, rfl, by omega, hzb, Hn.out.symm, StU.refl H.out, by rw [Hz.out]; rfl⟩
  case round =>
    obtain ⟨i, j, dk, rfl, rfl, hin, hjn, hsk, hst, hO⟩ := hrel
    obtain ⟨G, hG⟩ : ∃ G : Nat → Int, ∀ t, G t = dk[t]! := ⟨fun t => dk[t]!, fun _ => rfl⟩
    have hcw : ∀ t, t < n → wr.cell? ⟨blk, off + t, none⟩ = some (.int .u64 (G t)) := fun t ht => by rw [hG]; exact hst.row.cell (by omega)
    have hfw : ∀ t, t < n → wr.frozen? ⟨blk, off + t, none⟩ = false := fun t _ => hst.row.frozen t
    have HG := Lib.hid hG
    have HO := Lib.hid hO
    have HS := Lib.hid hst
    have Hsk := Lib.hid hsk
    clear hG hO hst hsk
    by_cases hij : i < j
    · have hne : ¬ i = j := by omega
      have hne2 : ¬ j = i := by omega
      go_wp2_with fail
      go_region
      all_goals go_wp2_with fail
      go_roundw
      case rel =>
        refine ⟨i + 1, j - 1, swp dk i j, by go_num, by congr 1; omega, by omega, by omega, by rw [size_swp]; exact Hsk.out, ?_, by rw [← HO.out, rev_go hij]⟩
        rw [HG.out, HG.out]
        first | exact (HS.out.swap (by have := Hsk.out; omega) (by have := Hsk.out; omega)).on (Below.refl _ _).drew | exact (HS.out.drewN _).swap (by have := Hsk.out; omega) (by have := Hsk.out; omega)
      case measure => simp [intOf]; omega
    · go_wp2_with fail
      go_end0
      exact ⟨⟨_, rfl⟩, by rw [← HO.out, rev_stop hij]; exact HS.out⟩
end Go.Proofs.Ytpjmjcjikaekiaa
