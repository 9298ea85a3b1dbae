
/-
  slices.Sort at uint64: siftDownOrdered, heapSortOrdered.
-/
import Derived.Test.YtpjmjcjikaekiaaSxIns
import Derived.Sort.LotB
set_option linter.unusedVariables false
set_option linter.unusedSimpArgs false
namespace Go.Proofs.Ytpjmjcjikaekiaa
open Go.RowKit Go.Sort

section
variable {hi f r : Nat} {d : Array Int}
theorem sd_stop (h : ¬ 2 * r + 1 < hi) : siftDown ltInt hi f r d = d := by rw [siftDown, dif_pos (by omega)]
theorem sd_right (h1 : 2 * r + 2 < hi) (h2 : ltInt d[f + (2 * r + 1)]! d[f + (2 * r + 1) + 1]! = true) :
    siftDown ltInt hi f r d = if ltInt d[f + r]! d[f + (2 * r + 2)]! then siftDown ltInt hi f (2 * r + 2) (swp d (f + r) (f + (2 * r + 2))) else d := by
  rw [siftDown, dif_neg (by omega), if_pos (by simp [h2]; omega)]
  cases h3 : ltInt d[f + r]! d[f + (2 * r + 2)]!
  · rfl
  · rw [if_neg (by simp), dif_pos h1, if_pos rfl]
theorem sd_left (h1 : 2 * r + 1 < hi) (h2 : ¬ 2 * r + 2 < hi ∨ ltInt d[f + (2 * r + 1)]! d[f + (2 * r + 1) + 1]! = false) :
    siftDown ltInt hi f r d = if ltInt d[f + r]! d[f + (2 * r + 1)]! then siftDown ltInt hi f (2 * r + 1) (swp d (f + r) (f + (2 * r + 1))) else d := by
  rw [siftDown, dif_neg (by omega), if_neg]
  · cases h3 : ltInt d[f + r]! d[f + (2 * r + 1)]!
    · rfl
    · rw [if_neg (by simp), if_pos rfl]
  · rcases h2 with h2 | h2
    · simp; omega
    · simp [h2]
end
set_option maxRecDepth 100000 in
set_option maxHeartbeats 8000000 in
theorem hsift (blk off m cap lo hi first : Nat) (d : Array Int) (w : World) (h : RowU w blk off m d) (hlo : lo ≤ 1000000) (hb : first + hi ≤ d.size) (hsz : d.size ≤ 1000000) :
    Calls Try.prog 86 #[slU blk off d.size cap, .int .i64 (lo : Int), .int .i64 (hi : Int), .int .i64 (first : Int)] w fun e w' => (∃ u, e = .returned u) ∧ StU w w' blk off m (siftDown ltInt hi first lo d) := by
  have H := Lib.hid h
  obtain ⟨n, hn⟩ : ∃ n, n = d.size := ⟨_, rfl⟩
  have Hn := Lib.hid hn
  rw [← hn] at hb hsz
  clear h
  unfold slU
  rw [← hn]
  clear hn
  go_enter Try.func86, Try.ntmps86
  go_wp2
  go_loopw [8] (fun vi wr => ∃ (r : Nat) (dj : Array Int), vi = .int .i64 r ∧ r ≤ 1000000 ∧ dj.size = n ∧ StU w wr blk off m dj ∧ siftDown ltInt hi first r dj = siftDown ltInt hi first lo d) (fun vi _ => hi - (intOf vi).toNat)
  case atStart => exact ⟨lo, d, rfl, hlo, Hn.out.symm, StU.refl H.out, rfl⟩
  case round =>
    obtain ⟨r, dj, rfl, hr, hsj, hst, hO⟩ := hrel
    obtain ⟨G, hG⟩ : ∃ G : Nat → Int, ∀ t, G t = dj[t]! := ⟨fun t => dj[t]!, fun _ => rfl⟩
    have hcw : ∀ t, t < n → wr.cell? ⟨blk, off + t, none⟩ = some (.int .u64 (G t)) := fun t ht => by rw [hG]; exact hst.row.cell (by omega)
    have hfw : ∀ t, t < n → wr.frozen? ⟨blk, off + t, none⟩ = false := fun t _ => hst.row.frozen t
    have HG := Lib.hid hG
    have HO := Lib.hid hO
    have HS := Lib.hid hst
    have Hsj := Lib.hid hsj
    clear hG hO hst hsj
    obtain ⟨c, hc⟩ : ∃ c, c = 2 * r + 1 := ⟨_, rfl⟩
    have hci : (2 : Int) * (r : Int) + 1 = (c : Int) := by omega
    obtain ⟨c1, hc1⟩ : ∃ c1, c1 = c + 1 := ⟨_, rfl⟩
    obtain ⟨p, hp⟩ : ∃ p, p = first + c := ⟨_, rfl⟩
    obtain ⟨p1, hp1⟩ : ∃ p1, p1 = p + 1 := ⟨_, rfl⟩
    obtain ⟨q, hq⟩ : ∃ q, q = first + r := ⟨_, rfl⟩
    by_cases h1 : c < hi
    · have w1 : IntKind.i64.wrap ((c : Int) + 1) = (c1 : Int) := by rw [show ((c : Int) + 1) = ((c1 : Nat) : Int) by omega]; exact IntWalk.i64_in _ (by omega)
      have w2 : IntKind.i64.wrap ((first : Int) + (c : Int)) = (p : Int) := by rw [show ((first : Int) + (c : Int)) = ((p : Nat) : Int) by omega]; exact IntWalk.i64_in _ (by omega)
      have w3 : IntKind.i64.wrap ((p : Int) + 1) = (p1 : Int) := by rw [show ((p : Int) + 1) = ((p1 : Nat) : Int) by omega]; exact IntWalk.i64_in _ (by omega)
      have w4 : IntKind.i64.wrap ((first : Int) + (r : Int)) = (q : Int) := by rw [show ((first : Int) + (r : Int)) = ((q : Nat) : Int) by omega]; exact IntWalk.i64_in _ (by omega)
      have w5 : IntKind.i64.wrap ((first : Int) + (c1 : Int)) = (p1 : Int) := by rw [show ((first : Int) + (c1 : Int)) = ((p1 : Nat) : Int) by omega]; exact IntWalk.i64_in _ (by omega)
      have w6 : (c : Int) + 1 = (c1 : Int) := by omega
      have b1 : p < n := by omega
      have b2 : q < n := by omega
      have b3 : c1 < hi → p1 < n := by omega
      have HE : Hid (c = 2 * r + 1 ∧ c1 = 2 * r + 2 ∧ p = first + (2 * r + 1) ∧ p1 = first + (2 * r + 1) + 1 ∧ p1 = first + (2 * r + 2) ∧ q = first + r) := by exact ⟨by omega, by omega, by omega, by omega, by omega, by omega⟩
      have hcb : c1 ≤ 1000001 := by omega
      have H1 : Hid (2 * r + 1 < hi) := by rw [← hc]; exact h1
      have Hrel : Hid (r < c ∧ r < c1) := ⟨by omega, by omega⟩
      have hne1 : ¬ (q = p) := by omega
      have hne2 : ¬ (q = p1) := by omega
      have hne3 : ¬ (p = q) := by omega
      have hne4 : ¬ (p1 = q) := by omega
      clear hc hc1 hp hp1 hq
      by_cases h2 : c1 < hi
      · have b4 := b3 h2
        have d2 : decide ((c1 : Int) < (hi : Int)) = true := decide_eq_true (by omega)
        cases hl1 : ltInt (G p) (G p1)
        · go_wp2
          go_quiet (first | (go_at_call 77; refine Calls.quiet_of_same (hless _ _ _)))
          go_wp2
          obtain ⟨W1, hW1⟩ : ∃ W1, W1 = wr.drewN nq := ⟨_, rfl⟩
          have hs1 : StU w W1 blk off m dj := by rw [hW1]; exact HS.out.drewN _
          rw [← hW1]
          clear hW1 hcw hfw
          have hcw : ∀ t, t < n → W1.cell? ⟨blk, off + t, none⟩ = some (.int .u64 (G t)) := fun t ht => by rw [HG.out]; exact hs1.row.cell (by have := Hsj.out; omega)
          have hfw : ∀ t, t < n → W1.frozen? ⟨blk, off + t, none⟩ = false := fun t _ => hs1.row.frozen t
          have HS1 := Lib.hid hs1
          clear hs1
          cases hl2 : ltInt (G q) (G p)
          · go_quiet (first | (go_at_call 77; refine Calls.quiet_of_same (hless _ _ _)))
            go_wp2
            first | go_end0 | refine bodyPost_ret (results_none rfl _ _ _) rfl ?_
            refine ⟨⟨_, rfl⟩, ?_⟩
            have e9 : siftDown ltInt hi first r dj = dj := by
              rw [sd_left H1.out (.inr (by rw [← HE.out.2.2.2.1, ← HE.out.2.2.1, ← HG.out, ← HG.out]; exact hl1)), if_neg]
              rw [← HE.out.2.2.1, ← HE.out.2.2.2.2.2, ← HG.out, ← HG.out, hl2]; simp
            rw [← HO.out, e9]
            exact HS1.out.drewN _
          · go_quiet (first | (go_at_call 77; refine Calls.quiet_of_same (hless _ _ _)))
            go_wp2
            go_region
            all_goals go_wp2
            go_roundw
            case rel =>
              refine ⟨c, swp dj q p, rfl, by omega, by rw [size_swp]; exact Hsj.out, ?_, ?_⟩
              · rw [HG.out, HG.out]
                exact (HS1.out.drewN _).swap (by have := Hsj.out; omega) (by have := Hsj.out; omega)
              · rw [← HO.out, sd_left (r := r) (d := dj) H1.out (.inr (by rw [← HE.out.2.2.2.1, ← HE.out.2.2.1, ← HG.out, ← HG.out]; exact hl1)), if_pos (by rw [← HE.out.2.2.1, ← HE.out.2.2.2.2.2, ← HG.out, ← HG.out]; exact hl2), ← HE.out.2.2.1, ← HE.out.2.2.2.2.2, HE.out.1]
            case measure => have h9 := Hrel.out; simp [intOf]; omega
        · go_wp2
          go_quiet (first | (go_at_call 77; refine Calls.quiet_of_same (hless _ _ _)))
          go_wp2
          obtain ⟨W1, hW1⟩ : ∃ W1, W1 = wr.drewN nq := ⟨_, rfl⟩
          have hs1 : StU w W1 blk off m dj := by rw [hW1]; exact HS.out.drewN _
          rw [← hW1]
          clear hW1 hcw hfw
          have hcw : ∀ t, t < n → W1.cell? ⟨blk, off + t, none⟩ = some (.int .u64 (G t)) := fun t ht => by rw [HG.out]; exact hs1.row.cell (by have := Hsj.out; omega)
          have hfw : ∀ t, t < n → W1.frozen? ⟨blk, off + t, none⟩ = false := fun t _ => hs1.row.frozen t
          have HS1 := Lib.hid hs1
          clear hs1
          cases hl2 : ltInt (G q) (G p1)
          · go_quiet (first | (go_at_call 77; refine Calls.quiet_of_same (hless _ _ _)))
            go_wp2
            first | go_end0 | refine bodyPost_ret (results_none rfl _ _ _) rfl ?_
            refine ⟨⟨_, rfl⟩, ?_⟩
            have e9 : siftDown ltInt hi first r dj = dj := by
              rw [sd_right (by have := HE.out.2.1; omega) (by rw [← HE.out.2.2.2.1, ← HE.out.2.2.1, ← HG.out, ← HG.out]; exact hl1), if_neg]
              rw [← HE.out.2.2.2.2.1, ← HE.out.2.2.2.2.2, ← HG.out, ← HG.out, hl2]; simp
            rw [← HO.out, e9]
            exact HS1.out.drewN _
          · go_quiet (first | (go_at_call 77; refine Calls.quiet_of_same (hless _ _ _)))
            go_wp2
            go_region
            all_goals go_wp2
            go_roundw
            case rel =>
              refine ⟨c1, swp dj q p1, rfl, by omega, by rw [size_swp]; exact Hsj.out, ?_, ?_⟩
              · rw [HG.out, HG.out]
                exact (HS1.out.drewN _).swap (by have := Hsj.out; omega) (by have := Hsj.out; omega)
              · rw [← HO.out, sd_right (r := r) (d := dj) (by have := HE.out.2.1; omega) (by rw [← HE.out.2.2.2.1, ← HE.out.2.2.1, ← HG.out, ← HG.out]; exact hl1), if_pos (by rw [← HE.out.2.2.2.2.1, ← HE.out.2.2.2.2.2, ← HG.out, ← HG.out]; exact hl2), ← HE.out.2.2.2.2.1, ← HE.out.2.2.2.2.2, HE.out.2.1]
            case measure => have h9 := Hrel.out; simp [intOf]; omega
      · have d2 : decide ((c1 : Int) < (hi : Int)) = false := decide_eq_false (by omega)
        go_wp2
        go_quiet (first | (go_at_call 77; refine Calls.quiet_of_same (hless _ _ _)))
        go_wp2
        obtain ⟨W1, hW1⟩ : ∃ W1, W1 = wr.drewN nq := ⟨_, rfl⟩
        have hs1 : StU w W1 blk off m dj := by rw [hW1]; exact HS.out.drewN _
        rw [← hW1]
        clear hW1 hcw hfw
        have hcw : ∀ t, t < n → W1.cell? ⟨blk, off + t, none⟩ = some (.int .u64 (G t)) := fun t ht => by rw [HG.out]; exact hs1.row.cell (by have := Hsj.out; omega)
        have hfw : ∀ t, t < n → W1.frozen? ⟨blk, off + t, none⟩ = false := fun t _ => hs1.row.frozen t
        have HS1 := Lib.hid hs1
        clear hs1
        cases hl2 : ltInt (G q) (G p)
        · go_quiet (first | (go_at_call 77; refine Calls.quiet_of_same (hless _ _ _)))
          go_wp2
          first | go_end0 | refine bodyPost_ret (results_none rfl _ _ _) rfl ?_
          refine ⟨⟨_, rfl⟩, ?_⟩
          have e9 : siftDown ltInt hi first r dj = dj := by
            rw [sd_left H1.out (.inl (by have := HE.out.2.1; omega)), if_neg]
            rw [← HE.out.2.2.1, ← HE.out.2.2.2.2.2, ← HG.out, ← HG.out, hl2]; simp
          rw [← HO.out, e9]
          exact HS1.out.drewN _
        · go_quiet (first | (go_at_call 77; refine Calls.quiet_of_same (hless _ _ _)))
          go_wp2
          go_region
          all_goals go_wp2
          go_roundw
          case rel =>
            refine ⟨c, swp dj q p, rfl, by omega, by rw [size_swp]; exact Hsj.out, ?_, ?_⟩
            · rw [HG.out, HG.out]
              exact (HS1.out.drewN _).swap (by have := Hsj.out; omega) (by have := Hsj.out; omega)
            · rw [← HO.out, sd_left (r := r) (d := dj) H1.out (.inl (by have := HE.out.2.1; omega)), if_pos (by rw [← HE.out.2.2.1, ← HE.out.2.2.2.2.2, ← HG.out, ← HG.out]; exact hl2), ← HE.out.2.2.1, ← HE.out.2.2.2.2.2, HE.out.1]
          case measure => have h9 := Hrel.out; simp [intOf]; omega
    · have HN : Hid (¬ 2 * r + 1 < hi) := by rw [← hc]; exact h1
      clear hc hc1 hp hp1 hq
      go_wp2
      first | go_end0 | refine bodyPost_ret (results_none rfl _ _ _) rfl ?_
      exact ⟨⟨_, rfl⟩, by rw [← HO.out, sd_stop HN.out]; exact HS.out⟩
end Go.Proofs.Ytpjmjcjikaekiaa
