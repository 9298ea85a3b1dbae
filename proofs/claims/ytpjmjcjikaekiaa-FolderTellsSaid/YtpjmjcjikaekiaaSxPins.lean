
/-
  slices.Sort at uint64: partialInsertionSortOrdered.
-/
import Derived.Test.YtpjmjcjikaekiaaSxPart
import Derived.Deep.CutRange
set_option linter.unusedVariables false
set_option linter.unusedSimpArgs false
namespace Go.Proofs.Ytpjmjcjikaekiaa
open Go.RowKit Go.Sort

section
variable {b i j : Nat} {d : Array Int}
theorem ss_go (h : i < b) (hl : ltInt d[i]! d[i - 1]! = false) : scanSorted ltInt d b i = scanSorted ltInt d b (i + 1) := by rw [scanSorted, if_pos (by simp [h, hl])]
theorem ss_end (h : ¬ i < b ∨ ltInt d[i]! d[i - 1]! = true) : scanSorted ltInt d b i = i := by
  rw [scanSorted, if_neg]
  rcases h with h | h
  · simp; omega
  · simp [h]
theorem sdn_go (h : 0 < j) (hl : ltInt d[j]! d[j - 1]! = true) : shiftDown ltInt j d = shiftDown ltInt (j - 1) (swp d j (j - 1)) := by
  obtain ⟨k, rfl⟩ : ∃ k, j = k + 1 := ⟨j - 1, by omega⟩
  rw [Nat.add_sub_cancel] at hl
  rw [shiftDown, if_neg (by simp [hl]), Nat.add_sub_cancel]
theorem sdn_stop (h : j = 0 ∨ ltInt d[j]! d[j - 1]! = false) : shiftDown ltInt j d = d := by
  cases j with
  | zero => rw [shiftDown]
  | succ k =>
    rcases h with h | h
    · omega
    · rw [Nat.add_sub_cancel] at h
      rw [shiftDown, if_pos (by simp [h])]
theorem su_go (h : j < b) (hl : ltInt d[j]! d[j - 1]! = true) : shiftUp ltInt b j d = shiftUp ltInt b (j + 1) (swp d j (j - 1)) := by
  rw [shiftUp, if_pos h, if_neg (by simp [hl])]
theorem su_stop (h : ¬ j < b ∨ ltInt d[j]! d[j - 1]! = false) : shiftUp ltInt b j d = d := by
  rw [shiftUp]
  rcases h with h | h
  · rw [if_neg h]
  · split
    · rw [if_pos (by simp [h])]
    · rfl
end
theorem pins_step {a b s i i1 : Nat} {d : Array Int} (h : scanSorted ltInt d b i = i1) : partialIns ltInt a b (s + 1) i d =
    if i1 = b then (d, true) else if b - a < 50 then (d, false) else partialIns ltInt a b s i1 (fixUp ltInt b i1 (fixDown ltInt a i1 (swp d i1 (i1 - 1)))) := by
  subst h
  rfl
set_option maxRecDepth 100000 in
set_option maxHeartbeats 16000000 in
theorem hpins (blk off m cap a b : Nat) (d : Array Int) (w : World) (h : RowU w blk off m d) (hab : a < b) (hb : b ≤ d.size) (hsz : d.size ≤ 1000000) :
    Calls Try.prog 76 #[slU blk off d.size cap, .int .i64 (a : Int), .int .i64 (b : Int)] w fun e w' => e = .returned (.bool (partialInsertionSort ltInt d a b).2) ∧ StU w w' blk off m (partialInsertionSort ltInt d a b).1 := by
  have H := Lib.hid h
  obtain ⟨n, hn⟩ : ∃ n, n = d.size := ⟨_, rfl⟩
  have Hn := Lib.hid hn
  rw [← hn] at hb hsz
  clear h
  unfold slU
  rw [← hn]
  clear hn
  obtain ⟨r, hr⟩ : ∃ r, r = partialInsertionSort ltInt d a b := ⟨_, rfl⟩
  rw [← hr]
  have Hr := Lib.hid hr
  clear hr
  go_enter Try.func76, Try.ntmps76
  go_wp2_with fail
  go_loopw [7, 8] (fun vi vj wr => ∃ (i jj s : Nat) (dk : Array Int), vi = .int .i64 i ∧ vj = .int .i64 jj ∧ jj + s = 5 ∧ a < i ∧ i ≤ b ∧ dk.size = n ∧ StU w wr blk off m dk ∧ partialIns ltInt a b s i dk = r) (fun _ vj _ => (5 - intOf vj).toNat)
  case atStart => exact ⟨a + 1, 0, 5, d, by go_num, rfl, rfl, by omega, by omega, Hn.out.symm, StU.refl H.out, Hr.out.symm⟩
  case round =>
    obtain ⟨i, jj, s, dk, rfl, rfl, hjs, hai, hib, hsk, hst, hO⟩ := hrel
    have HO := Lib.hid hO
    have HS := Lib.hid hst
    have Hsk := Lib.hid hsk
    clear hO hst hsk
    rcases s with _ | s
    · obtain rfl : jj = 5 := by omega
      go_wp2_with fail
      go_ret
      have e9 : r = (dk, false) := by rw [← HO.out]; rfl
      rw [e9]
      exact ⟨rfl, HS.out⟩
    · have hj5 : (jj : Int) < 5 := by omega
      obtain ⟨G, hG⟩ : ∃ G : Nat → Int, ∀ t, G t = dk[t]! := ⟨fun t => dk[t]!, fun _ => rfl⟩
      have HG := Lib.hid hG
      clear hG
      go_wp2_with fail
      go_loopw [7] (fun vi wr2 => ∃ i1 : Nat, vi = .int .i64 i1 ∧ i ≤ i1 ∧ i1 ≤ b ∧ StU w wr2 blk off m dk ∧ scanSorted ltInt dk b i1 = scanSorted ltInt dk b i) (fun vi _ => (b : Nat) - (intOf vi).toNat)
      case atStart => exact ⟨i, rfl, Nat.le_refl _, hib, HS.out, rfl⟩
      case round =>
        obtain ⟨i1, rfl, hi1, hi1b, hst1, hU⟩ := hrel
        have HU := Lib.hid hU
        have HS1 := Lib.hid hst1
        have hcw : ∀ t, t < n → wr.cell? ⟨blk, off + t, none⟩ = some (.int .u64 (G t)) := fun t ht => by rw [HG.out]; exact HS1.out.row.cell (by have := Hsk.out; omega)
        have hfw : ∀ t, t < n → wr.frozen? ⟨blk, off + t, none⟩ = false := fun t _ => HS1.out.row.frozen t
        clear hU hst1
        by_cases hgo : i1 < b ∧ ltInt (G i1) (G (i1 - 1)) = false
        · obtain ⟨g1, g2⟩ := hgo
          go_wp2_with fail
          go_quiet (first | (go_at_call 77; refine Calls.quiet_of_same (hless _ _ _)))
          go_wp2_with fail
          go_roundw
          case rel => exact ⟨i1 + 1, by go_num, by omega, by omega, HS1.out.drewN _, by rw [← HU.out, ss_go g1 (by rw [← HG.out, ← HG.out]; exact g2)]⟩
          case measure => simp [intOf]; omega
        · have hcs : i1 = b ∨ (i1 < b ∧ ltInt (G i1) (G (i1 - 1)) = true) := by
            rcases Classical.em (i1 < b) with g | g
            · cases h9 : ltInt (G i1) (G (i1 - 1))
              · exact absurd ⟨g, h9⟩ hgo
              · exact .inr ⟨g, rfl⟩
            · exact .inl (by omega)
          have hend : scanSorted ltInt dk b i = i1 := by
            rw [← HU.out]
            refine ss_end ?_
            rcases hcs with g | ⟨_, g⟩
            · exact .inl (by omega)
            · exact .inr (by rw [← HG.out, ← HG.out]; exact g)
          have HEnd := Lib.hid (pins_step (a := a) (s := s) hend)
          clear hend hgo
          rcases hcs with g | ⟨g, g2⟩
          · subst g
            go_wp2_with fail
            go_quiet (first | (go_at_call 77; refine Calls.quiet_of_same (hless _ _ _)))
            go_wp2_with fail
            go_ret
            have e9 : r = (dk, true) := by rw [← HO.out, HEnd.out]; simp
            rw [e9]
            exact ⟨rfl, HS1.out.drewN _⟩
          · have hne : ¬ ((i1 : Int) = (b : Int)) := by omega
            by_cases h50 : b - a < 50
            · have h50z : (b : Int) - (a : Int) < 50 := by omega
              go_wp2_with fail
              go_quiet (first | (go_at_call 77; refine Calls.quiet_of_same (hless _ _ _)))
              go_wp2_with fail
              go_ret
              have e9 : r = (dk, false) := by rw [← HO.out, HEnd.out, if_neg (by omega), if_pos h50]
              rw [e9]
              exact ⟨rfl, HS1.out.drewN _⟩
            · have h50z : ¬ ((b : Int) - (a : Int) < 50) := by omega
              go_wp2_with fail
              go_quiet (first | (go_at_call 77; refine Calls.quiet_of_same (hless _ _ _)))
              obtain ⟨W1, hW1⟩ : ∃ W1, W1 = wr.drewN nq := ⟨_, rfl⟩
              have hs1 : StU w W1 blk off m dk := by rw [hW1]; exact HS1.out.drewN _
              rw [← hW1]
              clear hW1 hcw hfw
              have hcw : ∀ t, t < n → W1.cell? ⟨blk, off + t, none⟩ = some (.int .u64 (G t)) := fun t ht => by rw [HG.out]; exact hs1.row.cell (by have := Hsk.out; omega)
              have hfw : ∀ t, t < n → W1.frozen? ⟨blk, off + t, none⟩ = false := fun t _ => hs1.row.frozen t
              have HS4 := Lib.hid hs1
              clear hs1
              go_wp2_with fail
              go_region
              all_goals go_upto_if 61 with fail
              obtain ⟨dS, hdS⟩ : ∃ dS, dS = swp dk i1 (i1 - 1) := ⟨_, rfl⟩
              have HR : Hid (partialIns ltInt a b s i1 (fixUp ltInt b i1 (fixDown ltInt a i1 dS)) = r) := Lib.hid (by rw [hdS, ← HO.out, HEnd.out, if_neg (by omega), if_neg h50])
              have HdS : Hid (∀ W, StU w W blk off m (swp dk i1 (i1 - 1)) → StU w W blk off m dS ∧ dS.size = n) := Lib.hid fun W hW => by rw [hdS]; exact ⟨hW, by rw [size_swp]; exact Hsk.out⟩
              clear hdS
              have hs5 : StU w (((W1.setCell ⟨blk, off + i1, none⟩ (.int .u64 (G (i1 - 1)))).setCell ⟨blk, off + (i1 - 1), none⟩ (.int .u64 (G i1))).drew) blk off m (swp dk i1 (i1 - 1)) := by
                rw [HG.out, HG.out]
                exact ((HS4.out).swap (by have := Hsk.out; omega) (by have := Hsk.out; omega)).on (Below.refl _ _).drew
              obtain ⟨hsS, hnS⟩ := HdS.out _ hs5
              have HSS := Lib.hid hsS
              have HnS := Lib.hid hnS
              clear hs5 hsS hnS hcw hfw HdS
              revert HSS
              generalize World.drew _ = w2
              intro HSS
              go_cut [] from 13 to 132 (fun wc => StU w wc blk off m (fixDown ltInt a i1 dS) ∧ (fixDown ltInt a i1 dS).size = n)
              case first =>
                by_cases h2 : i1 - a ≥ 2
                · have h2z : 2 ≤ (i1 : Int) - (a : Int) := by omega
                  go_wp2_with fail
                  go_loopw [9] (fun vj wr3 => ∃ (j : Nat) (dj : Array Int), vj = .int .i64 j ∧ j < n ∧ dj.size = n ∧ StU w wr3 blk off m dj ∧ shiftDown ltInt j dj = fixDown ltInt a i1 dS) (fun vj _ => (intOf vj).toNat)
                  case atStart => exact ⟨i1 - 1, dS, by congr 1; omega, by omega, HnS.out, HSS.out, by unfold fixDown; rw [if_pos h2]⟩
                  case round =>
                    obtain ⟨j, dj, rfl, hjn, hsj, hst3, hI⟩ := hrel
                    obtain ⟨G, hG⟩ : ∃ G : Nat → Int, ∀ t, G t = dj[t]! := ⟨fun t => dj[t]!, fun _ => rfl⟩
                    have hcw : ∀ t, t < n → wr.cell? ⟨blk, off + t, none⟩ = some (.int .u64 (G t)) := fun t ht => by rw [hG]; exact hst3.row.cell (by omega)
                    have hfw : ∀ t, t < n → wr.frozen? ⟨blk, off + t, none⟩ = false := fun t _ => hst3.row.frozen t
                    have HG := Lib.hid hG
                    have HI := Lib.hid hI
                    have HS3 := Lib.hid hst3
                    have Hsj := Lib.hid hsj
                    clear hG hI hst3 hsj
                    have OUT : Hid ((j = 0 ∨ ltInt dj[j]! dj[j - 1]! = false) → ∀ wq, StU w wq blk off m dj → StU w wq blk off m (fixDown ltInt a i1 dS) ∧ (fixDown ltInt a i1 dS).size = n) :=
                      Lib.hid fun hs wq hq => by rw [← HI.out, sdn_stop hs]; exact ⟨hq, Hsj.out⟩
                    by_cases hja : 0 < j
                    · have hjz : 1 ≤ (j : Int) := by omega
                      cases hl : ltInt (G j) (G (j - 1))
                      · go_wp2_with fail
                        go_quiet (first | (go_at_call 77; refine Calls.quiet_of_same (hless _ _ _)))
                        go_wp2_with fail
                        go_meet
                        case rel => exact OUT.out (Or.inr (by rw [← HG.out, ← HG.out]; exact hl)) _ (HS3.out.drewN _)
                      · go_wp2_with fail
                        go_quiet (first | (go_at_call 77; refine Calls.quiet_of_same (hless _ _ _)))
                        go_wp2_with fail
                        go_region
                        all_goals go_wp2_with fail
                        go_roundw
                        case rel =>
                          refine ⟨j - 1, swp dj j (j - 1), by congr 1; omega, by omega, by rw [size_swp]; exact Hsj.out, ?_, ?_⟩
                          · rw [HG.out, HG.out]
                            exact (HS3.out.drewN _).swap (by have := Hsj.out; omega) (by have := Hsj.out; omega)
                          · rw [← HI.out, sdn_go hja (by rw [← HG.out, ← HG.out]; exact hl)]
                        case measure => simp [intOf]; omega
                    · obtain rfl : j = 0 := by omega
                      go_wp2_with fail
                      go_meet
                      case rel => exact OUT.out (Or.inl (by trivial)) _ HS3.out
                · have h2z : ¬ 2 ≤ (i1 : Int) - (a : Int) := by omega
                  go_wp2_with fail
                  go_meet
                  case rel => exact (by unfold fixDown; rw [if_neg h2]; exact ⟨HSS.out, HnS.out⟩)
              case rest =>
                obtain ⟨hSF, hnF⟩ := hcut
                obtain ⟨dF, hdF⟩ : ∃ dF, dF = fixDown ltInt a i1 dS := ⟨_, rfl⟩
                have HdF := Lib.hid hdF
                rw [← hdF] at hSF hnF
                have HSF := Lib.hid hSF
                have HnF := Lib.hid hnF
                clear hdF hSF hnF
                have FIN : Hid (∀ wq dj, dj = fixUp ltInt b i1 dF → dj.size = n → StU w wq blk off m dj → ∃ (i' jj' s' : Nat) (dk' : Array Int), Value.int .i64 (i1 : Int) = .int .i64 (i' : Nat) ∧ Value.int .i64 ((jj : Int) + 1) = .int .i64 (jj' : Nat) ∧ jj' + s' = 5 ∧ a < i' ∧ i' ≤ b ∧ dk'.size = n ∧ StU w wq blk off m dk' ∧ partialIns ltInt a b s' i' dk' = r) :=
                  Lib.hid fun wq dj hd hz hq => ⟨i1, jj + 1, s, dj, rfl, by go_num, by omega, by omega, hi1b, hz, hq, by rw [← HR.out, hd, HdF.out]⟩
                by_cases h2 : b - i1 ≥ 2
                · have h2z : 2 ≤ (b : Int) - (i1 : Int) := by omega
                  go_wp2_with fail
                  go_loopw [10] (fun vj wr3 => ∃ (j : Nat) (dj : Array Int), vj = .int .i64 j ∧ 0 < j ∧ j ≤ b ∧ dj.size = n ∧ StU w wr3 blk off m dj ∧ shiftUp ltInt b j dj = fixUp ltInt b i1 dF) (fun vj _ => (b - (intOf vj).toNat))
                  case atStart => exact ⟨i1 + 1, dF, by go_num, by omega, by omega, HnF.out, HSF.out, by unfold fixUp; rw [if_pos h2]⟩
                  case round =>
                    obtain ⟨j, dj, rfl, hj0, hjn, hsj, hst3, hI⟩ := hrel
                    obtain ⟨G, hG⟩ : ∃ G : Nat → Int, ∀ t, G t = dj[t]! := ⟨fun t => dj[t]!, fun _ => rfl⟩
                    have hcw : ∀ t, t < n → wr.cell? ⟨blk, off + t, none⟩ = some (.int .u64 (G t)) := fun t ht => by rw [hG]; exact hst3.row.cell (by omega)
                    have hfw : ∀ t, t < n → wr.frozen? ⟨blk, off + t, none⟩ = false := fun t _ => hst3.row.frozen t
                    have HG := Lib.hid hG
                    have HI := Lib.hid hI
                    have HS3 := Lib.hid hst3
                    have Hsj := Lib.hid hsj
                    clear hG hI hst3 hsj
                    by_cases hja : j < b
                    · cases hl : ltInt (G j) (G (j - 1))
                      · go_wp2_with fail
                        go_quiet (first | (go_at_call 77; refine Calls.quiet_of_same (hless _ _ _)))
                        go_wp2_with fail
                        go_roundw
                        case rel => exact FIN.out _ dj (by rw [← HI.out, su_stop (Or.inr (by rw [← HG.out, ← HG.out]; exact hl))]) Hsj.out (HS3.out.drewN _)
                        case measure => simp [intOf]; omega
                      · go_wp2_with fail
                        go_quiet (first | (go_at_call 77; refine Calls.quiet_of_same (hless _ _ _)))
                        go_wp2_with fail
                        go_region
                        all_goals go_wp2_with fail
                        go_roundw
                        case rel =>
                          refine ⟨j + 1, swp dj j (j - 1), by go_num, by omega, by omega, by rw [size_swp]; exact Hsj.out, ?_, ?_⟩
                          · rw [HG.out, HG.out]
                            exact (HS3.out.drewN _).swap (by have := Hsj.out; omega) (by have := Hsj.out; omega)
                          · rw [← HI.out, su_go hja (by rw [← HG.out, ← HG.out]; exact hl)]
                        case measure => simp [intOf]; omega
                    · go_wp2_with fail
                      go_roundw
                      case rel => exact FIN.out _ dj (by rw [← HI.out, su_stop (Or.inl hja)]) Hsj.out HS3.out
                      case measure => simp [intOf]; omega
                · have h2z : ¬ 2 ≤ (b : Int) - (i1 : Int) := by omega
                  go_wp2_with fail
                  go_roundw
                  case rel => exact FIN.out _ dF (by unfold fixUp; rw [if_neg h2]) HnF.out HSF.out
                  case measure => simp [intOf]; omega
end Go.Proofs.Ytpjmjcjikaekiaa
