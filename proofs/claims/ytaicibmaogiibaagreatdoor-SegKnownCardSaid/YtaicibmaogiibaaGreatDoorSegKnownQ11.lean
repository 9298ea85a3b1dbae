/-
  SegKnown, part 11 of what the law's proof leans on: SxPins, SxPdq.
-/
import Derived.Deep.CutRange
import Derived.Laws.Bits64b
import Derived.Sort.LotD3
import Derived.Test.YtaicibmaogiibaaGreatDoorSegKnownQ10
import Derived.Deep.Cut
/- SxPins -/

/-
  slices.Sort at uint64: partialInsertionSortOrdered.
-/
set_option linter.unusedVariables false
set_option linter.unusedSimpArgs false
namespace Go.Proofs.YtaicibmaogiibaaGreatDoor
open Go.RowKit Go.Sort

section
variable {b i j : Nat} {d : Array Int}
theorem ss_go (h : i < b) (hl : ltInt d[i]! d[i - 1]! = false) : scanSorted ltInt d b i = scanSorted ltInt d b (i + 1) := by rw [scanSorted, if_pos (by simp [h, hl])]
theorem ss_end (h : ¬ i < b ∨ ltInt d[i]! d[i - 1]! = true) : scanSorted ltInt d b i = i := by
  rw [scanSorted, if_neg]
  rcases h with h | h
  · simp; omega
  · simp [h]
theorem sdn_go (h : 0 < j) (hl : ltInt d[j]! d[j - 1]! = true) : shiftDown ltInt j d = shiftDown ltInt (j - 1) (swp d j (j - 1)) := by
  obtain ⟨k, rfl⟩ : ∃ k, j = k + 1 := ⟨j - 1, by omega⟩
  rw [Nat.add_sub_cancel] at hl
  rw [shiftDown, if_neg (by simp [hl]), Nat.add_sub_cancel]
theorem sdn_stop (h : j = 0 ∨ ltInt d[j]! d[j - 1]! = false) : shiftDown ltInt j d = d := by
  cases j with
  | zero => rw [shiftDown]
  | succ k =>
    rcases h with h | h
    · omega
    · rw [Nat.add_sub_cancel] at h
      rw [shiftDown, if_pos (by simp [h])]
theorem su_go (h : j < b) (hl : ltInt d[j]! d[j - 1]! = true) : shiftUp ltInt b j d = shiftUp ltInt b (j + 1) (swp d j (j - 1)) := by
  rw [shiftUp, if_pos h, if_neg (by simp [hl])]
theorem su_stop (h : ¬ j < b ∨ ltInt d[j]! d[j - 1]! = false) : shiftUp ltInt b j d = d := by
  rw [shiftUp]
  rcases h with h | h
  · rw [if_neg h]
  · split
    · rw [if_pos (by simp [h])]
    · rfl
end
theorem pins_step {a b s i i1 : Nat} {d : Array Int} (h : scanSorted ltInt d b i = i1) : partialIns ltInt a b (s + 1) i d =
    if i1 = b then (d, true) else if b - a < 50 then (d, false) else partialIns ltInt a b s i1 (fixUp ltInt b i1 (fixDown ltInt a i1 (swp d i1 (i1 - 1)))) := by
  subst h
  rfl
set_option maxRecDepth 100000 in
set_option maxHeartbeats 16000000 in
theorem hpins (blk off m cap a b : Nat) (d : Array Int) (w : World) (h : RowU w blk off m d) (hab : a < b) (hb : b ≤ d.size) (hsz : d.size ≤ 1000000) :
    Calls Tryz.prog 190 #[slU blk off d.size cap, .int .i64 (a : Int), .int .i64 (b : Int)] w fun e w' => e = .returned (.bool (partialInsertionSort ltInt d a b).2) ∧ StU w w' blk off m (partialInsertionSort ltInt d a b).1 := by
  have H := Lib.hid h
  obtain ⟨n, hn⟩ : ∃ n, n = d.size := ⟨_, rfl⟩
  have Hn := Lib.hid hn
  rw [← hn] at hb hsz
  clear h
  unfold slU
  rw [← hn]
  clear hn
  obtain ⟨r, hr⟩ : ∃ r, r = partialInsertionSort ltInt d a b := ⟨_, rfl⟩
  rw [← hr]
  have Hr := Lib.hid hr
  clear hr
  go_enter Tryz.func190, Tryz.ntmps190
  go_wp2_with fail
  go_loopw [7, 8] (fun vi vj wr => ∃ (i jj s : Nat) (dk : Array Int), vi = .int .i64 i ∧ vj = .int .i64 jj ∧ jj + s = 5 ∧ a < i ∧ i ≤ b ∧ dk.size = n ∧ StU w wr blk off m dk ∧ partialIns ltInt a b s i dk = r) (fun _ vj _ => (5 - intOf vj).toNat)
  case atStart => exact ⟨a + 1, 0, 5, d, by go_num, rfl, rfl, by omega, by omega, Hn.out.symm, StU.refl H.out, Hr.out.symm⟩
  case round =>
    obtain ⟨i, jj, s, dk, rfl, rfl, hjs, hai, hib, hsk, hst, hO⟩ := hrel
    have HO := Lib.hid hO
    have HS := Lib.hid hst
    have Hsk := Lib.hid hsk
    clear hO hst hsk
    rcases s with _ | s
    · obtain rfl : jj = 5 := by omega
      go_wp2_with fail
      go_ret
      have e9 : r = (dk, false) := by rw [← HO.out]; rfl
      rw [e9]
      exact ⟨rfl, HS.out⟩
    · have hj5 : (jj : Int) < 5 := by omega
      obtain ⟨G, hG⟩ : ∃ G : Nat → Int, ∀ t, G t = dk[t]! := ⟨fun t => dk[t]!, fun _ => rfl⟩
      have HG := Lib.hid hG
      clear hG
      go_wp2_with fail
      go_loopw [7] (fun vi wr2 => ∃ i1 : Nat, vi = .int .i64 i1 ∧ i ≤ i1 ∧ i1 ≤ b ∧ StU w wr2 blk off m dk ∧ scanSorted ltInt dk b i1 = scanSorted ltInt dk b i) (fun vi _ => (b : Nat) - (intOf vi).toNat)
      case atStart => exact ⟨i, rfl, Nat.le_refl _, hib, HS.out, rfl⟩
      case round =>
        obtain ⟨i1, rfl, hi1, hi1b, hst1, hU⟩ := hrel
        have HU := Lib.hid hU
        have HS1 := Lib.hid hst1
        have hcw : ∀ t, t < n → wr.cell? ⟨blk, off + t, none⟩ = some (.int .u64 (G t)) := fun t ht => by rw [HG.out]; exact HS1.out.row.cell (by have := Hsk.out; omega)
        have hfw : ∀ t, t < n → wr.frozen? ⟨blk, off + t, none⟩ = false := fun t _ => HS1.out.row.frozen t
        clear hU hst1
        by_cases hgo : i1 < b ∧ ltInt (G i1) (G (i1 - 1)) = false
        · obtain ⟨g1, g2⟩ := hgo
          go_wp2_with fail
          go_quiet (first | (go_at_call 191; refine Calls.quiet_of_same (hless _ _ _)))
          go_wp2_with fail
          go_roundw
          case rel => exact ⟨i1 + 1, by go_num, by omega, by omega, HS1.out.drewN _, by rw [← HU.out, ss_go g1 (by rw [← HG.out, ← HG.out]; exact g2)]⟩
          case measure => simp [intOf]; omega
        · have hcs : i1 = b ∨ (i1 < b ∧ ltInt (G i1) (G (i1 - 1)) = true) := by
            rcases Classical.em (i1 < b) with g | g
            · cases h9 : ltInt (G i1) (G (i1 - 1))
              · exact absurd ⟨g, h9⟩ hgo
              · exact .inr ⟨g, rfl⟩
            · exact .inl (by omega)
          have hend : scanSorted ltInt dk b i = i1 := by
            rw [← HU.out]
            refine ss_end ?_
            rcases hcs with g | ⟨_, g⟩
            · exact .inl (by omega)
            · exact .inr (by rw [← HG.out, ← HG.out]; exact g)
          have HEnd := Lib.hid (pins_step (a := a) (s := s) hend)
          clear hend hgo
          rcases hcs with g | ⟨g, g2⟩
          · subst g
            go_wp2_with fail
            go_quiet (first | (go_at_call 191; refine Calls.quiet_of_same (hless _ _ _)))
            go_wp2_with fail
            go_ret
            have e9 : r = (dk, true) := by rw [← HO.out, HEnd.out]; simp
            rw [e9]
            exact ⟨rfl, HS1.out.drewN _⟩
          · have hne : ¬ ((i1 : Int) = (b : Int)) := by omega
            by_cases h50 : b - a < 50
            · have h50z : (b : Int) - (a : Int) < 50 := by omega
              go_wp2_with fail
              go_quiet (first | (go_at_call 191; refine Calls.quiet_of_same (hless _ _ _)))
              go_wp2_with fail
              go_ret
              have e9 : r = (dk, false) := by rw [← HO.out, HEnd.out, if_neg (by omega), if_pos h50]
              rw [e9]
              exact ⟨rfl, HS1.out.drewN _⟩
            · have h50z : ¬ ((b : Int) - (a : Int) < 50) := by omega
              go_wp2_with fail
              go_quiet (first | (go_at_call 191; refine Calls.quiet_of_same (hless _ _ _)))
              obtain ⟨W1, hW1⟩ : ∃ W1, W1 = wr.drewN nq := ⟨_, rfl⟩
              have hs1 : StU w W1 blk off m dk := by rw [hW1]; exact HS1.out.drewN _
              rw [← hW1]
              clear hW1 hcw hfw
              have hcw : ∀ t, t < n → W1.cell? ⟨blk, off + t, none⟩ = some (.int .u64 (G t)) := fun t ht => by rw [HG.out]; exact hs1.row.cell (by have := Hsk.out; omega)
              have hfw : ∀ t, t < n → W1.frozen? ⟨blk, off + t, none⟩ = false := fun t _ => hs1.row.frozen t
              have HS4 := Lib.hid hs1
              clear hs1
              go_wp2_with fail
              go_region
              all_goals go_upto_if 61 with fail
              obtain ⟨dS, hdS⟩ : ∃ dS, dS = swp dk i1 (i1 - 1) := ⟨_, rfl⟩
              have HR : Hid (partialIns ltInt a b s i1 (fixUp ltInt b i1 (fixDown ltInt a i1 dS)) = r) := Lib.hid (by rw [hdS, ← HO.out, HEnd.out, if_neg (by omega), if_neg h50])
              have HdS : Hid (∀ W, StU w W blk off m (swp dk i1 (i1 - 1)) → StU w W blk off m dS ∧ dS.size = n) := Lib.hid fun W hW => by rw [hdS]; exact ⟨hW, by rw [size_swp]; exact Hsk.out⟩
              clear hdS
              have hs5 : StU w (((W1.setCell ⟨blk, off + i1, none⟩ (.int .u64 (G (i1 - 1)))).setCell ⟨blk, off + (i1 - 1), none⟩ (.int .u64 (G i1))).drew) blk off m (swp dk i1 (i1 - 1)) := by
                rw [HG.out, HG.out]
                exact ((HS4.out).swap (by have := Hsk.out; omega) (by have := Hsk.out; omega)).on (Below.refl _ _).drew
              obtain ⟨hsS, hnS⟩ := HdS.out _ hs5
              have HSS := Lib.hid hsS
              have HnS := Lib.hid hnS
              clear hs5 hsS hnS hcw hfw HdS
              revert HSS
              generalize World.drew _ = w2
              intro HSS
              go_cut [] from 13 to 132 (fun wc => StU w wc blk off m (fixDown ltInt a i1 dS) ∧ (fixDown ltInt a i1 dS).size = n)
              case first =>
                by_cases h2 : i1 - a ≥ 2
                · have h2z : 2 ≤ (i1 : Int) - (a : Int) := by omega
                  go_wp2_with fail
                  go_loopw [9] (fun vj wr3 => ∃ (j : Nat) (dj : Array Int), vj = .int .i64 j ∧ j < n ∧ dj.size = n ∧ StU w wr3 blk off m dj ∧ shiftDown ltInt j dj = fixDown ltInt a i1 dS) (fun vj _ => (intOf vj).toNat)
                  case atStart => exact ⟨i1 - 1, dS, by congr 1; omega, by omega, HnS.out, HSS.out, by unfold fixDown; rw [if_pos h2]⟩
                  case round =>
                    obtain ⟨j, dj, rfl, hjn, hsj, hst3, hI⟩ := hrel
                    obtain ⟨G, hG⟩ : ∃ G : Nat → Int, ∀ t, G t = dj[t]! := ⟨fun t => dj[t]!, fun _ => rfl⟩
                    have hcw : ∀ t, t < n → wr.cell? ⟨blk, off + t, none⟩ = some (.int .u64 (G t)) := fun t ht => by rw [hG]; exact hst3.row.cell (by omega)
                    have hfw : ∀ t, t < n → wr.frozen? ⟨blk, off + t, none⟩ = false := fun t _ => hst3.row.frozen t
                    have HG := Lib.hid hG
                    have HI := Lib.hid hI
                    have HS3 := Lib.hid hst3
                    have Hsj := Lib.hid hsj
                    clear hG hI hst3 hsj
                    have OUT : Hid ((j = 0 ∨ ltInt dj[j]! dj[j - 1]! = false) → ∀ wq, StU w wq blk off m dj → StU w wq blk off m (fixDown ltInt a i1 dS) ∧ (fixDown ltInt a i1 dS).size = n) :=
                      Lib.hid fun hs wq hq => by rw [← HI.out, sdn_stop hs]; exact ⟨hq, Hsj.out⟩
                    by_cases hja : 0 < j
                    · have hjz : 1 ≤ (j : Int) := by omega
                      cases hl : ltInt (G j) (G (j - 1))
                      · go_wp2_with fail
                        go_quiet (first | (go_at_call 191; refine Calls.quiet_of_same (hless _ _ _)))
                        go_wp2_with fail
                        go_meet
                        case rel => exact OUT.out (Or.inr (by rw [← HG.out, ← HG.out]; exact hl)) _ (HS3.out.drewN _)
                      · go_wp2_with fail
                        go_quiet (first | (go_at_call 191; refine Calls.quiet_of_same (hless _ _ _)))
                        go_wp2_with fail
                        go_region
                        all_goals go_wp2_with fail
                        go_roundw
                        case rel =>
                          refine ⟨j - 1, swp dj j (j - 1), by congr 1; omega, by omega, by rw [size_swp]; exact Hsj.out, ?_, ?_⟩
                          · rw [HG.out, HG.out]
                            exact (HS3.out.drewN _).swap (by have := Hsj.out; omega) (by have := Hsj.out; omega)
                          · rw [← HI.out, sdn_go hja (by rw [← HG.out, ← HG.out]; exact hl)]
                        case measure => simp [intOf]; omega
                    · obtain rfl : j = 0 := by omega
                      go_wp2_with fail
                      go_meet
                      case rel => exact OUT.out (Or.inl (by trivial)) _ HS3.out
                · have h2z : ¬ 2 ≤ (i1 : Int) - (a : Int) := by omega
                  go_wp2_with fail
                  go_meet
                  case rel => exact (by unfold fixDown; rw [if_neg h2]; exact ⟨HSS.out, HnS.out⟩)
              case rest =>
                obtain ⟨hSF, hnF⟩ := hcut
                obtain ⟨dF, hdF⟩ : ∃ dF, dF = fixDown ltInt a i1 dS := ⟨_, rfl⟩
                have HdF := Lib.hid hdF
                rw [← hdF] at hSF hnF
                have HSF := Lib.hid hSF
                have HnF := Lib.hid hnF
                clear hdF hSF hnF
                have FIN : Hid (∀ wq dj, dj = fixUp ltInt b i1 dF → dj.size = n → StU w wq blk off m dj → ∃ (i' jj' s' : Nat) (dk' : Array Int), Value.int .i64 (i1 : Int) = .int .i64 (i' : Nat) ∧ Value.int .i64 ((jj : Int) + 1) = .int .i64 (jj' : Nat) ∧ jj' + s' = 5 ∧ a < i' ∧ i' ≤ b ∧ dk'.size = n ∧ StU w wq blk off m dk' ∧ partialIns ltInt a b s' i' dk' = r) :=
                  Lib.hid fun wq dj hd hz hq => ⟨i1, jj + 1, s, dj, rfl, by go_num, by omega, by omega, hi1b, hz, hq, by rw [← HR.out, hd, HdF.out]⟩
                by_cases h2 : b - i1 ≥ 2
                · have h2z : 2 ≤ (b : Int) - (i1 : Int) := by omega
                  go_wp2_with fail
                  go_loopw [10] (fun vj wr3 => ∃ (j : Nat) (dj : Array Int), vj = .int .i64 j ∧ 0 < j ∧ j ≤ b ∧ dj.size = n ∧ StU w wr3 blk off m dj ∧ shiftUp ltInt b j dj = fixUp ltInt b i1 dF) (fun vj _ => (b - (intOf vj).toNat))
                  case atStart => exact ⟨i1 + 1, dF, by go_num, by omega, by omega, HnF.out, HSF.out, by unfold fixUp; rw [if_pos h2]⟩
                  case round =>
                    obtain ⟨j, dj, rfl, hj0, hjn, hsj, hst3, hI⟩ := hrel
                    obtain ⟨G, hG⟩ : ∃ G : Nat → Int, ∀ t, G t = dj[t]! := ⟨fun t => dj[t]!, fun _ => rfl⟩
                    have hcw : ∀ t, t < n → wr.cell? ⟨blk, off + t, none⟩ = some (.int .u64 (G t)) := fun t ht => by rw [hG]; exact hst3.row.cell (by omega)
                    have hfw : ∀ t, t < n → wr.frozen? ⟨blk, off + t, none⟩ = false := fun t _ => hst3.row.frozen t
                    have HG := Lib.hid hG
                    have HI := Lib.hid hI
                    have HS3 := Lib.hid hst3
                    have Hsj := Lib.hid hsj
                    clear hG hI hst3 hsj
                    by_cases hja : j < b
                    · cases hl : ltInt (G j) (G (j - 1))
                      · go_wp2_with fail
                        go_quiet (first | (go_at_call 191; refine Calls.quiet_of_same (hless _ _ _)))
                        go_wp2_with fail
                        go_roundw
                        case rel => exact FIN.out _ dj (by rw [← HI.out, su_stop (Or.inr (by rw [← HG.out, ← HG.out]; exact hl))]) Hsj.out (HS3.out.drewN _)
                        case measure => simp [intOf]; omega
                      · go_wp2_with fail
                        go_quiet (first | (go_at_call 191; refine Calls.quiet_of_same (hless _ _ _)))
                        go_wp2_with fail
                        go_region
                        all_goals go_wp2_with fail
                        go_roundw
                        case rel =>
                          refine ⟨j + 1, swp dj j (j - 1), by go_num, by omega, by omega, by rw [size_swp]; exact Hsj.out, ?_, ?_⟩
                          · rw [HG.out, HG.out]
                            exact (HS3.out.drewN _).swap (by have := Hsj.out; omega) (by have := Hsj.out; omega)
                          · rw [← HI.out, su_go hja (by rw [← HG.out, ← HG.out]; exact hl)]
                        case measure => simp [intOf]; omega
                    · go_wp2_with fail
                      go_roundw
                      case rel => exact FIN.out _ dj (by rw [← HI.out, su_stop (Or.inl hja)]) Hsj.out HS3.out
                      case measure => simp [intOf]; omega
                · have h2z : ¬ 2 ≤ (b : Int) - (i1 : Int) := by omega
                  go_wp2_with fail
                  go_roundw
                  case rel => exact FIN.out _ dF (by unfold fixUp; rw [if_neg h2]) HnF.out HSF.out
                  case measure => simp [intOf]; omega
end Go.Proofs.YtaicibmaogiibaaGreatDoor

/-
  slices.Sort at uint64: bits.Len of a small number; nextPowerOfTwo; xorshift.Next.
-/
set_option linter.unusedVariables false
set_option linter.unusedSimpArgs false
namespace Go.Proofs.YtaicibmaogiibaaGreatDoor
open Go.RowKit Go.Sort

/-- what Len says of x: how many bits it has -/
def LenOk (x k : Nat) : Prop := k ≤ 8 ∧ x < 2 ^ k ∧ (0 < x → 2 ^ k ≤ 2 * x)
instance (x k : Nat) : Decidable (LenOk x k) := by unfold LenOk; infer_instance
theorem lenOk_of {B : ByteArray} {x : Nat} {pf : x < B.size} (h : B.size = 256) (k : ∀ y : Fin 256, LenOk y.1 (B[y.1]'(by rw [h]; exact y.2)).toNat) : LenOk x (B[x]'pf).toNat := k ⟨x, h ▸ pf⟩
theorem wrap64_two (t : Nat) (h : t ≤ 8) : wrap64 (wrap64 (t : Int)) = (t : Int) := by
  unfold wrap64
  omega
set_option maxRecDepth 100000 in
set_option maxHeartbeats 4000000 in
theorem hlen64 (x : Nat) (w : World) (hx : x < 256) : Calls Tryz.prog 176 #[.int .u64 (x : Int)] w fun e w' => (∃ k : Nat, e = .returned (.int .i64 (k : Int)) ∧ LenOk x k) ∧ w' = w := by
  go_enter Tryz.func176, Tryz.ntmps176
  have h1 : ¬ ((4294967296 : Int) ≤ (x : Int)) := by omega
  have h2 : ¬ ((65536 : Int) ≤ (x : Int)) := by omega
  have h3 : ¬ ((256 : Int) ≤ (x : Int)) := by omega
  go_wp2_with fail
  go_ret
  clear h1 h2
  have hw : ∀ (t : Nat), LenOk x t → (∃ k : Nat, Ending.returned (.int .i64 (wrap64 (wrap64 (t : Int)))) = Ending.returned (.int .i64 (k : Int)) ∧ LenOk x k) ∧ w = w := fun t h => ⟨⟨t, by rw [wrap64_two t h.1], h⟩, rfl⟩
  refine hw _ ?_
  clear hw w
  refine lenOk_of (by decide +kernel) ?_
  decide +kernel
set_option maxRecDepth 100000 in
theorem hlen (x : Nat) (w : World) (hx : x < 256) : Calls Tryz.prog 171 #[.int .u64 (x : Int)] w fun e w' => (∃ k : Nat, e = .returned (.int .i64 (k : Int)) ∧ LenOk x k) ∧ w' = w := by
  go_enter Tryz.func171, Tryz.ntmps171
  go_wp2_with (go_at_call 176; refine (hlen64 x _ hx).mono ?_; rintro e w1 ⟨⟨k, rfl, hk⟩, rfl⟩)
  go_ret
  exact ⟨⟨k, rfl, hk⟩, rfl⟩
/-- nextPowerOfTwo: a power of two, of which the number is less, and which is not more than twice the number -/
def PowOk (x p : Nat) : Prop := x < p ∧ (0 < x → p ≤ 2 * x) ∧ p ≤ 256 ∧ 0 < p
set_option maxRecDepth 100000 in
theorem hpow (x : Nat) (w : World) (hx : x < 256) : Calls Tryz.prog 201 #[.int .i64 (x : Int)] w fun e w' => (∃ p : Nat, e = .returned (.int .u64 (p : Int)) ∧ PowOk x p) ∧ w' = w := by
  go_enter Tryz.func201, Tryz.ntmps201
  go_wp2_with (go_at_call 171; refine (hlen x _ hx).mono ?_; rintro e w1 ⟨⟨k, rfl, hk⟩, rfl⟩)
  go_ret
  have e1 : min k 64 = k := by have := hk.1; omega
  rw [e1]
  refine ⟨⟨2 ^ k, ?_, hk.2.1, hk.2.2, ?_, Nat.two_pow_pos k⟩, rfl⟩
  · have h8 : (2 : Nat) ^ k ≤ 2 ^ 8 := Nat.pow_le_pow_right (by omega) hk.1
    have e2 : IntKind.u64.wrap ((2 : Int) ^ k) = ((2 ^ k : Nat) : Int) := by
      rw [IntKind.wrap_u64, show ((2 : Int) ^ k) = ((2 ^ k : Nat) : Int) by simp]
      have := Nat.two_pow_pos k
      generalize (2 : Nat) ^ k = c at *
      omega
    show Ending.returned (.int .u64 _) = _
    rw [e2]
  · exact Nat.pow_le_pow_right (by omega : 0 < 2) hk.1
theorem xor_nat (a : Nat) (b : Int) (ha : a < 18446744073709551616) (h0 : 0 ≤ b) (h1 : b < 18446744073709551616) : ∃ A : Nat, A < 18446744073709551616 ∧ bits .xor .u64 (a : Int) b = (A : Int) := by
  obtain ⟨c, rfl⟩ : ∃ c : Nat, b = (c : Int) := ⟨b.toNat, by omega⟩
  exact ⟨a ^^^ c, Nat.xor_lt_two_pow (n := 64) (by omega) (by omega), bits_xor_u64_nat _ _ ha (by omega)⟩
/-- a block of one number; what has become of it -/
structure NxSt (w0 w : World) (X : Nat) (ty : Nat) (x : Nat) : Prop where
  heap : w.heap[X]? = some (.cells #[.int .u64 (x : Int)] ty (0, 0))
  chg : Chg (fun i => i = X) w0 w
section
variable {w0 w w' : World} {X ty x : Nat}
theorem NxSt.cell (h : NxSt w0 w X ty x) : w.cell? ⟨X, 0, none⟩ = some (.int .u64 (x : Int)) := by simp [World.cell?, h.heap]
theorem NxSt.frozen (h : NxSt w0 w X ty x) : w.frozen? ⟨X, 0, none⟩ = false := by simp [World.frozen?, h.heap]
theorem NxSt.lt (h : NxSt w0 w X ty x) : X < w.heap.size := (Array.getElem?_eq_some_iff.1 h.heap).1
theorem NxSt.on (h : NxSt w0 w X ty x) (hb : Below w.heap.size w w') : NxSt w0 w' X ty x := ⟨(hb.block X h.lt).trans h.heap, h.chg.trans (Chg.of_below (M := fun _ => False) hb) (fun i e => e.elim)⟩
theorem NxSt.set (h : NxSt w0 w X ty x) (y : Nat) : NxSt w0 (w.setCell ⟨X, 0, none⟩ (.int .u64 (y : Int))) X ty y := by
  refine ⟨?_, h.chg.setCell rfl _⟩
  rw [Go.Sort.setCell_eq]
  simp [Go.Sort.mapBlock, Array.getElem?_modify, h.heap, Go.Sort.onCells]
end
set_option maxRecDepth 100000 in
set_option maxHeartbeats 4000000 in
theorem hnext (X : Nat) (x : Nat) (ty : Nat) (w0 w : World) (hx : x < 18446744073709551616) (h : NxSt w0 w X ty x) :
    Calls Tryz.prog 202 #[.pointer (some ⟨X, 0, none⟩)] w fun e w' => ∃ r : Nat, r < 18446744073709551616 ∧ e = .returned (.int .u64 (r : Int)) ∧ NxSt w0 w' X ty r := by
  obtain ⟨A, hA, eA⟩ := xor_nat x (IntKind.u64.wrap ((x : Int) * 8192)) hx (by rw [IntKind.wrap_u64]; omega) (by rw [IntKind.wrap_u64]; omega)
  obtain ⟨B, hB, eB⟩ := xor_nat A ((A : Int) / 128) hA (by omega) (by omega)
  obtain ⟨C, hC, eC⟩ := xor_nat B (IntKind.u64.wrap ((B : Int) * 131072)) hB (by rw [IntKind.wrap_u64]; omega) (by rw [IntKind.wrap_u64]; omega)
  have HS := Lib.hid h
  have hc := h.cell
  have hf := h.frozen
  clear h
  go_enter Tryz.func202, Tryz.ntmps202
  go_wp2_with fail
  go_region
  all_goals go_wp2_with fail
  have h1 := (HS.out.set A).on (Below.refl _ _).drew
  have HS1 := Lib.hid h1
  have hc1 := h1.cell
  have hf1 := h1.frozen
  clear h1 hc hf
  revert HS1 hc1 hf1
  generalize World.drew _ = w1
  intro HS1 hc1 hf1
  go_region
  all_goals go_wp2_with fail
  have h1 := (HS1.out.set B).on (Below.refl _ _).drew
  have HS2 := Lib.hid h1
  have hc2 := h1.cell
  have hf2 := h1.frozen
  clear h1 hc1 hf1
  revert HS2 hc2 hf2
  generalize World.drew _ = w2
  intro HS2 hc2 hf2
  go_region
  all_goals go_wp2_with fail
  have h1 := (HS2.out.set C).on (Below.refl _ _).drew
  have HS3 := Lib.hid h1
  have hc3 := h1.cell
  have hf3 := h1.frozen
  clear h1 hc2 hf2
  revert HS3 hc3 hf3
  generalize World.drew _ = w3
  intro HS3 hc3 hf3
  go_wp2_with fail
  go_ret
  exact ⟨C, hC, rfl, HS3.out⟩
end Go.Proofs.YtaicibmaogiibaaGreatDoor

/-
  slices.Sort at uint64: order2Ordered, medianOrdered, medianAdjacentOrdered, choosePivotOrdered: which place comes out is left open; it lies in the part.
-/
set_option linter.unusedVariables false
set_option linter.unusedSimpArgs false
namespace Go.Proofs.YtaicibmaogiibaaGreatDoor
open Go.RowKit Go.Sort

/-- the row, and beside it a counter that alone has changed -/
structure PvSt (w0 w : World) (blk off m : Nat) (d : Array Int) (Y ty : Nat) : Prop where
  row : RowU w blk off m d
  cnt : ∃ s : Int, w.heap[Y]? = some (.cells #[.int .i64 s] ty (0, 0))
  chg : Chg (fun i => i = Y) w0 w
  ne : Y ≠ blk
section
variable {w0 w w' : World} {blk off m : Nat} {d : Array Int} {Y ty : Nat}
theorem PvSt.lt (h : PvSt w0 w blk off m d Y ty) : Y < w.heap.size := by obtain ⟨s, h⟩ := h.cnt; exact (Array.getElem?_eq_some_iff.1 h).1
theorem PvSt.on (h : PvSt w0 w blk off m d Y ty) (hb : Below w.heap.size w w') : PvSt w0 w' blk off m d Y ty := by
  obtain ⟨s, hs⟩ := h.cnt
  exact ⟨h.row.of_block (hb.block blk h.row.lt), ⟨s, (hb.block Y h.lt).trans hs⟩, h.chg.trans (Chg.of_below (M := fun _ => False) hb) (fun i e => e.elim), h.ne⟩
theorem PvSt.get (h : PvSt w0 w blk off m d Y ty) : ∃ s : Int, w.cell? ⟨Y, 0, none⟩ = some (.int .i64 s) ∧ w.frozen? ⟨Y, 0, none⟩ = false := by
  obtain ⟨s, hs⟩ := h.cnt
  exact ⟨s, by simp [World.cell?, hs], by simp [World.frozen?, hs]⟩
theorem PvSt.start (h : RowU w blk off m d) (ty : Nat) : PvSt (w.alloc (.cells #[.int .i64 0] ty (0, 0))) (w.alloc (.cells #[.int .i64 0] ty (0, 0))) blk off m d w.heap.size ty :=
  ⟨h.of_block (by show (w.heap.push _)[blk]? = _; rw [Array.getElem?_push, if_neg (by have := h.lt; omega)]), ⟨0, by show (w.heap.push _)[w.heap.size]? = _; simp⟩, Chg.refl, by have := h.lt; omega⟩
theorem PvSt.drewN (h : PvSt w0 w blk off m d Y ty) (q : Nat) : PvSt w0 (w.drewN q) blk off m d Y ty := h.on (below_drewN (Below.refl _ _) _)
theorem PvSt.set (h : PvSt w0 w blk off m d Y ty) (x : Int) : PvSt w0 (w.setCell ⟨Y, 0, none⟩ (.int .i64 x)) blk off m d Y ty := by
  obtain ⟨s, hs⟩ := h.cnt
  refine ⟨h.row.of_block ?_, ⟨x, ?_⟩, h.chg.setCell rfl _, h.ne⟩
  · rw [Go.Sort.setCell_eq]
    simp [Go.Sort.mapBlock, Array.getElem?_modify, h.ne]
  · rw [Go.Sort.setCell_eq]
    simp [Go.Sort.mapBlock, Array.getElem?_modify, hs, Go.Sort.onCells]
end
set_option maxRecDepth 100000 in
set_option maxHeartbeats 4000000 in
theorem horder2 (blk off m cap a b Y ty : Nat) (d : Array Int) (w0 w : World) (h : PvSt w0 w blk off m d Y ty) (ha : a < d.size) (hb : b < d.size) (hsz : d.size ≤ 1000000) :
    Calls Tryz.prog 216 #[slU blk off d.size cap, .int .i64 (a : Int), .int .i64 (b : Int), .pointer (some ⟨Y, 0, none⟩)] w fun e w' => ∃ p q : Nat, e = .returned (.tuple #[.int .i64 (p : Int), .int .i64 (q : Int)]) ∧ ((p = a ∧ q = b) ∨ (p = b ∧ q = a)) ∧ PvSt w0 w' blk off m d Y ty := by
  have HS := Lib.hid h
  obtain ⟨n, hn⟩ : ∃ n, n = d.size := ⟨_, rfl⟩
  have Hn := Lib.hid hn
  rw [← hn] at ha hb hsz
  clear h
  unfold slU
  rw [← hn]
  clear hn
  obtain ⟨G, hG⟩ : ∃ G : Nat → Int, ∀ t, G t = d[t]! := ⟨fun t => d[t]!, fun _ => rfl⟩
  have hcw : ∀ t, t < n → w.cell? ⟨blk, off + t, none⟩ = some (.int .u64 (G t)) := fun t ht => by rw [hG]; exact HS.out.row.cell (by have := Hn.out; omega)
  have hfw : ∀ t, t < n → w.frozen? ⟨blk, off + t, none⟩ = false := fun t _ => HS.out.row.frozen t
  clear hG
  go_enter Tryz.func216, Tryz.ntmps216
  go_wp2_with fail
  go_quiet (first | (go_at_call 191; refine Calls.quiet_of_same (hless _ _ _)))
  obtain ⟨W1, hW1⟩ : ∃ W1, W1 = w.drewN nq := ⟨_, rfl⟩
  have hs1 : PvSt w0 W1 blk off m d Y ty := by rw [hW1]; exact HS.out.drewN _
  rw [← hW1]
  clear hW1 hcw hfw
  have HS1 := Lib.hid hs1
  obtain ⟨s, hs⟩ := hs1.cnt
  have hcY : W1.cell? ⟨Y, 0, none⟩ = some (.int .i64 s) := by simp [World.cell?, hs]
  have hfY : W1.frozen? ⟨Y, 0, none⟩ = false := by simp [World.frozen?, hs]
  clear hs hs1
  cases hl : ltInt (G b) (G a)
  · go_wp2_with fail
    go_ret2
    exact ⟨a, b, rfl, .inl ⟨rfl, rfl⟩, HS1.out⟩
  · go_wp2_with fail
    go_ret2
    exact ⟨b, a, rfl, .inr ⟨rfl, rfl⟩, HS1.out.set _⟩
set_option maxRecDepth 100000 in
set_option maxHeartbeats 4000000 in
theorem hmedian (blk off m cap a b c Y ty : Nat) (d : Array Int) (w0 w : World) (h : PvSt w0 w blk off m d Y ty) (ha : a < d.size) (hb : b < d.size) (hc : c < d.size) (hsz : d.size ≤ 1000000) :
    Calls Tryz.prog 204 #[slU blk off d.size cap, .int .i64 (a : Int), .int .i64 (b : Int), .int .i64 (c : Int), .pointer (some ⟨Y, 0, none⟩)] w fun e w' => ∃ r : Nat, e = .returned (.int .i64 (r : Int)) ∧ (r = a ∨ r = b ∨ r = c) ∧ PvSt w0 w' blk off m d Y ty := by
  have H : ∀ (x y : Nat) (w1 : World), PvSt w0 w1 blk off m d Y ty → x < d.size → y < d.size → Calls Tryz.prog 216 #[slU blk off d.size cap, .int .i64 (x : Int), .int .i64 (y : Int), .pointer (some ⟨Y, 0, none⟩)] w1 fun e w' => ∃ p q : Nat, e = .returned (.tuple #[.int .i64 (p : Int), .int .i64 (q : Int)]) ∧ ((p = x ∧ q = y) ∨ (p = y ∧ q = x)) ∧ PvSt w0 w' blk off m d Y ty :=
    fun x y w1 h hx hy => horder2 blk off m cap x y Y ty d w0 w1 h hx hy hsz
  unfold slU at H ⊢
  go_enter Tryz.func204, Tryz.ntmps204
  go_wp2_with (go_at_call 216; refine (H _ _ _ (by assumption) (by omega) (by omega)).mono ?_; rintro e w1 ⟨p1, q1, rfl, hpq1, hs1⟩)
  go_ret
  rename_i hs1
  exact ⟨_, rfl, by omega, by assumption⟩
set_option maxRecDepth 100000 in
theorem hmedianA (blk off m cap a Y ty : Nat) (d : Array Int) (w0 w : World) (h : PvSt w0 w blk off m d Y ty) (h1 : 1 ≤ a) (ha : a + 1 < d.size) (hsz : d.size ≤ 1000000) :
    Calls Tryz.prog 203 #[slU blk off d.size cap, .int .i64 (a : Int), .pointer (some ⟨Y, 0, none⟩)] w fun e w' => ∃ r : Nat, e = .returned (.int .i64 (r : Int)) ∧ (r = a - 1 ∨ r = a ∨ r = a + 1) ∧ PvSt w0 w' blk off m d Y ty := by
  have H := hmedian blk off m cap (a - 1) a (a + 1) Y ty d w0 w h (by omega) (by omega) (by omega) hsz
  have e1 : ((a - 1 : Nat) : Int) = (a : Int) - 1 := by omega
  have e2 : ((a + 1 : Nat) : Int) = (a : Int) + 1 := by omega
  rw [e1, e2] at H
  have HH := Lib.hid H
  clear e1 e2 H
  unfold slU at HH ⊢
  go_enter Tryz.func203, Tryz.ntmps203
  go_wp2_with (go_at_call 204; refine (HH.out).mono ?_; rintro e w1 ⟨r, rfl, hr, hs1⟩)
  go_ret
  exact ⟨r, rfl, hr, hs1⟩
set_option maxRecDepth 100000 in
set_option maxHeartbeats 8000000 in
/-- choosePivot, of a part of more than twelve: a place in it, and one of three hints -/
theorem hpivot (blk off m cap a b : Nat) (d : Array Int) (w : World) (h : RowU w blk off m d) (hab : a + 12 < b) (hb : b ≤ d.size) (hsz : d.size ≤ 1000000) :
    Calls Tryz.prog 188 #[slU blk off d.size cap, .int .i64 (a : Int), .int .i64 (b : Int)] w fun e w' => ∃ (p k : Nat), e = .returned (.tuple #[.int .i64 (p : Int), .int .i64 (k : Int)]) ∧ a ≤ p ∧ p < b ∧ k ≤ 2 ∧ StU w w' blk off m d := by
  have H := Lib.hid h
  obtain ⟨n, hn⟩ : ∃ n, n = d.size := ⟨_, rfl⟩
  have Hn := Lib.hid hn
  rw [← hn] at hb hsz
  have hlt := h.lt
  have hm : ∀ (ty : Nat) (w1 : World) (x y z : Nat), PvSt (w.alloc (.cells #[.int .i64 0] ty (0, 0))) w1 blk off m d w.heap.size ty → x < n → y < n → z < n → Calls Tryz.prog 204 #[.slice (some ⟨blk, off, none⟩) n cap, .int .i64 (x : Int), .int .i64 (y : Int), .int .i64 (z : Int), .pointer (some ⟨w.heap.size, 0, none⟩)] w1 fun e w' => ∃ r : Nat, e = .returned (.int .i64 (r : Int)) ∧ (r = x ∨ r = y ∨ r = z) ∧ PvSt (w.alloc (.cells #[.int .i64 0] ty (0, 0))) w' blk off m d w.heap.size ty :=
    fun ty w1 x y z h hx hy hz => by rw [hn]; exact hmedian blk off m cap x y z _ ty d _ w1 h (by omega) (by omega) (by omega) (by omega)
  have hma : ∀ (ty : Nat) (w1 : World) (x : Nat), PvSt (w.alloc (.cells #[.int .i64 0] ty (0, 0))) w1 blk off m d w.heap.size ty → 1 ≤ x → x + 1 < n → Calls Tryz.prog 203 #[.slice (some ⟨blk, off, none⟩) n cap, .int .i64 (x : Int), .pointer (some ⟨w.heap.size, 0, none⟩)] w1 fun e w' => ∃ r : Nat, e = .returned (.int .i64 (r : Int)) ∧ (r = x - 1 ∨ r = x ∨ r = x + 1) ∧ PvSt (w.alloc (.cells #[.int .i64 0] ty (0, 0))) w' blk off m d w.heap.size ty :=
    fun ty w1 x h hx hy => by rw [hn]; exact hmedianA blk off m cap x _ ty d _ w1 h (by omega) (by omega) (by omega)
  have HM := Lib.hid hm
  have HMA := Lib.hid hma
  clear hm hma h
  unfold slU
  rw [← hn]
  clear hn
  obtain ⟨l, hl⟩ : ∃ l, l = b - a := ⟨_, rfl⟩
  obtain ⟨q, hq⟩ : ∃ q, q = l / 4 := ⟨_, rfl⟩
  obtain ⟨i, hi⟩ : ∃ i, i = a + q := ⟨_, rfl⟩
  obtain ⟨j, hj⟩ : ∃ j, j = a + q * 2 := ⟨_, rfl⟩
  obtain ⟨k, hk⟩ : ∃ k, k = a + q * 3 := ⟨_, rfl⟩
  have el : (b : Int) - (a : Int) = (l : Int) := by omega
  have eq : (l : Int) / 4 = (q : Int) := by omega
  have ei : (a : Int) + (q : Int) = (i : Int) := by omega
  have ej : (a : Int) + (q : Int) * 2 = (j : Int) := by omega
  have ek : (a : Int) + (q : Int) * 3 = (k : Int) := by omega
  have r1 : a + 3 ≤ i := by omega
  have r2 : i + 3 ≤ j := by omega
  have r3 : j + 3 ≤ k := by omega
  have r4 : k + 3 ≤ b := by omega
  have r5 : k < b := by omega
  have r6 : l ≤ 1000000 := by omega
  have r7 : q ≤ 1000000 := by omega
  have r8 : 8 ≤ (l : Int) := by omega
  clear hl hq hi hj hk
  have HP0 : Hid (∀ ty : Nat, PvSt (w.alloc (.cells #[.int .i64 0] ty (0, 0))) (w.alloc (.cells #[.int .i64 0] ty (0, 0))) blk off m d w.heap.size ty) := Lib.hid fun ty => PvSt.start H.out ty
  have HFIN : Hid (∀ (ty : Nat) (w1 : World), PvSt (w.alloc (.cells #[.int .i64 0] ty (0, 0))) w1 blk off m d w.heap.size ty → StU w w1 blk off m d) := Lib.hid fun ty w1 h =>
    ⟨h.row, (Chg.refl.alloc _).trans h.chg (fun i e => .inr (by omega))⟩
  go_enter Tryz.func188, Tryz.ntmps188
  by_cases h50 : 50 ≤ (l : Int)
  all_goals
    go_wp2_with (first
      | (go_at_call 203; refine (HMA.out _ _ _ (by first | exact HP0.out _ | assumption) (by omega) (by omega)).mono ?_; rintro e w1 ⟨r, rfl, hr, hs1⟩; obtain ⟨s, hcY, hfY⟩ := hs1.get)
      | (go_at_call 204; refine (HM.out _ _ _ _ _ (by first | exact HP0.out _ | assumption) (by omega) (by omega) (by omega)).mono ?_; rintro e w1 ⟨r, rfl, hr, hs1⟩; obtain ⟨s, hcY, hfY⟩ := hs1.get))
    all_goals
      go_ret2
      first
        | exact ⟨_, 1, rfl, by omega, by omega, by omega, HFIN.out _ _ (by assumption)⟩
        | exact ⟨_, 2, rfl, by omega, by omega, by omega, HFIN.out _ _ (by assumption)⟩
        | exact ⟨_, 0, rfl, by omega, by omega, by omega, HFIN.out _ _ (by assumption)⟩
end Go.Proofs.YtaicibmaogiibaaGreatDoor

/-
  slices.Sort at uint64: breakPatternsOrdered: some permutation of the part.
-/
set_option linter.unusedVariables false
set_option linter.unusedSimpArgs false
namespace Go.Proofs.YtaicibmaogiibaaGreatDoor
open Go.RowKit Go.Sort

/-- the row, and beside it the random number, in a block of its own -/
structure BrSt (w0 w : World) (blk off m : Nat) (d : Array Int) (X ty x : Nat) : Prop where
  row : RowU w blk off m d
  rnd : w.heap[X]? = some (.cells #[.int .u64 (x : Int)] ty (0, 0))
  lt : x < 18446744073709551616
  chg : Chg (fun i => i = blk) w0 w
  old : w0.heap.size ≤ X
  ob : blk < w0.heap.size
section
variable {w0 w w' : World} {blk off m : Nat} {d : Array Int} {X ty x : Nat}
theorem BrSt.nx (h : BrSt w0 w blk off m d X ty x) : NxSt w w X ty x := ⟨h.rnd, Chg.refl⟩
theorem BrSt.next (h : BrSt w0 w blk off m d X ty x) {r : Nat} (hr : r < 18446744073709551616) (k : NxSt w w' X ty r) : BrSt w0 w' blk off m d X ty r :=
  ⟨h.row.of_block (k.chg.block blk h.row.lt (by have := h.old; have := h.ob; omega)), k.heap, hr, h.chg.trans k.chg (fun i e => .inr (by have := h.old; omega)), h.old, h.ob⟩
theorem BrSt.on (h : BrSt w0 w blk off m d X ty x) (hb : Below w.heap.size w w') : BrSt w0 w' blk off m d X ty x :=
  ⟨h.row.of_block (hb.block blk h.row.lt), (hb.block X (Array.getElem?_eq_some_iff.1 h.rnd).1).trans h.rnd, h.lt, h.chg.trans (Chg.of_below (M := fun _ => False) hb) (fun i e => e.elim), h.old, h.ob⟩
theorem BrSt.st (h : BrSt w0 w blk off m d X ty x) : StU w0 w blk off m d := ⟨h.row, h.chg⟩
theorem heap_setCell_other (w : World) {q t i : Nat} (v : Value) (hi : q ≠ i) : (w.setCell ⟨q, t, none⟩ v).heap[i]? = w.heap[i]? := by
  rw [Go.Sort.setCell_eq]
  simp [Go.Sort.mapBlock, Array.getElem?_modify, hi]
theorem BrSt.swap (h : BrSt w0 w blk off m d X ty x) {j k : Nat} (hj : j < d.size) (hk : k < d.size) : BrSt w0 ((w.setCell ⟨blk, off + j, none⟩ (.int .u64 d[k]!)).setCell ⟨blk, off + k, none⟩ (.int .u64 d[j]!)) blk off m (swp d j k) X ty x := by
  have hs := h.st.swap hj hk
  have hne : blk ≠ X := by have := h.old; have := h.ob; omega
  exact ⟨hs.row, (heap_setCell_other _ _ hne).trans ((heap_setCell_other _ _ hne).trans h.rnd), h.lt, hs.chg, h.old, h.ob⟩
theorem BrSt.start (h : RowU w blk off m d) (ty : Nat) (l : Nat) (hl : l < 18446744073709551616) : BrSt w (w.alloc (.cells #[.int .u64 (l : Int)] ty (0, 0))) blk off m d w.heap.size ty l :=
  ⟨h.of_block (by show (w.heap.push _)[blk]? = _; rw [Array.getElem?_push, if_neg (by have := h.lt; omega)]), by show (w.heap.push _)[w.heap.size]? = _; simp, hl, Chg.refl.alloc _, Nat.le_refl _, h.lt⟩
end
theorem and_some (R p1 : Nat) (hR : R < 18446744073709551616) (hp : p1 < 256) : ∃ O : Nat, O ≤ p1 ∧ bits .and .u64 (R : Int) (p1 : Int) = (O : Int) :=
  ⟨R &&& p1, Nat.and_le_right, bits_and_u64_nat _ _ hR (by omega)⟩
set_option maxRecDepth 100000 in
set_option maxHeartbeats 8000000 in
theorem hbreak (blk off m cap a b : Nat) (d : Array Int) (w : World) (h : RowU w blk off m d) (hab : a + 12 < b) (hb : b ≤ d.size) (hsz : d.size ≤ 200) :
    Calls Tryz.prog 187 #[slU blk off d.size cap, .int .i64 (a : Int), .int .i64 (b : Int)] w fun e w' => (∃ u, e = .returned u) ∧ ∃ d', PermIn a b d d' ∧ StU w w' blk off m d' := by
  have H := Lib.hid h
  obtain ⟨n, hn⟩ : ∃ n, n = d.size := ⟨_, rfl⟩
  have Hn := Lib.hid hn
  rw [← hn] at hb hsz
  clear h
  unfold slU
  rw [← hn]
  clear hn
  obtain ⟨l, hl⟩ : ∃ l, l = b - a := ⟨_, rfl⟩
  obtain ⟨c, hc⟩ : ∃ c, c = l / 4 := ⟨_, rfl⟩
  obtain ⟨u, hu⟩ : ∃ u, u = a + c * 2 := ⟨_, rfl⟩
  obtain ⟨I, hI⟩ : ∃ I, I = u - 1 := ⟨_, rfl⟩
  have el : (b : Int) - (a : Int) = (l : Int) := by omega
  have ec : (l : Int) / 4 = (c : Int) := by omega
  have eu : (a : Int) + (c : Int) * 2 = (u : Int) := by omega
  have eI : (u : Int) - 1 = (I : Int) := by omega
  have r1 : a + 3 ≤ u := by omega
  have r2 : u + 2 < b := by omega
  have r3 : l ≤ 200 := by omega
  have r4 : a + l = b := by omega
  have r5 : 8 ≤ (l : Int) := by omega
  have r6 : I + 1 = u := by omega
  have r7 : c ≤ 200 := by omega
  have hP := hpow l
  have HP := Lib.hid hP
  have hst0 : Hid (∀ ty : Nat, BrSt w (w.alloc (.cells #[.int .u64 (l : Int)] ty (0, 0))) blk off m d w.heap.size ty l) := Lib.hid fun ty => BrSt.start H.out ty l (by omega)
  clear hl hc hu hI hP
  go_enter Tryz.func187, Tryz.ntmps187
  go_wp2_with (go_at_call 201; refine (HP.out _ (by omega)).mono ?_; rintro e w1 ⟨⟨p, rfl, hp⟩, rfl⟩)
  obtain ⟨w1, hw1⟩ : ∃ w1, w1 = w.alloc (.cells #[.int .u64 (l : Int)] 249 (0, 0)) := ⟨_, rfl⟩
  have hs1 : BrSt w w1 blk off m d w.heap.size 249 l := by rw [hw1]; exact hst0.out _
  rw [← hw1]
  have HS1 := Lib.hid hs1
  clear hw1 hs1 hst0
  obtain ⟨p1, rfl⟩ : ∃ p1, p = p1 + 1 := ⟨p - 1, by have := hp.2.2.2; omega⟩
  have ep : ((p1 + 1 : Nat) : Int) - 1 = (p1 : Int) := by omega
  have q1 : p1 < 2 * l := by have := hp.2.1 (by omega); omega
  have q2 : p1 < 256 := by have := hp.2.2.1; omega
  obtain ⟨p, hpp⟩ : ∃ p, p = p1 + 1 := ⟨_, rfl⟩
  rw [← hpp] at ep ⊢
  have q3 : p ≤ 256 := by omega
  have q4 : 1 ≤ p := by omega
  clear hp hpp
  go_loopw [9] (fun vi wr => ∃ (x r : Nat) (dk : Array Int), vi = .int .i64 x ∧ u ≤ x + 1 ∧ x ≤ u + 2 ∧ dk.size = n ∧ PermIn a b d dk ∧ BrSt w wr blk off m dk w.heap.size 249 r) (fun vi _ => u + 2 - (intOf vi).toNat)
  case atStart => exact ⟨I, l, d, rfl, by omega, by omega, Hn.out.symm, permIn_refl _ _ _, HS1.out⟩
  case round =>
    obtain ⟨x, r, dk, rfl, hx1, hx2, hsk, hpm, hst⟩ := hrel
    have HPm := Lib.hid hpm
    have HS := Lib.hid hst
    have Hsk := Lib.hid hsk
    clear hpm hst hsk
    by_cases hgo : x ≤ u + 1
    · have hgoz : (x : Int) ≤ (u : Int) + 1 := by omega
      obtain ⟨G, hG⟩ : ∃ G : Nat → Int, ∀ t, G t = dk[t]! := ⟨fun t => dk[t]!, fun _ => rfl⟩
      have HG := Lib.hid hG
      clear hG
      have hN := fun ty (h : NxSt wr wr w.heap.size ty r) => hnext w.heap.size r ty wr wr HS.out.lt h
      have HN := Lib.hid (hN _ HS.out.nx)
      clear hN
      go_wp2_with (go_at_call 202; go_loud (refine (HN.out).mono ?_; rintro e w2 ⟨R, hR, rfl, hnx⟩; have hA := and_some R p1 hR q2; obtain ⟨O, hO1, eAnd⟩ := hA))
      · have hLO : l ≤ O := by first | assumption | omega
        obtain ⟨o, ho⟩ : ∃ o, o = O - l := ⟨_, rfl⟩
        have eo : (O : Int) - (l : Int) = (o : Int) := by omega
        rw [eo]
        have ho1 : o < l := by omega
        clear ho eo
        obtain ⟨q, hq⟩ : ∃ q, q = a + o := ⟨_, rfl⟩
        have eq : (a : Int) + (o : Int) = (q : Int) := by omega
        have wq : IntKind.i64.wrap ((a : Int) + (o : Int)) = (q : Int) := by rw [eq]; exact IntWalk.i64_in _ (by omega)
        have b1 : q < n := by omega
        have b2 : x < n := by omega
        have b3 : a ≤ x := by omega
        have b4 : x < b := by omega
        have b5 : a ≤ q := by omega
        have b6 : q < b := by omega
        clear hq
        have hs2 := HS.out.next hR hnx
        have HS2 := Lib.hid hs2
        have hcw : ∀ t, t < n → w2.cell? ⟨blk, off + t, none⟩ = some (.int .u64 (G t)) := fun t ht => by rw [HG.out]; exact HS2.out.row.cell (by have := Hsk.out; omega)
        have hfw : ∀ t, t < n → w2.frozen? ⟨blk, off + t, none⟩ = false := fun t _ => HS2.out.row.frozen t
        have hx : (w2.setCell ⟨blk, off + x, none⟩ (.int .u64 (G q))).cell? ⟨blk, off + q, none⟩ = some (.int .u64 (G q)) := by
          by_cases e : x = q
          · rw [← e]; exact World.cell?_setCell_same _ _ _ (hcw x (by omega))
          · exact (World.cell?_setCell_other _ _ _ _ (by intro e2; injection e2 with _ e2; omega)).trans (hcw q (by omega))
        clear hs2 hnx
        go_region
        all_goals go_wp2_with fail
        go_roundw
        case rel =>
          refine ⟨x + 1, R, swp dk x q, by go_num, by omega, by omega, by rw [size_swp]; exact Hsk.out, permIn_trans _ _ _ a b HPm.out (swp_permIn dk a b x q b3 b4 b5 b6 (by have := Hsk.out; omega)), ?_⟩
          rw [HG.out, HG.out]
          exact (HS2.out.swap (by have := Hsk.out; omega) (by have := Hsk.out; omega)).on (Below.refl _ _).drew
        case measure => simp [intOf]; omega
      · have hLO : ¬ l ≤ O := by first | assumption | omega
        obtain ⟨o, ho⟩ : ∃ o, o = O := ⟨_, rfl⟩
        have ho1 : o < l := by omega
        rw [← ho]
        clear ho
        obtain ⟨q, hq⟩ : ∃ q, q = a + o := ⟨_, rfl⟩
        have eq : (a : Int) + (o : Int) = (q : Int) := by omega
        have wq : IntKind.i64.wrap ((a : Int) + (o : Int)) = (q : Int) := by rw [eq]; exact IntWalk.i64_in _ (by omega)
        have b1 : q < n := by omega
        have b2 : x < n := by omega
        have b3 : a ≤ x := by omega
        have b4 : x < b := by omega
        have b5 : a ≤ q := by omega
        have b6 : q < b := by omega
        clear hq
        have hs2 := HS.out.next hR hnx
        have HS2 := Lib.hid hs2
        have hcw : ∀ t, t < n → w2.cell? ⟨blk, off + t, none⟩ = some (.int .u64 (G t)) := fun t ht => by rw [HG.out]; exact HS2.out.row.cell (by have := Hsk.out; omega)
        have hfw : ∀ t, t < n → w2.frozen? ⟨blk, off + t, none⟩ = false := fun t _ => HS2.out.row.frozen t
        have hx : (w2.setCell ⟨blk, off + x, none⟩ (.int .u64 (G q))).cell? ⟨blk, off + q, none⟩ = some (.int .u64 (G q)) := by
          by_cases e : x = q
          · rw [← e]; exact World.cell?_setCell_same _ _ _ (hcw x (by omega))
          · exact (World.cell?_setCell_other _ _ _ _ (by intro e2; injection e2 with _ e2; omega)).trans (hcw q (by omega))
        clear hs2 hnx
        go_region
        all_goals go_wp2_with fail
        go_roundw
        case rel =>
          refine ⟨x + 1, R, swp dk x q, by go_num, by omega, by omega, by rw [size_swp]; exact Hsk.out, permIn_trans _ _ _ a b HPm.out (swp_permIn dk a b x q b3 b4 b5 b6 (by have := Hsk.out; omega)), ?_⟩
          rw [HG.out, HG.out]
          exact (HS2.out.swap (by have := Hsk.out; omega) (by have := Hsk.out; omega)).on (Below.refl _ _).drew
        case measure => simp [intOf]; omega
    · have hgoz : ¬ (x : Int) ≤ (u : Int) + 1 := by omega
      go_wp2_with fail
      go_end0
      exact ⟨⟨_, rfl⟩, dk, HPm.out, HS.out.st⟩
end Go.Proofs.YtaicibmaogiibaaGreatDoor

/- SxPdq -/

/-
  slices.Sort at uint64: pdqsortOrdered: the part comes out sorted, a permutation of what it was.
-/
set_option linter.unusedVariables false
set_option linter.unusedSimpArgs false
namespace Go.Proofs.YtaicibmaogiibaaGreatDoor
open Go.RowKit Go.Sort

set_option maxRecDepth 1000000 in
set_option maxHeartbeats 16000000 in
theorem hpdq : ∀ (N blk off m cap a b limit : Nat) (d : Array Int) (w : World), b - a < N → RowU w blk off m d → a ≤ b → b ≤ d.size → d.size ≤ 200 → limit ≤ 1000 → Go.Sort.Below ltInt a b d →
    Calls Tryz.prog 170 #[slU blk off d.size cap, .int .i64 (a : Int), .int .i64 (b : Int), .int .i64 (limit : Int)] w fun e w' => (∃ u, e = .returned u) ∧ ∃ d', PermIn a b d d' ∧ SortedIn ltInt a b d' ∧ StU w w' blk off m d' := by
  intro N
  induction N with
  | zero => intro _ _ _ _ _ _ _ _ _ h; exact absurd h (Nat.not_lt_zero _)
  | succ N ih =>
    intro blk off m cap a b limit d w hN hrow hab hb hsz hlimit hBel0
    have IH := Lib.hid ih
    have H := Lib.hid hrow
    have HB0 := Lib.hid hBel0
    obtain ⟨n, hn⟩ : ∃ n, n = d.size := ⟨_, rfl⟩
    have Hn := Lib.hid hn
    rw [← hn] at hb hsz
    clear ih hrow hBel0
    unfold slU
    rw [← hn]
    clear hn
    go_enter Tryz.func170, Tryz.ntmps170
    go_wp2_with fail
    go_loopw [1, 2, 3, 8, 9] (fun s1 s2 s3 s8 s9 wr => ∃ (a' b' lim : Nat) (wb wp : Bool) (dk : Array Int), s1 = .int .i64 a' ∧ s2 = .int .i64 b' ∧ s3 = .int .i64 lim ∧ s8 = .bool wb ∧ s9 = .bool wp ∧ a' ≤ b' ∧ b' ≤ n ∧ b' - a' ≤ b - a ∧ lim ≤ 1000 ∧ dk.size = n ∧ Go.Sort.Below ltInt a' b' dk ∧ StU w wr blk off m dk ∧ (∀ R, PermIn a' b' dk R → SortedIn ltInt a' b' R → PermIn a b d R ∧ SortedIn ltInt a b R)) (fun s1 s2 _ _ _ _ => (intOf s2 - intOf s1).toNat)
    case atStart => exact ⟨a, b, limit, true, true, d, rfl, rfl, rfl, rfl, rfl, hab, hb, Nat.le_refl _, hlimit, Hn.out.symm, HB0.out, StU.refl H.out, fun R h1 h2 => ⟨h1, h2⟩⟩
    case round =>
      obtain ⟨a', b', lim, wb, wp, dk, rfl, rfl, rfl, rfl, rfl, hab', hb', hk, hlim, hds, hBel, hst, hF⟩ := hrel
      have HF := Lib.hid hF
      have HS := Lib.hid hst
      have HB := Lib.hid hBel
      have Hds := Lib.hid hds
      have hbd : b' ≤ dk.size := by rw [hds]; exact hb'
      have hzd : dk.size ≤ 200 := by rw [hds]; exact hsz
      clear hF hst hBel hds
      by_cases h12 : b' - a' ≤ 12
      · have h12z : (b' : Int) - (a' : Int) ≤ 12 := by omega
        have hc := hins blk off m cap a' b' dk wr HS.out.row hab' hbd (by omega)
        unfold slU at hc
        rw [Hds.out] at hc
        obtain ⟨hp, hs⟩ := insertionSort_holds swo_ltInt dk a' b' hab' hbd
        have HP := Lib.hid hp
        have HSo := Lib.hid hs
        have HC := Lib.hid hc
        clear hp hs hc
        go_wp2_with (go_at_call 185; refine (HC.out).mono ?_; rintro e w1 ⟨⟨u, rfl⟩, hw1⟩)
        (try simp only [Exit.inBlock, Exit.then])
        refine bodyPost_ret (results_none rfl _ _ _) rfl ?_
        exact ⟨⟨_, rfl⟩, _, (HF.out _ HP.out HSo.out).1, (HF.out _ HP.out HSo.out).2, HS.out.then_ hw1⟩
      · have h12z : ¬ ((b' : Int) - (a' : Int) ≤ 12) := by omega
        have h12g : a' + 12 < b' := by omega
        by_cases hl0 : lim = 0
        · subst hl0
          have hc := hheap blk off m cap a' b' dk wr HS.out.row hab' hbd (by omega)
          unfold slU at hc
          rw [Hds.out] at hc
          obtain ⟨hp, hs⟩ := heapSort_holds swo_ltInt dk a' b' hab' hbd
          have HP := Lib.hid hp
          have HSo := Lib.hid hs
          have HC := Lib.hid hc
          clear hp hs hc
          go_wp2_with (go_at_call 186; refine (HC.out).mono ?_; rintro e w1 ⟨⟨u, rfl⟩, hw1⟩)
          (try simp only [Exit.inBlock, Exit.then])
          refine bodyPost_ret (results_none rfl _ _ _) rfl ?_
          exact ⟨⟨_, rfl⟩, _, (HF.out _ HP.out HSo.out).1, (HF.out _ HP.out HSo.out).2, HS.out.then_ hw1⟩
        · have hl0z : ¬ ((lim : Int) = 0) := by omega
          go_upto_if 35 with fail
          go_cut [3] from 19 (fun s3 wc => ∃ (lim1 : Nat) (d1 : Array Int), s3 = .int .i64 lim1 ∧ lim1 ≤ 1000 ∧ PermIn a' b' dk d1 ∧ StU w wc blk off m d1)
          case first =>
            cases wb
            · have hc := hbreak blk off m cap a' b' dk wr HS.out.row h12g hbd hzd
              unfold slU at hc
              rw [Hds.out] at hc
              have HC := Lib.hid hc
              clear hc
              go_wp2_with (go_at_call 187; refine (HC.out).mono ?_; rintro e w1 ⟨⟨u, rfl⟩, d1, hp1, hw1⟩)
              go_meet
              case rel => exact ⟨lim - 1, d1, by congr 1; omega, by omega, hp1, HS.out.then_ hw1⟩
            · go_wp2_with fail
              go_meet
              case rel => exact ⟨lim, dk, rfl, hlim, permIn_refl _ _ _, HS.out⟩
          case rest =>
            obtain ⟨lim1, d1, rfl, hlim1, hp1, hst1⟩ := hcut
            have hz1 : d1.size = n := hp1.1.trans Hds.out
            have hb1 : b' ≤ d1.size := by omega
            have HP1 := Lib.hid hp1
            have HS1 := Lib.hid hst1
            have Hz1 := Lib.hid hz1
            have hc := hpivot blk off m cap a' b' d1 wc HS1.out.row h12g hb1 (by omega)
            unfold slU at hc
            rw [Hz1.out] at hc
            have HC := Lib.hid hc
            clear hc hp1 hst1 hz1 hb1
            go_upto_if 50 with (go_at_call 188; refine (HC.out).mono ?_; rintro e w2 ⟨p, k, rfl, hpa, hpb, hk2, hw2⟩)
            have HS2 := Lib.hid (HS1.out.then_ hw2)
            clear hw2 HC
            go_cut [11, 12] from 19 (fun s11 s12 wc => ∃ (p' k' : Nat) (d2 : Array Int), s11 = .int .i64 p' ∧ s12 = .int .i64 k' ∧ a' ≤ p' ∧ p' < b' ∧ k' ≤ 2 ∧ PermIn a' b' dk d2 ∧ StU w wc blk off m d2)
            case first =>
              by_cases hk2 : k = 2
              · subst hk2
                have hb1 : b' ≤ d1.size := by have := Hz1.out; omega
                have hc := hrev blk off m cap a' b' d1 w2 HS2.out.row (by omega) hb1 (by have := Hz1.out; omega)
                unfold slU at hc
                rw [Hz1.out] at hc
                have HC := Lib.hid hc
                have hpr := Lib.hid (permIn_trans _ _ _ a' b' HP1.out (reverseRange_holds d1 a' b' hab' hb1))
                clear hc hb1
                go_wp2_with (go_at_call 189; refine (HC.out).mono ?_; rintro e w3 ⟨⟨u, rfl⟩, hw3⟩)
                go_meet
                case rel => exact ⟨b' - 1 - (p - a'), 1, _, by congr 1; omega, rfl, by omega, by omega, by omega, hpr.out, HS2.out.then_ hw3⟩
              · have hkz : ¬ ((k : Int) = 2) := by omega
                go_wp2_with fail
                go_meet
                case rel => exact ⟨p, k, d1, rfl, rfl, hpa, hpb, by omega, HP1.out, HS2.out⟩
            case rest =>
              obtain ⟨p', k', d2, rfl, rfl, hpa', hpb', hk2', hp2, hst2⟩ := hcut
              have hz2 : d2.size = n := hp2.1.trans Hds.out
              have HP2 := Lib.hid hp2
              have HS3 := Lib.hid hst2
              have Hz2 := Lib.hid hz2
              clear hp2 hst2 hz2 HP1 HS1 Hz1 HS2
              go_upto_region 15 with fail
              go_cut [68] from 19 (fun s68 wx => (∃ t : Bool, s68 = .bool t) ∧ wx = wc)
              case first =>
                cases wb <;> cases wp <;>
                  (go_wp2_with fail
                   go_meet
                   exact ⟨⟨_, rfl⟩, rfl⟩)
              case rest =>
                obtain ⟨⟨t, rfl⟩, rfl⟩ := hcut
                go_upto_if 68 with fail
                go_cut [] from 19 (fun wx => ∃ d3, PermIn a' b' dk d3 ∧ StU w wx blk off m d3)
                case first =>
                  cases t
                  · go_wp2_with fail
                    go_meet
                    case rel => exact ⟨d2, HP2.out, HS3.out⟩
                  · have hb2 : b' ≤ d2.size := by have := Hz2.out; omega
                    obtain ⟨d3, t2, hx⟩ : ∃ d3 t2, partialInsertionSort ltInt d2 a' b' = (d3, t2) := ⟨_, _, rfl⟩
                    have hc := hpins blk off m cap a' b' d2 _ HS3.out.row (by omega) hb2 (by have := Hz2.out; omega)
                    have hpi := partialInsertionSort_holds swo_ltInt d2 a' b' (by omega) hb2 (Go.Sort.Below.perm HB.out hbd HP2.out)
                    unfold slU at hc
                    rw [Hz2.out, hx] at hc
                    rw [hx] at hpi
                    have HC := Lib.hid hc
                    have HPI := Lib.hid hpi
                    clear hc hpi hx hb2
                    cases t2
                    · go_wp2_with (go_at_call 190; refine (HC.out).mono ?_; rintro e w4 ⟨rfl, hw4⟩)
                      go_meet
                      case rel => exact ⟨d3, permIn_trans _ _ _ a' b' HP2.out HPI.out.1, HS3.out.then_ hw4⟩
                    · go_wp2_with (go_at_call 190; refine (HC.out).mono ?_; rintro e w4 ⟨rfl, hw4⟩)
                      (try simp only [Exit.inBlock, Exit.then])
                      refine bodyPost_ret (results_none rfl _ _ _) rfl ?_
                      have hf := HF.out d3 (permIn_trans _ _ _ a' b' HP2.out HPI.out.1) (by have h9 := HPI.out.2; simpa using h9)
                      exact ⟨⟨_, rfl⟩, d3, hf.1, hf.2, HS3.out.then_ hw4⟩
                case rest =>
                  obtain ⟨d3, hp3, hst3⟩ := hcut
                  have hz3 : d3.size = n := hp3.1.trans Hds.out
                  have HP3 := Lib.hid hp3
                  have HS4 := Lib.hid hst3
                  have Hz3 := Lib.hid hz3
                  have HB3 := Lib.hid (Go.Sort.Below.perm HB.out hbd hp3)
                  clear hp3 hst3 hz3 HP2 HS3 Hz2
                  obtain ⟨G, hG⟩ : ∃ G : Nat → Int, ∀ t, G t = d3[t]! := ⟨fun t => d3[t]!, fun _ => rfl⟩
                  have HG := Lib.hid hG
                  clear hG
                  have hcw : ∀ t, t < n → wc.cell? ⟨blk, off + t, none⟩ = some (.int .u64 (G t)) := fun t ht => by rw [HG.out]; exact HS4.out.row.cell (by have := Hz3.out; omega)
                  have hfw : ∀ t, t < n → wc.frozen? ⟨blk, off + t, none⟩ = false := fun t _ => HS4.out.row.frozen t
                  go_upto_region 17 with fail
                  go_cut [87] from 19 (fun s87 wx => (∃ t : Bool, s87 = .bool t ∧ (t = true → 0 < a' ∧ ltInt (G (a' - 1)) (G p') = false)) ∧ StU w wx blk off m d3)
                  case first =>
                    rcases Nat.eq_zero_or_pos a' with ha0 | ha0
                    · have ha0z : decide ((a' : Int) > 0) = false := decide_eq_false (by omega)
                      go_big_quiet (first | (go_at_call 191; refine Calls.quiet_of_same (hless _ _ _)))
                      go_wp2_with fail
                      go_meet
                      case rel => exact ⟨⟨false, rfl, fun h => by cases h⟩, HS4.out.drewN nq⟩
                    · have ha0z : (a' : Int) > 0 := by omega
                      go_big_quiet (first | (go_at_call 191; refine Calls.quiet_of_same (hless _ _ _)))
                      go_wp2_with fail
                      go_meet
                      case rel => exact ⟨⟨!ltInt (G (a' - 1)) (G p'), rfl, fun h => ⟨ha0, by simpa using h⟩⟩, HS4.out.drewN nq⟩
                  case rest =>
                    obtain ⟨⟨t, rfl, ht⟩, hst4⟩ := hcut
                    have HT := Lib.hid ht
                    have HS5 := Lib.hid hst4
                    have hb3 : b' ≤ d3.size := by have := Hz3.out; omega
                    have hz3' : d3.size ≤ 1000000 := by have := Hz3.out; omega
                    have HB3' := Lib.hid hb3
                    clear ht hst4 hcw hfw HS4 HS
                    cases t
                    · obtain ⟨mid, ap, d4, hx⟩ : ∃ mid ap d4, partition ltInt d3 a' b' p' = (mid, ap, d4) := ⟨_, _, _, rfl⟩
                      obtain ⟨g1, g2, hs4, hBa, hBr, hleft, hright⟩ := round_part swo_ltInt (partition_holds _) hpa' hpb' hb3 HB3.out hx
                      have hc := hpart blk off m cap a' b' p' d3 _ HS5.out.row hpa' hpb' hb3 hz3'
                      unfold slU at hc
                      rw [Hz3.out, hx] at hc
                      have HC := Lib.hid hc
                      have hz4 : d4.size = n := hs4.trans Hz3.out
                      have Hz4 := Lib.hid hz4
                      have HBa := Lib.hid hBa
                      have HBr := Lib.hid hBr
                      have HLf := Lib.hid hleft
                      have HRt := Lib.hid hright
                      clear hc hx hz3' hb3 hs4 hz4 hBa hBr hleft hright
                      by_cases hlt : mid - a' < b' - mid
                      · have hltz : decide ((mid : Int) - (a' : Int) < (b' : Int) - (mid : Int)) = true := decide_eq_true (by omega)
                        go_wp2_with (go_at_call 193; refine (HC.out).mono ?_; rintro e w5 ⟨rfl, hw5⟩)
                        have HS6 := Lib.hid (HS5.out.then_ hw5)
                        have hr := IH.out blk off m cap a' mid lim1 d4 _ (by omega) HS6.out.row g1 (by have := Hz4.out; omega) (by have := Hz4.out; omega) hlim1 HBa.out
                        unfold slU at hr
                        rw [Hz4.out] at hr
                        have HR := Lib.hid hr
                        clear hr hw5 HC
                        go_wp2_with (go_at_call 170; refine (HR.out).mono ?_; rintro e w6 ⟨⟨u, rfl⟩, d5, q1, q2, q3⟩)
                        obtain ⟨hBL, hfin⟩ := HLf.out d5 q1 q2
                        have hz5 : d5.size = n := q1.1.trans Hz4.out
                        go_roundw
                        case rel => exact ⟨mid + 1, b', lim1, _, _, d5, by go_num, rfl, rfl, rfl, rfl, by omega, hb', by omega, hlim1, hz5, hBL, HS6.out.then_ q3, fun R h1 h2 => HF.out R (permIn_trans _ _ _ a' b' HP3.out (hfin R h1 h2).1) (hfin R h1 h2).2⟩
                        case measure => simp [intOf]; omega
                      · have hltz : decide ((mid : Int) - (a' : Int) < (b' : Int) - (mid : Int)) = false := decide_eq_false (by omega)
                        go_wp2_with (go_at_call 193; refine (HC.out).mono ?_; rintro e w5 ⟨rfl, hw5⟩)
                        have hm1 : (mid : Int) + 1 = ((mid + 1 : Nat) : Int) := by omega
                        have HS6 := Lib.hid (HS5.out.then_ hw5)
                        have hr := IH.out blk off m cap (mid + 1) b' lim1 d4 _ (by omega) HS6.out.row (by omega) (by have := Hz4.out; omega) (by have := Hz4.out; omega) hlim1 HBr.out
                        unfold slU at hr
                        rw [Hz4.out, ← hm1] at hr
                        have HR := Lib.hid hr
                        clear hr hw5 HC
                        go_wp2_with (go_at_call 170; refine (HR.out).mono ?_; rintro e w6 ⟨⟨u, rfl⟩, d5, q1, q2, q3⟩)
                        obtain ⟨hBL, hfin⟩ := HRt.out d5 q1 q2
                        have hz5 : d5.size = n := q1.1.trans Hz4.out
                        go_roundw
                        case rel => exact ⟨a', mid, lim1, _, _, d5, rfl, rfl, rfl, rfl, rfl, g1, by omega, by omega, hlim1, hz5, hBL, HS6.out.then_ q3, fun R h1 h2 => HF.out R (permIn_trans _ _ _ a' b' HP3.out (hfin R h1 h2).1) (hfin R h1 h2).2⟩
                        case measure => simp [intOf]; omega
                    · obtain ⟨mid, d4, hx⟩ : ∃ mid d4, partitionEqual ltInt d3 a' b' p' = (mid, d4) := ⟨_, _, rfl⟩
                      obtain ⟨ha0, hnl⟩ := HT.out rfl
                      rw [HG.out, HG.out] at hnl
                      obtain ⟨g1, g2, hs4, hB4, hfin⟩ := round_eq swo_ltInt (partitionEqual_holds _) ha0 hpa' hpb' hb3 HB3.out hnl hx
                      have hc := hpartEq blk off m cap a' b' p' d3 _ HS5.out.row hpa' hpb' hb3 hz3'
                      unfold slU at hc
                      rw [Hz3.out, hx] at hc
                      have HC := Lib.hid hc
                      have Hz4 := Lib.hid (hs4.trans Hz3.out)
                      have HB4 := Lib.hid hB4
                      have HFn := Lib.hid hfin
                      clear hc hx hz3' hb3 hs4 hB4 hfin hnl
                      go_wp2_with (go_at_call 192; refine (HC.out).mono ?_; rintro e w5 ⟨rfl, hw5⟩)
                      go_roundw
                      case rel => exact ⟨mid, b', lim1, _, _, d4, rfl, rfl, rfl, rfl, rfl, g2, hb', by omega, hlim1, Hz4.out, HB4.out, HS5.out.then_ hw5, fun R h1 h2 => HF.out R (permIn_trans _ _ _ a' b' HP3.out (HFn.out R h1 h2).1) (HFn.out R h1 h2).2⟩
                      case measure => simp [intOf]; omega
end Go.Proofs.YtaicibmaogiibaaGreatDoor

