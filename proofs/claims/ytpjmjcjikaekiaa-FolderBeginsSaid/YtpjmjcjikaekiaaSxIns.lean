
/-
  slices.Sort at uint64: insertionSortOrdered.
-/
import Derived.Test.YtpjmjcjikaekiaaSxRow
set_option linter.unusedVariables false
set_option linter.unusedSimpArgs false
namespace Go.Proofs.Ytpjmjcjikaekiaa
open Go.RowKit Go.Sort

set_option maxRecDepth 100000 in
set_option maxHeartbeats 4000000 in
theorem hins (blk off m cap a b : Nat) (d : Array Int) (w : World) (h : RowU w blk off m d) (hab : a ≤ b) (hb : b ≤ d.size) (hsz : d.size ≤ 1000000) :
    Calls Try.prog 71 #[slU blk off d.size cap, .int .i64 (a : Int), .int .i64 (b : Int)] w fun e w' => (∃ u, e = .returned u) ∧ StU w w' blk off m (insertionSort ltInt d a b) := by
  have H := Lib.hid h
  obtain ⟨n, hn⟩ : ∃ n, n = d.size := ⟨_, rfl⟩
  have Hn := Lib.hid hn
  rw [← hn] at hb hsz
  clear h
  unfold slU
  rw [← hn]
  clear hn
  go_enter Try.func71, Try.ntmps71
  go_wp2
  go_loopw [6] (fun vi wr => ∃ (i : Nat) (dk : Array Int), vi = .int .i64 i ∧ a < i ∧ i ≤ b + 1 ∧ dk.size = n ∧ StU w wr blk off m dk ∧ insOuter ltInt a b i dk = insertionSort ltInt d a b) (fun vi _ => b + 1 - (intOf vi).toNat)
  case atStart => exact ⟨a + 1, d, by go_num, by omega, by omega, Hn.out.symm, StU.refl H.out, rfl⟩
  case round =>
    obtain ⟨i, dk, rfl, hai, hib, hsk, hst, hO⟩ := hrel
    have HO := Lib.hid hO
    have HS := Lib.hid hst
    have Hsk := Lib.hid hsk
    clear hO hst hsk
    go_wp2
    · have hlt : i < b := by assumption
      go_loopw [7] (fun vj wr2 => ∃ (j : Nat) (dj : Array Int), vj = .int .i64 j ∧ a ≤ j ∧ j ≤ i ∧ dj.size = n ∧ StU w wr2 blk off m dj ∧ insInner ltInt a j dj = insInner ltInt a i dk) (fun vj _ => (intOf vj).toNat)
      case atStart => exact ⟨i, dk, rfl, by omega, Nat.le_refl _, Hsk.out, HS.out, rfl⟩
      case round =>
        obtain ⟨j, dj, rfl, haj, hji, hsj, hst2, hI⟩ := hrel
        obtain ⟨G, hG⟩ : ∃ G : Nat → Int, ∀ t, G t = dj[t]! := ⟨fun t => dj[t]!, fun _ => rfl⟩
        have hcw : ∀ t, t < n → wr.cell? ⟨blk, off + t, none⟩ = some (.int .u64 (G t)) := fun t ht => by rw [hG]; exact hst2.row.cell (by omega)
        have hfw : ∀ t, t < n → wr.frozen? ⟨blk, off + t, none⟩ = false := fun t _ => hst2.row.frozen t
        have HG := Lib.hid hG
        have HI := Lib.hid hI
        have HS2 := Lib.hid hst2
        have Hsj := Lib.hid hsj
        clear hG hI hst2 hsj
        have OUT : Hid ((j ≤ a ∨ ltInt dj[j]! dj[j - 1]! = false) → ∀ wq, StU w wq blk off m dj → ∃ (i' : Nat) (dk' : Array Int), Value.int .i64 ((i : Int) + 1) = .int .i64 (i' : Nat) ∧ a < i' ∧ i' ≤ b + 1 ∧ dk'.size = n ∧ StU w wq blk off m dk' ∧ insOuter ltInt a b i' dk' = insertionSort ltInt d a b) :=
          fun hs wq hq => ⟨i + 1, dj, by go_num, by omega, by omega, Hsj.out, hq, by rw [← HO.out, out_go _ _ _ _ hlt, ← HI.out, ins_stop _ _ _ hs]⟩
        go_wp2
        by_cases hja : a < j
        · go_quiet (first | (go_at_call 77; refine Calls.quiet_of_same (hless _ _ _)))
          go_wp2
          · have hl : ltInt (G j) (G (j - 1)) = true := by assumption
            go_region
            all_goals go_wp2
            go_roundw
            case rel =>
              refine ⟨j - 1, swp dj j (j - 1), by congr 1; omega, by omega, by omega, by rw [size_swp]; exact Hsj.out, ?_, ?_⟩
              · rw [HG.out, HG.out]
                exact (HS2.out.drewN _).swap (by have := Hsj.out; omega) (by have := Hsj.out; omega)
              · rw [← HI.out, ins_go a j dj hja (by rw [← HG.out, ← HG.out]; exact hl)]
            case measure => simp [intOf]; omega
          · have hl : ltInt (G j) (G (j - 1)) = false := by assumption
            go_roundw
            case rel => exact OUT.out (Or.inr (by rw [← HG.out, ← HG.out]; exact hl)) _ (HS2.out.drewN _)
            case measure => simp [intOf]; omega
        · go_quiet (first | (go_at_call 77; refine Calls.quiet_of_same (hless _ _ _)))
          go_wp2
          go_roundw
          case rel => exact OUT.out (Or.inl (by omega)) _ (HS2.out.drewN _)
          case measure => simp [intOf]; omega
    · have hge : ¬ i < b := by assumption
      go_end0
      exact ⟨⟨_, rfl⟩, by rw [← HO.out, out_stop _ _ _ _ hge]; exact HS.out⟩
end Go.Proofs.Ytpjmjcjikaekiaa
