
/-
  slices.Sort at uint64: partitionEqualOrdered.
-/
import Derived.Test.YtboeiadfmknidaaGreatSxRow
import Derived.Sort.LotC
set_option linter.unusedVariables false
set_option linter.unusedSimpArgs false
namespace Go.Proofs.YtboeiadfmknidaaGreat
open Go.RowKit Go.Sort

section
variable {p : Int → Bool} {d : Array Int} {i j : Nat}
theorem up_go (h : i ≤ j) (hp : p d[i]! = true) : scanUp p d j i = scanUp p d j (i + 1) := by rw [scanUp, if_pos (by simp [h, hp])]
theorem up_end (h : ¬ i ≤ j ∨ p d[i]! = false) : scanUp p d j i = i := by
  rw [scanUp, if_neg]
  rcases h with h | h
  · simp [h]
  · simp [h]
theorem down_go (h : i ≤ j) (h0 : 0 < j) (hp : p d[j]! = true) : scanDown p d i j = scanDown p d i (j - 1) := by
  obtain ⟨k, rfl⟩ : ∃ k, j = k + 1 := ⟨j - 1, by omega⟩
  rw [scanDown, if_pos (by simp [h, hp]), Nat.add_sub_cancel]
theorem down_end (h : ¬ i ≤ j ∨ p d[j]! = false) : scanDown p d i j = j := by
  cases j with
  | zero => rw [scanDown]
  | succ k =>
    rw [scanDown, if_neg]
    rcases h with h | h
    · simp [h]
    · simp [h]
end
/-- one round of partitionEqual's loop, by where the scans stop -/
theorem partEq_step {a i j i2 j2 : Nat} {d : Array Int} (h1 : scanUp (fun x => !ltInt d[a]! x) d j i = i2) (h2 : scanDown (fun x => ltInt d[a]! x) d i2 j = j2) :
    partEqLoop ltInt a i j d = if i2 > j2 then (i2, d) else partEqLoop ltInt a (i2 + 1) (j2 - 1) (swp d i2 j2) := by
  subst h1 h2
  exact partEqLoop_eq ltInt a i j d
set_option maxRecDepth 100000 in
set_option maxHeartbeats 16000000 in
theorem hpartEq (blk off m cap a b pv : Nat) (d : Array Int) (w : World) (h : RowU w blk off m d) (hap : a ≤ pv) (hpb : pv < b) (hb : b ≤ d.size) (hsz : d.size ≤ 1000000) :
    Calls Tryz.prog 111 #[slU blk off d.size cap, .int .i64 (a : Int), .int .i64 (b : Int), .int .i64 (pv : Int)] w fun e w' => e = .returned (.int .i64 ((partitionEqual ltInt d a b pv).1 : Int)) ∧ StU w w' blk off m (partitionEqual ltInt d a b pv).2 := by
  have H := Lib.hid h
  obtain ⟨n, hn⟩ : ∃ n, n = d.size := ⟨_, rfl⟩
  have Hn := Lib.hid hn
  rw [← hn] at hb hsz
  clear h
  unfold slU
  rw [← hn]
  clear hn
  obtain ⟨z, hz⟩ : ∃ z, z = b - 1 := ⟨_, rfl⟩
  have e1 : (b : Int) - 1 = (z : Int) := by omega
  have Hz := Lib.hid hz
  have hzn : z < n := by omega
  have haz : a ≤ z := by omega
  clear hz
  obtain ⟨G0, hG0⟩ : ∃ G : Nat → Int, ∀ t, G t = d[t]! := ⟨fun t => d[t]!, fun _ => rfl⟩
  have hcw : ∀ t, t < n → w.cell? ⟨blk, off + t, none⟩ = some (.int .u64 (G0 t)) := fun t ht => by rw [hG0]; exact H.out.cell (by have := Hn.out; omega)
  have hfw : ∀ t, t < n → w.frozen? ⟨blk, off + t, none⟩ = false := fun t _ => H.out.frozen t
  have HG0 := Lib.hid hG0
  clear hG0
  have Hhap := Lib.hid hap
  -- the rest, behind the first swap
  have REST : Hid (∀ w1, StU w w1 blk off m (swp d a pv) → ∃ (i j : Nat) (dk : Array Int), Value.int .i64 ((a : Int) + 1) = .int .i64 i ∧ Value.int .i64 (z : Int) = .int .i64 j ∧ a < i ∧ i ≤ j + 1 ∧ j < n ∧ dk.size = n ∧ StU w w1 blk off m dk ∧ partEqLoop ltInt a i j dk = partitionEqual ltInt d a b pv) :=
    fun w1 hs => ⟨a + 1, z, swp d a pv, by go_num, rfl, by omega, by omega, hzn, by rw [size_swp]; exact Hn.out.symm, hs, by rw [Hz.out]; rfl⟩
  go_enter Tryz.func111, Tryz.ntmps111
  have hx : (w.setCell ⟨blk, off + a, none⟩ (.int .u64 (G0 pv))).cell? ⟨blk, off + pv, none⟩ = some (.int .u64 (G0 pv)) := by
    by_cases e : a = pv
    · subst e; exact World.cell?_setCell_same _ _ _ (hcw a (by omega))
    · exact (World.cell?_setCell_other _ _ _ _ (by intro e2; injection e2 with _ e2; omega)).trans (hcw pv (by omega))
  go_wp2_with fail
  go_region
  all_goals go_wp2_with fail
  have hs1 : StU w (((w.setCell ⟨blk, off + a, none⟩ (.int .u64 (G0 pv))).setCell ⟨blk, off + pv, none⟩ (.int .u64 (G0 a))).drew) blk off m (swp d a pv) := by
    simp only [HG0.out]
    exact ((StU.refl H.out).swap (by have := Hn.out; omega) (by have := Hn.out; omega)).on (Below.refl _ _).drew
  have HR1 := REST.out _ hs1
  clear hs1
  revert HR1
  generalize World.drew _ = w1
  intro HR1
  have HR1' := Lib.hid HR1
  clear HR1 hcw hfw hx
  go_loopw [9, 10] (fun vi vj wr => ∃ (i j : Nat) (dk : Array Int), vi = .int .i64 i ∧ vj = .int .i64 j ∧ a < i ∧ i ≤ j + 1 ∧ j < n ∧ dk.size = n ∧ StU w wr blk off m dk ∧ partEqLoop ltInt a i j dk = partitionEqual ltInt d a b pv) (fun vi vj _ => (intOf vj + 1 - intOf vi).toNat)
  case atStart => exact HR1'.out
  case round =>
    obtain ⟨i, j, dk, rfl, rfl, hai, hij, hjn, hsk, hst, hO⟩ := hrel
    have HO := Lib.hid hO
    have HS := Lib.hid hst
    have Hsk := Lib.hid hsk
    have Hmono := Lib.hid hij
    clear hO hst hsk
    obtain ⟨G, hG⟩ : ∃ G : Nat → Int, ∀ t, G t = dk[t]! := ⟨fun t => dk[t]!, fun _ => rfl⟩
    have HG := Lib.hid hG
    clear hG
    go_wp2_with fail
    go_loopw [9] (fun vi wr2 => ∃ i1 : Nat, vi = .int .i64 i1 ∧ i ≤ i1 ∧ i1 ≤ j + 1 ∧ StU w wr2 blk off m dk ∧ scanUp (fun x => !ltInt dk[a]! x) dk j i1 = scanUp (fun x => !ltInt dk[a]! x) dk j i) (fun vi _ => (j : Nat) + 1 - (intOf vi).toNat)
    case atStart => exact ⟨i, rfl, Nat.le_refl _, hij, HS.out, rfl⟩
    case round =>
      obtain ⟨i1, rfl, hi1, hi1j, hst1, hU⟩ := hrel
      have HU := Lib.hid hU
      have HS1 := Lib.hid hst1
      have hcw : ∀ t, t < n → wr.cell? ⟨blk, off + t, none⟩ = some (.int .u64 (G t)) := fun t ht => by rw [HG.out]; exact HS1.out.row.cell (by have := Hsk.out; omega)
      clear hU hst1
      by_cases hgo : i1 ≤ j ∧ ltInt (G a) (G i1) = false
      · obtain ⟨g1, g2⟩ := hgo
        go_wp2_with fail
        go_quiet (first | (go_at_call 110; refine Calls.quiet_of_same (hless _ _ _)))
        go_wp2_with fail
        go_roundw
        case rel => exact ⟨i1 + 1, by go_num, by omega, by omega, HS1.out.drewN _, by rw [← HU.out, up_go g1 (by show (!ltInt dk[a]! dk[i1]!) = true; rw [← HG.out, ← HG.out, g2]; rfl)]⟩
        case measure => simp [intOf]; omega
      · have hend : scanUp (fun x => !ltInt dk[a]! x) dk j i = i1 := by
          rw [← HU.out]
          refine up_end ?_
          rcases Classical.em (i1 ≤ j) with g | g
          · refine .inr ?_
            show (!ltInt dk[a]! dk[i1]!) = false
            rw [← HG.out, ← HG.out]
            cases h9 : ltInt (G a) (G i1)
            · exact absurd ⟨g, h9⟩ hgo
            · rfl
          · exact .inl g
        have HEnd := Lib.hid hend
        have hcs : (¬ i1 ≤ j) ∨ (i1 ≤ j ∧ ltInt (G a) (G i1) = true) := by
          rcases Classical.em (i1 ≤ j) with g | g
          · cases h9 : ltInt (G a) (G i1)
            · exact absurd ⟨g, h9⟩ hgo
            · exact .inr ⟨g, rfl⟩
          · exact .inl g
        have HNe : Hid (i1 ≤ j → ltInt (G a) (G i1) = true) := Lib.hid fun g => hcs.elim (fun h => absurd g h) (fun h => h.2)
        clear hend hgo
        rcases hcs with g | ⟨g, g2⟩
        all_goals
          go_wp2_with fail
          go_quiet (first | (go_at_call 110; refine Calls.quiet_of_same (hless _ _ _)))
          go_wp2_with fail
          clear g
          go_loopw [10] (fun vj wr3 => ∃ j1 : Nat, vj = .int .i64 j1 ∧ j1 ≤ j ∧ i1 ≤ j1 + 1 ∧ StU w wr3 blk off m dk ∧ scanDown (fun x => ltInt dk[a]! x) dk i1 j1 = scanDown (fun x => ltInt dk[a]! x) dk i1 j) (fun vj _ => (intOf vj).toNat)
          case atStart => exact ⟨j, rfl, Nat.le_refl _, hi1j, HS1.out.drewN _, rfl⟩
          case round =>
            obtain ⟨j1, rfl, hj1, hij1, hst3, hD⟩ := hrel
            have HD := Lib.hid hD
            have HS3 := Lib.hid hst3
            have hcw : ∀ t, t < n → wr.cell? ⟨blk, off + t, none⟩ = some (.int .u64 (G t)) := fun t ht => by rw [HG.out]; exact HS3.out.row.cell (by have := Hsk.out; omega)
            have hfw : ∀ t, t < n → wr.frozen? ⟨blk, off + t, none⟩ = false := fun t _ => HS3.out.row.frozen t
            clear hD hst3
            have hpos : 0 < i1 := by omega
            by_cases hgo : i1 ≤ j1 ∧ ltInt (G a) (G j1) = true
            · obtain ⟨g1, g2⟩ := hgo
              go_wp2_with fail
              go_quiet (first | (go_at_call 110; refine Calls.quiet_of_same (hless _ _ _)))
              go_wp2_with fail
              go_roundw
              case rel => exact ⟨j1 - 1, by congr 1; omega, by omega, by omega, HS3.out.drewN _, by rw [← HD.out, down_go g1 (by omega) (by show ltInt dk[a]! dk[j1]! = true; rw [← HG.out, ← HG.out, g2])]⟩
              case measure => simp [intOf]; omega
            · have hend2 : scanDown (fun x => ltInt dk[a]! x) dk i1 j = j1 := by
                rw [← HD.out]
                refine down_end ?_
                rcases Classical.em (i1 ≤ j1) with g | g
                · refine .inr ?_
                  show ltInt dk[a]! dk[j1]! = false
                  rw [← HG.out, ← HG.out]
                  cases h9 : ltInt (G a) (G j1)
                  · rfl
                  · exact absurd ⟨g, h9⟩ hgo
                · exact .inl g
              have HR := Lib.hid (partEq_step HEnd.out hend2)
              have hcs : (¬ i1 ≤ j1) ∨ (i1 ≤ j1 ∧ ltInt (G a) (G j1) = false) := by
                rcases Classical.em (i1 ≤ j1) with g | g
                · cases h9 : ltInt (G a) (G j1)
                  · exact .inr ⟨g, rfl⟩
                  · exact absurd ⟨g, h9⟩ hgo
                · exact .inl g
              clear hend2 hgo
              rcases hcs with g | ⟨g, g2⟩
              · have g3 : ¬ (i1 : Int) ≤ (j1 : Int) := by omega
                go_wp2_with fail
                go_quiet (first | (go_at_call 110; refine Calls.quiet_of_same (hless _ _ _)))
                go_wp2_with fail
                go_ret
                have e9 : partitionEqual ltInt d a b pv = (i1, dk) := by rw [← HO.out, HR.out, if_pos (by omega)]
                rw [e9]
                exact ⟨rfl, HS3.out.drewN _⟩
              · go_wp2_with fail
                go_quiet (first | (go_at_call 110; refine Calls.quiet_of_same (hless _ _ _)))
                obtain ⟨W1, hW1⟩ : ∃ W1, W1 = wr.drewN nq := ⟨_, rfl⟩
                have hs1 : StU w W1 blk off m dk := by rw [hW1]; exact HS3.out.drewN _
                rw [← hW1]
                clear hW1 hcw hfw
                have hcw : ∀ t, t < n → W1.cell? ⟨blk, off + t, none⟩ = some (.int .u64 (G t)) := fun t ht => by rw [HG.out]; exact hs1.row.cell (by have := Hsk.out; omega)
                have hfw : ∀ t, t < n → W1.frozen? ⟨blk, off + t, none⟩ = false := fun t _ => hs1.row.frozen t
                have hij2 : i1 < j1 := by
                  rcases Nat.lt_or_ge i1 j1 with h | h
                  · exact h
                  · have e : i1 = j1 := by omega
                    subst e
                    rw [HNe.out (by omega)] at g2
                    cases g2
                have b1 : i1 < n := by omega
                have b2 : j1 < n := by omega
                have hx : (W1.setCell ⟨blk, off + i1, none⟩ (.int .u64 (G j1))).cell? ⟨blk, off + j1, none⟩ = some (.int .u64 (G j1)) := by
                  by_cases e : i1 = j1
                  · subst e; exact World.cell?_setCell_same _ _ _ (hcw i1 b1)
                  · exact (World.cell?_setCell_other _ _ _ _ (by intro e2; injection e2 with _ e2; omega)).trans (hcw j1 b2)
                have HS4 := Lib.hid hs1
                clear hs1
                go_wp2_with fail
                go_region
                all_goals go_wp2_with fail
                go_roundw
                case rel =>
                  refine ⟨i1 + 1, j1 - 1, swp dk i1 j1, by go_num, by congr 1; omega, by omega, by omega, by omega, by rw [size_swp]; exact Hsk.out, ?_, ?_⟩
                  · rw [HG.out, HG.out]
                    first | exact ((HS4.out).swap (by have := Hsk.out; omega) (by have := Hsk.out; omega)).on (Below.refl _ _).drew | exact (HS4.out.drewN _).swap (by have := Hsk.out; omega) (by have := Hsk.out; omega)
                  · rw [← HO.out, HR.out, if_neg (by omega)]
                case measure => simp [intOf]; omega
end Go.Proofs.YtboeiadfmknidaaGreat

/-
  slices.Sort at uint64: partitionOrdered. (Printed by tools/gen/sx_part.py.)
-/
set_option linter.unusedVariables false
set_option linter.unusedSimpArgs false
namespace Go.Proofs.YtboeiadfmknidaaGreat
open Go.RowKit Go.Sort

/-- one round of partition's loop, by where the scans stop -/
theorem part_step {a i j i2 j2 : Nat} {d : Array Int} (h1 : scanUp (fun x => ltInt x d[a]!) d j i = i2) (h2 : scanDown (fun x => !ltInt x d[a]!) d i2 j = j2) :
    partLoop ltInt a i j d = if i2 > j2 then (j2, d) else partLoop ltInt a (i2 + 1) (j2 - 1) (swp d i2 j2) := by
  subst h1 h2
  exact partLoop_eq ltInt a i j d
/-- partition, by where its first scans stop -/
theorem partition_step {a b pv z i2 j2 : Nat} {d d1 : Array Int} (hd : d1 = swp d a pv) (hz : z = b - 1) (h1 : scanUp (fun x => ltInt x d1[a]!) d1 z (a + 1) = i2) (h2 : scanDown (fun x => !ltInt x d1[a]!) d1 i2 z = j2) :
    partition ltInt d a b pv = if i2 > j2 then (j2, true, swp d1 j2 a) else ((partLoop ltInt a (i2 + 1) (j2 - 1) (swp d1 i2 j2)).1, false, swp (partLoop ltInt a (i2 + 1) (j2 - 1) (swp d1 i2 j2)).2 (partLoop ltInt a (i2 + 1) (j2 - 1) (swp d1 i2 j2)).1 a) := by
  subst h1 h2 hd hz
  rfl
set_option maxRecDepth 100000 in
set_option maxHeartbeats 16000000 in
theorem hpart (blk off m cap a b pv : Nat) (d : Array Int) (w : World) (h : RowU w blk off m d) (hap : a ≤ pv) (hpb : pv < b) (hb : b ≤ d.size) (hsz : d.size ≤ 1000000) :
    Calls Tryz.prog 112 #[slU blk off d.size cap, .int .i64 (a : Int), .int .i64 (b : Int), .int .i64 (pv : Int)] w fun e w' => e = .returned (.tuple #[.int .i64 ((partition ltInt d a b pv).1 : Int), .bool (partition ltInt d a b pv).2.1]) ∧ StU w w' blk off m (partition ltInt d a b pv).2.2 := by
  have H := Lib.hid h
  obtain ⟨n, hn⟩ : ∃ n, n = d.size := ⟨_, rfl⟩
  have Hn := Lib.hid hn
  rw [← hn] at hb hsz
  clear h
  unfold slU
  rw [← hn]
  clear hn
  obtain ⟨z, hz⟩ : ∃ z, z = b - 1 := ⟨_, rfl⟩
  have e1 : (b : Int) - 1 = (z : Int) := by omega
  have Hzb := Lib.hid hz
  have hzn : z < n := by omega
  have haz : a ≤ z := by omega
  clear hz
  obtain ⟨G0, hG0⟩ : ∃ G : Nat → Int, ∀ t, G t = d[t]! := ⟨fun t => d[t]!, fun _ => rfl⟩
  have hcw : ∀ t, t < n → w.cell? ⟨blk, off + t, none⟩ = some (.int .u64 (G0 t)) := fun t ht => by rw [hG0]; exact H.out.cell (by have := Hn.out; omega)
  have hfw : ∀ t, t < n → w.frozen? ⟨blk, off + t, none⟩ = false := fun t _ => H.out.frozen t
  have HG0 := Lib.hid hG0
  clear hG0
  go_enter Tryz.func112, Tryz.ntmps112
  have hx : (w.setCell ⟨blk, off + a, none⟩ (.int .u64 (G0 pv))).cell? ⟨blk, off + pv, none⟩ = some (.int .u64 (G0 pv)) := by
    by_cases e : a = pv
    · subst e; exact World.cell?_setCell_same _ _ _ (hcw a (by omega))
    · exact (World.cell?_setCell_other _ _ _ _ (by intro e2; injection e2 with _ e2; omega)).trans (hcw pv (by omega))
  go_wp2_with fail
  go_region
  all_goals go_wp2_with fail
  obtain ⟨d1, hd1⟩ : ∃ d1, d1 = swp d a pv := ⟨_, rfl⟩
  have HS0 : StU w (((w.setCell ⟨blk, off + a, none⟩ (.int .u64 (G0 pv))).setCell ⟨blk, off + pv, none⟩ (.int .u64 (G0 a))).drew) blk off m d1 := by
    rw [hd1]
    simp only [HG0.out]
    exact ((StU.refl H.out).swap (by have := Hn.out; omega) (by have := Hn.out; omega)).on (Below.refl _ _).drew
  have hsk : d1.size = n := by rw [hd1, size_swp]; exact Hn.out.symm
  have HS := Lib.hid HS0
  have Hsk := Lib.hid hsk
  have Hd1 := Lib.hid hd1
  clear HS0 hcw hfw hx hsk hd1
  revert HS
  generalize World.drew _ = w1
  intro HS
  obtain ⟨G, hG⟩ : ∃ G : Nat → Int, ∀ t, G t = d1[t]! := ⟨fun t => d1[t]!, fun _ => rfl⟩
  have HG := Lib.hid hG
  clear hG
  go_loopw [10] (fun vi wr2 => ∃ i1 : Nat, vi = .int .i64 i1 ∧ a + 1 ≤ i1 ∧ i1 ≤ z + 1 ∧ StU w wr2 blk off m d1 ∧ scanUp (fun x => ltInt x d1[a]!) d1 z i1 = scanUp (fun x => ltInt x d1[a]!) d1 z (a + 1)) (fun vi _ => (z : Nat) + 1 - (intOf vi).toNat)
  case atStart => exact ⟨a + 1, by go_num, Nat.le_refl _, by omega, HS.out, rfl⟩
  case round =>
    obtain ⟨i1, rfl, hi1, hi1j, hst1, hU⟩ := hrel
    have HU := Lib.hid hU
    have HS1 := Lib.hid hst1
    have hcw : ∀ t, t < n → wr.cell? ⟨blk, off + t, none⟩ = some (.int .u64 (G t)) := fun t ht => by rw [HG.out]; exact HS1.out.row.cell (by have := Hsk.out; omega)
    have hfw : ∀ t, t < n → wr.frozen? ⟨blk, off + t, none⟩ = false := fun t _ => HS1.out.row.frozen t
    clear hU hst1
    by_cases hgo : i1 ≤ z ∧ ltInt (G i1) (G a) = true
    · obtain ⟨g1, g2⟩ := hgo
      go_wp2_with fail
      go_quiet (first | (go_at_call 110; refine Calls.quiet_of_same (hless _ _ _)))
      go_wp2_with fail
      go_roundw
      case rel => exact ⟨i1 + 1, by go_num, by omega, by omega, HS1.out.drewN _, by rw [← HU.out, up_go g1 (by show ltInt d1[i1]! d1[a]! = true; rw [← HG.out, ← HG.out, g2])]⟩
      case measure => simp [intOf]; omega
    · have hend : scanUp (fun x => ltInt x d1[a]!) d1 z (a + 1) = i1 := by
        rw [← HU.out]
        refine up_end ?_
        rcases Classical.em (i1 ≤ z) with g | g
        · refine .inr ?_
          show ltInt d1[i1]! d1[a]! = false
          rw [← HG.out, ← HG.out]
          cases h9 : ltInt (G i1) (G a)
          · rfl
          · exact absurd ⟨g, h9⟩ hgo
        · exact .inl g
      have HEnd := Lib.hid hend
      have hcs : (¬ i1 ≤ z) ∨ (i1 ≤ z ∧ ltInt (G i1) (G a) = false) := by
        rcases Classical.em (i1 ≤ z) with g | g
        · cases h9 : ltInt (G i1) (G a)
          · exact .inr ⟨g, rfl⟩
          · exact absurd ⟨g, h9⟩ hgo
        · exact .inl g
      have HNe : Hid (i1 ≤ z → ltInt (G i1) (G a) = false) := Lib.hid fun g => hcs.elim (fun h => absurd g h) (fun h => h.2)
      clear hend hgo
      rcases hcs with g | ⟨g, g2⟩
      all_goals
        go_wp2_with fail
        go_quiet (first | (go_at_call 110; refine Calls.quiet_of_same (hless _ _ _)))
        go_wp2_with fail
        clear g
        go_loopw [11] (fun vj wr3 => ∃ j1 : Nat, vj = .int .i64 j1 ∧ j1 ≤ z ∧ i1 ≤ j1 + 1 ∧ StU w wr3 blk off m d1 ∧ scanDown (fun x => !ltInt x d1[a]!) d1 i1 j1 = scanDown (fun x => !ltInt x d1[a]!) d1 i1 z) (fun vj _ => (intOf vj).toNat)
        case atStart => exact ⟨z, rfl, Nat.le_refl _, hi1j, HS1.out.drewN _, rfl⟩
        case round =>
          obtain ⟨j1, rfl, hj1, hij1, hst3, hD⟩ := hrel
          have HD := Lib.hid hD
          have HS3 := Lib.hid hst3
          have hcw : ∀ t, t < n → wr.cell? ⟨blk, off + t, none⟩ = some (.int .u64 (G t)) := fun t ht => by rw [HG.out]; exact HS3.out.row.cell (by have := Hsk.out; omega)
          have hfw : ∀ t, t < n → wr.frozen? ⟨blk, off + t, none⟩ = false := fun t _ => HS3.out.row.frozen t
          clear hD hst3
          have hpos : 0 < i1 := by omega
          by_cases hgo : i1 ≤ j1 ∧ ltInt (G j1) (G a) = false
          · obtain ⟨g1, g2⟩ := hgo
            go_wp2_with fail
            go_quiet (first | (go_at_call 110; refine Calls.quiet_of_same (hless _ _ _)))
            go_wp2_with fail
            go_roundw
            case rel => exact ⟨j1 - 1, by congr 1; omega, by omega, by omega, HS3.out.drewN _, by rw [← HD.out, down_go g1 (by omega) (by show (!ltInt d1[j1]! d1[a]!) = true; rw [← HG.out, ← HG.out, g2]; rfl)]⟩
            case measure => simp [intOf]; omega
          · have hend2 : scanDown (fun x => !ltInt x d1[a]!) d1 i1 z = j1 := by
              rw [← HD.out]
              refine down_end ?_
              rcases Classical.em (i1 ≤ j1) with g | g
              · refine .inr ?_
                show (!ltInt d1[j1]! d1[a]!) = false
                rw [← HG.out, ← HG.out]
                cases h9 : ltInt (G j1) (G a)
                · exact absurd ⟨g, h9⟩ hgo
                · rfl
              · exact .inl g
            have hcs : (¬ i1 ≤ j1) ∨ (i1 ≤ j1 ∧ ltInt (G j1) (G a) = true) := by
              rcases Classical.em (i1 ≤ j1) with g | g
              · cases h9 : ltInt (G j1) (G a)
                · exact absurd ⟨g, h9⟩ hgo
                · exact .inr ⟨g, rfl⟩
              · exact .inl g
            have HE2 := Lib.hid hend2
            clear hend2 hgo
            rcases hcs with g | ⟨g, g2⟩
            · have g3 : ¬ (i1 : Int) ≤ (j1 : Int) := by omega
              have haj : a ≤ j1 := by omega
              go_wp2_with fail
              go_quiet (first | (go_at_call 110; refine Calls.quiet_of_same (hless _ _ _)))
              obtain ⟨W1, hW1⟩ : ∃ W1, W1 = wr.drewN nq := ⟨_, rfl⟩
              have hs1 : StU w W1 blk off m d1 := by rw [hW1]; exact HS3.out.drewN _
              rw [← hW1]
              clear hW1 hcw hfw
              have hcw : ∀ t, t < n → W1.cell? ⟨blk, off + t, none⟩ = some (.int .u64 (G t)) := fun t ht => by rw [HG.out]; exact hs1.row.cell (by have := Hsk.out; omega)
              have hfw : ∀ t, t < n → W1.frozen? ⟨blk, off + t, none⟩ = false := fun t _ => hs1.row.frozen t
              have HS4 := Lib.hid hs1
              clear hs1
              have b1 : a < n := by omega
              have b2 : j1 < n := by omega
              have hx : (W1.setCell ⟨blk, off + j1, none⟩ (.int .u64 (G a))).cell? ⟨blk, off + a, none⟩ = some (.int .u64 (G a)) := by
                by_cases e : j1 = a
                · rw [← e]; exact World.cell?_setCell_same _ _ _ (hcw j1 (by omega))
                · exact (World.cell?_setCell_other _ _ _ _ (by intro e2; injection e2 with _ e2; omega)).trans (hcw a (by omega))
              go_wp2_with fail
              go_region
              all_goals go_wp2_with fail
              go_ret2
              rw [partition_step Hd1.out Hzb.out HEnd.out HE2.out, if_pos (by omega)]
              refine ⟨rfl, ?_⟩
              rw [HG.out, HG.out]
              first | exact ((HS4.out).swap (by have := Hsk.out; omega) (by have := Hsk.out; omega)).on (Below.refl _ _).drew | exact ((HS4.out).drewN _).swap (by have := Hsk.out; omega) (by have := Hsk.out; omega)
            · go_wp2_with fail
              go_quiet (first | (go_at_call 110; refine Calls.quiet_of_same (hless _ _ _)))
              have hij2 : i1 < j1 := by
                rcases Nat.lt_or_ge i1 j1 with h | h
                · exact h
                · have e : i1 = j1 := by omega
                  subst e
                  rw [HNe.out (by omega)] at g2
                  cases g2
              obtain ⟨W1, hW1⟩ : ∃ W1, W1 = wr.drewN nq := ⟨_, rfl⟩
              have hs1 : StU w W1 blk off m d1 := by rw [hW1]; exact HS3.out.drewN _
              rw [← hW1]
              clear hW1 hcw hfw
              have hcw : ∀ t, t < n → W1.cell? ⟨blk, off + t, none⟩ = some (.int .u64 (G t)) := fun t ht => by rw [HG.out]; exact hs1.row.cell (by have := Hsk.out; omega)
              have hfw : ∀ t, t < n → W1.frozen? ⟨blk, off + t, none⟩ = false := fun t _ => hs1.row.frozen t
              have HS4 := Lib.hid hs1
              clear hs1
              have b1 : i1 < n := by omega
              have b2 : j1 < n := by omega
              have hx : (W1.setCell ⟨blk, off + i1, none⟩ (.int .u64 (G j1))).cell? ⟨blk, off + j1, none⟩ = some (.int .u64 (G j1)) := by
                by_cases e : i1 = j1
                · rw [← e]; exact World.cell?_setCell_same _ _ _ (hcw i1 (by omega))
                · exact (World.cell?_setCell_other _ _ _ _ (by intro e2; injection e2 with _ e2; omega)).trans (hcw j1 (by omega))
              go_wp2_with fail
              go_region
              all_goals go_wp2_with fail
              have hs5 : ∀ wq, StU w wq blk off m (swp d1 i1 j1) → ∃ r, (∀ (j : Nat) (dk : Array Int), r = (j, dk) → partition ltInt d a b pv = (j, false, swp dk j a)) ∧ ∃ (i j : Nat) (dk : Array Int), Value.int .i64 ((i1 : Int) + 1) = .int .i64 i ∧ Value.int .i64 ((j1 : Int) - 1) = .int .i64 j ∧ a < i ∧ i ≤ j + 1 ∧ j < n ∧ dk.size = n ∧ StU w wq blk off m dk ∧ partLoop ltInt a i j dk = r := fun wq hq =>
                ⟨_, fun j dk e => by rw [partition_step Hd1.out Hzb.out HEnd.out HE2.out, if_neg (by omega), e], i1 + 1, j1 - 1, _, by go_num, by congr 1; omega, by omega, by omega, by omega, by rw [size_swp]; exact Hsk.out, hq, rfl⟩
              have HS5 := Lib.hid hs5
              clear hs5
              obtain ⟨W2, hW2⟩ : ∃ W2, W2 = ((W1.setCell ⟨blk, off + i1, none⟩ (.int .u64 (G j1))).setCell ⟨blk, off + j1, none⟩ (.int .u64 (G i1))).drew := ⟨_, rfl⟩
              have hs6 : StU w W2 blk off m (swp d1 i1 j1) := by
                rw [hW2, HG.out, HG.out]
                exact ((HS4.out).swap (by have := Hsk.out; omega) (by have := Hsk.out; omega)).on (Below.refl _ _).drew
              obtain ⟨r, hres, hst0⟩ := HS5.out W2 hs6
              have HRes : Hid (∀ (j : Nat) (dk : Array Int) (wq : World), r = (j, dk) → StU w wq blk off m (swp dk j a) → (Ending.returned (.tuple #[.int .i64 (j : Int), .bool false]) = .returned (.tuple #[.int .i64 ((partition ltInt d a b pv).1 : Int), .bool (partition ltInt d a b pv).2.1])) ∧ StU w wq blk off m (partition ltInt d a b pv).2.2) :=
                Lib.hid fun j dk wq e hq => by rw [hres j dk e]; exact ⟨rfl, hq⟩
              have HSt0 := Lib.hid hst0
              rw [← hW2]
              clear hs6 hres hst0 hcw hfw hx hW2
              go_loopw [10, 11] (fun vi vj wr => ∃ (i j : Nat) (dk : Array Int), vi = .int .i64 i ∧ vj = .int .i64 j ∧ a < i ∧ i ≤ j + 1 ∧ j < n ∧ dk.size = n ∧ StU w wr blk off m dk ∧ partLoop ltInt a i j dk = r) (fun vi vj _ => (intOf vj + 1 - intOf vi).toNat)
              case atStart => exact HSt0.out
              case round =>
                obtain ⟨i, j, dk, rfl, rfl, hai, hij, hjn, hsk, hst, hO⟩ := hrel
                have HO := Lib.hid hO
                have HS := Lib.hid hst
                have Hsk := Lib.hid hsk
                clear hO hst hsk
                obtain ⟨G, hG⟩ : ∃ G : Nat → Int, ∀ t, G t = dk[t]! := ⟨fun t => dk[t]!, fun _ => rfl⟩
                have HG := Lib.hid hG
                clear hG
                go_wp2_with fail
                go_loopw [10] (fun vi wr2 => ∃ i1 : Nat, vi = .int .i64 i1 ∧ i ≤ i1 ∧ i1 ≤ j + 1 ∧ StU w wr2 blk off m dk ∧ scanUp (fun x => ltInt x dk[a]!) dk j i1 = scanUp (fun x => ltInt x dk[a]!) dk j (i)) (fun vi _ => (j : Nat) + 1 - (intOf vi).toNat)
                case atStart => exact ⟨i, by go_num, Nat.le_refl _, by omega, HS.out, rfl⟩
                case round =>
                  obtain ⟨i1, rfl, hi1, hi1j, hst1, hU⟩ := hrel
                  have HU := Lib.hid hU
                  have HS1 := Lib.hid hst1
                  have hcw : ∀ t, t < n → wr.cell? ⟨blk, off + t, none⟩ = some (.int .u64 (G t)) := fun t ht => by rw [HG.out]; exact HS1.out.row.cell (by have := Hsk.out; omega)
                  have hfw : ∀ t, t < n → wr.frozen? ⟨blk, off + t, none⟩ = false := fun t _ => HS1.out.row.frozen t
                  clear hU hst1
                  by_cases hgo : i1 ≤ j ∧ ltInt (G i1) (G a) = true
                  · obtain ⟨g1, g2⟩ := hgo
                    go_wp2_with fail
                    go_quiet (first | (go_at_call 110; refine Calls.quiet_of_same (hless _ _ _)))
                    go_wp2_with fail
                    go_roundw
                    case rel => exact ⟨i1 + 1, by go_num, by omega, by omega, HS1.out.drewN _, by rw [← HU.out, up_go g1 (by show ltInt dk[i1]! dk[a]! = true; rw [← HG.out, ← HG.out, g2])]⟩
                    case measure => simp [intOf]; omega
                  · have hend : scanUp (fun x => ltInt x dk[a]!) dk j (i) = i1 := by
                      rw [← HU.out]
                      refine up_end ?_
                      rcases Classical.em (i1 ≤ j) with g | g
                      · refine .inr ?_
                        show ltInt dk[i1]! dk[a]! = false
                        rw [← HG.out, ← HG.out]
                        cases h9 : ltInt (G i1) (G a)
                        · rfl
                        · exact absurd ⟨g, h9⟩ hgo
                      · exact .inl g
                    have HEnd := Lib.hid hend
                    have hcs : (¬ i1 ≤ j) ∨ (i1 ≤ j ∧ ltInt (G i1) (G a) = false) := by
                      rcases Classical.em (i1 ≤ j) with g | g
                      · cases h9 : ltInt (G i1) (G a)
                        · exact .inr ⟨g, rfl⟩
                        · exact absurd ⟨g, h9⟩ hgo
                      · exact .inl g
                    have HNe : Hid (i1 ≤ j → ltInt (G i1) (G a) = false) := Lib.hid fun g => hcs.elim (fun h => absurd g h) (fun h => h.2)
                    clear hend hgo
                    rcases hcs with g | ⟨g, g2⟩
                    all_goals
                      go_wp2_with fail
                      go_quiet (first | (go_at_call 110; refine Calls.quiet_of_same (hless _ _ _)))
                      go_wp2_with fail
                      clear g
                      go_loopw [11] (fun vj wr3 => ∃ j1 : Nat, vj = .int .i64 j1 ∧ j1 ≤ j ∧ i1 ≤ j1 + 1 ∧ StU w wr3 blk off m dk ∧ scanDown (fun x => !ltInt x dk[a]!) dk i1 j1 = scanDown (fun x => !ltInt x dk[a]!) dk i1 j) (fun vj _ => (intOf vj).toNat)
                      case atStart => exact ⟨j, rfl, Nat.le_refl _, hi1j, HS1.out.drewN _, rfl⟩
                      case round =>
                        obtain ⟨j1, rfl, hj1, hij1, hst3, hD⟩ := hrel
                        have HD := Lib.hid hD
                        have HS3 := Lib.hid hst3
                        have hcw : ∀ t, t < n → wr.cell? ⟨blk, off + t, none⟩ = some (.int .u64 (G t)) := fun t ht => by rw [HG.out]; exact HS3.out.row.cell (by have := Hsk.out; omega)
                        have hfw : ∀ t, t < n → wr.frozen? ⟨blk, off + t, none⟩ = false := fun t _ => HS3.out.row.frozen t
                        clear hD hst3
                        have hpos : 0 < i1 := by omega
                        by_cases hgo : i1 ≤ j1 ∧ ltInt (G j1) (G a) = false
                        · obtain ⟨g1, g2⟩ := hgo
                          go_wp2_with fail
                          go_quiet (first | (go_at_call 110; refine Calls.quiet_of_same (hless _ _ _)))
                          go_wp2_with fail
                          go_roundw
                          case rel => exact ⟨j1 - 1, by congr 1; omega, by omega, by omega, HS3.out.drewN _, by rw [← HD.out, down_go g1 (by omega) (by show (!ltInt dk[j1]! dk[a]!) = true; rw [← HG.out, ← HG.out, g2]; rfl)]⟩
                          case measure => simp [intOf]; omega
                        · have hend2 : scanDown (fun x => !ltInt x dk[a]!) dk i1 j = j1 := by
                            rw [← HD.out]
                            refine down_end ?_
                            rcases Classical.em (i1 ≤ j1) with g | g
                            · refine .inr ?_
                              show (!ltInt dk[j1]! dk[a]!) = false
                              rw [← HG.out, ← HG.out]
                              cases h9 : ltInt (G j1) (G a)
                              · exact absurd ⟨g, h9⟩ hgo
                              · rfl
                            · exact .inl g
                          have hcs : (¬ i1 ≤ j1) ∨ (i1 ≤ j1 ∧ ltInt (G j1) (G a) = true) := by
                            rcases Classical.em (i1 ≤ j1) with g | g
                            · cases h9 : ltInt (G j1) (G a)
                              · exact absurd ⟨g, h9⟩ hgo
                              · exact .inr ⟨g, rfl⟩
                            · exact .inl g
                          have HE2 := Lib.hid hend2
                          clear hend2 hgo
                          rcases hcs with g | ⟨g, g2⟩
                          · have g3 : ¬ (i1 : Int) ≤ (j1 : Int) := by omega
                            have haj : a ≤ j1 := by omega
                            go_wp2_with fail
                            go_quiet (first | (go_at_call 110; refine Calls.quiet_of_same (hless _ _ _)))
                            obtain ⟨W1, hW1⟩ : ∃ W1, W1 = wr.drewN nq := ⟨_, rfl⟩
                            have hs1 : StU w W1 blk off m dk := by rw [hW1]; exact HS3.out.drewN _
                            rw [← hW1]
                            clear hW1 hcw hfw
                            have hcw : ∀ t, t < n → W1.cell? ⟨blk, off + t, none⟩ = some (.int .u64 (G t)) := fun t ht => by rw [HG.out]; exact hs1.row.cell (by have := Hsk.out; omega)
                            have hfw : ∀ t, t < n → W1.frozen? ⟨blk, off + t, none⟩ = false := fun t _ => hs1.row.frozen t
                            have HS4 := Lib.hid hs1
                            clear hs1
                            have b1 : a < n := by omega
                            have b2 : j1 < n := by omega
                            have hx : (W1.setCell ⟨blk, off + j1, none⟩ (.int .u64 (G a))).cell? ⟨blk, off + a, none⟩ = some (.int .u64 (G a)) := by
                              by_cases e : j1 = a
                              · rw [← e]; exact World.cell?_setCell_same _ _ _ (hcw j1 (by omega))
                              · exact (World.cell?_setCell_other _ _ _ _ (by intro e2; injection e2 with _ e2; omega)).trans (hcw a (by omega))
                            go_wp2_with fail
                            go_region
                            all_goals go_wp2_with fail
                            go_ret2
                            have e9 : r = (j1, dk) := by rw [← HO.out, part_step HEnd.out HE2.out, if_pos (by omega)]
                            refine HRes.out _ _ _ e9 ?_
                            rw [HG.out, HG.out]
                            first | exact ((HS4.out).swap (by have := Hsk.out; omega) (by have := Hsk.out; omega)).on (Below.refl _ _).drew | exact ((HS4.out).drewN _).swap (by have := Hsk.out; omega) (by have := Hsk.out; omega)
                          · go_wp2_with fail
                            go_quiet (first | (go_at_call 110; refine Calls.quiet_of_same (hless _ _ _)))
                            have hij2 : i1 < j1 := by
                              rcases Nat.lt_or_ge i1 j1 with h | h
                              · exact h
                              · have e : i1 = j1 := by omega
                                subst e
                                rw [HNe.out (by omega)] at g2
                                cases g2
                            obtain ⟨W1, hW1⟩ : ∃ W1, W1 = wr.drewN nq := ⟨_, rfl⟩
                            have hs1 : StU w W1 blk off m dk := by rw [hW1]; exact HS3.out.drewN _
                            rw [← hW1]
                            clear hW1 hcw hfw
                            have hcw : ∀ t, t < n → W1.cell? ⟨blk, off + t, none⟩ = some (.int .u64 (G t)) := fun t ht => by rw [HG.out]; exact hs1.row.cell (by have := Hsk.out; omega)
                            have hfw : ∀ t, t < n → W1.frozen? ⟨blk, off + t, none⟩ = false := fun t _ => hs1.row.frozen t
                            have HS4 := Lib.hid hs1
                            clear hs1
                            have b1 : i1 < n := by omega
                            have b2 : j1 < n := by omega
                            have hx : (W1.setCell ⟨blk, off + i1, none⟩ (.int .u64 (G j1))).cell? ⟨blk, off + j1, none⟩ = some (.int .u64 (G j1)) := by
                              by_cases e : i1 = j1
                              · rw [← e]; exact World.cell?_setCell_same _ _ _ (hcw i1 (by omega))
                              · exact (World.cell?_setCell_other _ _ _ _ (by intro e2; injection e2 with _ e2; omega)).trans (hcw j1 (by omega))
                            go_wp2_with fail
                            go_region
                            all_goals go_wp2_with fail
                            go_roundw
                            case rel =>
                              refine ⟨i1 + 1, j1 - 1, swp dk i1 j1, by go_num, by congr 1; omega, by omega, by omega, by omega, by rw [size_swp]; exact Hsk.out, ?_, ?_⟩
                              · rw [HG.out, HG.out]
                                first | exact ((HS4.out).swap (by have := Hsk.out; omega) (by have := Hsk.out; omega)).on (Below.refl _ _).drew | exact ((HS4.out).drewN _).swap (by have := Hsk.out; omega) (by have := Hsk.out; omega)
                              · rw [← HO.out, part_step HEnd.out HE2.out, if_neg (by omega)]
                            case measure => simp [intOf]; omega
end Go.Proofs.YtboeiadfmknidaaGreat
