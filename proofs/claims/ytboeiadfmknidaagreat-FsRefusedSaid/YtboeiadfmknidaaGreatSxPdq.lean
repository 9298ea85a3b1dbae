
/-
  slices.Sort at uint64: pdqsortOrdered: the part comes out sorted, a permutation of what it was.
-/
import Derived.Test.YtboeiadfmknidaaGreatSxRow
import Derived.Test.YtboeiadfmknidaaGreatSxPins
import Derived.Deep.Cut
set_option linter.unusedVariables false
set_option linter.unusedSimpArgs false
namespace Go.Proofs.YtboeiadfmknidaaGreat
open Go.RowKit Go.Sort

set_option maxRecDepth 1000000 in
set_option maxHeartbeats 16000000 in
theorem hpdq : ∀ (N blk off m cap a b limit : Nat) (d : Array Int) (w : World), b - a < N → RowU w blk off m d → a ≤ b → b ≤ d.size → d.size ≤ 200 → limit ≤ 1000 → Go.Sort.Below ltInt a b d →
    Calls Tryz.prog 99 #[slU blk off d.size cap, .int .i64 (a : Int), .int .i64 (b : Int), .int .i64 (limit : Int)] w fun e w' => (∃ u, e = .returned u) ∧ ∃ d', PermIn a b d d' ∧ SortedIn ltInt a b d' ∧ StU w w' blk off m d' := by
  intro N
  induction N with
  | zero => intro _ _ _ _ _ _ _ _ _ h; exact absurd h (Nat.not_lt_zero _)
  | succ N ih =>
    intro blk off m cap a b limit d w hN hrow hab hb hsz hlimit hBel0
    have IH := Lib.hid ih
    have H := Lib.hid hrow
    have HB0 := Lib.hid hBel0
    obtain ⟨n, hn⟩ : ∃ n, n = d.size := ⟨_, rfl⟩
    have Hn := Lib.hid hn
    rw [← hn] at hb hsz
    clear ih hrow hBel0
    unfold slU
    rw [← hn]
    clear hn
    go_enter Tryz.func99, Tryz.ntmps99
    go_wp2_with fail
    go_loopw [1, 2, 3, 8, 9] (fun s1 s2 s3 s8 s9 wr => ∃ (a' b' lim : Nat) (wb wp : Bool) (dk : Array Int), s1 = .int .i64 a' ∧ s2 = .int .i64 b' ∧ s3 = .int .i64 lim ∧ s8 = .bool wb ∧ s9 = .bool wp ∧ a' ≤ b' ∧ b' ≤ n ∧ b' - a' ≤ b - a ∧ lim ≤ 1000 ∧ dk.size = n ∧ Go.Sort.Below ltInt a' b' dk ∧ StU w wr blk off m dk ∧ (∀ R, PermIn a' b' dk R → SortedIn ltInt a' b' R → PermIn a b d R ∧ SortedIn ltInt a b R)) (fun s1 s2 _ _ _ _ => (intOf s2 - intOf s1).toNat)
    case atStart => exact ⟨a, b, limit, true, true, d, rfl, rfl, rfl, rfl, rfl, hab, hb, Nat.le_refl _, hlimit, Hn.out.symm, HB0.out, StU.refl H.out, fun R h1 h2 => ⟨h1, h2⟩⟩
    case round =>
      obtain ⟨a', b', lim, wb, wp, dk, rfl, rfl, rfl, rfl, rfl, hab', hb', hk, hlim, hds, hBel, hst, hF⟩ := hrel
      have HF := Lib.hid hF
      have HS := Lib.hid hst
      have HB := Lib.hid hBel
      have Hds := Lib.hid hds
      have hbd : b' ≤ dk.size := by rw [hds]; exact hb'
      have hzd : dk.size ≤ 200 := by rw [hds]; exact hsz
      clear hF hst hBel hds
      by_cases h12 : b' - a' ≤ 12
      · have h12z : (b' : Int) - (a' : Int) ≤ 12 := by omega
        have hc := hins blk off m cap a' b' dk wr HS.out.row hab' hbd (by omega)
        unfold slU at hc
        rw [Hds.out] at hc
        obtain ⟨hp, hs⟩ := insertionSort_holds swo_ltInt dk a' b' hab' hbd
        have HP := Lib.hid hp
        have HSo := Lib.hid hs
        have HC := Lib.hid hc
        clear hp hs hc
        go_wp2_with (go_at_call 104; refine (HC.out).mono ?_; rintro e w1 ⟨⟨u, rfl⟩, hw1⟩)
        (try simp only [Exit.inBlock, Exit.then])
        refine bodyPost_ret (results_none rfl _ _ _) rfl ?_
        exact ⟨⟨_, rfl⟩, _, (HF.out _ HP.out HSo.out).1, (HF.out _ HP.out HSo.out).2, HS.out.then_ hw1⟩
      · have h12z : ¬ ((b' : Int) - (a' : Int) ≤ 12) := by omega
        have h12g : a' + 12 < b' := by omega
        by_cases hl0 : lim = 0
        · subst hl0
          have hc := hheap blk off m cap a' b' dk wr HS.out.row hab' hbd (by omega)
          unfold slU at hc
          rw [Hds.out] at hc
          obtain ⟨hp, hs⟩ := heapSort_holds swo_ltInt dk a' b' hab' hbd
          have HP := Lib.hid hp
          have HSo := Lib.hid hs
          have HC := Lib.hid hc
          clear hp hs hc
          go_wp2_with (go_at_call 105; refine (HC.out).mono ?_; rintro e w1 ⟨⟨u, rfl⟩, hw1⟩)
          (try simp only [Exit.inBlock, Exit.then])
          refine bodyPost_ret (results_none rfl _ _ _) rfl ?_
          exact ⟨⟨_, rfl⟩, _, (HF.out _ HP.out HSo.out).1, (HF.out _ HP.out HSo.out).2, HS.out.then_ hw1⟩
        · have hl0z : ¬ ((lim : Int) = 0) := by omega
          go_upto_if 35 with fail
          go_cut [3] from 19 (fun s3 wc => ∃ (lim1 : Nat) (d1 : Array Int), s3 = .int .i64 lim1 ∧ lim1 ≤ 1000 ∧ PermIn a' b' dk d1 ∧ StU w wc blk off m d1)
          case first =>
            cases wb
            · have hc := hbreak blk off m cap a' b' dk wr HS.out.row h12g hbd hzd
              unfold slU at hc
              rw [Hds.out] at hc
              have HC := Lib.hid hc
              clear hc
              go_wp2_with (go_at_call 106; refine (HC.out).mono ?_; rintro e w1 ⟨⟨u, rfl⟩, d1, hp1, hw1⟩)
              go_meet
              case rel => exact ⟨lim - 1, d1, by congr 1; omega, by omega, hp1, HS.out.then_ hw1⟩
            · go_wp2_with fail
              go_meet
              case rel => exact ⟨lim, dk, rfl, hlim, permIn_refl _ _ _, HS.out⟩
          case rest =>
            obtain ⟨lim1, d1, rfl, hlim1, hp1, hst1⟩ := hcut
            have hz1 : d1.size = n := hp1.1.trans Hds.out
            have hb1 : b' ≤ d1.size := by omega
            have HP1 := Lib.hid hp1
            have HS1 := Lib.hid hst1
            have Hz1 := Lib.hid hz1
            have hc := hpivot blk off m cap a' b' d1 wc HS1.out.row h12g hb1 (by omega)
            unfold slU at hc
            rw [Hz1.out] at hc
            have HC := Lib.hid hc
            clear hc hp1 hst1 hz1 hb1
            go_upto_if 50 with (go_at_call 107; refine (HC.out).mono ?_; rintro e w2 ⟨p, k, rfl, hpa, hpb, hk2, hw2⟩)
            have HS2 := Lib.hid (HS1.out.then_ hw2)
            clear hw2 HC
            go_cut [11, 12] from 19 (fun s11 s12 wc => ∃ (p' k' : Nat) (d2 : Array Int), s11 = .int .i64 p' ∧ s12 = .int .i64 k' ∧ a' ≤ p' ∧ p' < b' ∧ k' ≤ 2 ∧ PermIn a' b' dk d2 ∧ StU w wc blk off m d2)
            case first =>
              by_cases hk2 : k = 2
              · subst hk2
                have hb1 : b' ≤ d1.size := by have := Hz1.out; omega
                have hc := hrev blk off m cap a' b' d1 w2 HS2.out.row (by omega) hb1 (by have := Hz1.out; omega)
                unfold slU at hc
                rw [Hz1.out] at hc
                have HC := Lib.hid hc
                have hpr := Lib.hid (permIn_trans _ _ _ a' b' HP1.out (reverseRange_holds d1 a' b' hab' hb1))
                clear hc hb1
                go_wp2_with (go_at_call 108; refine (HC.out).mono ?_; rintro e w3 ⟨⟨u, rfl⟩, hw3⟩)
                go_meet
                case rel => exact ⟨b' - 1 - (p - a'), 1, _, by congr 1; omega, rfl, by omega, by omega, by omega, hpr.out, HS2.out.then_ hw3⟩
              · have hkz : ¬ ((k : Int) = 2) := by omega
                go_wp2_with fail
                go_meet
                case rel => exact ⟨p, k, d1, rfl, rfl, hpa, hpb, by omega, HP1.out, HS2.out⟩
            case rest =>
              obtain ⟨p', k', d2, rfl, rfl, hpa', hpb', hk2', hp2, hst2⟩ := hcut
              have hz2 : d2.size = n := hp2.1.trans Hds.out
              have HP2 := Lib.hid hp2
              have HS3 := Lib.hid hst2
              have Hz2 := Lib.hid hz2
              clear hp2 hst2 hz2 HP1 HS1 Hz1 HS2
              go_upto_region 15 with fail
              go_cut [68] from 19 (fun s68 wx => (∃ t : Bool, s68 = .bool t) ∧ wx = wc)
              case first =>
                cases wb <;> cases wp <;>
                  (go_wp2_with fail
                   go_meet
                   exact ⟨⟨_, rfl⟩, rfl⟩)
              case rest =>
                obtain ⟨⟨t, rfl⟩, rfl⟩ := hcut
                go_upto_if 68 with fail
                go_cut [] from 19 (fun wx => ∃ d3, PermIn a' b' dk d3 ∧ StU w wx blk off m d3)
                case first =>
                  cases t
                  · go_wp2_with fail
                    go_meet
                    case rel => exact ⟨d2, HP2.out, HS3.out⟩
                  · have hb2 : b' ≤ d2.size := by have := Hz2.out; omega
                    obtain ⟨d3, t2, hx⟩ : ∃ d3 t2, partialInsertionSort ltInt d2 a' b' = (d3, t2) := ⟨_, _, rfl⟩
                    have hc := hpins blk off m cap a' b' d2 _ HS3.out.row (by omega) hb2 (by have := Hz2.out; omega)
                    have hpi := partialInsertionSort_holds swo_ltInt d2 a' b' (by omega) hb2 (Go.Sort.Below.perm HB.out hbd HP2.out)
                    unfold slU at hc
                    rw [Hz2.out, hx] at hc
                    rw [hx] at hpi
                    have HC := Lib.hid hc
                    have HPI := Lib.hid hpi
                    clear hc hpi hx hb2
                    cases t2
                    · go_wp2_with (go_at_call 109; refine (HC.out).mono ?_; rintro e w4 ⟨rfl, hw4⟩)
                      go_meet
                      case rel => exact ⟨d3, permIn_trans _ _ _ a' b' HP2.out HPI.out.1, HS3.out.then_ hw4⟩
                    · go_wp2_with (go_at_call 109; refine (HC.out).mono ?_; rintro e w4 ⟨rfl, hw4⟩)
                      (try simp only [Exit.inBlock, Exit.then])
                      refine bodyPost_ret (results_none rfl _ _ _) rfl ?_
                      have hf := HF.out d3 (permIn_trans _ _ _ a' b' HP2.out HPI.out.1) (by have h9 := HPI.out.2; simpa using h9)
                      exact ⟨⟨_, rfl⟩, d3, hf.1, hf.2, HS3.out.then_ hw4⟩
                case rest =>
                  obtain ⟨d3, hp3, hst3⟩ := hcut
                  have hz3 : d3.size = n := hp3.1.trans Hds.out
                  have HP3 := Lib.hid hp3
                  have HS4 := Lib.hid hst3
                  have Hz3 := Lib.hid hz3
                  have HB3 := Lib.hid (Go.Sort.Below.perm HB.out hbd hp3)
                  clear hp3 hst3 hz3 HP2 HS3 Hz2
                  obtain ⟨G, hG⟩ : ∃ G : Nat → Int, ∀ t, G t = d3[t]! := ⟨fun t => d3[t]!, fun _ => rfl⟩
                  have HG := Lib.hid hG
                  clear hG
                  have hcw : ∀ t, t < n → wc.cell? ⟨blk, off + t, none⟩ = some (.int .u64 (G t)) := fun t ht => by rw [HG.out]; exact HS4.out.row.cell (by have := Hz3.out; omega)
                  have hfw : ∀ t, t < n → wc.frozen? ⟨blk, off + t, none⟩ = false := fun t _ => HS4.out.row.frozen t
                  go_upto_region 17 with fail
                  go_cut [87] from 19 (fun s87 wx => (∃ t : Bool, s87 = .bool t ∧ (t = true → 0 < a' ∧ ltInt (G (a' - 1)) (G p') = false)) ∧ StU w wx blk off m d3)
                  case first =>
                    rcases Nat.eq_zero_or_pos a' with ha0 | ha0
                    · have ha0z : decide ((a' : Int) > 0) = false := decide_eq_false (by omega)
                      go_big_quiet (first | (go_at_call 110; refine Calls.quiet_of_same (hless _ _ _)))
                      go_wp2_with fail
                      go_meet
                      case rel => exact ⟨⟨false, rfl, fun h => by cases h⟩, HS4.out.drewN nq⟩
                    · have ha0z : (a' : Int) > 0 := by omega
                      go_big_quiet (first | (go_at_call 110; refine Calls.quiet_of_same (hless _ _ _)))
                      go_wp2_with fail
                      go_meet
                      case rel => exact ⟨⟨!ltInt (G (a' - 1)) (G p'), rfl, fun h => ⟨ha0, by simpa using h⟩⟩, HS4.out.drewN nq⟩
                  case rest =>
                    obtain ⟨⟨t, rfl, ht⟩, hst4⟩ := hcut
                    have HT := Lib.hid ht
                    have HS5 := Lib.hid hst4
                    have hb3 : b' ≤ d3.size := by have := Hz3.out; omega
                    have hz3' : d3.size ≤ 1000000 := by have := Hz3.out; omega
                    have HB3' := Lib.hid hb3
                    clear ht hst4 hcw hfw HS4 HS
                    cases t
                    · obtain ⟨mid, ap, d4, hx⟩ : ∃ mid ap d4, partition ltInt d3 a' b' p' = (mid, ap, d4) := ⟨_, _, _, rfl⟩
                      obtain ⟨g1, g2, hs4, hBa, hBr, hleft, hright⟩ := round_part swo_ltInt (partition_holds _) hpa' hpb' hb3 HB3.out hx
                      have hc := hpart blk off m cap a' b' p' d3 _ HS5.out.row hpa' hpb' hb3 hz3'
                      unfold slU at hc
                      rw [Hz3.out, hx] at hc
                      have HC := Lib.hid hc
                      have hz4 : d4.size = n := hs4.trans Hz3.out
                      have Hz4 := Lib.hid hz4
                      have HBa := Lib.hid hBa
                      have HBr := Lib.hid hBr
                      have HLf := Lib.hid hleft
                      have HRt := Lib.hid hright
                      clear hc hx hz3' hb3 hs4 hz4 hBa hBr hleft hright
                      by_cases hlt : mid - a' < b' - mid
                      · have hltz : decide ((mid : Int) - (a' : Int) < (b' : Int) - (mid : Int)) = true := decide_eq_true (by omega)
                        go_wp2_with (go_at_call 112; refine (HC.out).mono ?_; rintro e w5 ⟨rfl, hw5⟩)
                        have HS6 := Lib.hid (HS5.out.then_ hw5)
                        have hr := IH.out blk off m cap a' mid lim1 d4 _ (by omega) HS6.out.row g1 (by have := Hz4.out; omega) (by have := Hz4.out; omega) hlim1 HBa.out
                        unfold slU at hr
                        rw [Hz4.out] at hr
                        have HR := Lib.hid hr
                        clear hr hw5 HC
                        go_wp2_with (go_at_call 99; refine (HR.out).mono ?_; rintro e w6 ⟨⟨u, rfl⟩, d5, q1, q2, q3⟩)
                        obtain ⟨hBL, hfin⟩ := HLf.out d5 q1 q2
                        have hz5 : d5.size = n := q1.1.trans Hz4.out
                        go_roundw
                        case rel => exact ⟨mid + 1, b', lim1, _, _, d5, by go_num, rfl, rfl, rfl, rfl, by omega, hb', by omega, hlim1, hz5, hBL, HS6.out.then_ q3, fun R h1 h2 => HF.out R (permIn_trans _ _ _ a' b' HP3.out (hfin R h1 h2).1) (hfin R h1 h2).2⟩
                        case measure => simp [intOf]; omega
                      · have hltz : decide ((mid : Int) - (a' : Int) < (b' : Int) - (mid : Int)) = false := decide_eq_false (by omega)
                        go_wp2_with (go_at_call 112; refine (HC.out).mono ?_; rintro e w5 ⟨rfl, hw5⟩)
                        have hm1 : (mid : Int) + 1 = ((mid + 1 : Nat) : Int) := by omega
                        have HS6 := Lib.hid (HS5.out.then_ hw5)
                        have hr := IH.out blk off m cap (mid + 1) b' lim1 d4 _ (by omega) HS6.out.row (by omega) (by have := Hz4.out; omega) (by have := Hz4.out; omega) hlim1 HBr.out
                        unfold slU at hr
                        rw [Hz4.out, ← hm1] at hr
                        have HR := Lib.hid hr
                        clear hr hw5 HC
                        go_wp2_with (go_at_call 99; refine (HR.out).mono ?_; rintro e w6 ⟨⟨u, rfl⟩, d5, q1, q2, q3⟩)
                        obtain ⟨hBL, hfin⟩ := HRt.out d5 q1 q2
                        have hz5 : d5.size = n := q1.1.trans Hz4.out
                        go_roundw
                        case rel => exact ⟨a', mid, lim1, _, _, d5, rfl, rfl, rfl, rfl, rfl, g1, by omega, by omega, hlim1, hz5, hBL, HS6.out.then_ q3, fun R h1 h2 => HF.out R (permIn_trans _ _ _ a' b' HP3.out (hfin R h1 h2).1) (hfin R h1 h2).2⟩
                        case measure => simp [intOf]; omega
                    · obtain ⟨mid, d4, hx⟩ : ∃ mid d4, partitionEqual ltInt d3 a' b' p' = (mid, d4) := ⟨_, _, rfl⟩
                      obtain ⟨ha0, hnl⟩ := HT.out rfl
                      rw [HG.out, HG.out] at hnl
                      obtain ⟨g1, g2, hs4, hB4, hfin⟩ := round_eq swo_ltInt (partitionEqual_holds _) ha0 hpa' hpb' hb3 HB3.out hnl hx
                      have hc := hpartEq blk off m cap a' b' p' d3 _ HS5.out.row hpa' hpb' hb3 hz3'
                      unfold slU at hc
                      rw [Hz3.out, hx] at hc
                      have HC := Lib.hid hc
                      have Hz4 := Lib.hid (hs4.trans Hz3.out)
                      have HB4 := Lib.hid hB4
                      have HFn := Lib.hid hfin
                      clear hc hx hz3' hb3 hs4 hB4 hfin hnl
                      go_wp2_with (go_at_call 111; refine (HC.out).mono ?_; rintro e w5 ⟨rfl, hw5⟩)
                      go_roundw
                      case rel => exact ⟨mid, b', lim1, _, _, d4, rfl, rfl, rfl, rfl, rfl, g2, hb', by omega, hlim1, Hz4.out, HB4.out, HS5.out.then_ hw5, fun R h1 h2 => HF.out R (permIn_trans _ _ _ a' b' HP3.out (HFn.out R h1 h2).1) (HFn.out R h1 h2).2⟩
                      case measure => simp [intOf]; omega
end Go.Proofs.YtboeiadfmknidaaGreat
