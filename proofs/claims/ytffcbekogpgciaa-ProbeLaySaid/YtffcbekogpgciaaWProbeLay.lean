
/-
  ProbeLay: the lay of any keys, some of them removed again: walked.
-/
import Derived.Test.YtffcbekogpgciaaPrArgs
import Derived.BigQuiet
import Derived.Deep.RegionHeld3
import Derived.Deep.CutBlock
import Derived.Deep.CutRange
import Derived.Deep.DeepCutAuto
set_option linter.unusedVariables false
set_option linter.unusedSimpArgs false
namespace Go.Proofs.Ytffcbekogpgciaa.Pr
open Go Go.RowKit

theorem and_pow (n j : Nat) (h : n = 8 * 2 ^ j) (hn : n < 4294967296) : bits .and .i64 (n : Int) ((n : Int) - 1) = 0 := by
  have h0 : 0 < n := by have := Nat.two_pow_pos j; omega
  rw [show (n : Int) - 1 = ((n - 1 : Nat) : Int) by omega]
  have e : n &&& (n - 1) = 0 := by
    have h2 : n = 2 ^ (j + 3) := by rw [h, Nat.pow_add, Nat.mul_comm]
    rw [h2, Nat.and_two_pow_sub_one_eq_mod, Nat.mod_self]
  have e2 : (BitVec.ofInt 64 (n : Int) &&& BitVec.ofInt 64 ((n - 1 : Nat) : Int)).toNat = 0 := by
    rw [BitVec.ofInt_natCast, BitVec.ofInt_natCast, BitVec.toNat_and, BitVec.toNat_ofNat, BitVec.toNat_ofNat, Nat.mod_eq_of_lt (by omega), Nat.mod_eq_of_lt (by omega), e]
  show IntKind.i64.wrap (((BitVec.ofInt 64 (n : Int) &&& BitVec.ofInt 64 ((n - 1 : Nat) : Int)).toNat : Nat) : Int) = 0
  rw [e2]
  rfl
/-- how many of the first slots are used -/
def usedN (sl : List (Option E)) (i : Nat) : Nat := (kn (sl.take i)).length
theorem usedN_none {sl : List (Option E)} {i : Nat} (h : sl[i]? = some none) : usedN sl (i + 1) = usedN sl i := by
  unfold usedN
  rw [List.take_add_one, h]
  simp [kn]
theorem usedN_some {sl : List (Option E)} {i : Nat} {e : E} (h : sl[i]? = some (some e)) : usedN sl (i + 1) = usedN sl i + 1 := by
  unfold usedN
  rw [List.take_add_one, h]
  simp [kn]
theorem usedN_all {sl : List (Option E)} : usedN sl sl.length = (kn sl).length := by unfold usedN; rw [List.take_length]
theorem usedN_le (sl : List (Option E)) (i : Nat) : usedN sl i ≤ sl.length := by
  unfold usedN kn
  refine Nat.le_trans (List.length_filterMap_le ..) ?_
  rw [List.length_take]
  omega
theorem dist_far {h f n a : Nat} (hh : h < n) (hf : f < n) (ha : a < n) (e : (h + f) % n = a % n) : ((a : Int) - (h : Int) + (n : Int)) % (n : Int) = (f : Int) := by
  rw [Nat.mod_eq_of_lt ha] at e
  rcases Nat.lt_or_ge (h + f) n with c | c
  · rw [Nat.mod_eq_of_lt c] at e
    rw [show (a : Int) - (h : Int) + (n : Int) = (f : Int) + (n : Int) by omega, Int.add_emod_right]
    exact Int.emod_eq_of_lt (by omega) (by omega)
  · have : (h + f) % n = h + f - n := by rw [Nat.mod_eq_sub_mod c, Nat.mod_eq_of_lt (by omega)]
    rw [show (a : Int) - (h : Int) + (n : Int) = (f : Int) by omega]
    exact Int.emod_eq_of_lt (by omega) (by omega)

set_option maxRecDepth 100000 in
set_option maxHeartbeats 8000000 in
theorem lay_walk (seed : Nat) (v1 : Value) (l1 : List (List UInt8)) (a2 : Nat) (w : World) (hs : seed < 18446744073709551616) (hl1 : Rows14 w w.heap.size v1 l1) (h2 : a2 < 256) :
    Calls Try.prog 5 #[.int .u64 (seed : Int), v1, .int .u8 (a2 : Int)] w fun e w' => e = .returned (.bool true) ∧ Below w.heap.size w w' := by
  obtain ⟨A1, c1, rfl, hlc, hcm, hrow⟩ := hl1
  have HRow := Lib.hid hrow
  have hlm : l1.length ≤ 9223372036854775807 := by unfold maxLen at hcm; omega
  clear hrow
  go_enter Try.func5, Try.ntmps5
  go_wp2_with fail
  refine (live_new seed w hs w.heap.size (Nat.le_refl _)).mono ?_
  rintro e w1 ⟨T, rfl, hp, hb⟩
  have HP := Lib.hid hp
  have HB := Lib.hid hb
  have e0 : (PT.new seed).prs = [] := kn_none 8
  have E0 := Lib.hid e0
  clear hp hb e0
  have HS0 : Hid ((PT.new seed).prs.length ≤ 0 ∧ (PT.new seed).seed = seed ∧ PLive w.heap.size w1 T (PT.new seed) ∧ Below w.heap.size w w1) := Lib.hid ⟨by rw [E0.out]; exact Nat.le_refl _, rfl, HP.out, HB.out⟩
  generalize PT.new seed = s0 at *
  clear HP HB E0
  go_upto_block 0 with fail
  go_cut [8] from 24 to 48 (fun x wx => ∃ s : PT, Hid (s.prs.length ≤ 100 ∧ s.seed = seed ∧ PLive w.heap.size wx T s ∧ Below w.heap.size w wx))
  case first =>
    go_wp2_with fail
    go_loopw [8] (fun ix wr => ∃ (i : Nat) (s : PT), ix = .int .i64 (i : Int) ∧ i ≤ l1.length ∧ i ≤ 100 ∧ Hid (s.prs.length ≤ i ∧ s.seed = seed ∧ PLive w.heap.size wr T s ∧ Below w.heap.size w wr)) (fun ix _ => l1.length - (intOf ix).toNat)
    case atStart => exact ⟨0, s0, rfl, Nat.zero_le _, by omega, HS0⟩
    case round =>
      clear HS0
      obtain ⟨i, s, rfl, hil, hi, HI⟩ := hrel
      rename World => wr
      obtain ⟨hlen, hsd, hlive, hbl⟩ := HI.out
      have HLen := Lib.hid hlen
      have HSd := Lib.hid hsd
      have HLive := Lib.hid hlive
      have HBl := Lib.hid hbl
      clear hlen hsd hlive hbl HI
      by_cases hlt : i < l1.length ∧ i < 100
      · obtain ⟨hlt1, hlt2⟩ := hlt
        have j0 : (i : Int) < (l1.length : Int) := by omega
        have j1 : (i : Int) < 100 := by omega
        have hw64 : IntKind.u64.wrap (i : Int) = (i : Int) := IntWalk.u64_in _ (by omega)
        obtain ⟨k, hk⟩ : ∃ k, l1[i]? = some k := ⟨_, List.getElem?_eq_getElem (by omega)⟩
        obtain ⟨b, o, rfl, hbB, kv, hkv, hkb, hkm⟩ := HRow.out i k hk
        obtain ⟨Ak, ck, rfl, hkc, hkr⟩ := hkb
        obtain ⟨q, hq⟩ : ∃ q, q = min k.length 64 := ⟨_, rfl⟩
        obtain ⟨A', c', hcut, hqc, hcr⟩ := kcut_h Ak k.length ck q (by omega) hkc
        have hmn : min (k.length : Int) 64 = (q : Int) := by omega
        have hmn2 : min (64 : Int) (k.length : Int) = (q : Int) := by omega
        have hql : (k.take q).length = q := by rw [List.length_take]; omega
        have hq64 : q ≤ 64 := by omega
        have hkm2 : k.length ≤ 9223372036854775807 := hkm
        have HQl := Lib.hid hql
        have HKb : Hid (∀ V, Below w.heap.size w V → Bs V w.heap.size (.slice A' q c') (k.take q)) := Lib.hid (fun V hV => ⟨A', c', by rw [hql], by rw [hql]; exact hqc, hcr V w.heap.size k rfl (hkr.below hV (Nat.le_refl _))⟩)
        have HKP : Hid (∀ V, Below w.heap.size w V → V.cell? ⟨b, o + i, none⟩ = some (.slice Ak k.length ck)) := Lib.hid (fun V hV => (hV.cell (p := ⟨b, o + i, none⟩) hbB).trans hkv)
        clear hk hkr hcr hkv hkm hq hql
        go_wp2_with fail
        refine wp_region_noPanic ?_
        have hb0 : Below w.heap.size w wr.drew := HBl.out.drew
        refine wp_region_held_drew (S := fun V : World => V.cell? ⟨b, o + i, none⟩ = some (.slice Ak k.length ck)) (by kernel_rfl) (HKP.out _ hb0) (fun hHeld => ?_)
        have HLv := Lib.hid (HLive.out.on (Below.refl wr.heap.size wr).drew)
        generalize World.drew wr = V0 at *
        refine wpAnyH_take (i := 0) (v := ?_) opAt_0 (by kernel_rfl) (by kernel_rfl) (by kernel_rfl) (fun _ _ _ h => h) (Or.inl ⟨by rfl, ?_⟩) (by assumption) ?_
        rotate_left
        · (intro w hSw; have hc1 := hSw; go_simp; try with_reducible rfl)
        (try simp only [Act.put, List.setIfInBounds_toArray]); (try dsimp only [List.set_cons_zero, List.set_cons_succ])
        refine wpAnyH_take (i := 1) (v := ?_) opAt_1 (by kernel_rfl) (by kernel_rfl) (by kernel_rfl) (fun _ _ _ h => h) (Or.inl ⟨by rfl, ?_⟩) (by assumption) ?_
        rotate_left
        · (intro w hSw; have hc1 := hSw; go_simp; try with_reducible rfl)
        (try simp only [Act.put, List.setIfInBounds_toArray]); (try dsimp only [List.set_cons_zero, List.set_cons_succ])
        refine wpAnyH_take (i := 2) (v := ?_) opAt_2 (by kernel_rfl) (by kernel_rfl) (by kernel_rfl) (fun _ _ _ h => h) (Or.inl ⟨by rfl, ?_⟩) (by assumption) ?_
        rotate_left
        · (intro w hSw; have hc1 := hSw; go_simp; try with_reducible rfl)
        (try simp only [Act.put, List.setIfInBounds_toArray]); (try dsimp only [List.set_cons_zero, List.set_cons_succ])
        refine wpAnyH_take (i := 3) (v := ?_) opAt_3 (by kernel_rfl) (by kernel_rfl) (by kernel_rfl) (fun _ _ _ h => h) (Or.inl ⟨by rfl, ?_⟩) (by assumption) ?_
        rotate_left
        · (intro w hSw; have hc1 := hSw; go_simp; try with_reducible rfl)
        (try simp only [Act.put, List.setIfInBounds_toArray]); (try dsimp only [List.set_cons_zero, List.set_cons_succ])
        refine wpAnyH_take (i := 4) (v := ?_) opAt_4 (by kernel_rfl) (by kernel_rfl) (by kernel_rfl) (fun _ _ _ h => h) (Or.inl ⟨by rfl, ?_⟩) (by assumption) ?_
        rotate_left
        · (intro w hSw; have hc1 := hSw; go_simp; try with_reducible rfl)
        (try simp only [Act.put, List.setIfInBounds_toArray]); (try dsimp only [List.set_cons_zero, List.set_cons_succ])
        refine wpAnyH_take (i := 5) (v := ?_) opAt_5 (by kernel_rfl) (by kernel_rfl) (by kernel_rfl) (fun _ _ _ h => h) (Or.inl ⟨by rfl, ?_⟩) (by assumption) ?_
        rotate_left
        · (intro w hSw; have hc1 := hSw; go_simp; try with_reducible rfl)
        (try simp only [Act.put, List.setIfInBounds_toArray]); (try dsimp only [List.set_cons_zero, List.set_cons_succ])
        refine wpAnyH_take (i := 6) (v := ?_) opAt_6 (by kernel_rfl) (by kernel_rfl) (by kernel_rfl) (fun _ _ _ h => h) (Or.inl ⟨by rfl, ?_⟩) (by assumption) ?_
        rotate_left
        · (intro w hSw; have hc1 := hSw; go_simp; try with_reducible rfl)
        (try simp only [Act.put, List.setIfInBounds_toArray]); (try dsimp only [List.set_cons_zero, List.set_cons_succ])
        refine wpAnyH_take (i := 7) (v := ?_) opAt_7 (by kernel_rfl) (by kernel_rfl) (by kernel_rfl) (fun _ _ _ h => h) (Or.inl ⟨by rfl, ?_⟩) (by assumption) ?_
        rotate_left
        · (intro w hSw; have hc1 := hSw; go_simp; try with_reducible rfl)
        (try simp only [Act.put, List.setIfInBounds_toArray]); (try dsimp only [List.set_cons_zero, List.set_cons_succ])
        refine wpAnyH_take (i := 8) (v := ?_) opAt_8 (by kernel_rfl) (by kernel_rfl) (by kernel_rfl) (fun _ _ _ h => h) (Or.inl ⟨by rfl, ?_⟩) (by assumption) ?_
        rotate_left
        · (intro w hSw; have hc1 := hSw; go_simp; try with_reducible rfl)
        (try simp only [Act.put, List.setIfInBounds_toArray]); (try dsimp only [List.set_cons_zero, List.set_cons_succ])
        refine wpAnyH_take (i := 9) (v := ?_) opAt_9 (by kernel_rfl) (by kernel_rfl) (by kernel_rfl) (fun _ _ _ h => h) (Or.inl ⟨by rfl, ?_⟩) (by assumption) ?_
        rotate_left
        · (intro w hSw; have hc1 := hSw; go_simp; try with_reducible rfl)
        (try simp only [Act.put, List.setIfInBounds_toArray]); (try dsimp only [List.set_cons_zero, List.set_cons_succ])
        refine wpAnyH_take (i := 10) (v := ?_) opAt_10 (by kernel_rfl) (by kernel_rfl) (by kernel_rfl) (fun _ _ _ h => h) (Or.inl ⟨by rfl, ?_⟩) (by assumption) ?_
        rotate_left
        · (intro w hSw; have hc1 := hSw; go_simp; try with_reducible rfl)
        (try simp only [Act.put, List.setIfInBounds_toArray]); (try dsimp only [List.set_cons_zero, List.set_cons_succ])
        refine wpAnyH_take (i := 11) (v := ?_) opAt_11 (by kernel_rfl) (by kernel_rfl) (by kernel_rfl) (fun _ _ _ h => h) (Or.inl ⟨by rfl, ?_⟩) (by assumption) ?_
        rotate_left
        · (intro w hSw; have hc1 := hSw; go_simp; try with_reducible rfl)
        (try simp only [Act.put, List.setIfInBounds_toArray]); (try dsimp only [List.set_cons_zero, List.set_cons_succ])
        refine wpAnyH_take (i := 12) (v := ?_) opAt_12 (by kernel_rfl) (by kernel_rfl) (by kernel_rfl) (fun _ _ _ h => h) (Or.inl ⟨by rfl, ?_⟩) (by assumption) ?_
        rotate_left
        · (intro w hSw; have hc1 := hSw; go_simp; try with_reducible rfl)
        (try simp only [Act.put, List.setIfInBounds_toArray]); (try dsimp only [List.set_cons_zero, List.set_cons_succ])
        refine wpAnyH_take (i := 13) (v := ?_) opAt_13 (by kernel_rfl) (by kernel_rfl) (by kernel_rfl) (fun _ _ _ h => h) (Or.inl ⟨by rfl, ?_⟩) (by assumption) ?_
        rotate_left
        · (intro w hSw; have hc1 := hSw; go_simp; try with_reducible rfl)
        (try simp only [Act.put, List.setIfInBounds_toArray]); (try dsimp only [List.set_cons_zero, List.set_cons_succ])
        refine wpAnyH_ready (rs := [14]) (by kernel_rfl) (by simp) ?_
        refine AllReadyH.cons rfl (fun K hK => ?_) AllReadyH.nil
        go_simp
        refine (set_any HLv.out (Below.refl _ _) hb0.size _ (k.take q) ((HKb.out _ hb0).mono hb0.size) (by have := HQl.out; omega) i (by omega) (by have := HLen.out; omega) (fun hz b hb => .inl (Bs.blk (HKb.out _ hb0) hz b hb))).mono ?_
        rintro e V1 ⟨r, s', rfl, hr, hs1, hl3, hb3⟩
        have hb1 : Below w.heap.size w V1 := hb0.trans hb3
        go_wp2_with fail
        refine hK.out _ _ (HKP.out _ hb1) (fun hHeld => ?_)
        clear hK K
        (try simp only [Act.put, List.setIfInBounds_toArray]); (try dsimp only [List.set_cons_zero, List.set_cons_succ])
        refine wpAnyH_done (by kernel_rfl) ?_ _
        refine NoPanic.normal ?_
        have hlen' : s'.prs.length ≤ i + 1 := by
          have := HLen.out
          rcases hr with ⟨_, _, hp⟩ | ⟨_, _, rfl⟩
          · have := set_len hp; omega
          · omega
        have HS' := Lib.hid (And.intro hlen' (And.intro (hs1.trans HSd.out) (And.intro hl3 hb1)))
        clear hr hs1 hl3 hb3 hlen'
        go_wp2_with fail
        go_roundw
        case rel => exact ⟨i + 1, s', by go_num, by omega, by omega, HS'⟩
        case measure => simp [intOf]; omega
      · have HE := Lib.hid (show s.prs.length ≤ 100 by have := HLen.out; omega)
        rcases Nat.lt_or_ge i l1.length with hq | hq
        · have j0 : (i : Int) < (l1.length : Int) := by omega
          have j1 : ¬ (i : Int) < 100 := by omega
          have j2 : decide ((i : Int) < 100) = false := by simpa using j1
          go_wp2_with fail
          go_meet
          case rel => exact ⟨s, Lib.hid ⟨HE.out, HSd.out, HLive.out, HBl.out⟩⟩
        · have j0 : ¬ (i : Int) < (l1.length : Int) := by omega
          have j1 : decide ((i : Int) < (l1.length : Int)) = false := by simpa using j0
          go_wp2_with fail
          go_meet
          case rel => exact ⟨s, Lib.hid ⟨HE.out, HSd.out, HLive.out, HBl.out⟩⟩
  case rest =>
    clear HS0
    generalize wc = wA at *
    obtain ⟨s0, HS0⟩ := hcut
    obtain ⟨m, hm⟩ : ∃ m, a2 % 100 = m := ⟨_, rfl⟩
    have jm : (a2 : Int) % 100 = (m : Int) := by omega
    have hm9 : m < 100 := by omega
    clear hm
    go_upto_block 2 with fail
    go_cut [9] from 49 to 74 (fun x wx => ∃ s : PT, Hid (s.prs.length ≤ 100 ∧ s.seed = seed ∧ PLive w.heap.size wx T s ∧ Below w.heap.size w wx))
    case first =>
      go_wp2_with fail
      go_loopw [9] (fun ix wr => ∃ (i : Nat) (s : PT), ix = .int .i64 (i : Int) ∧ i ≤ l1.length ∧ i ≤ 100 ∧ Hid (s.prs.length ≤ 100 ∧ s.seed = seed ∧ PLive w.heap.size wr T s ∧ Below w.heap.size w wr)) (fun ix _ => l1.length - (intOf ix).toNat)
      case atStart => exact ⟨0, s0, rfl, Nat.zero_le _, by omega, HS0⟩
      case round =>
        clear HS0
        obtain ⟨i, s, rfl, hil, hi, HI⟩ := hrel
        rename World => wr
        obtain ⟨hlen, hsd, hlive, hbl⟩ := HI.out
        have HLen := Lib.hid hlen
        have HSd := Lib.hid hsd
        have HLive := Lib.hid hlive
        have HBl := Lib.hid hbl
        clear hlen hsd hlive hbl HI
        by_cases hlt : i < l1.length ∧ i < m
        · obtain ⟨hlt1, hlt2⟩ := hlt
          have j0 : (i : Int) < (l1.length : Int) := by omega
          have j1 : i < m := by omega
          have hw64 : IntKind.u64.wrap (i : Int) = (i : Int) := IntWalk.u64_in _ (by omega)
          obtain ⟨k, hk⟩ : ∃ k, l1[i]? = some k := ⟨_, List.getElem?_eq_getElem (by omega)⟩
          obtain ⟨b, o, rfl, hbB, kv, hkv, hkb, hkm⟩ := HRow.out i k hk
          obtain ⟨Ak, ck, rfl, hkc, hkr⟩ := hkb
          obtain ⟨q, hq⟩ : ∃ q, q = min k.length 64 := ⟨_, rfl⟩
          obtain ⟨A', c', hcut, hqc, hcr⟩ := kcut_h Ak k.length ck q (by omega) hkc
          have hmn : min (k.length : Int) 64 = (q : Int) := by omega
          have hmn2 : min (64 : Int) (k.length : Int) = (q : Int) := by omega
          have hql : (k.take q).length = q := by rw [List.length_take]; omega
          have hq64 : q ≤ 64 := by omega
          have hkm2 : k.length ≤ 9223372036854775807 := hkm
          have HQl := Lib.hid hql
          have HKb : Hid (∀ V, Below w.heap.size w V → Bs V w.heap.size (.slice A' q c') (k.take q)) := Lib.hid (fun V hV => ⟨A', c', by rw [hql], by rw [hql]; exact hqc, hcr V w.heap.size k rfl (hkr.below hV (Nat.le_refl _))⟩)
          have HKP : Hid (∀ V, Below w.heap.size w V → V.cell? ⟨b, o + i, none⟩ = some (.slice Ak k.length ck)) := Lib.hid (fun V hV => (hV.cell (p := ⟨b, o + i, none⟩) hbB).trans hkv)
          clear hk hkr hcr hkv hkm hq hql
          go_wp2_with fail
          refine wp_region_noPanic ?_
          have hb0 : Below w.heap.size w wr.drew := HBl.out.drew
          refine wp_region_held_drew (S := fun V : World => V.cell? ⟨b, o + i, none⟩ = some (.slice Ak k.length ck)) (by kernel_rfl) (HKP.out _ hb0) (fun hHeld => ?_)
          have HLv := Lib.hid (HLive.out.on (Below.refl wr.heap.size wr).drew)
          generalize World.drew wr = V0 at *
          refine wpAnyH_take (i := 0) (v := ?_) opAt_0 (by kernel_rfl) (by kernel_rfl) (by kernel_rfl) (fun _ _ _ h => h) (Or.inl ⟨by rfl, ?_⟩) (by assumption) ?_
          rotate_left
          · (intro w hSw; have hc1 := hSw; go_simp; try with_reducible rfl)
          (try simp only [Act.put, List.setIfInBounds_toArray]); (try dsimp only [List.set_cons_zero, List.set_cons_succ])
          refine wpAnyH_take (i := 1) (v := ?_) opAt_1 (by kernel_rfl) (by kernel_rfl) (by kernel_rfl) (fun _ _ _ h => h) (Or.inl ⟨by rfl, ?_⟩) (by assumption) ?_
          rotate_left
          · (intro w hSw; have hc1 := hSw; go_simp; try with_reducible rfl)
          (try simp only [Act.put, List.setIfInBounds_toArray]); (try dsimp only [List.set_cons_zero, List.set_cons_succ])
          refine wpAnyH_take (i := 2) (v := ?_) opAt_2 (by kernel_rfl) (by kernel_rfl) (by kernel_rfl) (fun _ _ _ h => h) (Or.inl ⟨by rfl, ?_⟩) (by assumption) ?_
          rotate_left
          · (intro w hSw; have hc1 := hSw; go_simp; try with_reducible rfl)
          (try simp only [Act.put, List.setIfInBounds_toArray]); (try dsimp only [List.set_cons_zero, List.set_cons_succ])
          refine wpAnyH_take (i := 3) (v := ?_) opAt_3 (by kernel_rfl) (by kernel_rfl) (by kernel_rfl) (fun _ _ _ h => h) (Or.inl ⟨by rfl, ?_⟩) (by assumption) ?_
          rotate_left
          · (intro w hSw; have hc1 := hSw; go_simp; try with_reducible rfl)
          (try simp only [Act.put, List.setIfInBounds_toArray]); (try dsimp only [List.set_cons_zero, List.set_cons_succ])
          refine wpAnyH_take (i := 4) (v := ?_) opAt_4 (by kernel_rfl) (by kernel_rfl) (by kernel_rfl) (fun _ _ _ h => h) (Or.inl ⟨by rfl, ?_⟩) (by assumption) ?_
          rotate_left
          · (intro w hSw; have hc1 := hSw; go_simp; try with_reducible rfl)
          (try simp only [Act.put, List.setIfInBounds_toArray]); (try dsimp only [List.set_cons_zero, List.set_cons_succ])
          refine wpAnyH_take (i := 5) (v := ?_) opAt_5 (by kernel_rfl) (by kernel_rfl) (by kernel_rfl) (fun _ _ _ h => h) (Or.inl ⟨by rfl, ?_⟩) (by assumption) ?_
          rotate_left
          · (intro w hSw; have hc1 := hSw; go_simp; try with_reducible rfl)
          (try simp only [Act.put, List.setIfInBounds_toArray]); (try dsimp only [List.set_cons_zero, List.set_cons_succ])
          refine wpAnyH_take (i := 6) (v := ?_) opAt_6 (by kernel_rfl) (by kernel_rfl) (by kernel_rfl) (fun _ _ _ h => h) (Or.inl ⟨by rfl, ?_⟩) (by assumption) ?_
          rotate_left
          · (intro w hSw; have hc1 := hSw; go_simp; try with_reducible rfl)
          (try simp only [Act.put, List.setIfInBounds_toArray]); (try dsimp only [List.set_cons_zero, List.set_cons_succ])
          refine wpAnyH_take (i := 7) (v := ?_) opAt_7 (by kernel_rfl) (by kernel_rfl) (by kernel_rfl) (fun _ _ _ h => h) (Or.inl ⟨by rfl, ?_⟩) (by assumption) ?_
          rotate_left
          · (intro w hSw; have hc1 := hSw; go_simp; try with_reducible rfl)
          (try simp only [Act.put, List.setIfInBounds_toArray]); (try dsimp only [List.set_cons_zero, List.set_cons_succ])
          refine wpAnyH_take (i := 8) (v := ?_) opAt_8 (by kernel_rfl) (by kernel_rfl) (by kernel_rfl) (fun _ _ _ h => h) (Or.inl ⟨by rfl, ?_⟩) (by assumption) ?_
          rotate_left
          · (intro w hSw; have hc1 := hSw; go_simp; try with_reducible rfl)
          (try simp only [Act.put, List.setIfInBounds_toArray]); (try dsimp only [List.set_cons_zero, List.set_cons_succ])
          refine wpAnyH_take (i := 9) (v := ?_) opAt_9 (by kernel_rfl) (by kernel_rfl) (by kernel_rfl) (fun _ _ _ h => h) (Or.inl ⟨by rfl, ?_⟩) (by assumption) ?_
          rotate_left
          · (intro w hSw; have hc1 := hSw; go_simp; try with_reducible rfl)
          (try simp only [Act.put, List.setIfInBounds_toArray]); (try dsimp only [List.set_cons_zero, List.set_cons_succ])
          refine wpAnyH_take (i := 10) (v := ?_) opAt_10 (by kernel_rfl) (by kernel_rfl) (by kernel_rfl) (fun _ _ _ h => h) (Or.inl ⟨by rfl, ?_⟩) (by assumption) ?_
          rotate_left
          · (intro w hSw; have hc1 := hSw; go_simp; try with_reducible rfl)
          (try simp only [Act.put, List.setIfInBounds_toArray]); (try dsimp only [List.set_cons_zero, List.set_cons_succ])
          refine wpAnyH_take (i := 11) (v := ?_) opAt_11 (by kernel_rfl) (by kernel_rfl) (by kernel_rfl) (fun _ _ _ h => h) (Or.inl ⟨by rfl, ?_⟩) (by assumption) ?_
          rotate_left
          · (intro w hSw; have hc1 := hSw; go_simp; try with_reducible rfl)
          (try simp only [Act.put, List.setIfInBounds_toArray]); (try dsimp only [List.set_cons_zero, List.set_cons_succ])
          refine wpAnyH_ready (rs := [12]) (by kernel_rfl) (by simp) ?_
          refine AllReadyH.cons rfl (fun K hK => ?_) AllReadyH.nil
          go_simp
          refine (rem_any HLv.out (Below.refl _ _) hb0.size _ (k.take q) ((HKb.out _ hb0).mono hb0.size) (by have := HQl.out; omega)).mono ?_
          rintro e V1 ⟨r, s', rfl, hr, hp, hs1, hl3, hb3⟩
          have hb1 : Below w.heap.size w V1 := hb0.trans hb3
          go_wp2_with fail
          refine hK.out _ _ (HKP.out _ hb1) (fun hHeld => ?_)
          clear hK K
          (try simp only [Act.put, List.setIfInBounds_toArray]); (try dsimp only [List.set_cons_zero, List.set_cons_succ])
          refine wpAnyH_done (by kernel_rfl) ?_ _
          refine NoPanic.normal ?_
          have hlen' : s'.prs.length ≤ 100 := by have := HLen.out; have := hp.length_eq; have := remA_len (A := s.prs) (k.take q); omega
          have HS' := Lib.hid (And.intro hlen' (And.intro (hs1.trans HSd.out) (And.intro hl3 hb1)))
          clear hr hp hs1 hl3 hb3 hlen'
          go_wp2_with fail
          go_roundw
          case rel => exact ⟨i + 1, s', by go_num, by omega, by omega, HS'⟩
          case measure => simp [intOf]; omega
        · have HE := Lib.hid (show s.prs.length ≤ 100 by have := HLen.out; omega)
          rcases Nat.lt_or_ge i l1.length with hq | hq
          · have j0 : (i : Int) < (l1.length : Int) := by omega
            have j1 : ¬ i < m := by omega
            have j2 : decide (i < m) = false := by simpa using j1
            go_wp2_with fail
            go_meet
            case rel => exact ⟨s, Lib.hid ⟨HE.out, HSd.out, HLive.out, HBl.out⟩⟩
          · have j0 : ¬ (i : Int) < (l1.length : Int) := by omega
            have j1 : decide ((i : Int) < (l1.length : Int)) = false := by simpa using j0
            go_wp2_with fail
            go_meet
            case rel => exact ⟨s, Lib.hid ⟨HE.out, HSd.out, HLive.out, HBl.out⟩⟩
    case rest =>
      clear HS0
      generalize wc = wB at *
      obtain ⟨s, HS1⟩ := hcut
      obtain ⟨hlen, hsd, hlive, hbl⟩ := HS1.out
      have HOk := Lib.hid hlive.ok
      have HSd := Lib.hid hsd
      have HBl := Lib.hid hbl
      have HLive := Lib.hid hlive
      clear hsd hbl hlive HS1
      go_wp2_with fail
      refine (live_slots HLive.out).mono ?_
      rintro e w5 ⟨g, c', rfl, hg, hsl, hb5⟩
      have HSl := Lib.hid hsl
      have HLv5 := Lib.hid (HLive.out.on hb5)
      have HB5 := Lib.hid (HBl.out.trans (hb5.mono HBl.out.size))
      clear hg hsl hb5
      obtain ⟨n, hn⟩ : ∃ n, s.sl.length = n := ⟨_, rfl⟩
      obtain ⟨kq, hkq⟩ : ∃ kq, s.prs.length = kq := ⟨_, rfl⟩
      have hn8 : 8 ≤ n := by rw [← hn]; exact HOk.out.l8
      have hn9 : n < 4000000 := by rw [← hn]; exact HOk.out.l9
      have hfit : 4 * kq ≤ 3 * n := by rw [← hn, ← hkq, HOk.out.len]; exact room_fits _
      have hleast : 8 < n → 3 * n < 8 * kq := by rw [← hn, ← hkq, HOk.out.len]; exact room_least _
      obtain ⟨jp, hjp⟩ : ∃ j, n = 8 * 2 ^ j := by rw [← hn, HOk.out.len]; exact room_pow _
      have hand := and_pow n jp hjp (by omega)
      have HN := Lib.hid hn
      have HKq := Lib.hid hkq
      have HAnd := Lib.hid hand
      have HLe := Lib.hid hleast
      clear hn hkq hand hleast hjp
      rw [HN.out]
      go_upto_region 14 with fail
      go_cut [108] from 79 to 108 (fun x wx => x = .bool false ∧ w5 = wx)
      case first =>
        have hand := HAnd.out
        have j1 : ¬ (n : Int) < 8 := by omega
        have j2 : ¬ 3 * (n : Int) < 4 * (kq : Int) := by omega
        have hkq9 : kq < 4000000 := by omega
        obtain ⟨t, ht⟩ : ∃ t, 3 * n / 2 = t := ⟨_, rfl⟩
        have jt : 3 * (n : Int) / 2 = (t : Int) := by omega
        have jn0 : (bits .and .i64 (n : Int) ((n : Int) - 1) != 0) = false := by rw [hand]; rfl
        by_cases h8 : 8 < n
        · have j3 : (8 : Int) < (n : Int) := by omega
          have j4 : ¬ 4 * (kq : Int) ≤ (t : Int) := by have := HLe.out h8; omega
          clear ht h8
          go_wp2_with fail
          refine (live_len HLv5.out).mono ?_
          rintro e wx ⟨rfl, rfl⟩
          simp only [HKq.out]
          go_wp2_with fail
          refine (live_len HLv5.out).mono ?_
          rintro e wx ⟨rfl, rfl⟩
          simp only [HKq.out]
          go_wp2_with fail
          go_meet
          case rel => exact ⟨by congr 1; simp only [Bool.or_eq_false_iff, decide_eq_false_iff_not]; omega, rfl⟩
        · have j3 : ¬ (8 : Int) < (n : Int) := by omega
          clear ht h8
          go_wp2_with fail
          refine (live_len HLv5.out).mono ?_
          rintro e wx ⟨rfl, rfl⟩
          simp only [HKq.out]
          go_wp2_with fail
          go_meet
          case rel => exact ⟨by congr 1; simp only [decide_eq_false_iff_not]; omega, rfl⟩
      case rest =>
        obtain ⟨rfl, rfl⟩ := hcut
        go_wp2_with fail
        go_loopw [12, 13] (fun ux ax wr => ∃ i : Nat, ux = .int .i64 (usedN s.sl i : Nat) ∧ ax = .int .i64 (i : Int) ∧ i ≤ n ∧ Hid (Below w5.heap.size w5 wr)) (fun _ ax _ => n - (intOf ax).toNat)
        case atStart => exact ⟨0, rfl, rfl, Nat.zero_le _, Lib.hid (Below.refl _ _)⟩
        case round =>
          obtain ⟨i, rfl, rfl, hi, HBr⟩ := hrel
          rename World => wr
          have hun : usedN s.sl i < 4000000 := by have := usedN_le s.sl i; have := HN.out; omega
          by_cases hlt : i < n
          · have j0 : (i : Int) < (n : Int) := by omega
            have hil : i < s.sl.length := by rw [HN.out]; exact hlt
            have HSr := Lib.hid (HSl.out.on HBr.out)
            cases ho : s.sl[i] with
            | none =>
              have hg : s.sl[i]? = some none := by rw [List.getElem?_eq_getElem hil, ho]
              obtain ⟨k0, k1, k2, k3⟩ := HSr.out.empty hg
              have HU := Lib.hid (usedN_none hg)
              clear hg ho
              go_wp2_with fail
              go_roundw
              case rel => exact ⟨i + 1, by rw [HU.out], by go_num, by omega, Lib.hid (HBr.out.trans ((pbnew wr _).mono HBr.out.size))⟩
              case measure => simp [intOf]; omega
            | some e =>
              have hg : s.sl[i]? = some (some e) := by rw [List.getElem?_eq_getElem hil, ho]
              have hat : at_ s.sl i = some e := by rw [at_lt hil, ho]
              obtain ⟨Ae, ce, k0, k1, k2, k3, kc, kr⟩ := HSr.out.used hg
              have HU := Lib.hid (usedN_some hg)
              have hL : Lay (fun k => Ky.hash seed k % n) s.sl := by have := HOk.out.lay; rw [HN.out, HSd.out] at this; exact this
              have HL := Lib.hid hL
              have hfar : e.far < n := by have := HOk.out.lay.far_lt HOk.out.emp hat; rw [HN.out] at this; exact this
              have HAt := Lib.hid hat
              have hkey := HOk.out.slot_key i e hg
              clear hg ho hL hat
              obtain ⟨V3, hV3⟩ : ∃ V3, wr.alloc (.cells #[.bool true, .slice Ae e.key.length ce, .int .u64 (e.n : Int), .int .i64 (e.far : Int)] 49) = V3 := ⟨_, rfl⟩
              obtain ⟨Y, hY⟩ : ∃ Y, wr.heap.size = Y := ⟨_, rfl⟩
              have hbV : Below wr.heap.size wr V3 := by rw [← hV3]; exact pbnew _ _
              have HBoxY : Hid (Box4 V3 Y (.bool true) (.slice Ae e.key.length ce) (.int .u64 (e.n : Int)) (.int .i64 (e.far : Int))) := Lib.hid (by rw [← hV3, ← hY]; exact heap_alloc_new _ _)
              have HBv := Lib.hid (HBr.out.trans (hbV.mono HBr.out.size))
              have HVe := Lib.hid (show Bs V3 V3.heap.size (.slice Ae e.key.length ce) e.key from ⟨Ae, ce, rfl, kc, (kr.rd.below hbV (Nat.le_refl _)).mono hbV.size⟩)
              clear kr hbV
              obtain ⟨y0, y1, y2, y3⟩ := box4 HBoxY.out
              go_wp2_with fail
              clear hV3 k0 k1 k2 k3
              refine (hash_any _ e.key _ _ seed HVe.out (by omega) hs).mono ?_
              rintro e4 w4 ⟨rfl, rfl⟩
              have h64 := hash_lt seed e.key hs
              obtain ⟨h0, hh0⟩ : ∃ h0, Ky.hash seed e.key % n = h0 := ⟨_, rfl⟩
              have hh0n : h0 < n := by rw [← hh0]; exact Nat.mod_lt _ (by omega)
              have hdist : ((i : Int) - (h0 : Int) + (n : Int)) % (n : Int) = (e.far : Int) := dist_far hh0n hfar hlt (by
                have := HL.out.home i e HAt.out
                rw [HN.out] at this
                simp only [hh0] at this
                exact this)
              have hdist2 : ((i : Int) - (h0 : Int) + (n : Int)).tmod (n : Int) = (e.far : Int) := by rw [Int.tmod_eq_emod_of_nonneg (by omega)]; exact hdist
              have HH0 := Lib.hid hh0
              generalize hx : Ky.hash seed e.key = x at *
              have jx : (x : Int) % (n : Int) = (h0 : Int) := by omega
              have jw : IntKind.u64.wrap (n : Int) = (n : Int) := by rw [IntKind.wrap_u64]; omega
              have jn : (n : Int) ≠ 0 := by omega
              have jw2 : IntKind.i64.wrap (h0 : Int) = (h0 : Int) := IntWalk.i64_in _ (by omega)
              have jw3 : IntKind.i64.wrap ((i : Int) - (h0 : Int)) = (i : Int) - (h0 : Int) := IntWalk.i64_in _ (by omega)
              have jw4 : IntKind.i64.wrap ((i : Int) - (h0 : Int) + (n : Int)) = (i : Int) - (h0 : Int) + (n : Int) := IntWalk.i64_in _ (by omega)
              have jq : ((e.far : Int) != (e.far : Int)) = false := by simp
              have HHx := Lib.hid hx
              clear hx hh0
              go_wp2_with fail
              go_quiet (fail)
              clear y0 y1 y2 y3
              have HBq := Lib.hid (below_drewN HBv.out nq)
              have HBoxQ : Hid (Box4 (V3.drewN nq) Y (.bool true) (.slice Ae e.key.length ce) (.int .u64 (e.n : Int)) (.int .i64 (e.far : Int))) := HBoxY
              have HVq : Hid (Bs (V3.drewN nq) (V3.drewN nq).heap.size (.slice Ae e.key.length ce) e.key) := HVe
              clear HBv HBoxY HVe hdist hdist2 jx jw jn jw2 jw3 jw4 jq h64
              generalize World.drewN V3 nq = V4 at *
              clear V3
              obtain ⟨y0, y1, y2, y3⟩ := box4 HBoxQ.out
              go_wp2_with fail
              go_loopw [16] (fun fx wr2 => ∃ j : Nat, fx = .int .i64 (j : Int) ∧ j ≤ e.far ∧ Hid (Below V4.heap.size V4 wr2)) (fun fx _ => e.far - (intOf fx).toNat)
              case atStart => exact ⟨0, rfl, Nat.zero_le _, Lib.hid (Below.refl _ _)⟩
              case round =>
                clear y0 y1 y2 y3
                obtain ⟨j, rfl, hj, HBj⟩ := hrel
                rename World => wj
                have HBoxJ := Lib.hid (HBoxQ.out.on HBj.out)
                have HVj := Lib.hid (HVq.out.on HBj.out)
                obtain ⟨y0, y1, y2, y3⟩ := box4 HBoxJ.out
                by_cases hjf : j < e.far
                · have jj : (j : Int) < (e.far : Int) := by omega
                  obtain ⟨p, hp⟩ : ∃ p, (h0 + j) % n = p := ⟨_, rfl⟩
                  have hpn : p < n := by rw [← hp]; exact Nat.mod_lt _ (by omega)
                  have jm : ((h0 : Int) + (j : Int)) % (n : Int) = (p : Int) := by rw [← hp, Int.natCast_emod, Int.natCast_add]
                  have jpn : (p : Int) < (n : Int) := by omega
                  obtain ⟨y, hy, hyr⟩ := HL.out.run HAt.out hjf
                  simp only [HHx.out, HH0.out] at hy
                  have hpy : s.sl[p]? = some (some y) := by
                    have hps : p < s.sl.length := by rw [HN.out]; exact hpn
                    rw [List.getElem?_eq_getElem hps, ← at_lt hps, at_mod (i := p) (j := h0 + j) (by rw [HN.out, hp, Nat.mod_eq_of_lt hpn]), hy]
                  have hyfar : y.far < n := by have := HOk.out.lay.far_lt HOk.out.emp hy; rw [HN.out] at this; exact this
                  have hyk : y.key ≠ e.key := by
                    intro c
                    have h1 := HOk.out.once' _ _ _ _ hy HAt.out c
                    have h2 := HL.out.home i e HAt.out
                    simp only [HHx.out, HH0.out] at h2
                    rw [← h1, HN.out] at h2
                    have := mod_inj hfar (show j < n by omega) h2
                    omega
                  have HSj := Lib.hid (HSl.out.on (HBq.out.trans (HBj.out.mono HBq.out.size)))
                  obtain ⟨Ay, cy, k0, k1, k2, k3, kc2, kr⟩ := HSj.out.used hpy
                  clear hpy hp hy
                  obtain ⟨V5, hV5⟩ : ∃ V5, wj.alloc (.cells #[.bool true, .slice Ay y.key.length cy, .int .u64 (y.n : Int), .int .i64 (y.far : Int)] 49) = V5 := ⟨_, rfl⟩
                  obtain ⟨Z, hZ⟩ : ∃ Z, wj.heap.size = Z := ⟨_, rfl⟩
                  have hbV : Below wj.heap.size wj V5 := by rw [← hV5]; exact pbnew _ _
                  have HBoxZ : Hid (Box4 V5 Z (.bool true) (.slice Ay y.key.length cy) (.int .u64 (y.n : Int)) (.int .i64 (y.far : Int))) := Lib.hid (by rw [← hV5, ← hZ]; exact heap_alloc_new _ _)
                  have HB5j := Lib.hid (HBj.out.trans (hbV.mono HBj.out.size))
                  have HVy := Lib.hid (show Bs V5 V5.heap.size (.slice Ay y.key.length cy) y.key from ⟨Ay, cy, rfl, kc2, (kr.rd.below hbV (Nat.le_refl _)).mono hbV.size⟩)
                  have HVe5 := Lib.hid (HVj.out.on hbV)
                  have HBox5 := Lib.hid (HBoxJ.out.on hbV)
                  clear kr hbV
                  obtain ⟨x0, x1, x2, x3⟩ := box4 HBox5.out
                  obtain ⟨z0, z1, z2, z3⟩ := box4 HBoxZ.out
                  have jge : ¬ (y.far : Int) < (j : Int) := by rcases hyr with h | ⟨h, _⟩ <;> omega
                  have jd1 : decide ((y.far : Int) < (j : Int)) = false := by simpa using jge
                  by_cases heq : y.far = j
                  · have jq : ((y.far : Int) == (j : Int)) = true := by simp [heq]
                    have hkl : kl y.key e.key := by
                      rcases hyr with h | ⟨_, h⟩
                      · omega
                      · exact kle_ne h hyk
                    obtain ⟨cv, hcv⟩ : ∃ cv, Go.Lib.compareBytes y.key e.key = cv := ⟨_, rfl⟩
                    have jc : ¬ (0 : Int) ≤ cv := by unfold kl at hkl; omega
                    have jcd : decide ((0 : Int) ≤ cv) = false := by simpa using jc
                    have HCv := Lib.hid hcv
                    have HEq := Lib.hid heq
                    clear hkl hcv heq hyr hyk
                    go_wp2_with fail
                    refine (kcompare_b _ _ y.key e.key _ _ V5 HVy.out HVe5.out).mono ?_
                    rintro e6 w6 ⟨rfl, rfl⟩
                    simp only [HCv.out]
                    go_wp2_with fail
                    go_roundw
                    case rel => exact ⟨j + 1, by go_num, by omega, HB5j⟩
                    case measure => simp [intOf]; omega
                  · have jq : ((y.far : Int) == (j : Int)) = false := by simp; omega
                    clear hyr hyk
                    go_wp2_with fail
                    go_roundw
                    case rel => exact ⟨j + 1, by go_num, by omega, HB5j⟩
                    case measure => simp [intOf]; omega
                · have jj : ¬ (j : Int) < (e.far : Int) := by omega
                  have HB7 := Lib.hid (HBq.out.trans (HBj.out.mono HBq.out.size))
                  go_wp2_with fail
                  refine (live_get (HLv5.out.on HB7.out) _ e.key HVj.out (by omega)).mono ?_
                  rintro e8 w8 ⟨v8, b8, rfl, hg8, hb8⟩
                  obtain ⟨rfl, rfl⟩ : b8 = true ∧ v8 = e.n := by
                    have hm := mem_of_at HAt.out
                    rcases hg8 with ⟨h1, h2⟩ | ⟨_, _, h2⟩
                    · exact ⟨h1, once_mem HOk.out.once h2 hm⟩
                    · exact absurd rfl (h2 _ hm)
                  have HBox8 := Lib.hid (HBoxJ.out.on hb8)
                  have HB8 := Lib.hid (HB7.out.trans (hb8.mono HB7.out.size))
                  clear hg8 hb8 y0 y1 y2 y3
                  obtain ⟨y0, y1, y2, y3⟩ := box4 HBox8.out
                  have jq : ((e.n : Int) != (e.n : Int)) = false := by simp
                  go_wp2_with fail
                  go_roundw
                  case rel => exact ⟨i + 1, by rw [HU.out]; push_cast; rfl, by go_num, by omega, HB8⟩
                  case measure => simp [intOf]; omega
          · have j0 : ¬ (i : Int) < (n : Int) := by omega
            have j1 : decide ((i : Int) < (n : Int)) = false := by simpa using j0
            obtain rfl : i = n := by omega
            have hua : usedN s.sl i = kq := by rw [← HN.out, usedN_all]; exact HKq.out
            rw [hua]
            go_wp2_with fail
            refine (live_len (HLv5.out.on HBr.out)).mono ?_
            rintro e wx ⟨rfl, rfl⟩
            simp only [HKq.out]
            have jq : ((kq : Int) == (kq : Int)) = true := by simp
            go_wp2_with fail
            refine (knows14 _).mono ?_
            rintro e w9 ⟨rfl, hb9⟩
            have HB9 := Lib.hid ((HB5.out.trans (HBr.out.mono HB5.out.size)).trans (hb9.mono (HB5.out.trans (HBr.out.mono HB5.out.size)).size))
            clear hb9
            go_wp2_with fail
            go_ret
            exact ⟨rfl, HB9.out⟩
    
end Go.Proofs.Ytffcbekogpgciaa.Pr
namespace Go.Proofs.Ytffcbekogpgciaa.probeLay
open Go Go.RowKit Go.Joins
theorem walk (a0 : Int) (v1 : Value) (l1 : List (List UInt8)) (a2 : Int) (w : World) (w0 : (Lit.int .u64 a0).wf = true) (hl1 : Rows14 w w.heap.size v1 l1) (w2 : (Lit.int .u8 a2).wf = true) :
    Calls Try.prog 5 #[.int .u64 a0, v1, .int .u8 a2] w fun e w' => e = .returned (.bool true) ∧ Below w.heap.size w w' := by
  obtain ⟨b0, b1⟩ := bounds_u64 w0
  obtain ⟨c0, c1⟩ := bounds_u8 w2
  obtain ⟨s, rfl⟩ := Int.eq_ofNat_of_zero_le b0
  obtain ⟨g, rfl⟩ := Int.eq_ofNat_of_zero_le c0
  exact Pr.lay_walk s v1 l1 g w (by omega) hl1 (by omega)
end Go.Proofs.Ytffcbekogpgciaa.probeLay
