
/-
  ProbeSeeds: two tables of other seeds under the same calls: walked.
-/
import Derived.Test.YtffcbekogpgciaaPrArgs
import Derived.Test.YtffcbekogpgciaaPrTwo
import Derived.Test.YtffcbekogpgciaaArr
import Derived.BigQuiet
import Derived.Deep.RegionHeld3
import Derived.Deep.CutBlock
import Derived.Deep.CutRange
import Derived.Deep.DeepCutAuto
set_option linter.unusedVariables false
set_option linter.unusedSimpArgs false
namespace Go.Proofs.Ytffcbekogpgciaa.Pr
open Go Go.RowKit

/-- two tables of the same keys and numbers -/
structure Pair (N : Nat → Prop) (w : World) (Ta Tb sa sb m : Nat) (a b : PT) : Prop where
  tabs : Tabs N w [(Ta, a), (Tb, b)]
  perm : List.Perm a.prs b.prs
  seed : a.seed = sa ∧ b.seed = sb
  few : a.prs.length ≤ m

theorem pair_set {a b a' b' : PT} {k : List UInt8} {v r r2 : Nat} (hp : List.Perm a.prs b.prs) (h1 : (Vk k ∧ r = 0 ∧ List.Perm a'.prs ((k, v) :: remA a.prs k)) ∨ (¬ Vk k ∧ r = 1 ∧ a' = a)) (h2 : (Vk k ∧ r2 = 0 ∧ List.Perm b'.prs ((k, v) :: remA b.prs k)) ∨ (¬ Vk k ∧ r2 = 1 ∧ b' = b)) :
    r2 = r ∧ List.Perm a'.prs b'.prs ∧ a'.prs.length ≤ a.prs.length + 1 := by
  rcases h1 with ⟨hv, rfl, h1⟩ | ⟨hv, rfl, rfl⟩
  · rcases h2 with ⟨_, rfl, h2⟩ | ⟨hv2, _, _⟩
    · exact ⟨rfl, h1.trans (((remA_perm hp k).cons _).trans h2.symm), set_len h1⟩
    · exact absurd hv hv2
  · rcases h2 with ⟨hv2, _, _⟩ | ⟨_, rfl, rfl⟩
    · exact absurd hv2 hv
    · exact ⟨rfl, hp, by omega⟩
theorem pair_rem {a b a' b' : PT} {k : List UInt8} {r r2 : Nat} (hp : List.Perm a.prs b.prs) (h1 : (Vk k ∧ r = 0 ∧ ∃ v, (k, v) ∈ a.prs) ∨ (Vk k ∧ r = 6 ∧ ∀ p ∈ a.prs, p.1 ≠ k) ∨ (¬ Vk k ∧ r = 1)) (h2 : (Vk k ∧ r2 = 0 ∧ ∃ v, (k, v) ∈ b.prs) ∨ (Vk k ∧ r2 = 6 ∧ ∀ p ∈ b.prs, p.1 ≠ k) ∨ (¬ Vk k ∧ r2 = 1))
    (p1 : List.Perm a'.prs (remA a.prs k)) (p2 : List.Perm b'.prs (remA b.prs k)) : r2 = r ∧ List.Perm a'.prs b'.prs ∧ a'.prs.length ≤ a.prs.length + 1 := by
  refine ⟨?_, p1.trans ((remA_perm hp k).trans p2.symm), by rw [p1.length_eq]; have := remA_len (A := a.prs) k; omega⟩
  rcases h1 with ⟨hv, rfl, v, h1⟩ | ⟨hv, rfl, h1⟩ | ⟨hv, rfl⟩
  · rcases h2 with ⟨_, rfl, _⟩ | ⟨_, _, h2⟩ | ⟨hv2, _⟩
    · rfl
    · exact absurd rfl (h2 _ (hp.mem_iff.1 h1))
    · exact absurd hv hv2
  · rcases h2 with ⟨_, _, v, h2⟩ | ⟨_, rfl, _⟩ | ⟨hv2, _⟩
    · exact absurd rfl (h1 _ (hp.mem_iff.2 h2))
    · rfl
    · exact absurd hv hv2
  · rcases h2 with ⟨hv2, _⟩ | ⟨hv2, _⟩ | ⟨_, rfl⟩
    · exact absurd hv2 hv
    · exact absurd hv2 hv
    · rfl

set_option maxRecDepth 100000 in
set_option maxHeartbeats 8000000 in
theorem seeds_walk (sa sb : Nat) (v1 : Value) (l1 : List Call14) (w : World) (ha : sa < 18446744073709551616) (hb : sb < 18446744073709551616) (hl1 : Calls14 w w.heap.size v1 l1) :
    Calls Try.prog 6 #[.agg #[.int .u64 (sa : Int), .int .u64 (sb : Int)], v1] w fun e w' => e = .returned (.bool true) ∧ Below w.heap.size w w' := by
  obtain ⟨A1, c1, rfl, hlc, hcm, hrow⟩ := hl1
  have HRow := Lib.hid hrow
  have hlm : l1.length ≤ 9223372036854775807 := by unfold maxLen at hcm; omega
  clear hrow
  go_enter Try.func6, Try.ntmps6
  obtain ⟨w1, hw1⟩ : ∃ w1, w.alloc (.cells #[.int .u64 (sa : Int), .int .u64 (sb : Int)] 60) = w1 := ⟨_, rfl⟩
  obtain ⟨G, hG⟩ : ∃ G, w.heap.size = G := ⟨_, rfl⟩
  have hb1 : Below w.heap.size w w1 := by rw [← hw1]; exact (Below.refl _ _).alloc (Nat.le_refl _) _
  have x0 : w1.cell? ⟨G, 0, none⟩ = some (.int .u64 (sa : Int)) := by rw [← hw1, ← hG]; simp
  have x1 : w1.cell? ⟨G, 1, none⟩ = some (.int .u64 (sb : Int)) := by rw [← hw1, ← hG]; simp
  have hGw : G < w1.heap.size := fblock_of_cell x0
  have HSeeds : Hid (∀ V, Below w1.heap.size w1 V → V.cell? ⟨G, 0, none⟩ = some (.int .u64 (sa : Int)) ∧ V.cell? ⟨G, 1, none⟩ = some (.int .u64 (sb : Int))) := Lib.hid (fun V hV => ⟨(hV.cell (p := ⟨G, 0, none⟩) hGw).trans x0, (hV.cell (p := ⟨G, 1, none⟩) hGw).trans x1⟩)
  have HB1 := Lib.hid hb1
  have hsz1 : w.heap.size ≤ w1.heap.size := hb1.size
  clear hb1 x0 x1 hGw
  go_upto_region 1 with fail
  try rw [hw1, hG]
  clear hw1 hG
  go_cut [5, 6] from 17 to 22 (fun x y wx => ∃ Ta Tb : Nat, x = .pointer (some ⟨Ta, 0, none⟩) ∧ y = .pointer (some ⟨Tb, 0, none⟩) ∧ Hid (Pair (fun z => w.heap.size ≤ z) wx Ta Tb sa sb 0 (PT.new sa) (PT.new sb) ∧ Below w.heap.size w wx))
  case first =>
    refine wp_region_noPanic ?_
    have hb0 : Below w1.heap.size w1 w1.drew := (Below.refl _ _).drew
    refine wp_region_held_drew (S := fun V : World => V.cell? ⟨G, 0, none⟩ = some (.int .u64 (sa : Int)) ∧ V.cell? ⟨G, 1, none⟩ = some (.int .u64 (sb : Int))) (by kernel_rfl) (HSeeds.out _ hb0) (fun hHeld => ?_)
    generalize World.drew w1 = V0 at *
    refine wpAnyH_take (i := 0) (v := ?_) opAt_0 (by kernel_rfl) (by kernel_rfl) (by kernel_rfl) (fun _ _ _ h => h) (Or.inl ⟨by rfl, ?_⟩) (by assumption) ?_
    rotate_left
    · (intro w hSw; obtain ⟨q0, q1⟩ := hSw; go_simp; try with_reducible rfl)
    (try simp only [Act.put, List.setIfInBounds_toArray]); (try dsimp only [List.set_cons_zero, List.set_cons_succ])
    refine wpAnyH_take (i := 1) (v := ?_) opAt_1 (by kernel_rfl) (by kernel_rfl) (by kernel_rfl) (fun _ _ _ h => h) (Or.inl ⟨by rfl, ?_⟩) (by assumption) ?_
    rotate_left
    · (intro w hSw; obtain ⟨q0, q1⟩ := hSw; go_simp; try with_reducible rfl)
    (try simp only [Act.put, List.setIfInBounds_toArray]); (try dsimp only [List.set_cons_zero, List.set_cons_succ])
    refine wpAnyH_take (i := 3) (v := ?_) opAt_3 (by kernel_rfl) (by kernel_rfl) (by kernel_rfl) (fun _ _ _ h => h) (Or.inl ⟨by rfl, ?_⟩) (by assumption) ?_
    rotate_left
    · (intro w hSw; obtain ⟨q0, q1⟩ := hSw; go_simp; try with_reducible rfl)
    (try simp only [Act.put, List.setIfInBounds_toArray]); (try dsimp only [List.set_cons_zero, List.set_cons_succ])
    refine wpAnyH_take (i := 4) (v := ?_) opAt_4 (by kernel_rfl) (by kernel_rfl) (by kernel_rfl) (fun _ _ _ h => h) (Or.inl ⟨by rfl, ?_⟩) (by assumption) ?_
    rotate_left
    · (intro w hSw; obtain ⟨q0, q1⟩ := hSw; go_simp; try with_reducible rfl)
    (try simp only [Act.put, List.setIfInBounds_toArray]); (try dsimp only [List.set_cons_zero, List.set_cons_succ])
    refine wpAnyH_ready (rs := [2]) (by kernel_rfl) (by simp) ?_
    refine AllReadyH.cons rfl (fun K hK => ?_) AllReadyH.nil
    go_simp
    refine (tabs_new (N := fun z => w.heap.size ≤ z) Tabs.nil sa ha (fun z hz => by have := hb0.size; omega)).mono ?_
    rintro e V1 ⟨Ta, rfl, ht, nb⟩
    have HT1 := Lib.hid ht
    clear ht
    have hb1 : Below w1.heap.size w1 V1 := hb0.trans (nb.mono hb0.size)
    clear nb
    go_wp2_with fail
    refine hK.out _ _ (HSeeds.out _ hb1) (fun hHeld => ?_)
    clear hK K
    (try simp only [Act.put, List.setIfInBounds_toArray]); (try dsimp only [List.set_cons_zero, List.set_cons_succ])
    refine wpAnyH_ready (rs := [5]) (by kernel_rfl) (by simp) ?_
    refine AllReadyH.cons rfl (fun K hK => ?_) AllReadyH.nil
    go_simp
    refine (tabs_new HT1.out sb hb (fun z hz => by have := hb1.size; omega)).mono ?_
    rintro e V2 ⟨Tb, rfl, ht, nb⟩
    have HT2 := Lib.hid ht
    clear ht
    have hb2 : Below w1.heap.size w1 V2 := hb1.trans (nb.mono hb1.size)
    clear nb
    go_wp2_with fail
    refine hK.out _ _ (HSeeds.out _ hb2) (fun hHeld => ?_)
    clear hK K
    (try simp only [Act.put, List.setIfInBounds_toArray]); (try dsimp only [List.set_cons_zero, List.set_cons_succ])
    refine wpAnyH_take (i := 6) (v := ?_) opAt_6 (by kernel_rfl) (by kernel_rfl) (by kernel_rfl) (fun _ _ _ h => h) (Or.inl ⟨by rfl, ?_⟩) (by assumption) ?_
    rotate_left
    · (intro w hSw; obtain ⟨q0, q1⟩ := hSw; go_simp; try with_reducible rfl)
    (try simp only [Act.put, List.setIfInBounds_toArray]); (try dsimp only [List.set_cons_zero, List.set_cons_succ])
    refine wpAnyH_take (i := 7) (v := ?_) opAt_7 (by kernel_rfl) (by kernel_rfl) (by kernel_rfl) (fun _ _ _ h => h) (Or.inl ⟨by rfl, ?_⟩) (by assumption) ?_
    rotate_left
    · (intro w hSw; obtain ⟨q0, q1⟩ := hSw; go_simp; try with_reducible rfl)
    (try simp only [Act.put, List.setIfInBounds_toArray]); (try dsimp only [List.set_cons_zero, List.set_cons_succ])
    refine wpAnyH_done (by kernel_rfl) ?_ _
    refine NoPanic.normal ?_
    have hpp : Pair (fun z => w.heap.size ≤ z) V2 Ta Tb sa sb 0 (PT.new sa) (PT.new sb) := ⟨by first | exact HT2.out | exact HT2.out.swap, by rw [show (PT.new sa).prs = [] from kn_none 8, show (PT.new sb).prs = [] from kn_none 8], ⟨rfl, rfl⟩, by rw [show (PT.new sa).prs = [] from kn_none 8]; exact Nat.le_refl _⟩
    have HPP := Lib.hid (And.intro hpp (HB1.out.trans (hb2.mono HB1.out.size)))
    clear hpp
    go_wp2_with fail
    go_meet
    case rel => exact ⟨Ta, Tb, rfl, rfl, HPP⟩
  case rest =>
    obtain ⟨Ta, Tb, rfl, rfl, HP0⟩ := hcut
    generalize PT.new sa = a0 at *
    generalize PT.new sb = b0 at *
    generalize wc = w3 at *
    clear HSeeds HB1 hsz1
    go_upto_block 0 with fail
    go_cut [7, 8, 9, 10, 11, 12, 13] from 29 to 125 (fun xi xc xk xn xis xm xwas wx => ∃ a b : PT, Hid (Pair (fun z => w.heap.size ≤ z) wx Ta Tb sa sb 100 a b ∧ Below w.heap.size w wx))
    case first =>
      go_wp2_with fail
      go_loopw [7] (fun ix wr => ∃ (i : Nat) (a b : PT), ix = .int .i64 (i : Int) ∧ i ≤ l1.length ∧ i ≤ 100 ∧ Hid (Pair (fun z => w.heap.size ≤ z) wr Ta Tb sa sb i a b ∧ Below w.heap.size w wr)) (fun ix _ => l1.length - (intOf ix).toNat)
      case atStart => exact ⟨0, a0, b0, rfl, Nat.zero_le _, by omega, HP0⟩
      case round =>
        clear HP0 a0 b0
        obtain ⟨i, a, b, rfl, hil, hi, HI⟩ := hrel
        rename World => wr
        by_cases hlt : i < l1.length ∧ i < 100
        · obtain ⟨hlt1, hlt2⟩ := hlt
          have j0 : (i : Int) < (l1.length : Int) := by omega
          have j1 : (i : Int) < 100 := by omega
          obtain ⟨⟨wh, k, nn⟩, hcl⟩ : ∃ k, l1[i]? = some k := ⟨_, List.getElem?_eq_getElem (by omega)⟩
          obtain ⟨bb, o, rfl, hbB, hc0, ⟨kv, hc1, hkb, hkm⟩, hc2, hnn⟩ := HRow.out i _ hcl
          simp only at hc0 hc1 hkb hkm hc2 hnn
          obtain ⟨Ak, ck, rfl, hkc, hkr⟩ := hkb
          have HC0 : Hid (∀ V, Below w.heap.size w V → V.cell? ⟨bb, o + i * 3, none⟩ = some (.int .i64 wh) ∧ V.cell? ⟨bb, o + i * 3 + 1, none⟩ = some (.slice Ak k.length ck) ∧ V.cell? ⟨bb, o + i * 3 + 2, none⟩ = some (.int .u64 (nn : Int))) := Lib.hid (fun V hV => ⟨(hV.cell (p := ⟨bb, o + i * 3, none⟩) hbB).trans hc0, (hV.cell (p := ⟨bb, o + i * 3 + 1, none⟩) hbB).trans hc1, (hV.cell (p := ⟨bb, o + i * 3 + 2, none⟩) hbB).trans hc2⟩)
          obtain ⟨q, hq⟩ : ∃ q, q = min k.length 70 := ⟨_, rfl⟩
          obtain ⟨A', c', hcut, hqc, hcr⟩ := kcut_h Ak k.length ck q (by omega) hkc
          have hmn : min (k.length : Int) 70 = (q : Int) := by omega
          have hmn2 : min (70 : Int) (k.length : Int) = (q : Int) := by omega
          have hql : (k.take q).length = q := by rw [List.length_take]; omega
          have hq70 : q ≤ 70 := by omega
          have hkm2 : k.length ≤ 9223372036854775807 := hkm
          have HQl := Lib.hid hql
          have HKb : Hid (∀ V, Below w.heap.size w V → Bs V w.heap.size (.slice A' q c') (k.take q)) := Lib.hid (fun V hV => ⟨A', c', by rw [hql], by rw [hql]; exact hqc, hcr V w.heap.size k rfl (hkr.below hV (Nat.le_refl _))⟩)
          clear hcl hc0 hc1 hc2 hkr hcr hkm hq hql
          have hbel := HI.out.2
          obtain ⟨q0, q1, q2⟩ := HC0.out wr hbel
          obtain ⟨w2, hw2⟩ : ∃ w2, wr.alloc (.cells #[.int .i64 wh, .slice Ak k.length ck, .int .u64 (nn : Int)] 32) = w2 := ⟨_, rfl⟩
          obtain ⟨C, hC⟩ : ∃ C, wr.heap.size = C := ⟨_, rfl⟩
          have hbw : Below wr.heap.size wr w2 := by rw [← hw2]; exact (Below.refl _ _).alloc (Nat.le_refl _) _
          have hs2 : w2.heap.size = wr.heap.size + 1 := by rw [← hw2]; simp
          have y0 : w2.cell? ⟨C, 0, none⟩ = some (.int .i64 wh) := by rw [← hw2, ← hC]; simp
          have y1 : w2.cell? ⟨C, 1, none⟩ = some (.slice Ak k.length ck) := by rw [← hw2, ← hC]; simp
          have y2 : w2.cell? ⟨C, 2, none⟩ = some (.int .u64 (nn : Int)) := by rw [← hw2, ← hC]; simp
          have hwr : w.heap.size ≤ wr.heap.size := hbel.size
          have HBox : Hid (∀ V, Chg (fun z => w.heap.size ≤ z ∧ z ≠ C) w2 V → V.cell? ⟨C, 0, none⟩ = some (.int .i64 wh) ∧ V.cell? ⟨C, 1, none⟩ = some (.slice Ak k.length ck) ∧ V.cell? ⟨C, 2, none⟩ = some (.int .u64 (nn : Int))) := Lib.hid (fun V hV => by
            have hCl : C < w2.heap.size := by omega
            have hCn : ¬ (w.heap.size ≤ C ∧ C ≠ C) := fun c => c.2 rfl
            exact ⟨(hV.cell (p := ⟨C, 0, none⟩) hCl hCn).trans y0, (hV.cell (p := ⟨C, 1, none⟩) hCl hCn).trans y1, (hV.cell (p := ⟨C, 2, none⟩) hCl hCn).trans y2⟩)
          have HT2 : Hid (Tabs (fun z => w.heap.size ≤ z ∧ z ≠ C) w2 [(Ta, a), (Tb, b)]) := Lib.hid ((HI.out.1.tabs.mono (fun x h1 h2 => ⟨h1, by omega⟩)).on hbw)
          have HB2 : Hid (Below w.heap.size w w2) := Lib.hid (hbel.trans (hbw.mono hwr))
          have HP := Lib.hid (And.intro HI.out.1.perm (And.intro HI.out.1.seed HI.out.1.few))
          have HC9 : Hid (C < w2.heap.size ∧ w.heap.size ≤ C) := Lib.hid ⟨by omega, by omega⟩
          clear hbel hbw hs2 hwr HI y2
          go_upto_region 9 with fail
          go_cut [89] from 50 to 89 (fun x wx => x = .bool false ∧ ∃ a2 b2 : PT, Hid (Tabs (fun z => w.heap.size ≤ z ∧ z ≠ C) wx [(Ta, a2), (Tb, b2)] ∧ List.Perm a2.prs b2.prs ∧ a2.prs.length ≤ a.prs.length + 1 ∧ (a2.seed = sa ∧ b2.seed = sb) ∧ Below w.heap.size w wx))
          case first =>
            have hnn' := hnn
            by_cases h : 0 ≤ wh ∧ wh ≤ 3
            · have k0 : (0 : Int) ≤ wh := h.1
              have k1 : wh ≤ (3 : Int) := h.2
              have k2 : (wh == (4 : Int)) = false := by simp; omega
              have k3 : (wh == (5 : Int)) = false := by simp; omega
              try clear h
              refine wp_region_noPanic ?_
              have hb0 : Chg (fun z => w.heap.size ≤ z ∧ z ≠ C) w2 w2.drew := Chg.refl.drew
              refine wp_region_held_drew (S := fun V : World => V.cell? ⟨C, 0, none⟩ = some (.int .i64 wh) ∧ V.cell? ⟨C, 1, none⟩ = some (.slice Ak k.length ck) ∧ V.cell? ⟨C, 2, none⟩ = some (.int .u64 (nn : Int))) (by kernel_rfl) (HBox.out _ hb0) (fun hHeld => ?_)
              have HT0 := Lib.hid (HT2.out.on (Below.refl w2.heap.size w2).drew)
              clear HT2 y0 y1
              generalize World.drew w2 = V0 at *
              refine wpAnyH_take (i := 0) (v := ?_) opAt_0 (by kernel_rfl) (by kernel_rfl) (by kernel_rfl) (fun _ _ _ h => h) (Or.inl ⟨by rfl, ?_⟩) (by assumption) ?_
              rotate_left
              · (intro w hSw; obtain ⟨x0, x1, x2⟩ := hSw; go_simp; try with_reducible rfl)
              (try simp only [Act.put, List.setIfInBounds_toArray]); (try dsimp only [List.set_cons_zero, List.set_cons_succ])
              refine wpAnyH_take (i := 1) (v := ?_) opAt_1 (by kernel_rfl) (by kernel_rfl) (by kernel_rfl) (fun _ _ _ h => h) (Or.inl ⟨by rfl, ?_⟩) (by assumption) ?_
              rotate_left
              · (intro w hSw; obtain ⟨x0, x1, x2⟩ := hSw; go_simp; try with_reducible rfl)
              (try simp only [Act.put, List.setIfInBounds_toArray]); (try dsimp only [List.set_cons_zero, List.set_cons_succ])
              refine wpAnyH_take (i := 2) (v := ?_) opAt_2 (by kernel_rfl) (by kernel_rfl) (by kernel_rfl) (fun _ _ _ h => h) (Or.inl ⟨by rfl, ?_⟩) (by assumption) ?_
              rotate_left
              · (intro w hSw; obtain ⟨x0, x1, x2⟩ := hSw; go_simp; try with_reducible rfl)
              (try simp only [Act.put, List.setIfInBounds_toArray]); (try dsimp only [List.set_cons_zero, List.set_cons_succ])
              refine wpAnyH_take (i := 3) (v := ?_) opAt_3 (by kernel_rfl) (by kernel_rfl) (by kernel_rfl) (fun _ _ _ h => h) (Or.inl ⟨by rfl, ?_⟩) (by assumption) ?_
              rotate_left
              · (intro w hSw; obtain ⟨x0, x1, x2⟩ := hSw; go_simp; try with_reducible rfl)
              (try simp only [Act.put, List.setIfInBounds_toArray]); (try dsimp only [List.set_cons_zero, List.set_cons_succ])
              refine wpAnyH_take (i := 4) (v := ?_) opAt_4 (by kernel_rfl) (by kernel_rfl) (by kernel_rfl) (fun _ _ _ h => h) (Or.inl ⟨by rfl, ?_⟩) (by assumption) ?_
              rotate_left
              · (intro w hSw; obtain ⟨x0, x1, x2⟩ := hSw; go_simp; try with_reducible rfl)
              (try simp only [Act.put, List.setIfInBounds_toArray]); (try dsimp only [List.set_cons_zero, List.set_cons_succ])
              refine wpAnyH_take (i := 5) (v := ?_) opAt_5 (by kernel_rfl) (by kernel_rfl) (by kernel_rfl) (fun _ _ _ h => h) (Or.inl ⟨by rfl, ?_⟩) (by assumption) ?_
              rotate_left
              · (intro w hSw; obtain ⟨x0, x1, x2⟩ := hSw; go_simp; try with_reducible rfl)
              (try simp only [Act.put, List.setIfInBounds_toArray]); (try dsimp only [List.set_cons_zero, List.set_cons_succ])
              refine wpAnyH_take (i := 6) (v := ?_) opAt_6 (by kernel_rfl) (by kernel_rfl) (by kernel_rfl) (fun _ _ _ h => h) (Or.inl ⟨by rfl, ?_⟩) (by assumption) ?_
              rotate_left
              · (intro w hSw; obtain ⟨x0, x1, x2⟩ := hSw; go_simp; try with_reducible rfl)
              (try simp only [Act.put, List.setIfInBounds_toArray]); (try dsimp only [List.set_cons_zero, List.set_cons_succ])
              refine wpAnyH_take (i := 7) (v := ?_) opAt_7 (by kernel_rfl) (by kernel_rfl) (by kernel_rfl) (fun _ _ _ h => h) (Or.inl ⟨by rfl, ?_⟩) (by assumption) ?_
              rotate_left
              · (intro w hSw; obtain ⟨x0, x1, x2⟩ := hSw; go_simp; try with_reducible rfl)
              (try simp only [Act.put, List.setIfInBounds_toArray]); (try dsimp only [List.set_cons_zero, List.set_cons_succ])
              refine wpAnyH_take (i := 8) (v := ?_) opAt_8 (by kernel_rfl) (by kernel_rfl) (by kernel_rfl) (fun _ _ _ h => h) (Or.inl ⟨by rfl, ?_⟩) (by assumption) ?_
              rotate_left
              · (intro w hSw; obtain ⟨x0, x1, x2⟩ := hSw; go_simp; try with_reducible rfl)
              (try simp only [Act.put, List.setIfInBounds_toArray]); (try dsimp only [List.set_cons_zero, List.set_cons_succ])
              refine wpAnyH_take (i := 9) (v := ?_) opAt_9 (by kernel_rfl) (by kernel_rfl) (by kernel_rfl) (fun _ _ _ h => h) (Or.inl ⟨by rfl, ?_⟩) (by assumption) ?_
              rotate_left
              · (intro w hSw; obtain ⟨x0, x1, x2⟩ := hSw; go_simp; try with_reducible rfl)
              (try simp only [Act.put, List.setIfInBounds_toArray]); (try dsimp only [List.set_cons_zero, List.set_cons_succ])
              refine wpAnyH_take (i := 10) (v := ?_) opAt_10 (by kernel_rfl) (by kernel_rfl) (by kernel_rfl) (fun _ _ _ h => h) (Or.inl ⟨by rfl, ?_⟩) (by assumption) ?_
              rotate_left
              · (intro w hSw; obtain ⟨x0, x1, x2⟩ := hSw; go_simp; try with_reducible rfl)
              (try simp only [Act.put, List.setIfInBounds_toArray]); (try dsimp only [List.set_cons_zero, List.set_cons_succ])
              refine wpAnyH_take (i := 11) (v := ?_) opAt_11 (by kernel_rfl) (by kernel_rfl) (by kernel_rfl) (fun _ _ _ h => h) (Or.inl ⟨by rfl, ?_⟩) (by assumption) ?_
              rotate_left
              · (intro w hSw; obtain ⟨x0, x1, x2⟩ := hSw; go_simp; try with_reducible rfl)
              (try simp only [Act.put, List.setIfInBounds_toArray]); (try dsimp only [List.set_cons_zero, List.set_cons_succ])
              refine wpAnyH_take (i := 12) (v := ?_) opAt_12 (by kernel_rfl) (by kernel_rfl) (by kernel_rfl) (fun _ _ _ h => h) (Or.inl ⟨by rfl, ?_⟩) (by assumption) ?_
              rotate_left
              · (intro w hSw; obtain ⟨x0, x1, x2⟩ := hSw; go_simp; try with_reducible rfl)
              (try simp only [Act.put, List.setIfInBounds_toArray]); (try dsimp only [List.set_cons_zero, List.set_cons_succ])
              refine wpAnyH_take (i := 14) (v := ?_) opAt_14 (by kernel_rfl) (by kernel_rfl) (by kernel_rfl) (fun _ _ _ h => h) (Or.inl ⟨by rfl, ?_⟩) (by assumption) ?_
              rotate_left
              · (intro w hSw; obtain ⟨x0, x1, x2⟩ := hSw; go_simp; try with_reducible rfl)
              (try simp only [Act.put, List.setIfInBounds_toArray]); (try dsimp only [List.set_cons_zero, List.set_cons_succ])
              refine wpAnyH_take (i := 15) (v := ?_) opAt_15 (by kernel_rfl) (by kernel_rfl) (by kernel_rfl) (fun _ _ _ h => h) (Or.inl ⟨by rfl, ?_⟩) (by assumption) ?_
              rotate_left
              · (intro w hSw; obtain ⟨x0, x1, x2⟩ := hSw; go_simp; try with_reducible rfl)
              (try simp only [Act.put, List.setIfInBounds_toArray]); (try dsimp only [List.set_cons_zero, List.set_cons_succ])
              refine wpAnyH_take (i := 16) (v := ?_) opAt_16 (by kernel_rfl) (by kernel_rfl) (by kernel_rfl) (fun _ _ _ h => h) (Or.inl ⟨by rfl, ?_⟩) (by assumption) ?_
              rotate_left
              · (intro w hSw; obtain ⟨x0, x1, x2⟩ := hSw; go_simp; try with_reducible rfl)
              (try simp only [Act.put, List.setIfInBounds_toArray]); (try dsimp only [List.set_cons_zero, List.set_cons_succ])
              refine wpAnyH_take (i := 17) (v := ?_) opAt_17 (by kernel_rfl) (by kernel_rfl) (by kernel_rfl) (fun _ _ _ h => h) (Or.inl ⟨by rfl, ?_⟩) (by assumption) ?_
              rotate_left
              · (intro w hSw; obtain ⟨x0, x1, x2⟩ := hSw; go_simp; try with_reducible rfl)
              (try simp only [Act.put, List.setIfInBounds_toArray]); (try dsimp only [List.set_cons_zero, List.set_cons_succ])
              refine wpAnyH_ready (rs := [13]) (by kernel_rfl) (by simp) ?_
              refine AllReadyH.cons rfl (fun K hK => ?_) AllReadyH.nil
              go_simp
              have hbl0 : Below w.heap.size w V0 := HB2.out.trans (hb0.below HB2.out.size (fun i h => h.1))
              have hsz0 := hb0.size
              refine (tabs_set (i := 0) HT0.out rfl _ (k.take q) ((HKb.out _ hbl0).mono hbl0.size) (by have := HQl.out; omega) nn hnn (by have := HP.out.2.2; have := HP.out.1.length_eq; omega) (fun hz b hb c => by have := Bs.blk (HKb.out _ hbl0) hz b hb; omega) (fun x hx => by have := HC9.out; have := hbl0.size; constructor <;> omega)).mono ?_
              rintro e V1 ⟨r0, a2, rfl, hr0, hs0, ht, nb⟩
              have HT1 : Hid (Tabs (fun z => w.heap.size ≤ z ∧ z ≠ C) V1 [(Ta, a2), (Tb, b)]) := Lib.hid ht
              have hb1 : Chg (fun z => w.heap.size ≤ z ∧ z ≠ C) w2 V1 := hb0.trans nb (fun i h => .inl h)
              clear ht nb
              go_wp2_with fail
              refine hK.out _ _ (HBox.out _ hb1) (fun hHeld => ?_)
              clear hK K
              (try simp only [Act.put, List.setIfInBounds_toArray]); (try dsimp only [List.set_cons_zero, List.set_cons_succ])
              refine wpAnyH_ready (rs := [18]) (by kernel_rfl) (by simp) ?_
              refine AllReadyH.cons rfl (fun K hK => ?_) AllReadyH.nil
              go_simp
              have hbl1 : Below w.heap.size w V1 := HB2.out.trans (hb1.below HB2.out.size (fun i h => h.1))
              have hsz1 := hb1.size
              refine (tabs_set (i := 1) HT1.out rfl _ (k.take q) ((HKb.out _ hbl1).mono hbl1.size) (by have := HQl.out; omega) nn hnn (by have := HP.out.2.2; have := HP.out.1.length_eq; omega) (fun hz b hb c => by have := Bs.blk (HKb.out _ hbl1) hz b hb; omega) (fun x hx => by have := HC9.out; have := hbl1.size; constructor <;> omega)).mono ?_
              rintro e V2 ⟨r1, b2, rfl, hr1, hs1, ht, nb⟩
              have HT2 : Hid (Tabs (fun z => w.heap.size ≤ z ∧ z ≠ C) V2 [(Ta, a2), (Tb, b2)]) := Lib.hid ht
              have hb2 : Chg (fun z => w.heap.size ≤ z ∧ z ≠ C) w2 V2 := hb1.trans nb (fun i h => .inl h)
              clear ht nb
              obtain ⟨hrr, hpp, hll⟩ := pair_set HP.out.1 hr0 hr1
              have HQ := Lib.hid (And.intro hpp (And.intro hll (And.intro (hs0.trans HP.out.2.1.1) (hs1.trans HP.out.2.1.2))))
              clear hpp hll hr0 hr1 hs0 hs1
              subst hrr
              have jr : ((r1 : Int) != (r1 : Int)) = false := by simp
              go_wp2_with fail
              refine hK.out _ _ (HBox.out _ hb2) (fun hHeld => ?_)
              clear hK K
              (try simp only [Act.put, List.setIfInBounds_toArray]); (try dsimp only [List.set_cons_zero, List.set_cons_succ])
              refine wpAnyH_take (i := 19) (v := ?_) opAt_19 (by kernel_rfl) (by kernel_rfl) (by kernel_rfl) (fun _ _ _ h => h) (Or.inl ⟨by rfl, ?_⟩) (by assumption) ?_
              rotate_left
              · (intro w hSw; obtain ⟨x0, x1, x2⟩ := hSw; go_simp; try with_reducible rfl)
              (try simp only [Act.put, List.setIfInBounds_toArray]); (try dsimp only [List.set_cons_zero, List.set_cons_succ])
              refine wpAnyH_take (i := 20) (v := ?_) opAt_20 (by kernel_rfl) (by kernel_rfl) (by kernel_rfl) (fun _ _ _ h => h) (Or.inl ⟨by rfl, ?_⟩) (by assumption) ?_
              rotate_left
              · (intro w hSw; obtain ⟨x0, x1, x2⟩ := hSw; go_simp; try with_reducible rfl)
              (try simp only [Act.put, List.setIfInBounds_toArray]); (try dsimp only [List.set_cons_zero, List.set_cons_succ])
              refine wpAnyH_take (i := 21) (v := ?_) opAt_21 (by kernel_rfl) (by kernel_rfl) (by kernel_rfl) (fun _ _ _ h => h) (Or.inl ⟨by rfl, ?_⟩) (by assumption) ?_
              rotate_left
              · (intro w hSw; obtain ⟨x0, x1, x2⟩ := hSw; go_simp; try with_reducible rfl)
              (try simp only [Act.put, List.setIfInBounds_toArray]); (try dsimp only [List.set_cons_zero, List.set_cons_succ])
              refine wpAnyH_take (i := 22) (v := ?_) opAt_22 (by kernel_rfl) (by kernel_rfl) (by kernel_rfl) (fun _ _ _ h => h) (Or.inl ⟨by rfl, ?_⟩) (by assumption) ?_
              rotate_left
              · (intro w hSw; obtain ⟨x0, x1, x2⟩ := hSw; go_simp; try with_reducible rfl)
              (try simp only [Act.put, List.setIfInBounds_toArray]); (try dsimp only [List.set_cons_zero, List.set_cons_succ])
              refine wpAnyH_take (i := 23) (v := ?_) opAt_23 (by kernel_rfl) (by kernel_rfl) (by kernel_rfl) (fun _ _ _ h => h) (Or.inl ⟨by rfl, ?_⟩) (by assumption) ?_
              rotate_left
              · (intro w hSw; obtain ⟨x0, x1, x2⟩ := hSw; go_simp; try with_reducible rfl)
              (try simp only [Act.put, List.setIfInBounds_toArray]); (try dsimp only [List.set_cons_zero, List.set_cons_succ])
              refine wpAnyH_take (i := 24) (v := ?_) opAt_24 (by kernel_rfl) (by kernel_rfl) (by kernel_rfl) (fun _ _ _ h => h) (Or.inl ⟨by rfl, ?_⟩) (by assumption) ?_
              rotate_left
              · (intro w hSw; obtain ⟨x0, x1, x2⟩ := hSw; go_simp; try with_reducible rfl)
              (try simp only [Act.put, List.setIfInBounds_toArray]); (try dsimp only [List.set_cons_zero, List.set_cons_succ])
              refine wpAnyH_take (i := 25) (v := ?_) opAt_25 (by kernel_rfl) (by kernel_rfl) (by kernel_rfl) (fun _ _ _ h => h) (Or.inl ⟨by rfl, ?_⟩) (by assumption) ?_
              rotate_left
              · (intro w hSw; obtain ⟨x0, x1, x2⟩ := hSw; go_simp; try with_reducible rfl)
              (try simp only [Act.put, List.setIfInBounds_toArray]); (try dsimp only [List.set_cons_zero, List.set_cons_succ])
              refine wpAnyH_take (i := 26) (v := ?_) opAt_26 (by kernel_rfl) (by kernel_rfl) (by kernel_rfl) (fun _ _ _ h => h) (Or.inl ⟨by rfl, ?_⟩) (by assumption) ?_
              rotate_left
              · (intro w hSw; obtain ⟨x0, x1, x2⟩ := hSw; go_simp; try with_reducible rfl)
              (try simp only [Act.put, List.setIfInBounds_toArray]); (try dsimp only [List.set_cons_zero, List.set_cons_succ])
              refine wpAnyH_take (i := 27) (v := ?_) opAt_27 (by kernel_rfl) (by kernel_rfl) (by kernel_rfl) (fun _ _ _ h => h) (Or.inl ⟨by rfl, ?_⟩) (by assumption) ?_
              rotate_left
              · (intro w hSw; obtain ⟨x0, x1, x2⟩ := hSw; go_simp; try with_reducible rfl)
              (try simp only [Act.put, List.setIfInBounds_toArray]); (try dsimp only [List.set_cons_zero, List.set_cons_succ])
              refine wpAnyH_take (i := 28) (v := ?_) opAt_28 (by kernel_rfl) (by kernel_rfl) (by kernel_rfl) (fun _ _ _ h => h) (Or.inl ⟨by rfl, ?_⟩) (by assumption) ?_
              rotate_left
              · (intro w hSw; obtain ⟨x0, x1, x2⟩ := hSw; go_simp; try with_reducible rfl)
              (try simp only [Act.put, List.setIfInBounds_toArray]); (try dsimp only [List.set_cons_zero, List.set_cons_succ])
              refine wpAnyH_take (i := 29) (v := ?_) opAt_29 (by kernel_rfl) (by kernel_rfl) (by kernel_rfl) (fun _ _ _ h => h) (Or.inl ⟨by rfl, ?_⟩) (by assumption) ?_
              rotate_left
              · (intro w hSw; obtain ⟨x0, x1, x2⟩ := hSw; go_simp; try with_reducible rfl)
              (try simp only [Act.put, List.setIfInBounds_toArray]); (try dsimp only [List.set_cons_zero, List.set_cons_succ])
              refine wpAnyH_take (i := 30) (v := ?_) opAt_30 (by kernel_rfl) (by kernel_rfl) (by kernel_rfl) (fun _ _ _ h => h) (Or.inl ⟨by rfl, ?_⟩) (by assumption) ?_
              rotate_left
              · (intro w hSw; obtain ⟨x0, x1, x2⟩ := hSw; go_simp; try with_reducible rfl)
              (try simp only [Act.put, List.setIfInBounds_toArray]); (try dsimp only [List.set_cons_zero, List.set_cons_succ])
              refine wpAnyH_take (i := 31) (v := undef) opAt_31 (by kernel_rfl) (by kernel_rfl) (by kernel_rfl) (fun _ _ _ h => h) (Or.inr ⟨by rfl, rfl⟩) (by assumption) ?_
              (try simp only [Act.put, List.setIfInBounds_toArray]); (try dsimp only [List.set_cons_zero, List.set_cons_succ])
              refine wpAnyH_take (i := 32) (v := undef) opAt_32 (by kernel_rfl) (by kernel_rfl) (by kernel_rfl) (fun _ _ _ h => h) (Or.inr ⟨by rfl, rfl⟩) (by assumption) ?_
              (try simp only [Act.put, List.setIfInBounds_toArray]); (try dsimp only [List.set_cons_zero, List.set_cons_succ])
              refine wpAnyH_take (i := 34) (v := undef) opAt_34 (by kernel_rfl) (by kernel_rfl) (by kernel_rfl) (fun _ _ _ h => h) (Or.inr ⟨by rfl, rfl⟩) (by assumption) ?_
              (try simp only [Act.put, List.setIfInBounds_toArray]); (try dsimp only [List.set_cons_zero, List.set_cons_succ])
              refine wpAnyH_take (i := 35) (v := undef) opAt_35 (by kernel_rfl) (by kernel_rfl) (by kernel_rfl) (fun _ _ _ h => h) (Or.inr ⟨by rfl, rfl⟩) (by assumption) ?_
              (try simp only [Act.put, List.setIfInBounds_toArray]); (try dsimp only [List.set_cons_zero, List.set_cons_succ])
              refine wpAnyH_ready (rs := [33]) (by kernel_rfl) (by simp) ?_
              refine AllReadyH.cons rfl (fun K hK => ?_) AllReadyH.nil
              go_simp
              try refine ⟨fun _ h => by cases h, ?_⟩
              refine hK.out _ _ (by assumption) (fun hHeld => ?_)
              clear hK K
              (try simp only [Act.put, List.setIfInBounds_toArray]); (try dsimp only [List.set_cons_zero, List.set_cons_succ])
              refine wpAnyH_ready (rs := [36]) (by kernel_rfl) (by simp) ?_
              refine AllReadyH.cons rfl (fun K hK => ?_) AllReadyH.nil
              go_simp
              try refine ⟨fun _ h => by cases h, ?_⟩
              refine hK.out _ _ (by assumption) (fun hHeld => ?_)
              clear hK K
              (try simp only [Act.put, List.setIfInBounds_toArray]); (try dsimp only [List.set_cons_zero, List.set_cons_succ])
              refine wpAnyH_take (i := 37) (v := undef) opAt_37 (by kernel_rfl) (by kernel_rfl) (by kernel_rfl) (fun _ _ _ h => h) (Or.inr ⟨by rfl, rfl⟩) (by assumption) ?_
              (try simp only [Act.put, List.setIfInBounds_toArray]); (try dsimp only [List.set_cons_zero, List.set_cons_succ])
              refine wpAnyH_take (i := 38) (v := ?_) opAt_38 (by kernel_rfl) (by kernel_rfl) (by kernel_rfl) (fun _ _ _ h => h) (Or.inl ⟨by rfl, ?_⟩) (by assumption) ?_
              rotate_left
              · (intro w hSw; obtain ⟨x0, x1, x2⟩ := hSw; go_simp; try with_reducible rfl)
              (try simp only [Act.put, List.setIfInBounds_toArray]); (try dsimp only [List.set_cons_zero, List.set_cons_succ])
              refine wpAnyH_take (i := 39) (v := ?_) opAt_39 (by kernel_rfl) (by kernel_rfl) (by kernel_rfl) (fun _ _ _ h => h) (Or.inl ⟨by rfl, ?_⟩) (by assumption) ?_
              rotate_left
              · (intro w hSw; obtain ⟨x0, x1, x2⟩ := hSw; go_simp; try with_reducible rfl)
              (try simp only [Act.put, List.setIfInBounds_toArray]); (try dsimp only [List.set_cons_zero, List.set_cons_succ])
              refine wpAnyH_done (by kernel_rfl) ?_ _
              refine NoPanic.normal ?_
              have hbl2 : Below w.heap.size w V2 := HB2.out.trans (hb2.below HB2.out.size (fun i h => h.1))
              have hsz2 := hb2.size
              have HR := Lib.hid (And.intro HT2.out (And.intro HQ.out.1 (And.intro HQ.out.2.1 (And.intro HQ.out.2.2 hbl2))))
              go_wp2_with fail
              go_meet
              case rel => exact ⟨rfl, a2, b2, HR⟩
            by_cases h : wh = 4
            · have k0 : (0 : Int) ≤ wh := by omega
              have k1 : ¬ wh ≤ (3 : Int) := by omega
              have k2 : (wh == (4 : Int)) = true := by simp; omega
              try clear h
              refine wp_region_noPanic ?_
              have hb0 : Chg (fun z => w.heap.size ≤ z ∧ z ≠ C) w2 w2.drew := Chg.refl.drew
              refine wp_region_held_drew (S := fun V : World => V.cell? ⟨C, 0, none⟩ = some (.int .i64 wh) ∧ V.cell? ⟨C, 1, none⟩ = some (.slice Ak k.length ck) ∧ V.cell? ⟨C, 2, none⟩ = some (.int .u64 (nn : Int))) (by kernel_rfl) (HBox.out _ hb0) (fun hHeld => ?_)
              have HT0 := Lib.hid (HT2.out.on (Below.refl w2.heap.size w2).drew)
              clear HT2 y0 y1
              generalize World.drew w2 = V0 at *
              refine wpAnyH_take (i := 0) (v := ?_) opAt_0 (by kernel_rfl) (by kernel_rfl) (by kernel_rfl) (fun _ _ _ h => h) (Or.inl ⟨by rfl, ?_⟩) (by assumption) ?_
              rotate_left
              · (intro w hSw; obtain ⟨x0, x1, x2⟩ := hSw; go_simp; try with_reducible rfl)
              (try simp only [Act.put, List.setIfInBounds_toArray]); (try dsimp only [List.set_cons_zero, List.set_cons_succ])
              refine wpAnyH_take (i := 1) (v := ?_) opAt_1 (by kernel_rfl) (by kernel_rfl) (by kernel_rfl) (fun _ _ _ h => h) (Or.inl ⟨by rfl, ?_⟩) (by assumption) ?_
              rotate_left
              · (intro w hSw; obtain ⟨x0, x1, x2⟩ := hSw; go_simp; try with_reducible rfl)
              (try simp only [Act.put, List.setIfInBounds_toArray]); (try dsimp only [List.set_cons_zero, List.set_cons_succ])
              refine wpAnyH_take (i := 2) (v := ?_) opAt_2 (by kernel_rfl) (by kernel_rfl) (by kernel_rfl) (fun _ _ _ h => h) (Or.inl ⟨by rfl, ?_⟩) (by assumption) ?_
              rotate_left
              · (intro w hSw; obtain ⟨x0, x1, x2⟩ := hSw; go_simp; try with_reducible rfl)
              (try simp only [Act.put, List.setIfInBounds_toArray]); (try dsimp only [List.set_cons_zero, List.set_cons_succ])
              refine wpAnyH_take (i := 3) (v := ?_) opAt_3 (by kernel_rfl) (by kernel_rfl) (by kernel_rfl) (fun _ _ _ h => h) (Or.inl ⟨by rfl, ?_⟩) (by assumption) ?_
              rotate_left
              · (intro w hSw; obtain ⟨x0, x1, x2⟩ := hSw; go_simp; try with_reducible rfl)
              (try simp only [Act.put, List.setIfInBounds_toArray]); (try dsimp only [List.set_cons_zero, List.set_cons_succ])
              refine wpAnyH_take (i := 4) (v := ?_) opAt_4 (by kernel_rfl) (by kernel_rfl) (by kernel_rfl) (fun _ _ _ h => h) (Or.inl ⟨by rfl, ?_⟩) (by assumption) ?_
              rotate_left
              · (intro w hSw; obtain ⟨x0, x1, x2⟩ := hSw; go_simp; try with_reducible rfl)
              (try simp only [Act.put, List.setIfInBounds_toArray]); (try dsimp only [List.set_cons_zero, List.set_cons_succ])
              refine wpAnyH_take (i := 5) (v := ?_) opAt_5 (by kernel_rfl) (by kernel_rfl) (by kernel_rfl) (fun _ _ _ h => h) (Or.inl ⟨by rfl, ?_⟩) (by assumption) ?_
              rotate_left
              · (intro w hSw; obtain ⟨x0, x1, x2⟩ := hSw; go_simp; try with_reducible rfl)
              (try simp only [Act.put, List.setIfInBounds_toArray]); (try dsimp only [List.set_cons_zero, List.set_cons_succ])
              refine wpAnyH_take (i := 6) (v := ?_) opAt_6 (by kernel_rfl) (by kernel_rfl) (by kernel_rfl) (fun _ _ _ h => h) (Or.inl ⟨by rfl, ?_⟩) (by assumption) ?_
              rotate_left
              · (intro w hSw; obtain ⟨x0, x1, x2⟩ := hSw; go_simp; try with_reducible rfl)
              (try simp only [Act.put, List.setIfInBounds_toArray]); (try dsimp only [List.set_cons_zero, List.set_cons_succ])
              refine wpAnyH_take (i := 7) (v := ?_) opAt_7 (by kernel_rfl) (by kernel_rfl) (by kernel_rfl) (fun _ _ _ h => h) (Or.inl ⟨by rfl, ?_⟩) (by assumption) ?_
              rotate_left
              · (intro w hSw; obtain ⟨x0, x1, x2⟩ := hSw; go_simp; try with_reducible rfl)
              (try simp only [Act.put, List.setIfInBounds_toArray]); (try dsimp only [List.set_cons_zero, List.set_cons_succ])
              refine wpAnyH_take (i := 8) (v := ?_) opAt_8 (by kernel_rfl) (by kernel_rfl) (by kernel_rfl) (fun _ _ _ h => h) (Or.inl ⟨by rfl, ?_⟩) (by assumption) ?_
              rotate_left
              · (intro w hSw; obtain ⟨x0, x1, x2⟩ := hSw; go_simp; try with_reducible rfl)
              (try simp only [Act.put, List.setIfInBounds_toArray]); (try dsimp only [List.set_cons_zero, List.set_cons_succ])
              refine wpAnyH_take (i := 9) (v := undef) opAt_9 (by kernel_rfl) (by kernel_rfl) (by kernel_rfl) (fun _ _ _ h => h) (Or.inr ⟨by rfl, rfl⟩) (by assumption) ?_
              (try simp only [Act.put, List.setIfInBounds_toArray]); (try dsimp only [List.set_cons_zero, List.set_cons_succ])
              refine wpAnyH_take (i := 10) (v := undef) opAt_10 (by kernel_rfl) (by kernel_rfl) (by kernel_rfl) (fun _ _ _ h => h) (Or.inr ⟨by rfl, rfl⟩) (by assumption) ?_
              (try simp only [Act.put, List.setIfInBounds_toArray]); (try dsimp only [List.set_cons_zero, List.set_cons_succ])
              refine wpAnyH_take (i := 11) (v := undef) opAt_11 (by kernel_rfl) (by kernel_rfl) (by kernel_rfl) (fun _ _ _ h => h) (Or.inr ⟨by rfl, rfl⟩) (by assumption) ?_
              (try simp only [Act.put, List.setIfInBounds_toArray]); (try dsimp only [List.set_cons_zero, List.set_cons_succ])
              refine wpAnyH_take (i := 12) (v := undef) opAt_12 (by kernel_rfl) (by kernel_rfl) (by kernel_rfl) (fun _ _ _ h => h) (Or.inr ⟨by rfl, rfl⟩) (by assumption) ?_
              (try simp only [Act.put, List.setIfInBounds_toArray]); (try dsimp only [List.set_cons_zero, List.set_cons_succ])
              refine wpAnyH_take (i := 14) (v := undef) opAt_14 (by kernel_rfl) (by kernel_rfl) (by kernel_rfl) (fun _ _ _ h => h) (Or.inr ⟨by rfl, rfl⟩) (by assumption) ?_
              (try simp only [Act.put, List.setIfInBounds_toArray]); (try dsimp only [List.set_cons_zero, List.set_cons_succ])
              refine wpAnyH_take (i := 15) (v := undef) opAt_15 (by kernel_rfl) (by kernel_rfl) (by kernel_rfl) (fun _ _ _ h => h) (Or.inr ⟨by rfl, rfl⟩) (by assumption) ?_
              (try simp only [Act.put, List.setIfInBounds_toArray]); (try dsimp only [List.set_cons_zero, List.set_cons_succ])
              refine wpAnyH_take (i := 16) (v := undef) opAt_16 (by kernel_rfl) (by kernel_rfl) (by kernel_rfl) (fun _ _ _ h => h) (Or.inr ⟨by rfl, rfl⟩) (by assumption) ?_
              (try simp only [Act.put, List.setIfInBounds_toArray]); (try dsimp only [List.set_cons_zero, List.set_cons_succ])
              refine wpAnyH_take (i := 17) (v := undef) opAt_17 (by kernel_rfl) (by kernel_rfl) (by kernel_rfl) (fun _ _ _ h => h) (Or.inr ⟨by rfl, rfl⟩) (by assumption) ?_
              (try simp only [Act.put, List.setIfInBounds_toArray]); (try dsimp only [List.set_cons_zero, List.set_cons_succ])
              refine wpAnyH_ready (rs := [13]) (by kernel_rfl) (by simp) ?_
              refine AllReadyH.cons rfl (fun K hK => ?_) AllReadyH.nil
              go_simp
              try refine ⟨fun _ h => by cases h, ?_⟩
              refine hK.out _ _ (by assumption) (fun hHeld => ?_)
              clear hK K
              (try simp only [Act.put, List.setIfInBounds_toArray]); (try dsimp only [List.set_cons_zero, List.set_cons_succ])
              refine wpAnyH_ready (rs := [18]) (by kernel_rfl) (by simp) ?_
              refine AllReadyH.cons rfl (fun K hK => ?_) AllReadyH.nil
              go_simp
              try refine ⟨fun _ h => by cases h, ?_⟩
              refine hK.out _ _ (by assumption) (fun hHeld => ?_)
              clear hK K
              (try simp only [Act.put, List.setIfInBounds_toArray]); (try dsimp only [List.set_cons_zero, List.set_cons_succ])
              refine wpAnyH_take (i := 19) (v := undef) opAt_19 (by kernel_rfl) (by kernel_rfl) (by kernel_rfl) (fun _ _ _ h => h) (Or.inr ⟨by rfl, rfl⟩) (by assumption) ?_
              (try simp only [Act.put, List.setIfInBounds_toArray]); (try dsimp only [List.set_cons_zero, List.set_cons_succ])
              refine wpAnyH_take (i := 20) (v := ?_) opAt_20 (by kernel_rfl) (by kernel_rfl) (by kernel_rfl) (fun _ _ _ h => h) (Or.inl ⟨by rfl, ?_⟩) (by assumption) ?_
              rotate_left
              · (intro w hSw; obtain ⟨x0, x1, x2⟩ := hSw; go_simp; try with_reducible rfl)
              (try simp only [Act.put, List.setIfInBounds_toArray]); (try dsimp only [List.set_cons_zero, List.set_cons_succ])
              refine wpAnyH_take (i := 21) (v := ?_) opAt_21 (by kernel_rfl) (by kernel_rfl) (by kernel_rfl) (fun _ _ _ h => h) (Or.inl ⟨by rfl, ?_⟩) (by assumption) ?_
              rotate_left
              · (intro w hSw; obtain ⟨x0, x1, x2⟩ := hSw; go_simp; try with_reducible rfl)
              (try simp only [Act.put, List.setIfInBounds_toArray]); (try dsimp only [List.set_cons_zero, List.set_cons_succ])
              refine wpAnyH_take (i := 22) (v := ?_) opAt_22 (by kernel_rfl) (by kernel_rfl) (by kernel_rfl) (fun _ _ _ h => h) (Or.inl ⟨by rfl, ?_⟩) (by assumption) ?_
              rotate_left
              · (intro w hSw; obtain ⟨x0, x1, x2⟩ := hSw; go_simp; try with_reducible rfl)
              (try simp only [Act.put, List.setIfInBounds_toArray]); (try dsimp only [List.set_cons_zero, List.set_cons_succ])
              refine wpAnyH_take (i := 23) (v := ?_) opAt_23 (by kernel_rfl) (by kernel_rfl) (by kernel_rfl) (fun _ _ _ h => h) (Or.inl ⟨by rfl, ?_⟩) (by assumption) ?_
              rotate_left
              · (intro w hSw; obtain ⟨x0, x1, x2⟩ := hSw; go_simp; try with_reducible rfl)
              (try simp only [Act.put, List.setIfInBounds_toArray]); (try dsimp only [List.set_cons_zero, List.set_cons_succ])
              refine wpAnyH_take (i := 24) (v := ?_) opAt_24 (by kernel_rfl) (by kernel_rfl) (by kernel_rfl) (fun _ _ _ h => h) (Or.inl ⟨by rfl, ?_⟩) (by assumption) ?_
              rotate_left
              · (intro w hSw; obtain ⟨x0, x1, x2⟩ := hSw; go_simp; try with_reducible rfl)
              (try simp only [Act.put, List.setIfInBounds_toArray]); (try dsimp only [List.set_cons_zero, List.set_cons_succ])
              refine wpAnyH_take (i := 25) (v := ?_) opAt_25 (by kernel_rfl) (by kernel_rfl) (by kernel_rfl) (fun _ _ _ h => h) (Or.inl ⟨by rfl, ?_⟩) (by assumption) ?_
              rotate_left
              · (intro w hSw; obtain ⟨x0, x1, x2⟩ := hSw; go_simp; try with_reducible rfl)
              (try simp only [Act.put, List.setIfInBounds_toArray]); (try dsimp only [List.set_cons_zero, List.set_cons_succ])
              refine wpAnyH_take (i := 26) (v := undef) opAt_26 (by kernel_rfl) (by kernel_rfl) (by kernel_rfl) (fun _ _ _ h => h) (Or.inr ⟨by rfl, rfl⟩) (by assumption) ?_
              (try simp only [Act.put, List.setIfInBounds_toArray]); (try dsimp only [List.set_cons_zero, List.set_cons_succ])
              refine wpAnyH_take (i := 27) (v := undef) opAt_27 (by kernel_rfl) (by kernel_rfl) (by kernel_rfl) (fun _ _ _ h => h) (Or.inr ⟨by rfl, rfl⟩) (by assumption) ?_
              (try simp only [Act.put, List.setIfInBounds_toArray]); (try dsimp only [List.set_cons_zero, List.set_cons_succ])
              refine wpAnyH_take (i := 28) (v := undef) opAt_28 (by kernel_rfl) (by kernel_rfl) (by kernel_rfl) (fun _ _ _ h => h) (Or.inr ⟨by rfl, rfl⟩) (by assumption) ?_
              (try simp only [Act.put, List.setIfInBounds_toArray]); (try dsimp only [List.set_cons_zero, List.set_cons_succ])
              refine wpAnyH_take (i := 29) (v := ?_) opAt_29 (by kernel_rfl) (by kernel_rfl) (by kernel_rfl) (fun _ _ _ h => h) (Or.inl ⟨by rfl, ?_⟩) (by assumption) ?_
              rotate_left
              · (intro w hSw; obtain ⟨x0, x1, x2⟩ := hSw; go_simp; try with_reducible rfl)
              (try simp only [Act.put, List.setIfInBounds_toArray]); (try dsimp only [List.set_cons_zero, List.set_cons_succ])
              refine wpAnyH_take (i := 30) (v := ?_) opAt_30 (by kernel_rfl) (by kernel_rfl) (by kernel_rfl) (fun _ _ _ h => h) (Or.inl ⟨by rfl, ?_⟩) (by assumption) ?_
              rotate_left
              · (intro w hSw; obtain ⟨x0, x1, x2⟩ := hSw; go_simp; try with_reducible rfl)
              (try simp only [Act.put, List.setIfInBounds_toArray]); (try dsimp only [List.set_cons_zero, List.set_cons_succ])
              refine wpAnyH_take (i := 31) (v := ?_) opAt_31 (by kernel_rfl) (by kernel_rfl) (by kernel_rfl) (fun _ _ _ h => h) (Or.inl ⟨by rfl, ?_⟩) (by assumption) ?_
              rotate_left
              · (intro w hSw; obtain ⟨x0, x1, x2⟩ := hSw; go_simp; try with_reducible rfl)
              (try simp only [Act.put, List.setIfInBounds_toArray]); (try dsimp only [List.set_cons_zero, List.set_cons_succ])
              refine wpAnyH_take (i := 32) (v := ?_) opAt_32 (by kernel_rfl) (by kernel_rfl) (by kernel_rfl) (fun _ _ _ h => h) (Or.inl ⟨by rfl, ?_⟩) (by assumption) ?_
              rotate_left
              · (intro w hSw; obtain ⟨x0, x1, x2⟩ := hSw; go_simp; try with_reducible rfl)
              (try simp only [Act.put, List.setIfInBounds_toArray]); (try dsimp only [List.set_cons_zero, List.set_cons_succ])
              refine wpAnyH_take (i := 34) (v := ?_) opAt_34 (by kernel_rfl) (by kernel_rfl) (by kernel_rfl) (fun _ _ _ h => h) (Or.inl ⟨by rfl, ?_⟩) (by assumption) ?_
              rotate_left
              · (intro w hSw; obtain ⟨x0, x1, x2⟩ := hSw; go_simp; try with_reducible rfl)
              (try simp only [Act.put, List.setIfInBounds_toArray]); (try dsimp only [List.set_cons_zero, List.set_cons_succ])
              refine wpAnyH_take (i := 35) (v := ?_) opAt_35 (by kernel_rfl) (by kernel_rfl) (by kernel_rfl) (fun _ _ _ h => h) (Or.inl ⟨by rfl, ?_⟩) (by assumption) ?_
              rotate_left
              · (intro w hSw; obtain ⟨x0, x1, x2⟩ := hSw; go_simp; try with_reducible rfl)
              (try simp only [Act.put, List.setIfInBounds_toArray]); (try dsimp only [List.set_cons_zero, List.set_cons_succ])
              refine wpAnyH_ready (rs := [33]) (by kernel_rfl) (by simp) ?_
              refine AllReadyH.cons rfl (fun K hK => ?_) AllReadyH.nil
              go_simp
              have hbl0 : Below w.heap.size w V0 := HB2.out.trans (hb0.below HB2.out.size (fun i h => h.1))
              have hsz0 := hb0.size
              refine (tabs_rem (i := 0) HT0.out rfl _ (k.take q) ((HKb.out _ hbl0).mono hbl0.size) (by have := HQl.out; omega) (fun x hx => by have := HC9.out; have := hbl0.size; constructor <;> omega)).mono ?_
              rintro e V1 ⟨r0, a2, rfl, hr0, hp0, hs0, ht, nb⟩
              have HT1 : Hid (Tabs (fun z => w.heap.size ≤ z ∧ z ≠ C) V1 [(Ta, a2), (Tb, b)]) := Lib.hid ht
              have hb1 : Chg (fun z => w.heap.size ≤ z ∧ z ≠ C) w2 V1 := hb0.trans nb (fun i h => .inl h)
              clear ht nb
              go_wp2_with fail
              refine hK.out _ _ (HBox.out _ hb1) (fun hHeld => ?_)
              clear hK K
              (try simp only [Act.put, List.setIfInBounds_toArray]); (try dsimp only [List.set_cons_zero, List.set_cons_succ])
              refine wpAnyH_ready (rs := [36]) (by kernel_rfl) (by simp) ?_
              refine AllReadyH.cons rfl (fun K hK => ?_) AllReadyH.nil
              go_simp
              have hbl1 : Below w.heap.size w V1 := HB2.out.trans (hb1.below HB2.out.size (fun i h => h.1))
              have hsz1 := hb1.size
              refine (tabs_rem (i := 1) HT1.out rfl _ (k.take q) ((HKb.out _ hbl1).mono hbl1.size) (by have := HQl.out; omega) (fun x hx => by have := HC9.out; have := hbl1.size; constructor <;> omega)).mono ?_
              rintro e V2 ⟨r1, b2, rfl, hr1, hp1, hs1, ht, nb⟩
              have HT2 : Hid (Tabs (fun z => w.heap.size ≤ z ∧ z ≠ C) V2 [(Ta, a2), (Tb, b2)]) := Lib.hid ht
              have hb2 : Chg (fun z => w.heap.size ≤ z ∧ z ≠ C) w2 V2 := hb1.trans nb (fun i h => .inl h)
              clear ht nb
              obtain ⟨hrr, hpp, hll⟩ := pair_rem HP.out.1 hr0 hr1 hp0 hp1
              have HQ := Lib.hid (And.intro hpp (And.intro hll (And.intro (hs0.trans HP.out.2.1.1) (hs1.trans HP.out.2.1.2))))
              clear hpp hll hr0 hr1 hs0 hs1 hp0 hp1
              subst hrr
              have jr : ((r1 : Int) != (r1 : Int)) = false := by simp
              go_wp2_with fail
              refine hK.out _ _ (HBox.out _ hb2) (fun hHeld => ?_)
              clear hK K
              (try simp only [Act.put, List.setIfInBounds_toArray]); (try dsimp only [List.set_cons_zero, List.set_cons_succ])
              refine wpAnyH_take (i := 37) (v := ?_) opAt_37 (by kernel_rfl) (by kernel_rfl) (by kernel_rfl) (fun _ _ _ h => h) (Or.inl ⟨by rfl, ?_⟩) (by assumption) ?_
              rotate_left
              · (intro w hSw; obtain ⟨x0, x1, x2⟩ := hSw; go_simp; try with_reducible rfl)
              (try simp only [Act.put, List.setIfInBounds_toArray]); (try dsimp only [List.set_cons_zero, List.set_cons_succ])
              refine wpAnyH_take (i := 38) (v := ?_) opAt_38 (by kernel_rfl) (by kernel_rfl) (by kernel_rfl) (fun _ _ _ h => h) (Or.inl ⟨by rfl, ?_⟩) (by assumption) ?_
              rotate_left
              · (intro w hSw; obtain ⟨x0, x1, x2⟩ := hSw; go_simp; try with_reducible rfl)
              (try simp only [Act.put, List.setIfInBounds_toArray]); (try dsimp only [List.set_cons_zero, List.set_cons_succ])
              refine wpAnyH_take (i := 39) (v := ?_) opAt_39 (by kernel_rfl) (by kernel_rfl) (by kernel_rfl) (fun _ _ _ h => h) (Or.inl ⟨by rfl, ?_⟩) (by assumption) ?_
              rotate_left
              · (intro w hSw; obtain ⟨x0, x1, x2⟩ := hSw; go_simp; try with_reducible rfl)
              (try simp only [Act.put, List.setIfInBounds_toArray]); (try dsimp only [List.set_cons_zero, List.set_cons_succ])
              refine wpAnyH_done (by kernel_rfl) ?_ _
              refine NoPanic.normal ?_
              have hbl2 : Below w.heap.size w V2 := HB2.out.trans (hb2.below HB2.out.size (fun i h => h.1))
              have hsz2 := hb2.size
              have HR := Lib.hid (And.intro HT2.out (And.intro HQ.out.1 (And.intro HQ.out.2.1 (And.intro HQ.out.2.2 hbl2))))
              go_wp2_with fail
              go_meet
              case rel => exact ⟨rfl, a2, b2, HR⟩
            by_cases h : wh = 5
            · have k0 : (0 : Int) ≤ wh := by omega
              have k1 : ¬ wh ≤ (3 : Int) := by omega
              have k2 : (wh == (4 : Int)) = false := by simp; omega
              have k3 : (wh == (5 : Int)) = true := by simp; omega
              try clear h
              refine wp_region_noPanic ?_
              have hb0 : Chg (fun z => w.heap.size ≤ z ∧ z ≠ C) w2 w2.drew := Chg.refl.drew
              refine wp_region_held_drew (S := fun V : World => V.cell? ⟨C, 0, none⟩ = some (.int .i64 wh) ∧ V.cell? ⟨C, 1, none⟩ = some (.slice Ak k.length ck) ∧ V.cell? ⟨C, 2, none⟩ = some (.int .u64 (nn : Int))) (by kernel_rfl) (HBox.out _ hb0) (fun hHeld => ?_)
              have HT0 := Lib.hid (HT2.out.on (Below.refl w2.heap.size w2).drew)
              clear HT2 y0 y1
              generalize World.drew w2 = V0 at *
              refine wpAnyH_take (i := 0) (v := ?_) opAt_0 (by kernel_rfl) (by kernel_rfl) (by kernel_rfl) (fun _ _ _ h => h) (Or.inl ⟨by rfl, ?_⟩) (by assumption) ?_
              rotate_left
              · (intro w hSw; obtain ⟨x0, x1, x2⟩ := hSw; go_simp; try with_reducible rfl)
              (try simp only [Act.put, List.setIfInBounds_toArray]); (try dsimp only [List.set_cons_zero, List.set_cons_succ])
              refine wpAnyH_take (i := 1) (v := ?_) opAt_1 (by kernel_rfl) (by kernel_rfl) (by kernel_rfl) (fun _ _ _ h => h) (Or.inl ⟨by rfl, ?_⟩) (by assumption) ?_
              rotate_left
              · (intro w hSw; obtain ⟨x0, x1, x2⟩ := hSw; go_simp; try with_reducible rfl)
              (try simp only [Act.put, List.setIfInBounds_toArray]); (try dsimp only [List.set_cons_zero, List.set_cons_succ])
              refine wpAnyH_take (i := 2) (v := ?_) opAt_2 (by kernel_rfl) (by kernel_rfl) (by kernel_rfl) (fun _ _ _ h => h) (Or.inl ⟨by rfl, ?_⟩) (by assumption) ?_
              rotate_left
              · (intro w hSw; obtain ⟨x0, x1, x2⟩ := hSw; go_simp; try with_reducible rfl)
              (try simp only [Act.put, List.setIfInBounds_toArray]); (try dsimp only [List.set_cons_zero, List.set_cons_succ])
              refine wpAnyH_take (i := 3) (v := ?_) opAt_3 (by kernel_rfl) (by kernel_rfl) (by kernel_rfl) (fun _ _ _ h => h) (Or.inl ⟨by rfl, ?_⟩) (by assumption) ?_
              rotate_left
              · (intro w hSw; obtain ⟨x0, x1, x2⟩ := hSw; go_simp; try with_reducible rfl)
              (try simp only [Act.put, List.setIfInBounds_toArray]); (try dsimp only [List.set_cons_zero, List.set_cons_succ])
              refine wpAnyH_take (i := 4) (v := ?_) opAt_4 (by kernel_rfl) (by kernel_rfl) (by kernel_rfl) (fun _ _ _ h => h) (Or.inl ⟨by rfl, ?_⟩) (by assumption) ?_
              rotate_left
              · (intro w hSw; obtain ⟨x0, x1, x2⟩ := hSw; go_simp; try with_reducible rfl)
              (try simp only [Act.put, List.setIfInBounds_toArray]); (try dsimp only [List.set_cons_zero, List.set_cons_succ])
              refine wpAnyH_take (i := 5) (v := ?_) opAt_5 (by kernel_rfl) (by kernel_rfl) (by kernel_rfl) (fun _ _ _ h => h) (Or.inl ⟨by rfl, ?_⟩) (by assumption) ?_
              rotate_left
              · (intro w hSw; obtain ⟨x0, x1, x2⟩ := hSw; go_simp; try with_reducible rfl)
              (try simp only [Act.put, List.setIfInBounds_toArray]); (try dsimp only [List.set_cons_zero, List.set_cons_succ])
              refine wpAnyH_take (i := 6) (v := ?_) opAt_6 (by kernel_rfl) (by kernel_rfl) (by kernel_rfl) (fun _ _ _ h => h) (Or.inl ⟨by rfl, ?_⟩) (by assumption) ?_
              rotate_left
              · (intro w hSw; obtain ⟨x0, x1, x2⟩ := hSw; go_simp; try with_reducible rfl)
              (try simp only [Act.put, List.setIfInBounds_toArray]); (try dsimp only [List.set_cons_zero, List.set_cons_succ])
              refine wpAnyH_take (i := 7) (v := ?_) opAt_7 (by kernel_rfl) (by kernel_rfl) (by kernel_rfl) (fun _ _ _ h => h) (Or.inl ⟨by rfl, ?_⟩) (by assumption) ?_
              rotate_left
              · (intro w hSw; obtain ⟨x0, x1, x2⟩ := hSw; go_simp; try with_reducible rfl)
              (try simp only [Act.put, List.setIfInBounds_toArray]); (try dsimp only [List.set_cons_zero, List.set_cons_succ])
              refine wpAnyH_take (i := 8) (v := ?_) opAt_8 (by kernel_rfl) (by kernel_rfl) (by kernel_rfl) (fun _ _ _ h => h) (Or.inl ⟨by rfl, ?_⟩) (by assumption) ?_
              rotate_left
              · (intro w hSw; obtain ⟨x0, x1, x2⟩ := hSw; go_simp; try with_reducible rfl)
              (try simp only [Act.put, List.setIfInBounds_toArray]); (try dsimp only [List.set_cons_zero, List.set_cons_succ])
              refine wpAnyH_take (i := 9) (v := undef) opAt_9 (by kernel_rfl) (by kernel_rfl) (by kernel_rfl) (fun _ _ _ h => h) (Or.inr ⟨by rfl, rfl⟩) (by assumption) ?_
              (try simp only [Act.put, List.setIfInBounds_toArray]); (try dsimp only [List.set_cons_zero, List.set_cons_succ])
              refine wpAnyH_take (i := 10) (v := undef) opAt_10 (by kernel_rfl) (by kernel_rfl) (by kernel_rfl) (fun _ _ _ h => h) (Or.inr ⟨by rfl, rfl⟩) (by assumption) ?_
              (try simp only [Act.put, List.setIfInBounds_toArray]); (try dsimp only [List.set_cons_zero, List.set_cons_succ])
              refine wpAnyH_take (i := 11) (v := undef) opAt_11 (by kernel_rfl) (by kernel_rfl) (by kernel_rfl) (fun _ _ _ h => h) (Or.inr ⟨by rfl, rfl⟩) (by assumption) ?_
              (try simp only [Act.put, List.setIfInBounds_toArray]); (try dsimp only [List.set_cons_zero, List.set_cons_succ])
              refine wpAnyH_take (i := 12) (v := undef) opAt_12 (by kernel_rfl) (by kernel_rfl) (by kernel_rfl) (fun _ _ _ h => h) (Or.inr ⟨by rfl, rfl⟩) (by assumption) ?_
              (try simp only [Act.put, List.setIfInBounds_toArray]); (try dsimp only [List.set_cons_zero, List.set_cons_succ])
              refine wpAnyH_take (i := 14) (v := undef) opAt_14 (by kernel_rfl) (by kernel_rfl) (by kernel_rfl) (fun _ _ _ h => h) (Or.inr ⟨by rfl, rfl⟩) (by assumption) ?_
              (try simp only [Act.put, List.setIfInBounds_toArray]); (try dsimp only [List.set_cons_zero, List.set_cons_succ])
              refine wpAnyH_take (i := 15) (v := undef) opAt_15 (by kernel_rfl) (by kernel_rfl) (by kernel_rfl) (fun _ _ _ h => h) (Or.inr ⟨by rfl, rfl⟩) (by assumption) ?_
              (try simp only [Act.put, List.setIfInBounds_toArray]); (try dsimp only [List.set_cons_zero, List.set_cons_succ])
              refine wpAnyH_take (i := 16) (v := undef) opAt_16 (by kernel_rfl) (by kernel_rfl) (by kernel_rfl) (fun _ _ _ h => h) (Or.inr ⟨by rfl, rfl⟩) (by assumption) ?_
              (try simp only [Act.put, List.setIfInBounds_toArray]); (try dsimp only [List.set_cons_zero, List.set_cons_succ])
              refine wpAnyH_take (i := 17) (v := undef) opAt_17 (by kernel_rfl) (by kernel_rfl) (by kernel_rfl) (fun _ _ _ h => h) (Or.inr ⟨by rfl, rfl⟩) (by assumption) ?_
              (try simp only [Act.put, List.setIfInBounds_toArray]); (try dsimp only [List.set_cons_zero, List.set_cons_succ])
              refine wpAnyH_ready (rs := [13]) (by kernel_rfl) (by simp) ?_
              refine AllReadyH.cons rfl (fun K hK => ?_) AllReadyH.nil
              go_simp
              try refine ⟨fun _ h => by cases h, ?_⟩
              refine hK.out _ _ (by assumption) (fun hHeld => ?_)
              clear hK K
              (try simp only [Act.put, List.setIfInBounds_toArray]); (try dsimp only [List.set_cons_zero, List.set_cons_succ])
              refine wpAnyH_ready (rs := [18]) (by kernel_rfl) (by simp) ?_
              refine AllReadyH.cons rfl (fun K hK => ?_) AllReadyH.nil
              go_simp
              try refine ⟨fun _ h => by cases h, ?_⟩
              refine hK.out _ _ (by assumption) (fun hHeld => ?_)
              clear hK K
              (try simp only [Act.put, List.setIfInBounds_toArray]); (try dsimp only [List.set_cons_zero, List.set_cons_succ])
              refine wpAnyH_take (i := 19) (v := undef) opAt_19 (by kernel_rfl) (by kernel_rfl) (by kernel_rfl) (fun _ _ _ h => h) (Or.inr ⟨by rfl, rfl⟩) (by assumption) ?_
              (try simp only [Act.put, List.setIfInBounds_toArray]); (try dsimp only [List.set_cons_zero, List.set_cons_succ])
              refine wpAnyH_take (i := 20) (v := ?_) opAt_20 (by kernel_rfl) (by kernel_rfl) (by kernel_rfl) (fun _ _ _ h => h) (Or.inl ⟨by rfl, ?_⟩) (by assumption) ?_
              rotate_left
              · (intro w hSw; obtain ⟨x0, x1, x2⟩ := hSw; go_simp; try with_reducible rfl)
              (try simp only [Act.put, List.setIfInBounds_toArray]); (try dsimp only [List.set_cons_zero, List.set_cons_succ])
              refine wpAnyH_take (i := 21) (v := ?_) opAt_21 (by kernel_rfl) (by kernel_rfl) (by kernel_rfl) (fun _ _ _ h => h) (Or.inl ⟨by rfl, ?_⟩) (by assumption) ?_
              rotate_left
              · (intro w hSw; obtain ⟨x0, x1, x2⟩ := hSw; go_simp; try with_reducible rfl)
              (try simp only [Act.put, List.setIfInBounds_toArray]); (try dsimp only [List.set_cons_zero, List.set_cons_succ])
              refine wpAnyH_take (i := 22) (v := ?_) opAt_22 (by kernel_rfl) (by kernel_rfl) (by kernel_rfl) (fun _ _ _ h => h) (Or.inl ⟨by rfl, ?_⟩) (by assumption) ?_
              rotate_left
              · (intro w hSw; obtain ⟨x0, x1, x2⟩ := hSw; go_simp; try with_reducible rfl)
              (try simp only [Act.put, List.setIfInBounds_toArray]); (try dsimp only [List.set_cons_zero, List.set_cons_succ])
              refine wpAnyH_take (i := 23) (v := ?_) opAt_23 (by kernel_rfl) (by kernel_rfl) (by kernel_rfl) (fun _ _ _ h => h) (Or.inl ⟨by rfl, ?_⟩) (by assumption) ?_
              rotate_left
              · (intro w hSw; obtain ⟨x0, x1, x2⟩ := hSw; go_simp; try with_reducible rfl)
              (try simp only [Act.put, List.setIfInBounds_toArray]); (try dsimp only [List.set_cons_zero, List.set_cons_succ])
              refine wpAnyH_take (i := 24) (v := ?_) opAt_24 (by kernel_rfl) (by kernel_rfl) (by kernel_rfl) (fun _ _ _ h => h) (Or.inl ⟨by rfl, ?_⟩) (by assumption) ?_
              rotate_left
              · (intro w hSw; obtain ⟨x0, x1, x2⟩ := hSw; go_simp; try with_reducible rfl)
              (try simp only [Act.put, List.setIfInBounds_toArray]); (try dsimp only [List.set_cons_zero, List.set_cons_succ])
              refine wpAnyH_take (i := 25) (v := ?_) opAt_25 (by kernel_rfl) (by kernel_rfl) (by kernel_rfl) (fun _ _ _ h => h) (Or.inl ⟨by rfl, ?_⟩) (by assumption) ?_
              rotate_left
              · (intro w hSw; obtain ⟨x0, x1, x2⟩ := hSw; go_simp; try with_reducible rfl)
              (try simp only [Act.put, List.setIfInBounds_toArray]); (try dsimp only [List.set_cons_zero, List.set_cons_succ])
              refine wpAnyH_take (i := 26) (v := ?_) opAt_26 (by kernel_rfl) (by kernel_rfl) (by kernel_rfl) (fun _ _ _ h => h) (Or.inl ⟨by rfl, ?_⟩) (by assumption) ?_
              rotate_left
              · (intro w hSw; obtain ⟨x0, x1, x2⟩ := hSw; go_simp; try with_reducible rfl)
              (try simp only [Act.put, List.setIfInBounds_toArray]); (try dsimp only [List.set_cons_zero, List.set_cons_succ])
              refine wpAnyH_take (i := 27) (v := ?_) opAt_27 (by kernel_rfl) (by kernel_rfl) (by kernel_rfl) (fun _ _ _ h => h) (Or.inl ⟨by rfl, ?_⟩) (by assumption) ?_
              rotate_left
              · (intro w hSw; obtain ⟨x0, x1, x2⟩ := hSw; go_simp; try with_reducible rfl)
              (try simp only [Act.put, List.setIfInBounds_toArray]); (try dsimp only [List.set_cons_zero, List.set_cons_succ])
              refine wpAnyH_take (i := 28) (v := ?_) opAt_28 (by kernel_rfl) (by kernel_rfl) (by kernel_rfl) (fun _ _ _ h => h) (Or.inl ⟨by rfl, ?_⟩) (by assumption) ?_
              rotate_left
              · (intro w hSw; obtain ⟨x0, x1, x2⟩ := hSw; go_simp; try with_reducible rfl)
              (try simp only [Act.put, List.setIfInBounds_toArray]); (try dsimp only [List.set_cons_zero, List.set_cons_succ])
              refine wpAnyH_take (i := 29) (v := ?_) opAt_29 (by kernel_rfl) (by kernel_rfl) (by kernel_rfl) (fun _ _ _ h => h) (Or.inl ⟨by rfl, ?_⟩) (by assumption) ?_
              rotate_left
              · (intro w hSw; obtain ⟨x0, x1, x2⟩ := hSw; go_simp; try with_reducible rfl)
              (try simp only [Act.put, List.setIfInBounds_toArray]); (try dsimp only [List.set_cons_zero, List.set_cons_succ])
              refine wpAnyH_take (i := 30) (v := ?_) opAt_30 (by kernel_rfl) (by kernel_rfl) (by kernel_rfl) (fun _ _ _ h => h) (Or.inl ⟨by rfl, ?_⟩) (by assumption) ?_
              rotate_left
              · (intro w hSw; obtain ⟨x0, x1, x2⟩ := hSw; go_simp; try with_reducible rfl)
              (try simp only [Act.put, List.setIfInBounds_toArray]); (try dsimp only [List.set_cons_zero, List.set_cons_succ])
              refine wpAnyH_take (i := 31) (v := ?_) opAt_31 (by kernel_rfl) (by kernel_rfl) (by kernel_rfl) (fun _ _ _ h => h) (Or.inl ⟨by rfl, ?_⟩) (by assumption) ?_
              rotate_left
              · (intro w hSw; obtain ⟨x0, x1, x2⟩ := hSw; go_simp; try with_reducible rfl)
              (try simp only [Act.put, List.setIfInBounds_toArray]); (try dsimp only [List.set_cons_zero, List.set_cons_succ])
              refine wpAnyH_take (i := 32) (v := ?_) opAt_32 (by kernel_rfl) (by kernel_rfl) (by kernel_rfl) (fun _ _ _ h => h) (Or.inl ⟨by rfl, ?_⟩) (by assumption) ?_
              rotate_left
              · (intro w hSw; obtain ⟨x0, x1, x2⟩ := hSw; go_simp; try with_reducible rfl)
              (try simp only [Act.put, List.setIfInBounds_toArray]); (try dsimp only [List.set_cons_zero, List.set_cons_succ])
              refine wpAnyH_take (i := 34) (v := ?_) opAt_34 (by kernel_rfl) (by kernel_rfl) (by kernel_rfl) (fun _ _ _ h => h) (Or.inl ⟨by rfl, ?_⟩) (by assumption) ?_
              rotate_left
              · (intro w hSw; obtain ⟨x0, x1, x2⟩ := hSw; go_simp; try with_reducible rfl)
              (try simp only [Act.put, List.setIfInBounds_toArray]); (try dsimp only [List.set_cons_zero, List.set_cons_succ])
              refine wpAnyH_take (i := 35) (v := ?_) opAt_35 (by kernel_rfl) (by kernel_rfl) (by kernel_rfl) (fun _ _ _ h => h) (Or.inl ⟨by rfl, ?_⟩) (by assumption) ?_
              rotate_left
              · (intro w hSw; obtain ⟨x0, x1, x2⟩ := hSw; go_simp; try with_reducible rfl)
              (try simp only [Act.put, List.setIfInBounds_toArray]); (try dsimp only [List.set_cons_zero, List.set_cons_succ])
              refine wpAnyH_ready (rs := [33]) (by kernel_rfl) (by simp) ?_
              refine AllReadyH.cons rfl (fun K hK => ?_) AllReadyH.nil
              go_simp
              have hbl0 : Below w.heap.size w V0 := HB2.out.trans (hb0.below HB2.out.size (fun i h => h.1))
              have hsz0 := hb0.size
              refine (tabs_rem (i := 0) HT0.out rfl _ (k.take q) ((HKb.out _ hbl0).mono hbl0.size) (by have := HQl.out; omega) (fun x hx => by have := HC9.out; have := hbl0.size; constructor <;> omega)).mono ?_
              rintro e V1 ⟨r0, a2, rfl, hr0, hp0, hs0, ht, nb⟩
              have HT1 : Hid (Tabs (fun z => w.heap.size ≤ z ∧ z ≠ C) V1 [(Ta, a2), (Tb, b)]) := Lib.hid ht
              have hb1 : Chg (fun z => w.heap.size ≤ z ∧ z ≠ C) w2 V1 := hb0.trans nb (fun i h => .inl h)
              clear ht nb
              go_wp2_with fail
              refine hK.out _ _ (HBox.out _ hb1) (fun hHeld => ?_)
              clear hK K
              (try simp only [Act.put, List.setIfInBounds_toArray]); (try dsimp only [List.set_cons_zero, List.set_cons_succ])
              refine wpAnyH_ready (rs := [36]) (by kernel_rfl) (by simp) ?_
              refine AllReadyH.cons rfl (fun K hK => ?_) AllReadyH.nil
              go_simp
              have hbl1 : Below w.heap.size w V1 := HB2.out.trans (hb1.below HB2.out.size (fun i h => h.1))
              have hsz1 := hb1.size
              refine (tabs_rem (i := 1) HT1.out rfl _ (k.take q) ((HKb.out _ hbl1).mono hbl1.size) (by have := HQl.out; omega) (fun x hx => by have := HC9.out; have := hbl1.size; constructor <;> omega)).mono ?_
              rintro e V2 ⟨r1, b2, rfl, hr1, hp1, hs1, ht, nb⟩
              have HT2 : Hid (Tabs (fun z => w.heap.size ≤ z ∧ z ≠ C) V2 [(Ta, a2), (Tb, b2)]) := Lib.hid ht
              have hb2 : Chg (fun z => w.heap.size ≤ z ∧ z ≠ C) w2 V2 := hb1.trans nb (fun i h => .inl h)
              clear ht nb
              obtain ⟨hrr, hpp, hll⟩ := pair_rem HP.out.1 hr0 hr1 hp0 hp1
              have HQ := Lib.hid (And.intro hpp (And.intro hll (And.intro (hs0.trans HP.out.2.1.1) (hs1.trans HP.out.2.1.2))))
              clear hpp hll hr0 hr1 hs0 hs1 hp0 hp1
              subst hrr
              have jr : ((r1 : Int) != (r1 : Int)) = false := by simp
              go_wp2_with fail
              refine hK.out _ _ (HBox.out _ hb2) (fun hHeld => ?_)
              clear hK K
              (try simp only [Act.put, List.setIfInBounds_toArray]); (try dsimp only [List.set_cons_zero, List.set_cons_succ])
              refine wpAnyH_take (i := 37) (v := ?_) opAt_37 (by kernel_rfl) (by kernel_rfl) (by kernel_rfl) (fun _ _ _ h => h) (Or.inl ⟨by rfl, ?_⟩) (by assumption) ?_
              rotate_left
              · (intro w hSw; obtain ⟨x0, x1, x2⟩ := hSw; go_simp; try with_reducible rfl)
              (try simp only [Act.put, List.setIfInBounds_toArray]); (try dsimp only [List.set_cons_zero, List.set_cons_succ])
              refine wpAnyH_take (i := 38) (v := ?_) opAt_38 (by kernel_rfl) (by kernel_rfl) (by kernel_rfl) (fun _ _ _ h => h) (Or.inl ⟨by rfl, ?_⟩) (by assumption) ?_
              rotate_left
              · (intro w hSw; obtain ⟨x0, x1, x2⟩ := hSw; go_simp; try with_reducible rfl)
              (try simp only [Act.put, List.setIfInBounds_toArray]); (try dsimp only [List.set_cons_zero, List.set_cons_succ])
              refine wpAnyH_take (i := 39) (v := ?_) opAt_39 (by kernel_rfl) (by kernel_rfl) (by kernel_rfl) (fun _ _ _ h => h) (Or.inl ⟨by rfl, ?_⟩) (by assumption) ?_
              rotate_left
              · (intro w hSw; obtain ⟨x0, x1, x2⟩ := hSw; go_simp; try with_reducible rfl)
              (try simp only [Act.put, List.setIfInBounds_toArray]); (try dsimp only [List.set_cons_zero, List.set_cons_succ])
              refine wpAnyH_done (by kernel_rfl) ?_ _
              refine NoPanic.normal ?_
              have hbl2 : Below w.heap.size w V2 := HB2.out.trans (hb2.below HB2.out.size (fun i h => h.1))
              have hsz2 := hb2.size
              have HR := Lib.hid (And.intro HT2.out (And.intro HQ.out.1 (And.intro HQ.out.2.1 (And.intro HQ.out.2.2 hbl2))))
              go_wp2_with fail
              go_meet
              case rel => exact ⟨rfl, a2, b2, HR⟩
            by_cases h : wh < 0
            · have k0 : ¬ (0 : Int) ≤ wh := by omega
              have k2 : (wh == (4 : Int)) = false := by simp; omega
              have k3 : (wh == (5 : Int)) = false := by simp; omega
              try clear h
              refine wp_region_noPanic ?_
              have hb0 : Chg (fun z => w.heap.size ≤ z ∧ z ≠ C) w2 w2.drew := Chg.refl.drew
              refine wp_region_held_drew (S := fun V : World => V.cell? ⟨C, 0, none⟩ = some (.int .i64 wh) ∧ V.cell? ⟨C, 1, none⟩ = some (.slice Ak k.length ck) ∧ V.cell? ⟨C, 2, none⟩ = some (.int .u64 (nn : Int))) (by kernel_rfl) (HBox.out _ hb0) (fun hHeld => ?_)
              have HT0 := Lib.hid (HT2.out.on (Below.refl w2.heap.size w2).drew)
              clear HT2 y0 y1
              generalize World.drew w2 = V0 at *
              refine wpAnyH_take (i := 0) (v := ?_) opAt_0 (by kernel_rfl) (by kernel_rfl) (by kernel_rfl) (fun _ _ _ h => h) (Or.inl ⟨by rfl, ?_⟩) (by assumption) ?_
              rotate_left
              · (intro w hSw; obtain ⟨x0, x1, x2⟩ := hSw; go_simp; try with_reducible rfl)
              (try simp only [Act.put, List.setIfInBounds_toArray]); (try dsimp only [List.set_cons_zero, List.set_cons_succ])
              refine wpAnyH_take (i := 1) (v := ?_) opAt_1 (by kernel_rfl) (by kernel_rfl) (by kernel_rfl) (fun _ _ _ h => h) (Or.inl ⟨by rfl, ?_⟩) (by assumption) ?_
              rotate_left
              · (intro w hSw; obtain ⟨x0, x1, x2⟩ := hSw; go_simp; try with_reducible rfl)
              (try simp only [Act.put, List.setIfInBounds_toArray]); (try dsimp only [List.set_cons_zero, List.set_cons_succ])
              refine wpAnyH_take (i := 2) (v := ?_) opAt_2 (by kernel_rfl) (by kernel_rfl) (by kernel_rfl) (fun _ _ _ h => h) (Or.inl ⟨by rfl, ?_⟩) (by assumption) ?_
              rotate_left
              · (intro w hSw; obtain ⟨x0, x1, x2⟩ := hSw; go_simp; try with_reducible rfl)
              (try simp only [Act.put, List.setIfInBounds_toArray]); (try dsimp only [List.set_cons_zero, List.set_cons_succ])
              refine wpAnyH_take (i := 3) (v := ?_) opAt_3 (by kernel_rfl) (by kernel_rfl) (by kernel_rfl) (fun _ _ _ h => h) (Or.inl ⟨by rfl, ?_⟩) (by assumption) ?_
              rotate_left
              · (intro w hSw; obtain ⟨x0, x1, x2⟩ := hSw; go_simp; try with_reducible rfl)
              (try simp only [Act.put, List.setIfInBounds_toArray]); (try dsimp only [List.set_cons_zero, List.set_cons_succ])
              refine wpAnyH_take (i := 4) (v := undef) opAt_4 (by kernel_rfl) (by kernel_rfl) (by kernel_rfl) (fun _ _ _ h => h) (Or.inr ⟨by rfl, rfl⟩) (by assumption) ?_
              (try simp only [Act.put, List.setIfInBounds_toArray]); (try dsimp only [List.set_cons_zero, List.set_cons_succ])
              refine wpAnyH_take (i := 5) (v := undef) opAt_5 (by kernel_rfl) (by kernel_rfl) (by kernel_rfl) (fun _ _ _ h => h) (Or.inr ⟨by rfl, rfl⟩) (by assumption) ?_
              (try simp only [Act.put, List.setIfInBounds_toArray]); (try dsimp only [List.set_cons_zero, List.set_cons_succ])
              refine wpAnyH_take (i := 6) (v := undef) opAt_6 (by kernel_rfl) (by kernel_rfl) (by kernel_rfl) (fun _ _ _ h => h) (Or.inr ⟨by rfl, rfl⟩) (by assumption) ?_
              (try simp only [Act.put, List.setIfInBounds_toArray]); (try dsimp only [List.set_cons_zero, List.set_cons_succ])
              refine wpAnyH_take (i := 7) (v := ?_) opAt_7 (by kernel_rfl) (by kernel_rfl) (by kernel_rfl) (fun _ _ _ h => h) (Or.inl ⟨by rfl, ?_⟩) (by assumption) ?_
              rotate_left
              · (intro w hSw; obtain ⟨x0, x1, x2⟩ := hSw; go_simp; try with_reducible rfl)
              (try simp only [Act.put, List.setIfInBounds_toArray]); (try dsimp only [List.set_cons_zero, List.set_cons_succ])
              refine wpAnyH_take (i := 8) (v := ?_) opAt_8 (by kernel_rfl) (by kernel_rfl) (by kernel_rfl) (fun _ _ _ h => h) (Or.inl ⟨by rfl, ?_⟩) (by assumption) ?_
              rotate_left
              · (intro w hSw; obtain ⟨x0, x1, x2⟩ := hSw; go_simp; try with_reducible rfl)
              (try simp only [Act.put, List.setIfInBounds_toArray]); (try dsimp only [List.set_cons_zero, List.set_cons_succ])
              refine wpAnyH_take (i := 9) (v := undef) opAt_9 (by kernel_rfl) (by kernel_rfl) (by kernel_rfl) (fun _ _ _ h => h) (Or.inr ⟨by rfl, rfl⟩) (by assumption) ?_
              (try simp only [Act.put, List.setIfInBounds_toArray]); (try dsimp only [List.set_cons_zero, List.set_cons_succ])
              refine wpAnyH_take (i := 10) (v := undef) opAt_10 (by kernel_rfl) (by kernel_rfl) (by kernel_rfl) (fun _ _ _ h => h) (Or.inr ⟨by rfl, rfl⟩) (by assumption) ?_
              (try simp only [Act.put, List.setIfInBounds_toArray]); (try dsimp only [List.set_cons_zero, List.set_cons_succ])
              refine wpAnyH_take (i := 11) (v := undef) opAt_11 (by kernel_rfl) (by kernel_rfl) (by kernel_rfl) (fun _ _ _ h => h) (Or.inr ⟨by rfl, rfl⟩) (by assumption) ?_
              (try simp only [Act.put, List.setIfInBounds_toArray]); (try dsimp only [List.set_cons_zero, List.set_cons_succ])
              refine wpAnyH_take (i := 12) (v := undef) opAt_12 (by kernel_rfl) (by kernel_rfl) (by kernel_rfl) (fun _ _ _ h => h) (Or.inr ⟨by rfl, rfl⟩) (by assumption) ?_
              (try simp only [Act.put, List.setIfInBounds_toArray]); (try dsimp only [List.set_cons_zero, List.set_cons_succ])
              refine wpAnyH_take (i := 14) (v := undef) opAt_14 (by kernel_rfl) (by kernel_rfl) (by kernel_rfl) (fun _ _ _ h => h) (Or.inr ⟨by rfl, rfl⟩) (by assumption) ?_
              (try simp only [Act.put, List.setIfInBounds_toArray]); (try dsimp only [List.set_cons_zero, List.set_cons_succ])
              refine wpAnyH_take (i := 15) (v := undef) opAt_15 (by kernel_rfl) (by kernel_rfl) (by kernel_rfl) (fun _ _ _ h => h) (Or.inr ⟨by rfl, rfl⟩) (by assumption) ?_
              (try simp only [Act.put, List.setIfInBounds_toArray]); (try dsimp only [List.set_cons_zero, List.set_cons_succ])
              refine wpAnyH_take (i := 16) (v := undef) opAt_16 (by kernel_rfl) (by kernel_rfl) (by kernel_rfl) (fun _ _ _ h => h) (Or.inr ⟨by rfl, rfl⟩) (by assumption) ?_
              (try simp only [Act.put, List.setIfInBounds_toArray]); (try dsimp only [List.set_cons_zero, List.set_cons_succ])
              refine wpAnyH_take (i := 17) (v := undef) opAt_17 (by kernel_rfl) (by kernel_rfl) (by kernel_rfl) (fun _ _ _ h => h) (Or.inr ⟨by rfl, rfl⟩) (by assumption) ?_
              (try simp only [Act.put, List.setIfInBounds_toArray]); (try dsimp only [List.set_cons_zero, List.set_cons_succ])
              refine wpAnyH_ready (rs := [13]) (by kernel_rfl) (by simp) ?_
              refine AllReadyH.cons rfl (fun K hK => ?_) AllReadyH.nil
              go_simp
              try refine ⟨fun _ h => by cases h, ?_⟩
              refine hK.out _ _ (by assumption) (fun hHeld => ?_)
              clear hK K
              (try simp only [Act.put, List.setIfInBounds_toArray]); (try dsimp only [List.set_cons_zero, List.set_cons_succ])
              refine wpAnyH_ready (rs := [18]) (by kernel_rfl) (by simp) ?_
              refine AllReadyH.cons rfl (fun K hK => ?_) AllReadyH.nil
              go_simp
              try refine ⟨fun _ h => by cases h, ?_⟩
              refine hK.out _ _ (by assumption) (fun hHeld => ?_)
              clear hK K
              (try simp only [Act.put, List.setIfInBounds_toArray]); (try dsimp only [List.set_cons_zero, List.set_cons_succ])
              refine wpAnyH_take (i := 19) (v := undef) opAt_19 (by kernel_rfl) (by kernel_rfl) (by kernel_rfl) (fun _ _ _ h => h) (Or.inr ⟨by rfl, rfl⟩) (by assumption) ?_
              (try simp only [Act.put, List.setIfInBounds_toArray]); (try dsimp only [List.set_cons_zero, List.set_cons_succ])
              refine wpAnyH_take (i := 20) (v := ?_) opAt_20 (by kernel_rfl) (by kernel_rfl) (by kernel_rfl) (fun _ _ _ h => h) (Or.inl ⟨by rfl, ?_⟩) (by assumption) ?_
              rotate_left
              · (intro w hSw; obtain ⟨x0, x1, x2⟩ := hSw; go_simp; try with_reducible rfl)
              (try simp only [Act.put, List.setIfInBounds_toArray]); (try dsimp only [List.set_cons_zero, List.set_cons_succ])
              refine wpAnyH_take (i := 21) (v := ?_) opAt_21 (by kernel_rfl) (by kernel_rfl) (by kernel_rfl) (fun _ _ _ h => h) (Or.inl ⟨by rfl, ?_⟩) (by assumption) ?_
              rotate_left
              · (intro w hSw; obtain ⟨x0, x1, x2⟩ := hSw; go_simp; try with_reducible rfl)
              (try simp only [Act.put, List.setIfInBounds_toArray]); (try dsimp only [List.set_cons_zero, List.set_cons_succ])
              refine wpAnyH_take (i := 22) (v := ?_) opAt_22 (by kernel_rfl) (by kernel_rfl) (by kernel_rfl) (fun _ _ _ h => h) (Or.inl ⟨by rfl, ?_⟩) (by assumption) ?_
              rotate_left
              · (intro w hSw; obtain ⟨x0, x1, x2⟩ := hSw; go_simp; try with_reducible rfl)
              (try simp only [Act.put, List.setIfInBounds_toArray]); (try dsimp only [List.set_cons_zero, List.set_cons_succ])
              refine wpAnyH_take (i := 23) (v := ?_) opAt_23 (by kernel_rfl) (by kernel_rfl) (by kernel_rfl) (fun _ _ _ h => h) (Or.inl ⟨by rfl, ?_⟩) (by assumption) ?_
              rotate_left
              · (intro w hSw; obtain ⟨x0, x1, x2⟩ := hSw; go_simp; try with_reducible rfl)
              (try simp only [Act.put, List.setIfInBounds_toArray]); (try dsimp only [List.set_cons_zero, List.set_cons_succ])
              refine wpAnyH_take (i := 24) (v := ?_) opAt_24 (by kernel_rfl) (by kernel_rfl) (by kernel_rfl) (fun _ _ _ h => h) (Or.inl ⟨by rfl, ?_⟩) (by assumption) ?_
              rotate_left
              · (intro w hSw; obtain ⟨x0, x1, x2⟩ := hSw; go_simp; try with_reducible rfl)
              (try simp only [Act.put, List.setIfInBounds_toArray]); (try dsimp only [List.set_cons_zero, List.set_cons_succ])
              refine wpAnyH_take (i := 25) (v := ?_) opAt_25 (by kernel_rfl) (by kernel_rfl) (by kernel_rfl) (fun _ _ _ h => h) (Or.inl ⟨by rfl, ?_⟩) (by assumption) ?_
              rotate_left
              · (intro w hSw; obtain ⟨x0, x1, x2⟩ := hSw; go_simp; try with_reducible rfl)
              (try simp only [Act.put, List.setIfInBounds_toArray]); (try dsimp only [List.set_cons_zero, List.set_cons_succ])
              refine wpAnyH_take (i := 26) (v := ?_) opAt_26 (by kernel_rfl) (by kernel_rfl) (by kernel_rfl) (fun _ _ _ h => h) (Or.inl ⟨by rfl, ?_⟩) (by assumption) ?_
              rotate_left
              · (intro w hSw; obtain ⟨x0, x1, x2⟩ := hSw; go_simp; try with_reducible rfl)
              (try simp only [Act.put, List.setIfInBounds_toArray]); (try dsimp only [List.set_cons_zero, List.set_cons_succ])
              refine wpAnyH_take (i := 27) (v := ?_) opAt_27 (by kernel_rfl) (by kernel_rfl) (by kernel_rfl) (fun _ _ _ h => h) (Or.inl ⟨by rfl, ?_⟩) (by assumption) ?_
              rotate_left
              · (intro w hSw; obtain ⟨x0, x1, x2⟩ := hSw; go_simp; try with_reducible rfl)
              (try simp only [Act.put, List.setIfInBounds_toArray]); (try dsimp only [List.set_cons_zero, List.set_cons_succ])
              refine wpAnyH_take (i := 28) (v := ?_) opAt_28 (by kernel_rfl) (by kernel_rfl) (by kernel_rfl) (fun _ _ _ h => h) (Or.inl ⟨by rfl, ?_⟩) (by assumption) ?_
              rotate_left
              · (intro w hSw; obtain ⟨x0, x1, x2⟩ := hSw; go_simp; try with_reducible rfl)
              (try simp only [Act.put, List.setIfInBounds_toArray]); (try dsimp only [List.set_cons_zero, List.set_cons_succ])
              refine wpAnyH_take (i := 29) (v := ?_) opAt_29 (by kernel_rfl) (by kernel_rfl) (by kernel_rfl) (fun _ _ _ h => h) (Or.inl ⟨by rfl, ?_⟩) (by assumption) ?_
              rotate_left
              · (intro w hSw; obtain ⟨x0, x1, x2⟩ := hSw; go_simp; try with_reducible rfl)
              (try simp only [Act.put, List.setIfInBounds_toArray]); (try dsimp only [List.set_cons_zero, List.set_cons_succ])
              refine wpAnyH_take (i := 30) (v := ?_) opAt_30 (by kernel_rfl) (by kernel_rfl) (by kernel_rfl) (fun _ _ _ h => h) (Or.inl ⟨by rfl, ?_⟩) (by assumption) ?_
              rotate_left
              · (intro w hSw; obtain ⟨x0, x1, x2⟩ := hSw; go_simp; try with_reducible rfl)
              (try simp only [Act.put, List.setIfInBounds_toArray]); (try dsimp only [List.set_cons_zero, List.set_cons_succ])
              refine wpAnyH_take (i := 31) (v := undef) opAt_31 (by kernel_rfl) (by kernel_rfl) (by kernel_rfl) (fun _ _ _ h => h) (Or.inr ⟨by rfl, rfl⟩) (by assumption) ?_
              (try simp only [Act.put, List.setIfInBounds_toArray]); (try dsimp only [List.set_cons_zero, List.set_cons_succ])
              refine wpAnyH_take (i := 32) (v := undef) opAt_32 (by kernel_rfl) (by kernel_rfl) (by kernel_rfl) (fun _ _ _ h => h) (Or.inr ⟨by rfl, rfl⟩) (by assumption) ?_
              (try simp only [Act.put, List.setIfInBounds_toArray]); (try dsimp only [List.set_cons_zero, List.set_cons_succ])
              refine wpAnyH_take (i := 34) (v := undef) opAt_34 (by kernel_rfl) (by kernel_rfl) (by kernel_rfl) (fun _ _ _ h => h) (Or.inr ⟨by rfl, rfl⟩) (by assumption) ?_
              (try simp only [Act.put, List.setIfInBounds_toArray]); (try dsimp only [List.set_cons_zero, List.set_cons_succ])
              refine wpAnyH_take (i := 35) (v := undef) opAt_35 (by kernel_rfl) (by kernel_rfl) (by kernel_rfl) (fun _ _ _ h => h) (Or.inr ⟨by rfl, rfl⟩) (by assumption) ?_
              (try simp only [Act.put, List.setIfInBounds_toArray]); (try dsimp only [List.set_cons_zero, List.set_cons_succ])
              refine wpAnyH_ready (rs := [33]) (by kernel_rfl) (by simp) ?_
              refine AllReadyH.cons rfl (fun K hK => ?_) AllReadyH.nil
              go_simp
              try refine ⟨fun _ h => by cases h, ?_⟩
              refine hK.out _ _ (by assumption) (fun hHeld => ?_)
              clear hK K
              (try simp only [Act.put, List.setIfInBounds_toArray]); (try dsimp only [List.set_cons_zero, List.set_cons_succ])
              refine wpAnyH_ready (rs := [36]) (by kernel_rfl) (by simp) ?_
              refine AllReadyH.cons rfl (fun K hK => ?_) AllReadyH.nil
              go_simp
              try refine ⟨fun _ h => by cases h, ?_⟩
              refine hK.out _ _ (by assumption) (fun hHeld => ?_)
              clear hK K
              (try simp only [Act.put, List.setIfInBounds_toArray]); (try dsimp only [List.set_cons_zero, List.set_cons_succ])
              refine wpAnyH_take (i := 37) (v := undef) opAt_37 (by kernel_rfl) (by kernel_rfl) (by kernel_rfl) (fun _ _ _ h => h) (Or.inr ⟨by rfl, rfl⟩) (by assumption) ?_
              (try simp only [Act.put, List.setIfInBounds_toArray]); (try dsimp only [List.set_cons_zero, List.set_cons_succ])
              refine wpAnyH_take (i := 38) (v := ?_) opAt_38 (by kernel_rfl) (by kernel_rfl) (by kernel_rfl) (fun _ _ _ h => h) (Or.inl ⟨by rfl, ?_⟩) (by assumption) ?_
              rotate_left
              · (intro w hSw; obtain ⟨x0, x1, x2⟩ := hSw; go_simp; try with_reducible rfl)
              (try simp only [Act.put, List.setIfInBounds_toArray]); (try dsimp only [List.set_cons_zero, List.set_cons_succ])
              refine wpAnyH_take (i := 39) (v := ?_) opAt_39 (by kernel_rfl) (by kernel_rfl) (by kernel_rfl) (fun _ _ _ h => h) (Or.inl ⟨by rfl, ?_⟩) (by assumption) ?_
              rotate_left
              · (intro w hSw; obtain ⟨x0, x1, x2⟩ := hSw; go_simp; try with_reducible rfl)
              (try simp only [Act.put, List.setIfInBounds_toArray]); (try dsimp only [List.set_cons_zero, List.set_cons_succ])
              refine wpAnyH_done (by kernel_rfl) ?_ _
              refine NoPanic.normal ?_
              have hbl0 : Below w.heap.size w V0 := HB2.out.trans (hb0.below HB2.out.size (fun i h => h.1))
              have hsz0 := hb0.size
              have HR := Lib.hid (And.intro HT0.out (And.intro HP.out.1 (And.intro (Nat.le_succ a.prs.length) (And.intro HP.out.2.1 hbl0))))
              go_wp2_with fail
              go_meet
              case rel => exact ⟨rfl, a, b, HR⟩
            have k0 : (0 : Int) ≤ wh := by omega
            have k1 : ¬ wh ≤ (3 : Int) := by omega
            have k2 : (wh == (4 : Int)) = false := by simp; omega
            have k3 : (wh == (5 : Int)) = false := by simp; omega
            try clear h
            refine wp_region_noPanic ?_
            have hb0 : Chg (fun z => w.heap.size ≤ z ∧ z ≠ C) w2 w2.drew := Chg.refl.drew
            refine wp_region_held_drew (S := fun V : World => V.cell? ⟨C, 0, none⟩ = some (.int .i64 wh) ∧ V.cell? ⟨C, 1, none⟩ = some (.slice Ak k.length ck) ∧ V.cell? ⟨C, 2, none⟩ = some (.int .u64 (nn : Int))) (by kernel_rfl) (HBox.out _ hb0) (fun hHeld => ?_)
            have HT0 := Lib.hid (HT2.out.on (Below.refl w2.heap.size w2).drew)
            clear HT2 y0 y1
            generalize World.drew w2 = V0 at *
            refine wpAnyH_take (i := 0) (v := ?_) opAt_0 (by kernel_rfl) (by kernel_rfl) (by kernel_rfl) (fun _ _ _ h => h) (Or.inl ⟨by rfl, ?_⟩) (by assumption) ?_
            rotate_left
            · (intro w hSw; obtain ⟨x0, x1, x2⟩ := hSw; go_simp; try with_reducible rfl)
            (try simp only [Act.put, List.setIfInBounds_toArray]); (try dsimp only [List.set_cons_zero, List.set_cons_succ])
            refine wpAnyH_take (i := 1) (v := ?_) opAt_1 (by kernel_rfl) (by kernel_rfl) (by kernel_rfl) (fun _ _ _ h => h) (Or.inl ⟨by rfl, ?_⟩) (by assumption) ?_
            rotate_left
            · (intro w hSw; obtain ⟨x0, x1, x2⟩ := hSw; go_simp; try with_reducible rfl)
            (try simp only [Act.put, List.setIfInBounds_toArray]); (try dsimp only [List.set_cons_zero, List.set_cons_succ])
            refine wpAnyH_take (i := 2) (v := ?_) opAt_2 (by kernel_rfl) (by kernel_rfl) (by kernel_rfl) (fun _ _ _ h => h) (Or.inl ⟨by rfl, ?_⟩) (by assumption) ?_
            rotate_left
            · (intro w hSw; obtain ⟨x0, x1, x2⟩ := hSw; go_simp; try with_reducible rfl)
            (try simp only [Act.put, List.setIfInBounds_toArray]); (try dsimp only [List.set_cons_zero, List.set_cons_succ])
            refine wpAnyH_take (i := 3) (v := ?_) opAt_3 (by kernel_rfl) (by kernel_rfl) (by kernel_rfl) (fun _ _ _ h => h) (Or.inl ⟨by rfl, ?_⟩) (by assumption) ?_
            rotate_left
            · (intro w hSw; obtain ⟨x0, x1, x2⟩ := hSw; go_simp; try with_reducible rfl)
            (try simp only [Act.put, List.setIfInBounds_toArray]); (try dsimp only [List.set_cons_zero, List.set_cons_succ])
            refine wpAnyH_take (i := 4) (v := ?_) opAt_4 (by kernel_rfl) (by kernel_rfl) (by kernel_rfl) (fun _ _ _ h => h) (Or.inl ⟨by rfl, ?_⟩) (by assumption) ?_
            rotate_left
            · (intro w hSw; obtain ⟨x0, x1, x2⟩ := hSw; go_simp; try with_reducible rfl)
            (try simp only [Act.put, List.setIfInBounds_toArray]); (try dsimp only [List.set_cons_zero, List.set_cons_succ])
            refine wpAnyH_take (i := 5) (v := ?_) opAt_5 (by kernel_rfl) (by kernel_rfl) (by kernel_rfl) (fun _ _ _ h => h) (Or.inl ⟨by rfl, ?_⟩) (by assumption) ?_
            rotate_left
            · (intro w hSw; obtain ⟨x0, x1, x2⟩ := hSw; go_simp; try with_reducible rfl)
            (try simp only [Act.put, List.setIfInBounds_toArray]); (try dsimp only [List.set_cons_zero, List.set_cons_succ])
            refine wpAnyH_take (i := 6) (v := ?_) opAt_6 (by kernel_rfl) (by kernel_rfl) (by kernel_rfl) (fun _ _ _ h => h) (Or.inl ⟨by rfl, ?_⟩) (by assumption) ?_
            rotate_left
            · (intro w hSw; obtain ⟨x0, x1, x2⟩ := hSw; go_simp; try with_reducible rfl)
            (try simp only [Act.put, List.setIfInBounds_toArray]); (try dsimp only [List.set_cons_zero, List.set_cons_succ])
            refine wpAnyH_take (i := 7) (v := ?_) opAt_7 (by kernel_rfl) (by kernel_rfl) (by kernel_rfl) (fun _ _ _ h => h) (Or.inl ⟨by rfl, ?_⟩) (by assumption) ?_
            rotate_left
            · (intro w hSw; obtain ⟨x0, x1, x2⟩ := hSw; go_simp; try with_reducible rfl)
            (try simp only [Act.put, List.setIfInBounds_toArray]); (try dsimp only [List.set_cons_zero, List.set_cons_succ])
            refine wpAnyH_take (i := 8) (v := ?_) opAt_8 (by kernel_rfl) (by kernel_rfl) (by kernel_rfl) (fun _ _ _ h => h) (Or.inl ⟨by rfl, ?_⟩) (by assumption) ?_
            rotate_left
            · (intro w hSw; obtain ⟨x0, x1, x2⟩ := hSw; go_simp; try with_reducible rfl)
            (try simp only [Act.put, List.setIfInBounds_toArray]); (try dsimp only [List.set_cons_zero, List.set_cons_succ])
            refine wpAnyH_take (i := 9) (v := undef) opAt_9 (by kernel_rfl) (by kernel_rfl) (by kernel_rfl) (fun _ _ _ h => h) (Or.inr ⟨by rfl, rfl⟩) (by assumption) ?_
            (try simp only [Act.put, List.setIfInBounds_toArray]); (try dsimp only [List.set_cons_zero, List.set_cons_succ])
            refine wpAnyH_take (i := 10) (v := undef) opAt_10 (by kernel_rfl) (by kernel_rfl) (by kernel_rfl) (fun _ _ _ h => h) (Or.inr ⟨by rfl, rfl⟩) (by assumption) ?_
            (try simp only [Act.put, List.setIfInBounds_toArray]); (try dsimp only [List.set_cons_zero, List.set_cons_succ])
            refine wpAnyH_take (i := 11) (v := undef) opAt_11 (by kernel_rfl) (by kernel_rfl) (by kernel_rfl) (fun _ _ _ h => h) (Or.inr ⟨by rfl, rfl⟩) (by assumption) ?_
            (try simp only [Act.put, List.setIfInBounds_toArray]); (try dsimp only [List.set_cons_zero, List.set_cons_succ])
            refine wpAnyH_take (i := 12) (v := undef) opAt_12 (by kernel_rfl) (by kernel_rfl) (by kernel_rfl) (fun _ _ _ h => h) (Or.inr ⟨by rfl, rfl⟩) (by assumption) ?_
            (try simp only [Act.put, List.setIfInBounds_toArray]); (try dsimp only [List.set_cons_zero, List.set_cons_succ])
            refine wpAnyH_take (i := 14) (v := undef) opAt_14 (by kernel_rfl) (by kernel_rfl) (by kernel_rfl) (fun _ _ _ h => h) (Or.inr ⟨by rfl, rfl⟩) (by assumption) ?_
            (try simp only [Act.put, List.setIfInBounds_toArray]); (try dsimp only [List.set_cons_zero, List.set_cons_succ])
            refine wpAnyH_take (i := 15) (v := undef) opAt_15 (by kernel_rfl) (by kernel_rfl) (by kernel_rfl) (fun _ _ _ h => h) (Or.inr ⟨by rfl, rfl⟩) (by assumption) ?_
            (try simp only [Act.put, List.setIfInBounds_toArray]); (try dsimp only [List.set_cons_zero, List.set_cons_succ])
            refine wpAnyH_take (i := 16) (v := undef) opAt_16 (by kernel_rfl) (by kernel_rfl) (by kernel_rfl) (fun _ _ _ h => h) (Or.inr ⟨by rfl, rfl⟩) (by assumption) ?_
            (try simp only [Act.put, List.setIfInBounds_toArray]); (try dsimp only [List.set_cons_zero, List.set_cons_succ])
            refine wpAnyH_take (i := 17) (v := undef) opAt_17 (by kernel_rfl) (by kernel_rfl) (by kernel_rfl) (fun _ _ _ h => h) (Or.inr ⟨by rfl, rfl⟩) (by assumption) ?_
            (try simp only [Act.put, List.setIfInBounds_toArray]); (try dsimp only [List.set_cons_zero, List.set_cons_succ])
            refine wpAnyH_ready (rs := [13]) (by kernel_rfl) (by simp) ?_
            refine AllReadyH.cons rfl (fun K hK => ?_) AllReadyH.nil
            go_simp
            try refine ⟨fun _ h => by cases h, ?_⟩
            refine hK.out _ _ (by assumption) (fun hHeld => ?_)
            clear hK K
            (try simp only [Act.put, List.setIfInBounds_toArray]); (try dsimp only [List.set_cons_zero, List.set_cons_succ])
            refine wpAnyH_ready (rs := [18]) (by kernel_rfl) (by simp) ?_
            refine AllReadyH.cons rfl (fun K hK => ?_) AllReadyH.nil
            go_simp
            try refine ⟨fun _ h => by cases h, ?_⟩
            refine hK.out _ _ (by assumption) (fun hHeld => ?_)
            clear hK K
            (try simp only [Act.put, List.setIfInBounds_toArray]); (try dsimp only [List.set_cons_zero, List.set_cons_succ])
            refine wpAnyH_take (i := 19) (v := undef) opAt_19 (by kernel_rfl) (by kernel_rfl) (by kernel_rfl) (fun _ _ _ h => h) (Or.inr ⟨by rfl, rfl⟩) (by assumption) ?_
            (try simp only [Act.put, List.setIfInBounds_toArray]); (try dsimp only [List.set_cons_zero, List.set_cons_succ])
            refine wpAnyH_take (i := 20) (v := ?_) opAt_20 (by kernel_rfl) (by kernel_rfl) (by kernel_rfl) (fun _ _ _ h => h) (Or.inl ⟨by rfl, ?_⟩) (by assumption) ?_
            rotate_left
            · (intro w hSw; obtain ⟨x0, x1, x2⟩ := hSw; go_simp; try with_reducible rfl)
            (try simp only [Act.put, List.setIfInBounds_toArray]); (try dsimp only [List.set_cons_zero, List.set_cons_succ])
            refine wpAnyH_take (i := 21) (v := ?_) opAt_21 (by kernel_rfl) (by kernel_rfl) (by kernel_rfl) (fun _ _ _ h => h) (Or.inl ⟨by rfl, ?_⟩) (by assumption) ?_
            rotate_left
            · (intro w hSw; obtain ⟨x0, x1, x2⟩ := hSw; go_simp; try with_reducible rfl)
            (try simp only [Act.put, List.setIfInBounds_toArray]); (try dsimp only [List.set_cons_zero, List.set_cons_succ])
            refine wpAnyH_take (i := 22) (v := ?_) opAt_22 (by kernel_rfl) (by kernel_rfl) (by kernel_rfl) (fun _ _ _ h => h) (Or.inl ⟨by rfl, ?_⟩) (by assumption) ?_
            rotate_left
            · (intro w hSw; obtain ⟨x0, x1, x2⟩ := hSw; go_simp; try with_reducible rfl)
            (try simp only [Act.put, List.setIfInBounds_toArray]); (try dsimp only [List.set_cons_zero, List.set_cons_succ])
            refine wpAnyH_take (i := 23) (v := ?_) opAt_23 (by kernel_rfl) (by kernel_rfl) (by kernel_rfl) (fun _ _ _ h => h) (Or.inl ⟨by rfl, ?_⟩) (by assumption) ?_
            rotate_left
            · (intro w hSw; obtain ⟨x0, x1, x2⟩ := hSw; go_simp; try with_reducible rfl)
            (try simp only [Act.put, List.setIfInBounds_toArray]); (try dsimp only [List.set_cons_zero, List.set_cons_succ])
            refine wpAnyH_take (i := 24) (v := ?_) opAt_24 (by kernel_rfl) (by kernel_rfl) (by kernel_rfl) (fun _ _ _ h => h) (Or.inl ⟨by rfl, ?_⟩) (by assumption) ?_
            rotate_left
            · (intro w hSw; obtain ⟨x0, x1, x2⟩ := hSw; go_simp; try with_reducible rfl)
            (try simp only [Act.put, List.setIfInBounds_toArray]); (try dsimp only [List.set_cons_zero, List.set_cons_succ])
            refine wpAnyH_take (i := 25) (v := ?_) opAt_25 (by kernel_rfl) (by kernel_rfl) (by kernel_rfl) (fun _ _ _ h => h) (Or.inl ⟨by rfl, ?_⟩) (by assumption) ?_
            rotate_left
            · (intro w hSw; obtain ⟨x0, x1, x2⟩ := hSw; go_simp; try with_reducible rfl)
            (try simp only [Act.put, List.setIfInBounds_toArray]); (try dsimp only [List.set_cons_zero, List.set_cons_succ])
            refine wpAnyH_take (i := 26) (v := ?_) opAt_26 (by kernel_rfl) (by kernel_rfl) (by kernel_rfl) (fun _ _ _ h => h) (Or.inl ⟨by rfl, ?_⟩) (by assumption) ?_
            rotate_left
            · (intro w hSw; obtain ⟨x0, x1, x2⟩ := hSw; go_simp; try with_reducible rfl)
            (try simp only [Act.put, List.setIfInBounds_toArray]); (try dsimp only [List.set_cons_zero, List.set_cons_succ])
            refine wpAnyH_take (i := 27) (v := ?_) opAt_27 (by kernel_rfl) (by kernel_rfl) (by kernel_rfl) (fun _ _ _ h => h) (Or.inl ⟨by rfl, ?_⟩) (by assumption) ?_
            rotate_left
            · (intro w hSw; obtain ⟨x0, x1, x2⟩ := hSw; go_simp; try with_reducible rfl)
            (try simp only [Act.put, List.setIfInBounds_toArray]); (try dsimp only [List.set_cons_zero, List.set_cons_succ])
            refine wpAnyH_take (i := 28) (v := ?_) opAt_28 (by kernel_rfl) (by kernel_rfl) (by kernel_rfl) (fun _ _ _ h => h) (Or.inl ⟨by rfl, ?_⟩) (by assumption) ?_
            rotate_left
            · (intro w hSw; obtain ⟨x0, x1, x2⟩ := hSw; go_simp; try with_reducible rfl)
            (try simp only [Act.put, List.setIfInBounds_toArray]); (try dsimp only [List.set_cons_zero, List.set_cons_succ])
            refine wpAnyH_take (i := 29) (v := ?_) opAt_29 (by kernel_rfl) (by kernel_rfl) (by kernel_rfl) (fun _ _ _ h => h) (Or.inl ⟨by rfl, ?_⟩) (by assumption) ?_
            rotate_left
            · (intro w hSw; obtain ⟨x0, x1, x2⟩ := hSw; go_simp; try with_reducible rfl)
            (try simp only [Act.put, List.setIfInBounds_toArray]); (try dsimp only [List.set_cons_zero, List.set_cons_succ])
            refine wpAnyH_take (i := 30) (v := ?_) opAt_30 (by kernel_rfl) (by kernel_rfl) (by kernel_rfl) (fun _ _ _ h => h) (Or.inl ⟨by rfl, ?_⟩) (by assumption) ?_
            rotate_left
            · (intro w hSw; obtain ⟨x0, x1, x2⟩ := hSw; go_simp; try with_reducible rfl)
            (try simp only [Act.put, List.setIfInBounds_toArray]); (try dsimp only [List.set_cons_zero, List.set_cons_succ])
            refine wpAnyH_take (i := 31) (v := undef) opAt_31 (by kernel_rfl) (by kernel_rfl) (by kernel_rfl) (fun _ _ _ h => h) (Or.inr ⟨by rfl, rfl⟩) (by assumption) ?_
            (try simp only [Act.put, List.setIfInBounds_toArray]); (try dsimp only [List.set_cons_zero, List.set_cons_succ])
            refine wpAnyH_take (i := 32) (v := undef) opAt_32 (by kernel_rfl) (by kernel_rfl) (by kernel_rfl) (fun _ _ _ h => h) (Or.inr ⟨by rfl, rfl⟩) (by assumption) ?_
            (try simp only [Act.put, List.setIfInBounds_toArray]); (try dsimp only [List.set_cons_zero, List.set_cons_succ])
            refine wpAnyH_take (i := 34) (v := undef) opAt_34 (by kernel_rfl) (by kernel_rfl) (by kernel_rfl) (fun _ _ _ h => h) (Or.inr ⟨by rfl, rfl⟩) (by assumption) ?_
            (try simp only [Act.put, List.setIfInBounds_toArray]); (try dsimp only [List.set_cons_zero, List.set_cons_succ])
            refine wpAnyH_take (i := 35) (v := undef) opAt_35 (by kernel_rfl) (by kernel_rfl) (by kernel_rfl) (fun _ _ _ h => h) (Or.inr ⟨by rfl, rfl⟩) (by assumption) ?_
            (try simp only [Act.put, List.setIfInBounds_toArray]); (try dsimp only [List.set_cons_zero, List.set_cons_succ])
            refine wpAnyH_ready (rs := [33]) (by kernel_rfl) (by simp) ?_
            refine AllReadyH.cons rfl (fun K hK => ?_) AllReadyH.nil
            go_simp
            try refine ⟨fun _ h => by cases h, ?_⟩
            refine hK.out _ _ (by assumption) (fun hHeld => ?_)
            clear hK K
            (try simp only [Act.put, List.setIfInBounds_toArray]); (try dsimp only [List.set_cons_zero, List.set_cons_succ])
            refine wpAnyH_ready (rs := [36]) (by kernel_rfl) (by simp) ?_
            refine AllReadyH.cons rfl (fun K hK => ?_) AllReadyH.nil
            go_simp
            try refine ⟨fun _ h => by cases h, ?_⟩
            refine hK.out _ _ (by assumption) (fun hHeld => ?_)
            clear hK K
            (try simp only [Act.put, List.setIfInBounds_toArray]); (try dsimp only [List.set_cons_zero, List.set_cons_succ])
            refine wpAnyH_take (i := 37) (v := undef) opAt_37 (by kernel_rfl) (by kernel_rfl) (by kernel_rfl) (fun _ _ _ h => h) (Or.inr ⟨by rfl, rfl⟩) (by assumption) ?_
            (try simp only [Act.put, List.setIfInBounds_toArray]); (try dsimp only [List.set_cons_zero, List.set_cons_succ])
            refine wpAnyH_take (i := 38) (v := ?_) opAt_38 (by kernel_rfl) (by kernel_rfl) (by kernel_rfl) (fun _ _ _ h => h) (Or.inl ⟨by rfl, ?_⟩) (by assumption) ?_
            rotate_left
            · (intro w hSw; obtain ⟨x0, x1, x2⟩ := hSw; go_simp; try with_reducible rfl)
            (try simp only [Act.put, List.setIfInBounds_toArray]); (try dsimp only [List.set_cons_zero, List.set_cons_succ])
            refine wpAnyH_take (i := 39) (v := ?_) opAt_39 (by kernel_rfl) (by kernel_rfl) (by kernel_rfl) (fun _ _ _ h => h) (Or.inl ⟨by rfl, ?_⟩) (by assumption) ?_
            rotate_left
            · (intro w hSw; obtain ⟨x0, x1, x2⟩ := hSw; go_simp; try with_reducible rfl)
            (try simp only [Act.put, List.setIfInBounds_toArray]); (try dsimp only [List.set_cons_zero, List.set_cons_succ])
            refine wpAnyH_done (by kernel_rfl) ?_ _
            refine NoPanic.normal ?_
            have hbl0 : Below w.heap.size w V0 := HB2.out.trans (hb0.below HB2.out.size (fun i h => h.1))
            have hsz0 := hb0.size
            have HR := Lib.hid (And.intro HT0.out (And.intro HP.out.1 (And.intro (Nat.le_succ a.prs.length) (And.intro HP.out.2.1 hbl0))))
            go_wp2_with fail
            go_meet
            case rel => exact ⟨rfl, a, b, HR⟩
          case rest =>
            obtain ⟨rfl, a2, b2, HR⟩ := hcut
            generalize wc = w5 at *
            clear y0 y1 HBox HT2 q0 q1 q2
            have HLa : Hid (PLive w.heap.size w5 Ta a2) := Lib.hid (HR.out.1.live (i := 0) rfl (fun x h => h.1))
            have HLb : Hid (PLive w.heap.size w5 Tb b2) := Lib.hid (HR.out.1.live (i := 1) rfl (fun x h => h.1))
            have HBl := Lib.hid HR.out.2.2.2.2
            have hk9 : (k.take q).length < 1000000 := by have := HQl.out; omega
            go_wp2_with fail
            refine (live_get HLa.out _ (k.take q) ((HKb.out _ HBl.out).mono HBl.out.size) hk9).mono ?_
            rintro e w6 ⟨v, is, rfl, hg, hb6⟩
            have HG := Lib.hid hg
            have HB6 := Lib.hid hb6
            have HBl6 := Lib.hid (HBl.out.trans (hb6.mono HBl.out.size))
            clear hg hb6
            go_wp2_with fail
            refine (live_get (HLb.out.on HB6.out) _ (k.take q) ((HKb.out _ HBl6.out).mono HBl6.out.size) hk9).mono ?_
            rintro e w7 ⟨v', is', rfl, hg, hb7⟩
            obtain ⟨rfl, rfl⟩ := HG.out.same hg HLa.out.ok.once HR.out.2.1
            have HB7 := Lib.hid (HB6.out.trans (hb7.mono HB6.out.size))
            have HLa7 := Lib.hid (HLa.out.on HB7.out)
            have HLb7 := Lib.hid (HLb.out.on HB7.out)
            clear hg hb7
            obtain ⟨m, hm⟩ : ∃ m, a2.prs.length = m := ⟨_, rfl⟩
            have HM : Hid (a2.prs.length = m ∧ b2.prs.length = m ∧ a2.sl.length = room m ∧ b2.sl.length = room m) := Lib.hid ⟨hm, by rw [← HR.out.2.1.length_eq]; exact hm, by rw [HLa.out.ok.len, hm], by rw [HLb.out.ok.len, ← HR.out.2.1.length_eq, hm]⟩
            clear hm
            have jv : ((v : Int) != (v : Int)) = false := by simp
            have jb : (is != is) = false := by simp
            have jm : ((m : Int) != (m : Int)) = false := by simp
            go_wp2_with fail
            refine (live_len HLa7.out).mono ?_
            rintro e wx ⟨rfl, rfl⟩
            simp only [HM.out.1]
            go_wp2_with fail
            refine (live_len HLb7.out).mono ?_
            rintro e wx ⟨rfl, rfl⟩
            simp only [HM.out.2.1]
            go_wp2_with fail
            refine (live_slots HLa7.out).mono ?_
            rintro e w8 ⟨ga, ca, rfl, _, _, hb8⟩
            simp only [HM.out.2.2.1]
            have HB8 := Lib.hid hb8
            clear hb8
            obtain ⟨rm, hrm⟩ : ∃ rm, room m = rm := ⟨_, rfl⟩
            rw [hrm] at HM
            rw [hrm]
            clear hrm
            have jr : ((rm : Int) != (rm : Int)) = false := by simp
            go_wp2_with fail
            refine (live_slots (HLb7.out.on HB8.out)).mono ?_
            rintro e w9 ⟨gb, cb, rfl, _, _, hb9⟩
            simp only [HM.out.2.2.2]
            have HB9 := Lib.hid (HB7.out.trans ((HB8.out.trans (hb9.mono HB8.out.size)).mono HB7.out.size))
            clear hb9
            go_wp2_with fail
            go_roundw
            case rel => exact ⟨i + 1, a2, b2, by go_num, by omega, by omega, Lib.hid ⟨⟨(HR.out.1.on HB9.out).mono (fun x h _ => h.1), HR.out.2.1, HR.out.2.2.2.1, by have := HR.out.2.2.1; have := HP.out.2.2; omega⟩, HBl.out.trans (HB9.out.mono HBl.out.size)⟩⟩
            case measure => simp [intOf]; omega
        · have HE := Lib.hid (show Pair (fun z => w.heap.size ≤ z) wr Ta Tb sa sb 100 a b ∧ Below w.heap.size w wr from ⟨⟨HI.out.1.tabs, HI.out.1.perm, HI.out.1.seed, Nat.le_trans HI.out.1.few hi⟩, HI.out.2⟩)
          rcases Nat.lt_or_ge i l1.length with hq | hq
          · have j0 : (i : Int) < (l1.length : Int) := by omega
            have j1 : ¬ (i : Int) < 100 := by omega
            have j2 : decide ((i : Int) < 100) = false := by simpa using j1
            go_wp2_with fail
            go_meet
            case rel => exact ⟨a, b, HE⟩
          · have j0 : ¬ (i : Int) < (l1.length : Int) := by omega
            have j1 : decide ((i : Int) < (l1.length : Int)) = false := by simpa using j0
            go_wp2_with fail
            go_meet
            case rel => exact ⟨a, b, HE⟩
    case rest =>
      clear HP0 a0 b0
      obtain ⟨a, b, HP⟩ := hcut
      generalize wc = wA at *
      have HLa : Hid (PLive w.heap.size wA Ta a) := Lib.hid (HP.out.1.tabs.live (i := 0) rfl (fun x h => h))
      have HLb : Hid (PLive w.heap.size wA Tb b) := Lib.hid (HP.out.1.tabs.live (i := 1) rfl (fun x h => h))
      obtain ⟨n, hn⟩ : ∃ n, a.prs.length = n := ⟨_, rfl⟩
      have HN : Hid (a.prs.length = n ∧ b.prs.length = n ∧ n ≤ 100) := Lib.hid ⟨hn, by rw [← HP.out.1.perm.length_eq]; exact hn, by rw [← hn]; exact HP.out.1.few⟩
      clear hn
      go_wp2_with fail
      refine (live_keys HLa.out).mono ?_
      rintro e w5 ⟨Aa, ca, ka, rfl, hca, hpa, hka, hkat, hb5⟩
      simp only [HN.out.1] at hca ⊢
      have HKa := Lib.hid (And.intro hpa (And.intro hka hkat))
      have HB5 := Lib.hid hb5
      clear hpa hka hkat hb5
      go_wp2_with fail
      refine (live_keys (HLb.out.on HB5.out)).mono ?_
      rintro e w6 ⟨Ab, cb, kb, rfl, hcb, hpb, hkb, hkbt, hb6⟩
      simp only [HN.out.2.1] at hcb ⊢
      obtain rfl : ka = kb := kl_sorted_eq HKa.out.2.1 hkb (HKa.out.1.trans ((HP.out.1.perm.map _).trans hpb.symm))
      have HKb := Lib.hid hkbt
      have HKa6 := Lib.hid (HKa.out.2.2.chg (Chg.of_below (M := fun _ => False) hb6) (fun _ e => e.elim))
      have HB6 := Lib.hid (HP.out.2.trans ((HB5.out.trans (hb6.mono HB5.out.size)).mono HP.out.2.size))
      have hkn : ka.length = n := by rw [HKa.out.1.length_eq, List.length_map]; exact HN.out.1
      have hn100 := HN.out.2.2
      have HV : Hid (∀ k ∈ ka, 0 < k.length ∧ k.length ≤ 64) := Lib.hid (fun k hk => by
        obtain ⟨p, hp, rfl⟩ := List.mem_map.1 (HKa.out.1.mem_iff.1 hk)
        exact HLa.out.ok.keys p hp)
      clear hkb hpb hkbt hb6 HLa HLb HP
      go_wp2_with fail
      go_loopw [16] (fun ix wr => ∃ i : Nat, ix = .int .i64 (i : Int) ∧ i ≤ n ∧ Hid (Below w6.heap.size w6 wr)) (fun ix _ => n - (intOf ix).toNat)
      case atStart => exact ⟨0, rfl, Nat.zero_le _, Lib.hid (Below.refl _ _)⟩
      case round =>
        obtain ⟨i, rfl, hi, HBr⟩ := hrel
        rename World => wr
        by_cases hlt : i < n
        · have j0 : (i : Int) < (n : Int) := by omega
          obtain ⟨k, hk⟩ : ∃ k, ka[i]? = some k := ⟨_, List.getElem?_eq_getElem (by omega)⟩
          obtain ⟨ga, rfl, hga1, hga2, Ak, qa, hca1, hqa, hwa⟩ := HKa6.out i k hk
          obtain ⟨gb, rfl, hgb1, hgb2, Bk, qb, hcb1, hqb, hwb⟩ := HKb.out i k hk
          have hkl := HV.out k (List.mem_of_getElem? hk)
          have hda : Bs w6 w6.heap.size (.slice Ak k.length qa) k := ⟨Ak, qa, rfl, hqa, hwa.r.rd⟩
          have hdb : Bs w6 w6.heap.size (.slice Bk k.length qb) k := ⟨Bk, qb, rfl, hqb, hwb.r.rd⟩
          have HSB : Hid (∀ V, Below wr.heap.size wr V → V.cell? ⟨ga, i, none⟩ = some (.slice Ak k.length qa) ∧ V.cell? ⟨gb, i, none⟩ = some (.slice Bk k.length qb) ∧ (convert 30 9 (.slice Ak k.length qa)).run Try.prog V = .ok (.string ⟨k.toArray⟩) V ∧ (convert 30 9 (.slice Bk k.length qb)).run Try.prog V = .ok (.string ⟨k.toArray⟩) V) := Lib.hid (fun V hV => by
            have hB : Below w6.heap.size w6 V := HBr.out.trans (hV.mono HBr.out.size)
            exact ⟨(hB.cell (p := ⟨ga, i, none⟩) hga2).trans hca1, (hB.cell (p := ⟨gb, i, none⟩) hgb2).trans hcb1,
              convert_rd (P := Try.prog) (hwa.r.rd.below hB (Nat.le_refl _)) qa 30 5 9 Try.underlying30 Try.underlying5 Try.underlying9,
              convert_rd (P := Try.prog) (hwb.r.rd.below hB (Nat.le_refl _)) qb 30 5 9 Try.underlying30 Try.underlying5 Try.underlying9⟩)
          have HDa := Lib.hid (fun V (hV : Below wr.heap.size wr V) => hda.below (HBr.out.trans (hV.mono HBr.out.size)) (Nat.le_refl _))
          obtain ⟨s0, s1, s2, s3⟩ := HSB.out wr (Below.refl _ _)
          clear hk hca1 hcb1 hwa hwb hda hdb
          go_wp2_with fail
          refine wp_region_noPanic ?_
          have hb0 : Below wr.heap.size wr wr.drew := (Below.refl _ _).drew
          refine wp_region_held_drew (S := fun V : World => V.cell? ⟨ga, i, none⟩ = some (.slice Ak k.length qa) ∧ V.cell? ⟨gb, i, none⟩ = some (.slice Bk k.length qb) ∧ (convert 30 9 (.slice Ak k.length qa)).run Try.prog V = .ok (.string ⟨k.toArray⟩) V ∧ (convert 30 9 (.slice Bk k.length qb)).run Try.prog V = .ok (.string ⟨k.toArray⟩) V) (by kernel_rfl) (HSB.out _ hb0) (fun hHeld => ?_)
          clear s0 s1 s2 s3
          generalize World.drew wr = V0 at *
          refine wpAnyH_take (i := 0) (v := ?_) opAt_0 (by kernel_rfl) (by kernel_rfl) (by kernel_rfl) (fun _ _ _ h => h) (Or.inl ⟨by rfl, ?_⟩) (by assumption) ?_
          rotate_left
          · (intro w hSw; obtain ⟨s0, s1, s2, s3⟩ := hSw; go_simp; try with_reducible rfl)
          (try simp only [Act.put, List.setIfInBounds_toArray]); (try dsimp only [List.set_cons_zero, List.set_cons_succ])
          refine wpAnyH_take (i := 1) (v := ?_) opAt_1 (by kernel_rfl) (by kernel_rfl) (by kernel_rfl) (fun _ _ _ h => h) (Or.inl ⟨by rfl, ?_⟩) (by assumption) ?_
          rotate_left
          · (intro w hSw; obtain ⟨s0, s1, s2, s3⟩ := hSw; go_simp; try with_reducible rfl)
          (try simp only [Act.put, List.setIfInBounds_toArray]); (try dsimp only [List.set_cons_zero, List.set_cons_succ])
          refine wpAnyH_take (i := 2) (v := ?_) opAt_2 (by kernel_rfl) (by kernel_rfl) (by kernel_rfl) (fun _ _ _ h => h) (Or.inl ⟨by rfl, ?_⟩) (by assumption) ?_
          rotate_left
          · (intro w hSw; obtain ⟨s0, s1, s2, s3⟩ := hSw; go_simp; try with_reducible rfl)
          (try simp only [Act.put, List.setIfInBounds_toArray]); (try dsimp only [List.set_cons_zero, List.set_cons_succ])
          refine wpAnyH_take (i := 3) (v := ?_) opAt_3 (by kernel_rfl) (by kernel_rfl) (by kernel_rfl) (fun _ _ _ h => h) (Or.inl ⟨by rfl, ?_⟩) (by assumption) ?_
          rotate_left
          · (intro w hSw; obtain ⟨s0, s1, s2, s3⟩ := hSw; go_simp; try with_reducible rfl)
          (try simp only [Act.put, List.setIfInBounds_toArray]); (try dsimp only [List.set_cons_zero, List.set_cons_succ])
          refine wpAnyH_ready (rs := [4]) (by kernel_rfl) (by simp) ?_
          refine AllReadyH.cons rfl (fun K hK => ?_) AllReadyH.nil
          go_simp
          refine (may_yes_b _ k _ _ (HDa.out _ hb0) hkl.1 hkl.2).mono ?_
          rintro e V1 ⟨rfl, rfl⟩
          have hb1 := hb0
          go_wp2_with fail
          refine hK.out _ _ (HSB.out _ hb1) (fun hHeld => ?_)
          clear hK K
          (try simp only [Act.put, List.setIfInBounds_toArray]); (try dsimp only [List.set_cons_zero, List.set_cons_succ])
          refine wpAnyH_take (i := 5) (v := ?_) opAt_5 (by kernel_rfl) (by kernel_rfl) (by kernel_rfl) (fun _ _ _ h => h) (Or.inl ⟨by rfl, ?_⟩) (by assumption) ?_
          rotate_left
          · (intro w hSw; obtain ⟨s0, s1, s2, s3⟩ := hSw; go_simp; try with_reducible rfl)
          (try simp only [Act.put, List.setIfInBounds_toArray]); (try dsimp only [List.set_cons_zero, List.set_cons_succ])
          refine wpAnyH_take (i := 6) (v := ?_) opAt_6 (by kernel_rfl) (by kernel_rfl) (by kernel_rfl) (fun _ _ _ h => h) (Or.inl ⟨by rfl, ?_⟩) (by assumption) ?_
          rotate_left
          · (intro w hSw; obtain ⟨s0, s1, s2, s3⟩ := hSw; go_simp; try with_reducible rfl)
          (try simp only [Act.put, List.setIfInBounds_toArray]); (try dsimp only [List.set_cons_zero, List.set_cons_succ])
          refine wpAnyH_take (i := 7) (v := ?_) opAt_7 (by kernel_rfl) (by kernel_rfl) (by kernel_rfl) (fun _ _ _ h => h) (Or.inl ⟨by rfl, ?_⟩) (by assumption) ?_
          rotate_left
          · (intro w hSw; obtain ⟨s0, s1, s2, s3⟩ := hSw; go_simp; try with_reducible rfl)
          (try simp only [Act.put, List.setIfInBounds_toArray]); (try dsimp only [List.set_cons_zero, List.set_cons_succ])
          refine wpAnyH_take (i := 8) (v := ?_) opAt_8 (by kernel_rfl) (by kernel_rfl) (by kernel_rfl) (fun _ _ _ h => h) (Or.inl ⟨by rfl, ?_⟩) (by assumption) ?_
          rotate_left
          · (intro w hSw; obtain ⟨s0, s1, s2, s3⟩ := hSw; go_simp; try with_reducible rfl)
          (try simp only [Act.put, List.setIfInBounds_toArray]); (try dsimp only [List.set_cons_zero, List.set_cons_succ])
          refine wpAnyH_take (i := 9) (v := ?_) opAt_9 (by kernel_rfl) (by kernel_rfl) (by kernel_rfl) (fun _ _ _ h => h) (Or.inl ⟨by rfl, ?_⟩) (by assumption) ?_
          rotate_left
          · (intro w hSw; obtain ⟨s0, s1, s2, s3⟩ := hSw; go_simp; try with_reducible rfl)
          (try simp only [Act.put, List.setIfInBounds_toArray]); (try dsimp only [List.set_cons_zero, List.set_cons_succ])
          refine wpAnyH_take (i := 10) (v := ?_) opAt_10 (by kernel_rfl) (by kernel_rfl) (by kernel_rfl) (fun _ _ _ h => h) (Or.inl ⟨by rfl, ?_⟩) (by assumption) ?_
          rotate_left
          · (intro w hSw; obtain ⟨s0, s1, s2, s3⟩ := hSw; go_simp; try with_reducible rfl)
          (try simp only [Act.put, List.setIfInBounds_toArray]); (try dsimp only [List.set_cons_zero, List.set_cons_succ])
          refine wpAnyH_take (i := 11) (v := ?_) opAt_11 (by kernel_rfl) (by kernel_rfl) (by kernel_rfl) (fun _ _ _ h => h) (Or.inl ⟨by rfl, ?_⟩) (by assumption) ?_
          rotate_left
          · (intro w hSw; obtain ⟨s0, s1, s2, s3⟩ := hSw; go_simp; try with_reducible rfl)
          (try simp only [Act.put, List.setIfInBounds_toArray]); (try dsimp only [List.set_cons_zero, List.set_cons_succ])
          refine wpAnyH_take (i := 12) (v := ?_) opAt_12 (by kernel_rfl) (by kernel_rfl) (by kernel_rfl) (fun _ _ _ h => h) (Or.inl ⟨by rfl, ?_⟩) (by assumption) ?_
          rotate_left
          · (intro w hSw; obtain ⟨s0, s1, s2, s3⟩ := hSw; go_simp; try with_reducible rfl)
          (try simp only [Act.put, List.setIfInBounds_toArray]); (try dsimp only [List.set_cons_zero, List.set_cons_succ])
          refine wpAnyH_take (i := 13) (v := ?_) opAt_13 (by kernel_rfl) (by kernel_rfl) (by kernel_rfl) (fun _ _ _ h => h) (Or.inl ⟨by rfl, ?_⟩) (by assumption) ?_
          rotate_left
          · (intro w hSw; obtain ⟨s0, s1, s2, s3⟩ := hSw; go_simp; try with_reducible rfl)
          (try simp only [Act.put, List.setIfInBounds_toArray]); (try dsimp only [List.set_cons_zero, List.set_cons_succ])
          refine wpAnyH_take (i := 14) (v := ?_) opAt_14 (by kernel_rfl) (by kernel_rfl) (by kernel_rfl) (fun _ _ _ h => h) (Or.inl ⟨by rfl, ?_⟩) (by assumption) ?_
          rotate_left
          · (intro w hSw; obtain ⟨s0, s1, s2, s3⟩ := hSw; go_simp; try with_reducible rfl)
          (try simp only [Act.put, List.setIfInBounds_toArray]); (try dsimp only [List.set_cons_zero, List.set_cons_succ])
          refine wpAnyH_take (i := 15) (v := ?_) opAt_15 (by kernel_rfl) (by kernel_rfl) (by kernel_rfl) (fun _ _ _ h => h) (Or.inl ⟨by rfl, ?_⟩) (by assumption) ?_
          rotate_left
          · (intro w hSw; obtain ⟨s0, s1, s2, s3⟩ := hSw; go_simp; try with_reducible rfl)
          (try simp only [Act.put, List.setIfInBounds_toArray]); (try dsimp only [List.set_cons_zero, List.set_cons_succ])
          refine wpAnyH_take (i := 16) (v := ?_) opAt_16 (by kernel_rfl) (by kernel_rfl) (by kernel_rfl) (fun _ _ _ h => h) (Or.inl ⟨by rfl, ?_⟩) (by assumption) ?_
          rotate_left
          · (intro w hSw; obtain ⟨s0, s1, s2, s3⟩ := hSw; go_simp; try with_reducible rfl)
          (try simp only [Act.put, List.setIfInBounds_toArray]); (try dsimp only [List.set_cons_zero, List.set_cons_succ])
          refine wpAnyH_take (i := 17) (v := ?_) opAt_17 (by kernel_rfl) (by kernel_rfl) (by kernel_rfl) (fun _ _ _ h => h) (Or.inl ⟨by rfl, ?_⟩) (by assumption) ?_
          rotate_left
          · (intro w hSw; obtain ⟨s0, s1, s2, s3⟩ := hSw; go_simp; try with_reducible rfl)
          (try simp only [Act.put, List.setIfInBounds_toArray]); (try dsimp only [List.set_cons_zero, List.set_cons_succ])
          refine wpAnyH_take (i := 18) (v := ?_) opAt_18 (by kernel_rfl) (by kernel_rfl) (by kernel_rfl) (fun _ _ _ h => h) (Or.inl ⟨by rfl, ?_⟩) (by assumption) ?_
          rotate_left
          · (intro w hSw; obtain ⟨s0, s1, s2, s3⟩ := hSw; go_simp; try with_reducible rfl)
          (try simp only [Act.put, List.setIfInBounds_toArray]); (try dsimp only [List.set_cons_zero, List.set_cons_succ])
          refine wpAnyH_done (by kernel_rfl) ?_ _
          refine NoPanic.normal ?_
          go_wp2_with fail
          go_roundw
          case rel => exact ⟨i + 1, by go_num, by omega, Lib.hid (HBr.out.trans (hb0.mono HBr.out.size))⟩
          case measure => simp [intOf]; omega
        · have j0 : ¬ (i : Int) < (n : Int) := by omega
          have j1 : decide ((i : Int) < (n : Int)) = false := by simpa using j0
          go_wp2_with fail
          refine (knows14 _).mono ?_
          rintro e w9 ⟨rfl, hb9⟩
          have HB9 := Lib.hid (HB6.out.trans ((HBr.out.trans (hb9.mono HBr.out.size)).mono HB6.out.size))
          clear hb9
          go_wp2_with fail
          go_ret
          exact ⟨rfl, HB9.out⟩
end Go.Proofs.Ytffcbekogpgciaa.Pr
namespace Go.Proofs.Ytffcbekogpgciaa.probeSeeds
open Go Go.RowKit Go.Joins
theorem walk (z0 : List Int) (v1 : Value) (l1 : List Call14) (w : World) (l0 : z0.length = 2) (g0 : ∀ z ∈ z0, (Lit.int .u64 z).wf = true) (hl1 : Calls14 w w.heap.size v1 l1) :
    Calls Try.prog 6 #[.agg (z0.map (Value.int .u64)).toArray, v1] w fun e w' => e = .returned (.bool true) ∧ Below w.heap.size w w' := by
  obtain ⟨a, b, rfl, ha, hb⟩ := arr2 l0 g0
  obtain ⟨a0, a1⟩ := bounds_u64 ha
  obtain ⟨b0, b1⟩ := bounds_u64 hb
  obtain ⟨s, rfl⟩ := Int.eq_ofNat_of_zero_le a0
  obtain ⟨t, rfl⟩ := Int.eq_ofNat_of_zero_le b0
  exact Pr.seeds_walk s t v1 l1 w (by omega) (by omega) hl1
end Go.Proofs.Ytffcbekogpgciaa.probeSeeds
