
/-
  The document's own answer for layer 1: the walk of Get.
-/
import Derived.Test.YtggijjknfcofoaaDoorRxGetP
import Derived.Test.YtggijjknfcofoaaDoorRxRead
import Derived.Test.YtggijjknfcofoaaDoorRegion
set_option linter.unusedVariables false
set_option linter.unusedSimpArgs false
namespace Go.Proofs.YtggijjknfcofoaaDoor
open Go.RowKit

set_option maxRecDepth 100000 in
set_option maxHeartbeats 4000000 in
theorem rget_any (v : Value) (l : List UInt8) (w : World) (h : Bs w w.heap.size v l) (hl : l.length ≤ 1000000) :
    Calls Tryd.prog 58 #[v] w fun e w' => e = .returned (getV l) ∧ Below w.heap.size w w' := by
  obtain ⟨i0, hi0, hz0, hz1, hz2⟩ := info_parts int_info
  obtain ⟨A, c, rfl, hc, hr⟩ := h
  rcases l with _ | ⟨x, r⟩
  · go_enter Tryd.func58, Tryd.ntmps58
    go_wp2
    go_ret3
    exact ⟨rfl, Below.refl _ _⟩
  · obtain ⟨b, o, rfl, hbb, hcc⟩ := hr (by simp [bvs])
    have Hr := Lib.hid hr
    have hc0 : w.cell? ⟨b, o, none⟩ = some (.int .u8 (x.toNat : Int)) := hcc 0 _ rfl
    have hxl := UInt8.toNat_lt x
    generalize hlen : (x :: r).length = n at *
    have hn0 : 0 < n := by rw [← hlen]; simp
    have Hlen := Lib.hid hlen
    have hne : ((n : Int) == 0) = false := by simp; omega
    clear hlen hcc hr
    go_enter Tryd.func58, Tryd.ntmps58
    go_wp2_with fail
    refine (rbits_any _ _ _ (by omega) (by omega) (by omega) (by omega)).mono ?_
    rintro e w1 ⟨v5, rfl, hown5, hb1⟩
    rw [Int.toNat_natCast, show (8 : Int).toNat = 8 from rfl] at hown5 ⊢
    obtain ⟨g5, cap5, rfl, _, _⟩ := hown5.form (by omega)
    have hbit : ∀ t, t < 8 → w1.cell? ⟨g5, t, none⟩ = some (.int .i64 ((x.toNat / 2 ^ (7 - t) % 2 : Nat) : Int)) := fun t ht => by
      rw [hown5.cellAt t (by omega)]
      unfold nvs
      rw [List.getElem?_map, Rx.bit_get _ _ ht]
      rfl
    have Hbit := Lib.hid hbit
    clear hbit hown5 hc0
    generalize (x.toNat / 2 ^ 8 == 0) = fit
    go_wp2_with fail
    go_loop [7] (fun i => ∃ k : Nat, Rx.Lead x.toNat k ∧ i = .int .i64 k) (fun i => 10 - (intOf i).toNat)
    case atStart => exact ⟨1, Rx.lead_one _ hxl, rfl⟩
    case round =>
      obtain ⟨k, hlead, rfl⟩ := hrel
      have hk1 := hlead.1
      have hk9 := hlead.2.1
      have fin : ∀ a : Unit, True := fun _ => trivial
      by_cases hgo : k ≤ 8 ∧ x.toNat / 2 ^ (8 - k) % 2 = 1
      · obtain ⟨hk8, hone⟩ := hgo
        have hstep := hlead.step hk8
        have hcell := Hbit.out (k - 1) (by omega)
        rw [show 7 - (k - 1) = 8 - k by omega] at hcell
        have d1 : decide ((k : Int) ≤ 8) = true := by simp; omega
        rw [hone] at hcell
        have hnext := hstep.1 hone
        clear hstep hone
        go_wp2_with fail
        go_round
        case rel => exact ⟨k + 1, hnext, by go_num⟩
        case measure => simp [intOf]; omega
      · have hex : Px.toldN x.toNat = k ∧ ((9 ≤ k ∧ decide ((k : Int) ≤ 8) = false) ∨ (k ≤ 8 ∧ decide ((k : Int) ≤ 8) = true ∧ ∃ y : Int, w1.cell? ⟨g5, k - 1, none⟩ = some (.int .i64 y) ∧ (y == 1) = false)) := by
          by_cases hk8 : k ≤ 8
          · have hone : x.toNat / 2 ^ (8 - k) % 2 ≠ 1 := fun e => hgo ⟨hk8, e⟩
            have hcell := Hbit.out (k - 1) (by omega)
            rw [show 7 - (k - 1) = 8 - k by omega] at hcell
            refine ⟨(hlead.step hk8).2 hone, .inr ⟨hk8, by simp; omega, _, hcell, ?_⟩⟩
            generalize x.toNat / 2 ^ (8 - k) % 2 = y at *
            simp; omega
          · have e9 : k = 9 := by omega
            exact ⟨by rw [e9] at hlead ⊢; exact hlead.nine, .inl ⟨by omega, by simp; omega⟩⟩
        obtain ⟨htold, hex⟩ := hex
        have Ht := Lib.hid htold
        clear htold hgo hlead
        by_cases hs : n < k
        · have e : getV (x :: r) = .tuple #[.int .u64 0, .int .i64 0, .int .i64 4] := by
            simp [getV, Px.getN, Ht.out, Hlen.out, hs]
          have He := Lib.hid e
          clear e
          rcases hex with ⟨kk, d1⟩ | ⟨kk, d1, y, hcell, hbf⟩
          all_goals
            go_wp2_with fail
            go_ret3
            exact ⟨by rw [He.out]; rfl, hb1⟩
        · have hs' : k ≤ n := by omega
          rcases hex with ⟨kk, d1⟩ | ⟨kk, d1, y, hcell, hbf⟩
          all_goals
            have d2 : decide (n < k) = false := by simp; omega
            go_wp2_with fail
            clear d1
            go_loopw [8, 9] (fun q i wr => ∃ j : Nat, j ≤ k ∧ i = .int .i64 j ∧ wr.ownsRow w.heap.size 3 1 q (8 * j) (nvs (Rx.bitsL (Rx.beV (x :: r) j) (8 * j))) ∧ Below w.heap.size w wr) (fun _ i _ => k - (intOf i).toNat)
            case atStart => exact ⟨0, by omega, rfl, World.ownsRow_nil _ _ _ _, hb1⟩
            case round =>
              obtain ⟨j, hj, rfl, hown, hb⟩ := hrel
              by_cases hlt : j < k
              · obtain ⟨b', o', e', _, hcc⟩ := Hr.out.below hb (Nat.le_refl _) (by simp [bvs])
                injection e' with e'
                injection e' with e1 e2
                subst e1 e2
                have hjl : j < (x :: r).length := by rw [Hlen.out]; omega
                have hcj : wr.cell? ⟨b, o + j, none⟩ = some (.int .u8 (((x :: r).getD j 0).toNat : Int)) := hcc j _ (by rw [bvs_get _ _ hjl]; simp [bv, List.getD_eq_getElem?_getD, List.getElem?_eq_getElem hjl])
                have hy := UInt8.toNat_lt ((x :: r).getD j 0)
                have hbits := Rx.beV_bits (x :: r) j
                generalize (x :: r).getD j 0 = y at *
                have Hbits := Lib.hid hbits
                clear hcc hbits
                go_wp2_with fail
                refine (rbits_any _ _ _ (by omega) (by omega) (by omega) (by omega)).mono ?_
                rintro e w2 ⟨v2, rfl, hown2, hb2⟩
                rw [Int.toNat_natCast, show (8 : Int).toNat = 8 from rfl] at hown2
                have hown' := own_below hown hb2 (Nat.le_refl _)
                have b2 := hb.trans (hb2.mono hb.size)
                obtain ⟨A2, c2, rfl, _, _⟩ := own_slice hown2
                have Hr2 := Lib.hid (Rd.of_own hown2)
                clear hown hown2 hb2 hb hcj
                go_wp2_with (at_builtin; (refine wpList_append_rd _ rfl _ _ 109 rfl w.heap.size 3 i0 (.int .i64 0) 1 8 Tryd.underlying109 hi0 hz0 hz1 hz2 rfl (by omega) u8 (8 * j) (nvs (Rx.bitsL (Rx.beV (x :: r) j) (8 * j))) rfl hown' w2.heap.size A2 8 c2 (nvs (Rx.bitsL y.toNat 8)) rfl (by rw [nvs_length, Rx.bitsL_length]) Hr2.out (nvs_one _) (by unfold maxLen; omega) (by omega) b2.size ?_); intro v3 w3 hown3 hbw3 _ _)
                go_roundw
                case rel => exact ⟨j + 1, by omega, by go_num, by rw [Hbits.out, nvs_append]; exact hown3, b2.trans hbw3⟩
                case measure => simp [intOf]; omega
              · obtain rfl : j = k := by omega
                have hpos : 0 < 8 * j := by omega
                obtain ⟨g, cap, rfl, hge, hgl⟩ := hown.form hpos
                have hcap : 8 * j ≤ cap := by
                  obtain ⟨A', c', e', hc', _⟩ := own_slice hown
                  injection e' with e1 e2 e3
                  omega
                -- the number that is read
                have hnum : ∃ t, t = (if j = 9 then 8 else j) ∧ Ns wr wr.heap.size (.slice (some ⟨g, t, none⟩) (8 * j - t) (cap - t)) (Rx.bitsL (Rx.beV (x :: r) j) (8 * j - t)) ∧ Rx.numL (Rx.bitsL (Rx.beV (x :: r) j) (8 * j - t)) = Px.accN (x :: r) j (j - 1) ∧ 8 * j - t ≤ 64 := by
                  have hns : ∀ t, t ≤ 8 * j → Ns wr wr.heap.size (.slice (some ⟨g, t, none⟩) (8 * j - t) (cap - t)) (Rx.bitsL (Rx.beV (x :: r) j) (8 * j - t)) := fun t ht => by
                    refine ⟨some ⟨g, t, none⟩, cap - t, by rw [Rx.bitsL_length], by rw [Rx.bitsL_length]; omega, fun _ => ⟨g, t, rfl, hgl, fun i u hu => ?_⟩⟩
                    have hd := Rx.bitsL_drop (Rx.beV (x :: r) j) t (8 * j - t)
                    rw [show t + (8 * j - t) = 8 * j by omega] at hd
                    rw [← hd] at hu
                    have hi : t + i < 8 * j := by
                      unfold nvs at hu
                      rw [List.getElem?_map, List.getElem?_drop] at hu
                      rcases hq : (Rx.bitsL (Rx.beV (x :: r) j) (8 * j))[t + i]? with _ | q
                      · rw [hq] at hu; cases hu
                      · have := (List.getElem?_eq_some_iff.1 hq).1
                        rw [Rx.bitsL_length] at this
                        exact this
                    rw [hown.cellAt (t + i) (by omega)]
                    unfold nvs at hu ⊢
                    rw [List.getElem?_map, List.getElem?_drop] at hu
                    rw [List.getElem?_map]
                    exact hu
                  by_cases h9 : j = 9
                  · refine ⟨8, by rw [if_pos h9], hns 8 (by omega), ?_, by omega⟩
                    rw [Rx.numL_bitsL, h9]
                    exact Rx.num_acc9 (x :: r)
                  · refine ⟨j, by rw [if_neg h9], hns j (by omega), ?_, by omega⟩
                    rw [Rx.numL_bitsL, show 8 * j - j = 7 * j by omega]
                    exact Rx.num_acc (x :: r) j hk1 (by omega) Ht.out
                obtain ⟨t, ht, hns, hnum, ht64⟩ := hnum
                have hiff := Rx.get_form_iff x r (by rw [Ht.out, Hlen.out]; omega)
                rw [Ht.out] at hiff
                have hacc := Px.accN_end (x :: r) j hk1 hk9
                have hv : getV (x :: r) = if Px.sizeN (Px.accN (x :: r) j (j - 1)) = j then .tuple #[.int .u64 (Px.accN (x :: r) j (j - 1) : Nat), .int .i64 (j : Nat), .int .i64 0] else .tuple #[.int .u64 0, .int .i64 0, .int .i64 5] := by
                  unfold getV Px.getN
                  simp only [Ht.out, Hlen.out]
                  rw [if_neg (by omega)]
                  split <;> rfl
                generalize Px.accN (x :: r) j (j - 1) = a at *
                have hconv : ∀ w' : World, Rd w' w.heap.size (some ⟨b, o, none⟩) (bvs (x :: r)) → (convert 30 9 (.slice (some ⟨b, o, none⟩) j c)).run Tryd.prog w' = .ok (.string ⟨((x :: r).take j).toArray⟩) w' := fun w' hS => by
                  have hS2 := hS.take j
                  rw [← bvs_take] at hS2
                  have := convert_rd (P := Tryd.prog) hS2 c 30 5 9 Tryd.underlying30 Tryd.underlying5 Tryd.underlying9
                  rw [List.length_take, Hlen.out, Nat.min_eq_left (by omega)] at this
                  exact this
                have Hconv := Lib.hid hconv
                have Hns := Lib.hid hns
                have Hnum := Lib.hid hnum
                have Hv := Lib.hid hv
                have Hiff := Lib.hid hiff
                have hbN := hb
                have y1 : (0 : Int) ≤ (j : Int) := by omega
                have y2 : (j : Int) ≤ (c : Int) := by omega
                clear hconv hns hnum hv hiff hown hb hge
                have h9 : (((j : Int) == 9) = true ∧ 8 = t ∧ 9 ≤ j ∧ ¬ cap = t) ∨ (((j : Int) == 9) = false ∧ j = t ∧ j ≤ 8 ∧ ¬ cap = t) := by
                  by_cases h : j = 9
                  · exact .inl ⟨by simp; omega, by rw [ht, if_pos h], by omega, by rw [ht, if_pos h]; omega⟩
                  · exact .inr ⟨by simp; omega, by rw [ht, if_neg h], by omega, by rw [ht, if_neg h]; omega⟩
                clear ht
                rcases h9 with ⟨h9, rfl, h9b, y3⟩ | ⟨h9, rfl, h9b, y3⟩
                all_goals first | (exfalso; omega) | skip
                all_goals
                  go_wp2_with fail
                  refine (number_any _ _ _ _ Hns.out (Rx.bitsL_lt _ _) (by rw [Rx.bitsL_length]; omega)).mono ?_
                  rintro e w3 ⟨rfl, rfl⟩
                  rw [Hnum.out]
                  go_wp2_with fail
                  refine wp_region_noPanic ?_
                  refine wp_region_held_drew (S := fun w' => Rd w' w.heap.size (some ⟨b, o, none⟩) (bvs (x :: r))) (by kernel_rfl) (Hr.out.below hbN.drew (Nat.le_refl _)) (fun hHeld => ?_)
                  refine wpAnyH_take (i := 0) (v := ?_) opAt_0 (by kernel_rfl) (by kernel_rfl) (by kernel_rfl) (fun _ _ _ h => h) (Or.inl ⟨by rfl, ?_⟩) hHeld ?_
                  rotate_left
                  · (intro w' hSw; go_simp; try with_reducible rfl)
                  try simp only [Act.put, List.setIfInBounds_toArray, List.set_cons_zero, List.set_cons_succ]
                  refine wpAnyH_take (i := 3) (v := ?_) opAt_3 (by kernel_rfl) (by kernel_rfl) (by kernel_rfl) (fun _ _ _ h => h) (Or.inl ⟨by rfl, ?_⟩) hHeld ?_
                  rotate_left
                  · (intro w' hSw; go_simp; try with_reducible rfl)
                  try simp only [Act.put, List.setIfInBounds_toArray, List.set_cons_zero, List.set_cons_succ]
                  refine wpAnyH_take (i := 4) (v := ?_) opAt_4 (by kernel_rfl) (by kernel_rfl) (by kernel_rfl) (fun _ _ _ h => h) (Or.inl ⟨by rfl, ?_⟩) hHeld ?_
                  rotate_left
                  · (intro w' hSw; go_simp; try with_reducible rfl)
                  try simp only [Act.put, List.setIfInBounds_toArray, List.set_cons_zero, List.set_cons_succ]
                  refine wpAnyH_take (i := 5) (v := ?_) opAt_5 (by kernel_rfl) (by kernel_rfl) (by kernel_rfl) (fun _ _ _ h => h) (Or.inl ⟨by rfl, ?_⟩) hHeld ?_
                  rotate_left
                  · (intro w' hSw; go_simp; try with_reducible rfl)
                  try simp only [Act.put, List.setIfInBounds_toArray, List.set_cons_zero, List.set_cons_succ]
                  refine wpAnyH_take (i := 6) (v := ?_) opAt_6 (by kernel_rfl) (by kernel_rfl) (by kernel_rfl) (fun _ _ _ h => h) (Or.inl ⟨by rfl, ?_⟩) hHeld ?_
                  rotate_left
                  · (intro w' hSw; have hc6 := Hconv.out w' hSw; clear hSw; go_simp; try with_reducible rfl)
                  try simp only [Act.put, List.setIfInBounds_toArray, List.set_cons_zero, List.set_cons_succ]
                  refine wpAnyH_ready (rs := [1]) (by kernel_rfl) (by simp) ?_
                  refine AllReadyH.cons rfl (fun K hK => ?_) AllReadyH.nil
                  go_simp
                  refine (shortest_any _ _ (by omega) (by omega)).mono ?_
                  rintro e w4 ⟨r4, rfl, hown4, hb4⟩
                  rw [Int.toNat_natCast] at hown4
                  have b4 := hbN.drew.trans (hb4.mono hbN.size)
                  have hs4 := Bs.of_own hown4
                  obtain ⟨A4, c4, rfl, hc4, hr4⟩ := hs4
                  have hcv4 := convert_rd (P := Tryd.prog) hr4 c4 30 5 9 Tryd.underlying30 Tryd.underlying5 Tryd.underlying9
                  clear hown4 hb4 hr4 hc4
                  go_wp2_with fail
                  refine hK.out _ _ (Hr.out.below b4 (Nat.le_refl _)) (fun hHeld => ?_)
                  clear hK K
                  refine wpAnyH_ready (rs := [2]) (by kernel_rfl) (by simp) ?_
                  refine AllReadyH.cons rfl (fun K hK => ?_) AllReadyH.nil
                  go_simp
                  refine hK.out _ _ hHeld (fun hHeld => ?_)
                  clear hK K hcv4
                  refine wpAnyH_take (i := 7) (v := ?_) opAt_7 (by kernel_rfl) (by kernel_rfl) (by kernel_rfl) (fun _ _ _ h => h) (Or.inl ⟨by rfl, ?_⟩) hHeld ?_
                  rotate_left
                  · (intro w' hSw; go_simp; try with_reducible rfl)
                  try simp only [Act.put, List.setIfInBounds_toArray, List.set_cons_zero, List.set_cons_succ]
                  refine wpAnyH_done (by kernel_rfl) ?_ _
                  refine NoPanic.normal ?_
                  go_wp2_with fail
                  · have hf : (!Px.formL a == List.take j (x :: r)) = true := by assumption
                    have hne2 : Px.sizeN a ≠ j := fun e => by
                      have := Hiff.out.1 e
                      rw [this] at hf
                      simp at hf
                    go_ret3
                    exact ⟨by rw [Hv.out, if_neg hne2]; rfl, b4⟩
                  · have hf : (!Px.formL a == List.take j (x :: r)) = false := by assumption
                    have heq2 : Px.sizeN a = j := Hiff.out.2 (by simpa using hf)
                    go_ret3
                    exact ⟨by rw [Hv.out, if_pos heq2]; rfl, b4⟩
end Go.Proofs.YtggijjknfcofoaaDoor
