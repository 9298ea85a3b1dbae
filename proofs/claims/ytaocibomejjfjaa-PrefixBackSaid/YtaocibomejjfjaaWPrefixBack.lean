/-
  The walk of the law PrefixBack: it returns true, and writes nothing that was there.
-/
import Derived.Test.YtaocibomejjfjaaPxClone
import Derived.OpenShut
import Derived.IntWalk
import Derived.Test.YtaocibomejjfjaaRegion
set_option linter.unusedVariables false
set_option linter.unusedSimpArgs false
namespace Go.Proofs.Ytaocibomejjfjaa.prefixBack
open Go.RowKit

/-- numbers put one behind the other -/
def cat (ns : List Int) : List UInt8 := ns.flatMap fun n => Px.formL n.toNat
theorem cat_take (ns : List Int) (j : Nat) (n : Int) (h : ns[j]? = some n) : cat (ns.take (j + 1)) = cat (ns.take j) ++ Px.formL n.toNat := by
  unfold cat
  rw [List.take_add_one, h]
  simp
theorem cat_drop (ns : List Int) (j : Nat) (n : Int) (h : ns[j]? = some n) : (cat ns).drop (cat (ns.take j)).length = Px.formL n.toNat ++ cat (ns.drop (j + 1)) := by
  have hj : j < ns.length := (List.getElem?_eq_some_iff.1 h).1
  have e1 : cat ns = cat (ns.take j) ++ cat (ns.drop j) := by
    unfold cat
    rw [← List.flatMap_append, List.take_append_drop]
  have e2 : ns.drop j = n :: ns.drop (j + 1) := by
    rw [List.drop_eq_getElem_cons hj]
    congr 1
    rw [List.getElem?_eq_getElem hj] at h
    injection h
  rw [e1, List.drop_left, e2]
  simp [cat]
theorem cat_len (ns : List Int) : (cat ns).length ≤ 9 * ns.length := by
  induction ns with
  | nil => simp [cat]
  | cons n r ih =>
    have h : cat (n :: r) = Px.formL n.toNat ++ cat r := by simp [cat]
    have := Px.sizeN_pos n.toNat
    rw [h, List.length_append, Px.formL_length, List.length_cons]
    omega

/-- what is read of a row that was cut, where the form of n begins -/
theorem get_cut (n : Int) (h0 : 0 ≤ n) (h1 : n ≤ 18446744073709551615) (r : List UInt8) (m : Nat) :
    (Px.sizeN n.toNat ≤ m → Px.getN ((Px.formL n.toNat ++ r).take m) = (n.toNat, Px.sizeN n.toNat, 0)) ∧ (m < Px.sizeN n.toNat → Px.getN ((Px.formL n.toNat ++ r).take m) = (0, 0, 4)) := by
  have hl := Px.formL_length n.toNat
  refine ⟨fun h => ?_, fun h => ?_⟩
  · rw [List.take_append, List.take_of_length_le (by omega)]
    exact Px.get_form _ (by omega) _
  · rw [List.take_append_of_le_length (by omega)]
    exact Px.formL_lt_short _ (by omega) m h

set_option maxRecDepth 100000 in
set_option maxHeartbeats 8000000 in
theorem walk (v0 : Value) (z0 : List Int) (a1 : Int) (v2 : Value) (z2 : List Int) (w : World) (w0 : Ints w w.heap.size .u64 v0 z0) (g0 : ∀ n ∈ z0, (Lit.int .u64 n).wf = true) (s0 : z0.length * 8 ≤ 140737488351232) (w1 : (Lit.int .u16 a1).wf = true) (w2 : Ints w w.heap.size .u8 v2 z2) (g2 : ∀ n ∈ z2, (Lit.int .u8 n).wf = true) (s2 : z2.length * 1 ≤ 140737488351232) :
    Calls Try.prog 4 #[v0, .int .u16 a1, v2] w fun e w' => e = .returned (.bool true) ∧ Below w.heap.size w w' := by
  obtain ⟨p1, q1⟩ := bounds_u16 w1
  have hbs := bs_of_ints w2 (fun z hz => bounds_u8 (g2 z hz))
  have hll : (z2.map fun z => UInt8.ofNat z.toNat).length ≤ 140737488351232 := by rw [List.length_map]; omega
  generalize z2.map (fun z => UInt8.ofNat z.toNat) = l at hbs hll
  clear w1 w2 g2 s2
  obtain ⟨A2, c2, rfl, hc2, hr2⟩ := hbs
  have Hr2 := Lib.hid hr2
  clear hr2
  obtain ⟨A0, c0, rfl, hc0, hr0⟩ := w0
  -- the first 30 numbers
  have hns : ∀ n ∈ z0.take 30, 0 ≤ n ∧ n ≤ 18446744073709551615 := fun n hn => bounds_u64 (g0 n (List.mem_of_mem_take hn))
  have hr30 := hr0.take 30
  rw [← List.map_take] at hr30
  have hlen30 : (z0.take 30).length = min z0.length 30 := by rw [List.length_take]; omega
  generalize hN : z0.length = N at *
  generalize z0.take 30 = ns at hns hr30 hlen30
  have Hns := Lib.hid hns
  have Hr0 := Lib.hid hr30
  have hmin : ns.length ≤ 30 := by omega
  have hmin2 : ns.length ≤ N := by omega
  have Hlen := Lib.hid hlen30
  clear hns hr30 hr0 g0 hN hlen30
  go_enter Try.func4, Try.ntmps4
  go_wp2_with fail
  refine (wakes_any _).mono ?_
  rintro e w1 ⟨rfl, b1⟩
  go_wp2_with fail
  have e1 : (min (N : Int) 30).toNat = ns.length := by have := Hlen.out; omega
  have e2 : max (min (N : Int) 30) 0 = (ns.length : Int) := by have := Hlen.out; omega
  rw [e1, e2]
  clear e1 e2 Hlen
  generalize hq : ns.length = q at *
  have Hq := Lib.hid hq
  clear hq
  go_loopw [7, 35] (fun v i wr => ∃ j : Nat, j ≤ q ∧ i = .int .i64 j ∧ Bs wr wr.heap.size v (cat (ns.take j)) ∧ Below w.heap.size w wr) (fun _ i _ => q - (intOf i).toNat)
  case atStart => exact ⟨0, by omega, rfl, Bs.none_, b1⟩
  case round =>
    obtain ⟨j, hj, rfl, hbs, hb⟩ := hrel
    by_cases hlt : j < q
    · have hjl : j < ns.length := by rw [Hq.out]; exact hlt
      obtain ⟨n, hn⟩ : ∃ n, ns[j]? = some n := ⟨ns[j], List.getElem?_eq_getElem hjl⟩
      obtain ⟨n0, n1⟩ := Hns.out n (List.mem_of_getElem? hn)
      have Hn := Lib.hid hn
      obtain ⟨bb, oo, rfl, hbb, hcc⟩ := Hr0.out.below hb (Nat.le_refl _) (by intro e; have := congrArg List.length e; simp at this; subst this; simp at hjl)
      have hcj : wr.cell? ⟨bb, oo + j, none⟩ = some (.int .u64 n) := hcc j (.int .u64 n) (by rw [List.getElem?_map, hn]; rfl)
      clear hcc hn
      have hcl : (cat (ns.take j)).length ≤ 270 := by
        have h1 := cat_len (ns.take j)
        have h2 : (ns.take j).length ≤ 30 := by rw [List.length_take, Hq.out]; omega
        omega
      have hct := cat_take ns j n Hn.out
      generalize cat (ns.take j) = lb at *
      have Hct := Lib.hid hct
      have Hbs := Lib.hid hbs
      clear hct
      obtain ⟨A7, c7, rfl, hc7, hr7⟩ := hbs
      clear hr7
      have hsz := Px.sizeN_pos n.toNat
      go_wp2_with fail
      refine (put_b _ lb _ _ Hbs.out (by omega) (by omega) (by omega)).mono ?_
      rintro e w2 ⟨r2, rfl, hown, hb2⟩
      have b2 := hb.trans (hb2.mono hb.size)
      have hs2 : Bs w2 w2.heap.size r2 (lb ++ Px.formL n.toNat) := Bs.of_own hown
      have Hbs2 := Lib.hid (Hbs.out.on hb2)
      obtain ⟨A8, c8, rfl, hc8, _⟩ := own_slice hown
      have Hs2 := Lib.hid hs2
      have hs3 : Bs w2 w2.heap.size (.slice A8 lb.length c8) lb := by
        obtain ⟨A', c', e, hc', hr'⟩ := hs2
        rw [List.length_append, Px.formL_length] at e
        injection e with e1 e2 e3
        subst e1 e3
        refine ⟨A8, c8, rfl, by omega, ?_⟩
        have := hr'.take lb.length
        rw [← bvs_take, List.take_left] at this
        exact this
      have Hs3 := Lib.hid hs3
      clear hown hb2 hs2 hs3 Hbs hcj
      generalize hk : Px.sizeN n.toNat = k at *
      have Hk := Lib.hid hk
      clear hk
      go_wp2_with fail
      refine (size_any _ _ (by omega) (by omega)).mono ?_
      rintro e w3 ⟨rfl, rfl⟩
      rw [Hk.out]
      go_wp2_with fail
      refine (equal_b _ _ _ _ _ _ _ Hs3.out Hbs2.out).mono ?_
      rintro e w3 ⟨rfl, rfl⟩
      rw [show (lb == lb) = true from by simp]
      go_wp2_with fail
      go_roundw
      case rel => exact ⟨j + 1, by omega, by go_num, by rw [Hct.out]; exact Hs2.out, b2⟩
      case measure => simp [intOf]; omega
    · obtain rfl : j = q := by omega
      have ht : ns.take j = ns := List.take_of_length_le (by rw [Hq.out]; exact Nat.le_refl _)
      rw [ht] at hbs
      clear ht
      have hcl : (cat ns).length ≤ 270 := by
        have h1 := cat_len ns
        rw [Hq.out] at h1
        omega
      have Hbs := Lib.hid hbs
      obtain ⟨A7, c7, rfl, hc7, hr7⟩ := hbs
      clear hr7
      generalize hL : (cat ns).length = L at *
      have HL := Lib.hid hL
      clear hL
      go_wp2_with fail
      obtain ⟨E, hE⟩ := Int.eq_ofNat_of_zero_le (Int.emod_nonneg a1 (by omega) : 0 ≤ a1 % ((L : Int) + 1))
      have hEL : E ≤ L := by have := Int.emod_lt_of_pos a1 (by omega : (0 : Int) < (L : Int) + 1); omega
      rw [hE]
      clear hE
      have x1 : (0 : Int) ≤ (E : Int) := by omega
      have x2 : (E : Int) ≤ (c7 : Int) := by have := HL.out; omega
      go_quiet (fail)
      have b5 := below_drewN hb nq
      have Hbs5 : Hid (Bs (wr.drewN nq) (wr.drewN nq).heap.size (.slice A7 L c7) (cat ns)) := Lib.hid (Hbs.out.drewN nq)
      clear Hbs hb x1 x2
      generalize wr.drewN nq = w5 at *
      go_wp2_with fail
      go_loopw [12, 72] (fun a i wr => ∃ m : Nat, m ≤ j ∧ i = .int .i64 m ∧ a = .int .i64 ((cat (ns.take m)).length : Nat) ∧ Below w.heap.size w wr ∧ Bs wr wr.heap.size (.slice A7 L c7) (cat ns)) (fun _ i _ => j - (intOf i).toNat)
      case atStart => exact ⟨0, by omega, rfl, rfl, b5, Hbs5.out⟩
      case round =>
        obtain ⟨m, hm, rfl, rfl, hbm, hbsm⟩ := hrel
        by_cases hlt : m < j
        · have hml : m < ns.length := by rw [Hq.out]; exact hlt
          obtain ⟨n, hn⟩ : ∃ n, ns[m]? = some n := ⟨ns[m], List.getElem?_eq_getElem hml⟩
          obtain ⟨n0, n1⟩ := Hns.out n (List.mem_of_getElem? hn)
          obtain ⟨bb, oo, rfl, hbb, hcc⟩ := Hr0.out.below hbm (Nat.le_refl _) (by intro e; have := congrArg List.length e; simp at this; subst this; simp at hml)
          have hcj : wr.cell? ⟨bb, oo + m, none⟩ = some (.int .u64 n) := hcc m (.int .u64 n) (by rw [List.getElem?_map, hn]; rfl)
          have hdrop := cat_drop ns m n hn
          have hct := congrArg List.length (cat_take ns m n hn)
          rw [List.length_append, Px.formL_length] at hct
          have hlt2 : (cat (ns.take m)).length + Px.sizeN n.toNat ≤ L := by
            have := congrArg List.length hdrop
            rw [List.length_drop, List.length_append, Px.formL_length, HL.out] at this
            have := Px.sizeN_pos n.toNat
            omega
          clear hcc hn
          generalize cat (ns.drop (m + 1)) = R at *
          generalize (cat (ns.take m)).length = t at *
          have hk1 := Px.sizeN_pos n.toNat
          have hg := Px.get_form n.toNat (by omega) R
          have hgc := get_cut n n0 n1 R (E - t)
          have hn' : ((n.toNat : Nat) : Int) = n := by omega
          have hbsm' := hbsm
          obtain ⟨A7', c7', e7, hc7', hr7⟩ := hbsm'
          rw [HL.out] at e7
          injection e7 with e7a e7b e7c
          subst e7a e7c
          obtain ⟨b7, o7, rfl, hb7, hc7c⟩ := hr7 (by intro e; have := congrArg List.length e; rw [bvs_length, HL.out] at this; simp at this; omega)
          have hfull : Bs wr wr.heap.size (.slice (some ⟨b7, o7 + t, none⟩) (L - t) (c7 - t)) (Px.formL n.toNat ++ R) := by
            have hlr : (Px.formL n.toNat ++ R).length = L - t := by rw [← hdrop, List.length_drop, HL.out]
            refine ⟨_, _, by rw [hlr], by rw [hlr]; omega, fun _ => ⟨b7, o7 + t, rfl, hb7, fun i u hu => ?_⟩⟩
            rw [← hdrop, bvs_drop, List.getElem?_drop] at hu
            rw [Nat.add_assoc]
            exact hc7c (t + i) u hu
          have hpart : Bs wr wr.heap.size (.slice (some ⟨b7, o7 + t, none⟩) (E - t) (c7 - t)) ((Px.formL n.toNat ++ R).take (E - t)) := by
            obtain ⟨A', c', e, hc', hr'⟩ := hfull
            have hlr : (Px.formL n.toNat ++ R).length = L - t := by rw [← hdrop, List.length_drop, HL.out]
            rw [hlr] at e
            injection e with e1 e2 e3
            subst e1 e3
            refine ⟨_, _, by rw [List.length_take, hlr, Nat.min_eq_left (by omega)], by rw [List.length_take, hlr]; omega, ?_⟩
            rw [bvs_take]
            exact hr'.take _
          have hlen1 : (Px.formL n.toNat ++ R).length ≤ 9223372036854775807 := by rw [← hdrop, List.length_drop, HL.out]; omega
          have Hlen1 := Lib.hid hlen1
          have Hfull := Lib.hid hfull
          have Hpart := Lib.hid hpart
          have Hbsm := Lib.hid hbsm
          have Hct := Lib.hid hct
          have hv1 : getV (Px.formL n.toNat ++ R) = .tuple #[.int .u64 n, .int .i64 (Px.sizeN n.toNat : Nat), .int .i64 0] := by
            unfold getV
            rw [hg]
            show Value.tuple #[.int .u64 ((n.toNat : Nat) : Int), _, _] = _
            rw [hn']
            rfl
          have hv2 : Px.sizeN n.toNat ≤ E - t → getV ((Px.formL n.toNat ++ R).take (E - t)) = .tuple #[.int .u64 n, .int .i64 (Px.sizeN n.toNat : Nat), .int .i64 0] := fun h => by
            unfold getV
            rw [hgc.1 h]
            show Value.tuple #[.int .u64 ((n.toNat : Nat) : Int), _, _] = _
            rw [hn']
            rfl
          have hv3 : E - t < Px.sizeN n.toNat → getV ((Px.formL n.toNat ++ R).take (E - t)) = .tuple #[.int .u64 0, .int .i64 0, .int .i64 4] := fun h => by
            unfold getV
            rw [hgc.2 h]
            rfl
          have Hv1 := Lib.hid hv1
          have Hv2 := Lib.hid hv2
          have Hv3 := Lib.hid hv3
          clear hfull hpart hbsm hct hv1 hv2 hv3 hg hgc hn' hdrop hlen1 hr7 hc7c hc7'
          generalize hk : Px.sizeN n.toNat = k at *
          have Hk := Lib.hid hk
          clear hk
          have h3 : E < t ∨ (t ≤ E ∧ t + k ≤ E) ∨ (t ≤ E ∧ E < t + k) := by omega
          have hcap : (c7 : Int) ≠ (t : Int) := by omega
          go_wp2_with fail
          refine (get_b _ _ _ _ Hfull.out Hlen1.out).mono ?_
          rintro e w6 ⟨rfl, hb6⟩
          rw [Hv1.out]
          have b6 := hbm.trans (hb6.mono hbm.size)
          have Hbs6 := Lib.hid (Hbsm.out.on hb6)
          have Hpart6 := Lib.hid (Hpart.out.on hb6)
          clear hbm hb6 Hbsm Hpart Hfull hcj hcap
          go_wp2_with fail
          refine (size_any _ _ (by omega) (by omega)).mono ?_
          rintro e w7 ⟨rfl, rfl⟩
          rw [Hk.out]
          rcases h3 with h3 | ⟨h3, h4⟩ | ⟨h3, h4⟩
          · have x1 : decide ((t : Int) ≤ (E : Int)) = false := by simp; omega
            go_wp2_with fail
            go_roundw
            case rel => exact ⟨m + 1, by omega, by go_num, by rw [Hct.out]; go_num, b6, Hbs6.out⟩
            case measure => simp [intOf]; omega
          · have x1 : decide ((t : Int) ≤ (E : Int)) = true := by simp; omega
            have x2 : decide ((t : Int) + (k : Int) ≤ (E : Int)) = true := by simp; omega
            go_wp2_with fail
            refine (get_b _ _ _ _ Hpart6.out (by rw [List.length_take]; omega)).mono ?_
            rintro e w8 ⟨rfl, hb8⟩
            rw [Hv2.out (by omega)]
            have b8 := b6.trans (hb8.mono b6.size)
            have Hbs8 := Lib.hid (Hbs6.out.on hb8)
            clear b6 hb8 Hbs6 Hpart6
            go_wp2_with fail
            go_roundw
            case rel => exact ⟨m + 1, by omega, by go_num, by rw [Hct.out]; go_num, b8, Hbs8.out⟩
            case measure => simp [intOf]; omega
          · have x1 : decide ((t : Int) ≤ (E : Int)) = true := by simp; omega
            have x2 : decide ((t : Int) + (k : Int) ≤ (E : Int)) = false := by simp; omega
            go_wp2_with fail
            refine (get_b _ _ _ _ Hpart6.out (by rw [List.length_take]; omega)).mono ?_
            rintro e w8 ⟨rfl, hb8⟩
            rw [Hv3.out (by omega)]
            have b8 := b6.trans (hb8.mono b6.size)
            have Hbs8 := Lib.hid (Hbs6.out.on hb8)
            clear b6 hb8 Hbs6 Hpart6
            go_wp2_with fail
            go_roundw
            case rel => exact ⟨m + 1, by omega, by go_num, by rw [Hct.out]; go_num, b8, Hbs8.out⟩
            case measure => simp [intOf]; omega
        · obtain rfl : m = j := by omega
          have ht : ns.take m = ns := List.take_of_length_le (by rw [Hq.out]; exact Nat.le_refl _)
          rw [ht, HL.out]
          clear ht hbsm Hbs5
          have hr3 := Hr2.out.below hbm (Nat.le_refl _)
          have Hr3 := Lib.hid hr3
          clear hr3
          go_wp2_with fail
          refine (get_b _ l w.heap.size _ ⟨A2, c2, rfl, hc2, Hr3.out⟩ (by omega)).mono ?_
          rintro e w8 ⟨rfl, hb8⟩
          have Hr8 := Lib.hid (Hr3.out.below hb8 hbm.size)
          have b8 := hbm.trans (hb8.mono hbm.size)
          clear hbm hb8 Hr3
          have x1 : ((L : Int) == (L : Int)) = true := by simp
          rcases Px.getN_cases l with (hg | hg) | ⟨n, k, hg, hn, hk1, hk2, hk3, hf⟩
          · obtain ⟨nn, kk, ee, he, f1, f2, f3, f4⟩ : ∃ nn kk ee : Int, getV l = .tuple #[.int .u64 nn, .int .i64 kk, .int .i64 ee] ∧ (ee == 0) = false ∧ (ee == 4) = true ∧ (nn == 0) = true ∧ (kk == 0) = true := ⟨0, 0, 4, by unfold getV; rw [hg]; rfl, rfl, rfl, rfl, rfl⟩
            rw [he]
            clear hg he
            go_wp2_with fail
            refine wp_region_noPanic ?_
            refine wp_region_held_drew (S := fun _ => True) (by kernel_rfl) trivial (fun hHeld => ?_)
            refine wpAnyH_take (i := 0) (v := ?_) opAt_0 (by kernel_rfl) (by kernel_rfl) (by kernel_rfl) (fun _ _ _ h => h) (Or.inl ⟨by rfl, ?_⟩) trivial ?_
            rotate_left
            · (intro w hSw; go_simp; try with_reducible rfl)
            try simp only [Act.put, List.setIfInBounds_toArray, List.set_cons_zero, List.set_cons_succ]
            refine wpAnyH_take (i := 1) (v := ?_) opAt_1 (by kernel_rfl) (by kernel_rfl) (by kernel_rfl) (fun _ _ _ h => h) (Or.inl ⟨by rfl, ?_⟩) trivial ?_
            rotate_left
            · (intro w hSw; go_simp; try with_reducible rfl)
            try simp only [Act.put, List.setIfInBounds_toArray, List.set_cons_zero, List.set_cons_succ]
            refine wpAnyH_take (i := 2) (v := ?_) opAt_2 (by kernel_rfl) (by kernel_rfl) (by kernel_rfl) (fun _ _ _ h => h) (Or.inl ⟨by rfl, ?_⟩) trivial ?_
            rotate_left
            · (intro w hSw; go_simp; try with_reducible rfl)
            try simp only [Act.put, List.setIfInBounds_toArray, List.set_cons_zero, List.set_cons_succ]
            refine wpAnyH_take (i := 3) (v := ?_) opAt_3 (by kernel_rfl) (by kernel_rfl) (by kernel_rfl) (fun _ _ _ h => h) (Or.inl ⟨by rfl, ?_⟩) trivial ?_
            rotate_left
            · (intro w hSw; go_simp; try with_reducible rfl)
            try simp only [Act.put, List.setIfInBounds_toArray, List.set_cons_zero, List.set_cons_succ]
            refine wpAnyH_take (i := 4) (v := ?_) opAt_4 (by kernel_rfl) (by kernel_rfl) (by kernel_rfl) (fun _ _ _ h => h) (Or.inl ⟨by rfl, ?_⟩) trivial ?_
            rotate_left
            · (intro w hSw; go_simp; try with_reducible rfl)
            try simp only [Act.put, List.setIfInBounds_toArray, List.set_cons_zero, List.set_cons_succ]
            refine wpAnyH_take (i := 5) (v := ?_) opAt_5 (by kernel_rfl) (by kernel_rfl) (by kernel_rfl) (fun _ _ _ h => h) (Or.inl ⟨by rfl, ?_⟩) trivial ?_
            rotate_left
            · (intro w hSw; go_simp; try with_reducible rfl)
            try simp only [Act.put, List.setIfInBounds_toArray, List.set_cons_zero, List.set_cons_succ]
            refine wpAnyH_take (i := 6) (v := ?_) opAt_6 (by kernel_rfl) (by kernel_rfl) (by kernel_rfl) (fun _ _ _ h => h) (Or.inl ⟨by rfl, ?_⟩) trivial ?_
            rotate_left
            · (intro w hSw; go_simp; try with_reducible rfl)
            try simp only [Act.put, List.setIfInBounds_toArray, List.set_cons_zero, List.set_cons_succ]
            refine wpAnyH_take (i := 7) (v := ?_) opAt_7 (by kernel_rfl) (by kernel_rfl) (by kernel_rfl) (fun _ _ _ h => h) (Or.inl ⟨by rfl, ?_⟩) trivial ?_
            rotate_left
            · (intro w hSw; go_simp; try with_reducible rfl)
            try simp only [Act.put, List.setIfInBounds_toArray, List.set_cons_zero, List.set_cons_succ]
            refine wpAnyH_take (i := 8) (v := undef) opAt_8 (by kernel_rfl) (by kernel_rfl) (by kernel_rfl) (fun _ _ _ h => h) (Or.inr ⟨by rfl, rfl⟩) trivial ?_
            try simp only [Act.put, List.setIfInBounds_toArray, List.set_cons_zero, List.set_cons_succ]
            refine wpAnyH_take (i := 10) (v := undef) opAt_10 (by kernel_rfl) (by kernel_rfl) (by kernel_rfl) (fun _ _ _ h => h) (Or.inr ⟨by rfl, rfl⟩) trivial ?_
            try simp only [Act.put, List.setIfInBounds_toArray, List.set_cons_zero, List.set_cons_succ]
            refine wpAnyH_take (i := 11) (v := undef) opAt_11 (by kernel_rfl) (by kernel_rfl) (by kernel_rfl) (fun _ _ _ h => h) (Or.inr ⟨by rfl, rfl⟩) trivial ?_
            try simp only [Act.put, List.setIfInBounds_toArray, List.set_cons_zero, List.set_cons_succ]
            refine wpAnyH_take (i := 12) (v := undef) opAt_12 (by kernel_rfl) (by kernel_rfl) (by kernel_rfl) (fun _ _ _ h => h) (Or.inr ⟨by rfl, rfl⟩) trivial ?_
            try simp only [Act.put, List.setIfInBounds_toArray, List.set_cons_zero, List.set_cons_succ]
            refine wpAnyH_ready (rs := [9]) (by kernel_rfl) (by simp) ?_
            refine AllReadyH.cons rfl (fun K hK => ?_) AllReadyH.nil
            go_simp
            refine hK.out _ _ trivial (fun _ => ?_)
            clear hK K
            refine wpAnyH_ready (rs := [13]) (by kernel_rfl) (by simp) ?_
            refine AllReadyH.cons rfl (fun K hK => ?_) AllReadyH.nil
            go_simp
            refine hK.out _ _ trivial (fun _ => ?_)
            clear hK K
            refine wpAnyH_take (i := 14) (v := ?_) opAt_14 (by kernel_rfl) (by kernel_rfl) (by kernel_rfl) (fun _ _ _ h => h) (Or.inl ⟨by rfl, ?_⟩) trivial ?_
            rotate_left
            · (intro w hSw; go_simp; try with_reducible rfl)
            try simp only [Act.put, List.setIfInBounds_toArray, List.set_cons_zero, List.set_cons_succ]
            refine wpAnyH_take (i := 15) (v := ?_) opAt_15 (by kernel_rfl) (by kernel_rfl) (by kernel_rfl) (fun _ _ _ h => h) (Or.inl ⟨by rfl, ?_⟩) trivial ?_
            rotate_left
            · (intro w hSw; go_simp; try with_reducible rfl)
            try simp only [Act.put, List.setIfInBounds_toArray, List.set_cons_zero, List.set_cons_succ]
            refine wpAnyH_take (i := 16) (v := ?_) opAt_16 (by kernel_rfl) (by kernel_rfl) (by kernel_rfl) (fun _ _ _ h => h) (Or.inl ⟨by rfl, ?_⟩) trivial ?_
            rotate_left
            · (intro w hSw; go_simp; try with_reducible rfl)
            try simp only [Act.put, List.setIfInBounds_toArray, List.set_cons_zero, List.set_cons_succ]
            refine wpAnyH_take (i := 17) (v := ?_) opAt_17 (by kernel_rfl) (by kernel_rfl) (by kernel_rfl) (fun _ _ _ h => h) (Or.inl ⟨by rfl, ?_⟩) trivial ?_
            rotate_left
            · (intro w hSw; go_simp; try with_reducible rfl)
            try simp only [Act.put, List.setIfInBounds_toArray, List.set_cons_zero, List.set_cons_succ]
            refine wpAnyH_take (i := 18) (v := ?_) opAt_18 (by kernel_rfl) (by kernel_rfl) (by kernel_rfl) (fun _ _ _ h => h) (Or.inl ⟨by rfl, ?_⟩) trivial ?_
            rotate_left
            · (intro w hSw; go_simp; try with_reducible rfl)
            try simp only [Act.put, List.setIfInBounds_toArray, List.set_cons_zero, List.set_cons_succ]
            refine wpAnyH_take (i := 19) (v := undef) opAt_19 (by kernel_rfl) (by kernel_rfl) (by kernel_rfl) (fun _ _ _ h => h) (Or.inr ⟨by rfl, rfl⟩) trivial ?_
            try simp only [Act.put, List.setIfInBounds_toArray, List.set_cons_zero, List.set_cons_succ]
            refine wpAnyH_take (i := 20) (v := undef) opAt_20 (by kernel_rfl) (by kernel_rfl) (by kernel_rfl) (fun _ _ _ h => h) (Or.inr ⟨by rfl, rfl⟩) trivial ?_
            try simp only [Act.put, List.setIfInBounds_toArray, List.set_cons_zero, List.set_cons_succ]
            refine wpAnyH_take (i := 21) (v := ?_) opAt_21 (by kernel_rfl) (by kernel_rfl) (by kernel_rfl) (fun _ _ _ h => h) (Or.inl ⟨by rfl, ?_⟩) trivial ?_
            rotate_left
            · (intro w hSw; go_simp; try with_reducible rfl)
            try simp only [Act.put, List.setIfInBounds_toArray, List.set_cons_zero, List.set_cons_succ]
            refine wpAnyH_take (i := 22) (v := ?_) opAt_22 (by kernel_rfl) (by kernel_rfl) (by kernel_rfl) (fun _ _ _ h => h) (Or.inl ⟨by rfl, ?_⟩) trivial ?_
            rotate_left
            · (intro w hSw; go_simp; try with_reducible rfl)
            try simp only [Act.put, List.setIfInBounds_toArray, List.set_cons_zero, List.set_cons_succ]
            refine wpAnyH_take (i := 23) (v := ?_) opAt_23 (by kernel_rfl) (by kernel_rfl) (by kernel_rfl) (fun _ _ _ h => h) (Or.inl ⟨by rfl, ?_⟩) trivial ?_
            rotate_left
            · (intro w hSw; go_simp; try with_reducible rfl)
            try simp only [Act.put, List.setIfInBounds_toArray, List.set_cons_zero, List.set_cons_succ]
            refine wpAnyH_take (i := 24) (v := ?_) opAt_24 (by kernel_rfl) (by kernel_rfl) (by kernel_rfl) (fun _ _ _ h => h) (Or.inl ⟨by rfl, ?_⟩) trivial ?_
            rotate_left
            · (intro w hSw; go_simp; try with_reducible rfl)
            try simp only [Act.put, List.setIfInBounds_toArray, List.set_cons_zero, List.set_cons_succ]
            refine wpAnyH_take (i := 25) (v := ?_) opAt_25 (by kernel_rfl) (by kernel_rfl) (by kernel_rfl) (fun _ _ _ h => h) (Or.inl ⟨by rfl, ?_⟩) trivial ?_
            rotate_left
            · (intro w hSw; go_simp; try with_reducible rfl)
            try simp only [Act.put, List.setIfInBounds_toArray, List.set_cons_zero, List.set_cons_succ]
            refine wpAnyH_take (i := 26) (v := ?_) opAt_26 (by kernel_rfl) (by kernel_rfl) (by kernel_rfl) (fun _ _ _ h => h) (Or.inl ⟨by rfl, ?_⟩) trivial ?_
            rotate_left
            · (intro w hSw; go_simp; try with_reducible rfl)
            try simp only [Act.put, List.setIfInBounds_toArray, List.set_cons_zero, List.set_cons_succ]
            refine wpAnyH_take (i := 27) (v := ?_) opAt_27 (by kernel_rfl) (by kernel_rfl) (by kernel_rfl) (fun _ _ _ h => h) (Or.inl ⟨by rfl, ?_⟩) trivial ?_
            rotate_left
            · (intro w hSw; go_simp; try with_reducible rfl)
            try simp only [Act.put, List.setIfInBounds_toArray, List.set_cons_zero, List.set_cons_succ]
            refine wpAnyH_take (i := 28) (v := ?_) opAt_28 (by kernel_rfl) (by kernel_rfl) (by kernel_rfl) (fun _ _ _ h => h) (Or.inl ⟨by rfl, ?_⟩) trivial ?_
            rotate_left
            · (intro w hSw; go_simp; try with_reducible rfl)
            try simp only [Act.put, List.setIfInBounds_toArray, List.set_cons_zero, List.set_cons_succ]
            refine wpAnyH_take (i := 29) (v := ?_) opAt_29 (by kernel_rfl) (by kernel_rfl) (by kernel_rfl) (fun _ _ _ h => h) (Or.inl ⟨by rfl, ?_⟩) trivial ?_
            rotate_left
            · (intro w hSw; go_simp; try with_reducible rfl)
            try simp only [Act.put, List.setIfInBounds_toArray, List.set_cons_zero, List.set_cons_succ]
            refine wpAnyH_take (i := 30) (v := ?_) opAt_30 (by kernel_rfl) (by kernel_rfl) (by kernel_rfl) (fun _ _ _ h => h) (Or.inl ⟨by rfl, ?_⟩) trivial ?_
            rotate_left
            · (intro w hSw; go_simp; try with_reducible rfl)
            try simp only [Act.put, List.setIfInBounds_toArray, List.set_cons_zero, List.set_cons_succ]
            refine wpAnyH_take (i := 31) (v := ?_) opAt_31 (by kernel_rfl) (by kernel_rfl) (by kernel_rfl) (fun _ _ _ h => h) (Or.inl ⟨by rfl, ?_⟩) trivial ?_
            rotate_left
            · (intro w hSw; go_simp; try with_reducible rfl)
            try simp only [Act.put, List.setIfInBounds_toArray, List.set_cons_zero, List.set_cons_succ]
            refine wpAnyH_take (i := 32) (v := ?_) opAt_32 (by kernel_rfl) (by kernel_rfl) (by kernel_rfl) (fun _ _ _ h => h) (Or.inl ⟨by rfl, ?_⟩) trivial ?_
            rotate_left
            · (intro w hSw; go_simp; try with_reducible rfl)
            try simp only [Act.put, List.setIfInBounds_toArray, List.set_cons_zero, List.set_cons_succ]
            refine wpAnyH_ready (rs := [33]) (by kernel_rfl) (by simp) ?_
            refine AllReadyH.cons rfl (fun K hK => ?_) AllReadyH.nil
            go_simp
            refine (wakes_any _).mono ?_
            rintro e w9 ⟨rfl, hb9⟩
            go_wp2_with fail
            refine hK.out _ _ trivial (fun _ => ?_)
            clear hK K
            refine wpAnyH_take (i := 34) (v := ?_) opAt_34 (by kernel_rfl) (by kernel_rfl) (by kernel_rfl) (fun _ _ _ h => h) (Or.inl ⟨by rfl, ?_⟩) trivial ?_
            rotate_left
            · (intro w hSw; go_simp; try with_reducible rfl)
            try simp only [Act.put, List.setIfInBounds_toArray, List.set_cons_zero, List.set_cons_succ]
            refine wpAnyH_take (i := 35) (v := ?_) opAt_35 (by kernel_rfl) (by kernel_rfl) (by kernel_rfl) (fun _ _ _ h => h) (Or.inl ⟨by rfl, ?_⟩) trivial ?_
            rotate_left
            · (intro w hSw; go_simp; try with_reducible rfl)
            try simp only [Act.put, List.setIfInBounds_toArray, List.set_cons_zero, List.set_cons_succ]
            refine wpAnyH_done (by kernel_rfl) ?_ _
            refine NoPanic.normal ?_
            go_wp2_with fail
            go_ret
            exact ⟨rfl, b8.drew.trans (hb9.mono b8.size)⟩
          · obtain ⟨nn, kk, ee, he, f1, f2, f2', f3, f4⟩ : ∃ nn kk ee : Int, getV l = .tuple #[.int .u64 nn, .int .i64 kk, .int .i64 ee] ∧ (ee == 0) = false ∧ (ee == 4) = false ∧ (ee == 5) = true ∧ (nn == 0) = true ∧ (kk == 0) = true := ⟨0, 0, 5, by unfold getV; rw [hg]; rfl, rfl, rfl, rfl, rfl, rfl⟩
            rw [he]
            clear hg he
            go_wp2_with fail
            refine wp_region_noPanic ?_
            refine wp_region_held_drew (S := fun _ => True) (by kernel_rfl) trivial (fun hHeld => ?_)
            refine wpAnyH_take (i := 0) (v := ?_) opAt_0 (by kernel_rfl) (by kernel_rfl) (by kernel_rfl) (fun _ _ _ h => h) (Or.inl ⟨by rfl, ?_⟩) trivial ?_
            rotate_left
            · (intro w hSw; go_simp; try with_reducible rfl)
            try simp only [Act.put, List.setIfInBounds_toArray, List.set_cons_zero, List.set_cons_succ]
            refine wpAnyH_take (i := 1) (v := ?_) opAt_1 (by kernel_rfl) (by kernel_rfl) (by kernel_rfl) (fun _ _ _ h => h) (Or.inl ⟨by rfl, ?_⟩) trivial ?_
            rotate_left
            · (intro w hSw; go_simp; try with_reducible rfl)
            try simp only [Act.put, List.setIfInBounds_toArray, List.set_cons_zero, List.set_cons_succ]
            refine wpAnyH_take (i := 2) (v := ?_) opAt_2 (by kernel_rfl) (by kernel_rfl) (by kernel_rfl) (fun _ _ _ h => h) (Or.inl ⟨by rfl, ?_⟩) trivial ?_
            rotate_left
            · (intro w hSw; go_simp; try with_reducible rfl)
            try simp only [Act.put, List.setIfInBounds_toArray, List.set_cons_zero, List.set_cons_succ]
            refine wpAnyH_take (i := 3) (v := ?_) opAt_3 (by kernel_rfl) (by kernel_rfl) (by kernel_rfl) (fun _ _ _ h => h) (Or.inl ⟨by rfl, ?_⟩) trivial ?_
            rotate_left
            · (intro w hSw; go_simp; try with_reducible rfl)
            try simp only [Act.put, List.setIfInBounds_toArray, List.set_cons_zero, List.set_cons_succ]
            refine wpAnyH_take (i := 4) (v := ?_) opAt_4 (by kernel_rfl) (by kernel_rfl) (by kernel_rfl) (fun _ _ _ h => h) (Or.inl ⟨by rfl, ?_⟩) trivial ?_
            rotate_left
            · (intro w hSw; go_simp; try with_reducible rfl)
            try simp only [Act.put, List.setIfInBounds_toArray, List.set_cons_zero, List.set_cons_succ]
            refine wpAnyH_take (i := 5) (v := ?_) opAt_5 (by kernel_rfl) (by kernel_rfl) (by kernel_rfl) (fun _ _ _ h => h) (Or.inl ⟨by rfl, ?_⟩) trivial ?_
            rotate_left
            · (intro w hSw; go_simp; try with_reducible rfl)
            try simp only [Act.put, List.setIfInBounds_toArray, List.set_cons_zero, List.set_cons_succ]
            refine wpAnyH_take (i := 6) (v := ?_) opAt_6 (by kernel_rfl) (by kernel_rfl) (by kernel_rfl) (fun _ _ _ h => h) (Or.inl ⟨by rfl, ?_⟩) trivial ?_
            rotate_left
            · (intro w hSw; go_simp; try with_reducible rfl)
            try simp only [Act.put, List.setIfInBounds_toArray, List.set_cons_zero, List.set_cons_succ]
            refine wpAnyH_take (i := 7) (v := ?_) opAt_7 (by kernel_rfl) (by kernel_rfl) (by kernel_rfl) (fun _ _ _ h => h) (Or.inl ⟨by rfl, ?_⟩) trivial ?_
            rotate_left
            · (intro w hSw; go_simp; try with_reducible rfl)
            try simp only [Act.put, List.setIfInBounds_toArray, List.set_cons_zero, List.set_cons_succ]
            refine wpAnyH_take (i := 8) (v := undef) opAt_8 (by kernel_rfl) (by kernel_rfl) (by kernel_rfl) (fun _ _ _ h => h) (Or.inr ⟨by rfl, rfl⟩) trivial ?_
            try simp only [Act.put, List.setIfInBounds_toArray, List.set_cons_zero, List.set_cons_succ]
            refine wpAnyH_take (i := 10) (v := undef) opAt_10 (by kernel_rfl) (by kernel_rfl) (by kernel_rfl) (fun _ _ _ h => h) (Or.inr ⟨by rfl, rfl⟩) trivial ?_
            try simp only [Act.put, List.setIfInBounds_toArray, List.set_cons_zero, List.set_cons_succ]
            refine wpAnyH_take (i := 11) (v := undef) opAt_11 (by kernel_rfl) (by kernel_rfl) (by kernel_rfl) (fun _ _ _ h => h) (Or.inr ⟨by rfl, rfl⟩) trivial ?_
            try simp only [Act.put, List.setIfInBounds_toArray, List.set_cons_zero, List.set_cons_succ]
            refine wpAnyH_take (i := 12) (v := undef) opAt_12 (by kernel_rfl) (by kernel_rfl) (by kernel_rfl) (fun _ _ _ h => h) (Or.inr ⟨by rfl, rfl⟩) trivial ?_
            try simp only [Act.put, List.setIfInBounds_toArray, List.set_cons_zero, List.set_cons_succ]
            refine wpAnyH_ready (rs := [9]) (by kernel_rfl) (by simp) ?_
            refine AllReadyH.cons rfl (fun K hK => ?_) AllReadyH.nil
            go_simp
            refine hK.out _ _ trivial (fun _ => ?_)
            clear hK K
            refine wpAnyH_ready (rs := [13]) (by kernel_rfl) (by simp) ?_
            refine AllReadyH.cons rfl (fun K hK => ?_) AllReadyH.nil
            go_simp
            refine hK.out _ _ trivial (fun _ => ?_)
            clear hK K
            refine wpAnyH_take (i := 14) (v := ?_) opAt_14 (by kernel_rfl) (by kernel_rfl) (by kernel_rfl) (fun _ _ _ h => h) (Or.inl ⟨by rfl, ?_⟩) trivial ?_
            rotate_left
            · (intro w hSw; go_simp; try with_reducible rfl)
            try simp only [Act.put, List.setIfInBounds_toArray, List.set_cons_zero, List.set_cons_succ]
            refine wpAnyH_take (i := 15) (v := ?_) opAt_15 (by kernel_rfl) (by kernel_rfl) (by kernel_rfl) (fun _ _ _ h => h) (Or.inl ⟨by rfl, ?_⟩) trivial ?_
            rotate_left
            · (intro w hSw; go_simp; try with_reducible rfl)
            try simp only [Act.put, List.setIfInBounds_toArray, List.set_cons_zero, List.set_cons_succ]
            refine wpAnyH_take (i := 16) (v := ?_) opAt_16 (by kernel_rfl) (by kernel_rfl) (by kernel_rfl) (fun _ _ _ h => h) (Or.inl ⟨by rfl, ?_⟩) trivial ?_
            rotate_left
            · (intro w hSw; go_simp; try with_reducible rfl)
            try simp only [Act.put, List.setIfInBounds_toArray, List.set_cons_zero, List.set_cons_succ]
            refine wpAnyH_take (i := 17) (v := ?_) opAt_17 (by kernel_rfl) (by kernel_rfl) (by kernel_rfl) (fun _ _ _ h => h) (Or.inl ⟨by rfl, ?_⟩) trivial ?_
            rotate_left
            · (intro w hSw; go_simp; try with_reducible rfl)
            try simp only [Act.put, List.setIfInBounds_toArray, List.set_cons_zero, List.set_cons_succ]
            refine wpAnyH_take (i := 18) (v := ?_) opAt_18 (by kernel_rfl) (by kernel_rfl) (by kernel_rfl) (fun _ _ _ h => h) (Or.inl ⟨by rfl, ?_⟩) trivial ?_
            rotate_left
            · (intro w hSw; go_simp; try with_reducible rfl)
            try simp only [Act.put, List.setIfInBounds_toArray, List.set_cons_zero, List.set_cons_succ]
            refine wpAnyH_take (i := 19) (v := ?_) opAt_19 (by kernel_rfl) (by kernel_rfl) (by kernel_rfl) (fun _ _ _ h => h) (Or.inl ⟨by rfl, ?_⟩) trivial ?_
            rotate_left
            · (intro w hSw; go_simp; try with_reducible rfl)
            try simp only [Act.put, List.setIfInBounds_toArray, List.set_cons_zero, List.set_cons_succ]
            refine wpAnyH_take (i := 20) (v := ?_) opAt_20 (by kernel_rfl) (by kernel_rfl) (by kernel_rfl) (fun _ _ _ h => h) (Or.inl ⟨by rfl, ?_⟩) trivial ?_
            rotate_left
            · (intro w hSw; go_simp; try with_reducible rfl)
            try simp only [Act.put, List.setIfInBounds_toArray, List.set_cons_zero, List.set_cons_succ]
            refine wpAnyH_take (i := 21) (v := ?_) opAt_21 (by kernel_rfl) (by kernel_rfl) (by kernel_rfl) (fun _ _ _ h => h) (Or.inl ⟨by rfl, ?_⟩) trivial ?_
            rotate_left
            · (intro w hSw; go_simp; try with_reducible rfl)
            try simp only [Act.put, List.setIfInBounds_toArray, List.set_cons_zero, List.set_cons_succ]
            refine wpAnyH_take (i := 22) (v := ?_) opAt_22 (by kernel_rfl) (by kernel_rfl) (by kernel_rfl) (fun _ _ _ h => h) (Or.inl ⟨by rfl, ?_⟩) trivial ?_
            rotate_left
            · (intro w hSw; go_simp; try with_reducible rfl)
            try simp only [Act.put, List.setIfInBounds_toArray, List.set_cons_zero, List.set_cons_succ]
            refine wpAnyH_take (i := 23) (v := ?_) opAt_23 (by kernel_rfl) (by kernel_rfl) (by kernel_rfl) (fun _ _ _ h => h) (Or.inl ⟨by rfl, ?_⟩) trivial ?_
            rotate_left
            · (intro w hSw; go_simp; try with_reducible rfl)
            try simp only [Act.put, List.setIfInBounds_toArray, List.set_cons_zero, List.set_cons_succ]
            refine wpAnyH_take (i := 24) (v := ?_) opAt_24 (by kernel_rfl) (by kernel_rfl) (by kernel_rfl) (fun _ _ _ h => h) (Or.inl ⟨by rfl, ?_⟩) trivial ?_
            rotate_left
            · (intro w hSw; go_simp; try with_reducible rfl)
            try simp only [Act.put, List.setIfInBounds_toArray, List.set_cons_zero, List.set_cons_succ]
            refine wpAnyH_take (i := 25) (v := ?_) opAt_25 (by kernel_rfl) (by kernel_rfl) (by kernel_rfl) (fun _ _ _ h => h) (Or.inl ⟨by rfl, ?_⟩) trivial ?_
            rotate_left
            · (intro w hSw; go_simp; try with_reducible rfl)
            try simp only [Act.put, List.setIfInBounds_toArray, List.set_cons_zero, List.set_cons_succ]
            refine wpAnyH_take (i := 26) (v := ?_) opAt_26 (by kernel_rfl) (by kernel_rfl) (by kernel_rfl) (fun _ _ _ h => h) (Or.inl ⟨by rfl, ?_⟩) trivial ?_
            rotate_left
            · (intro w hSw; go_simp; try with_reducible rfl)
            try simp only [Act.put, List.setIfInBounds_toArray, List.set_cons_zero, List.set_cons_succ]
            refine wpAnyH_take (i := 27) (v := ?_) opAt_27 (by kernel_rfl) (by kernel_rfl) (by kernel_rfl) (fun _ _ _ h => h) (Or.inl ⟨by rfl, ?_⟩) trivial ?_
            rotate_left
            · (intro w hSw; go_simp; try with_reducible rfl)
            try simp only [Act.put, List.setIfInBounds_toArray, List.set_cons_zero, List.set_cons_succ]
            refine wpAnyH_take (i := 28) (v := ?_) opAt_28 (by kernel_rfl) (by kernel_rfl) (by kernel_rfl) (fun _ _ _ h => h) (Or.inl ⟨by rfl, ?_⟩) trivial ?_
            rotate_left
            · (intro w hSw; go_simp; try with_reducible rfl)
            try simp only [Act.put, List.setIfInBounds_toArray, List.set_cons_zero, List.set_cons_succ]
            refine wpAnyH_take (i := 29) (v := ?_) opAt_29 (by kernel_rfl) (by kernel_rfl) (by kernel_rfl) (fun _ _ _ h => h) (Or.inl ⟨by rfl, ?_⟩) trivial ?_
            rotate_left
            · (intro w hSw; go_simp; try with_reducible rfl)
            try simp only [Act.put, List.setIfInBounds_toArray, List.set_cons_zero, List.set_cons_succ]
            refine wpAnyH_take (i := 30) (v := ?_) opAt_30 (by kernel_rfl) (by kernel_rfl) (by kernel_rfl) (fun _ _ _ h => h) (Or.inl ⟨by rfl, ?_⟩) trivial ?_
            rotate_left
            · (intro w hSw; go_simp; try with_reducible rfl)
            try simp only [Act.put, List.setIfInBounds_toArray, List.set_cons_zero, List.set_cons_succ]
            refine wpAnyH_take (i := 31) (v := ?_) opAt_31 (by kernel_rfl) (by kernel_rfl) (by kernel_rfl) (fun _ _ _ h => h) (Or.inl ⟨by rfl, ?_⟩) trivial ?_
            rotate_left
            · (intro w hSw; go_simp; try with_reducible rfl)
            try simp only [Act.put, List.setIfInBounds_toArray, List.set_cons_zero, List.set_cons_succ]
            refine wpAnyH_take (i := 32) (v := ?_) opAt_32 (by kernel_rfl) (by kernel_rfl) (by kernel_rfl) (fun _ _ _ h => h) (Or.inl ⟨by rfl, ?_⟩) trivial ?_
            rotate_left
            · (intro w hSw; go_simp; try with_reducible rfl)
            try simp only [Act.put, List.setIfInBounds_toArray, List.set_cons_zero, List.set_cons_succ]
            refine wpAnyH_ready (rs := [33]) (by kernel_rfl) (by simp) ?_
            refine AllReadyH.cons rfl (fun K hK => ?_) AllReadyH.nil
            go_simp
            refine (wakes_any _).mono ?_
            rintro e w9 ⟨rfl, hb9⟩
            go_wp2_with fail
            refine hK.out _ _ trivial (fun _ => ?_)
            clear hK K
            refine wpAnyH_take (i := 34) (v := ?_) opAt_34 (by kernel_rfl) (by kernel_rfl) (by kernel_rfl) (fun _ _ _ h => h) (Or.inl ⟨by rfl, ?_⟩) trivial ?_
            rotate_left
            · (intro w hSw; go_simp; try with_reducible rfl)
            try simp only [Act.put, List.setIfInBounds_toArray, List.set_cons_zero, List.set_cons_succ]
            refine wpAnyH_take (i := 35) (v := ?_) opAt_35 (by kernel_rfl) (by kernel_rfl) (by kernel_rfl) (fun _ _ _ h => h) (Or.inl ⟨by rfl, ?_⟩) trivial ?_
            rotate_left
            · (intro w hSw; go_simp; try with_reducible rfl)
            try simp only [Act.put, List.setIfInBounds_toArray, List.set_cons_zero, List.set_cons_succ]
            refine wpAnyH_done (by kernel_rfl) ?_ _
            refine NoPanic.normal ?_
            go_wp2_with fail
            go_ret
            exact ⟨rfl, b8.drew.trans (hb9.mono b8.size)⟩
          · obtain ⟨ee, he, f1⟩ : ∃ ee : Int, getV l = .tuple #[.int .u64 n, .int .i64 k, .int .i64 ee] ∧ (ee == 0) = true := ⟨0, by unfold getV; rw [hg]; rfl, rfl⟩
            rw [he]
            have Hf := Lib.hid hf
            have y1 : (0 : Int) ≤ (k : Int) := by omega
            have y2 : (k : Int) ≤ (c2 : Int) := by omega
            clear hg he hf hk3
            go_wp2_with fail
            refine wp_region_noPanic ?_
            refine wp_region_held_drew (S := fun _ => True) (by kernel_rfl) trivial (fun hHeld => ?_)
            refine wpAnyH_take (i := 0) (v := ?_) opAt_0 (by kernel_rfl) (by kernel_rfl) (by kernel_rfl) (fun _ _ _ h => h) (Or.inl ⟨by rfl, ?_⟩) trivial ?_
            rotate_left
            · (intro w hSw; go_simp; try with_reducible rfl)
            try simp only [Act.put, List.setIfInBounds_toArray, List.set_cons_zero, List.set_cons_succ]
            refine wpAnyH_take (i := 1) (v := ?_) opAt_1 (by kernel_rfl) (by kernel_rfl) (by kernel_rfl) (fun _ _ _ h => h) (Or.inl ⟨by rfl, ?_⟩) trivial ?_
            rotate_left
            · (intro w hSw; go_simp; try with_reducible rfl)
            try simp only [Act.put, List.setIfInBounds_toArray, List.set_cons_zero, List.set_cons_succ]
            refine wpAnyH_take (i := 2) (v := ?_) opAt_2 (by kernel_rfl) (by kernel_rfl) (by kernel_rfl) (fun _ _ _ h => h) (Or.inl ⟨by rfl, ?_⟩) trivial ?_
            rotate_left
            · (intro w hSw; go_simp; try with_reducible rfl)
            try simp only [Act.put, List.setIfInBounds_toArray, List.set_cons_zero, List.set_cons_succ]
            refine wpAnyH_take (i := 3) (v := ?_) opAt_3 (by kernel_rfl) (by kernel_rfl) (by kernel_rfl) (fun _ _ _ h => h) (Or.inl ⟨by rfl, ?_⟩) trivial ?_
            rotate_left
            · (intro w hSw; go_simp; try with_reducible rfl)
            try simp only [Act.put, List.setIfInBounds_toArray, List.set_cons_zero, List.set_cons_succ]
            refine wpAnyH_take (i := 4) (v := ?_) opAt_4 (by kernel_rfl) (by kernel_rfl) (by kernel_rfl) (fun _ _ _ h => h) (Or.inl ⟨by rfl, ?_⟩) trivial ?_
            rotate_left
            · (intro w hSw; go_simp; try with_reducible rfl)
            try simp only [Act.put, List.setIfInBounds_toArray, List.set_cons_zero, List.set_cons_succ]
            refine wpAnyH_take (i := 5) (v := ?_) opAt_5 (by kernel_rfl) (by kernel_rfl) (by kernel_rfl) (fun _ _ _ h => h) (Or.inl ⟨by rfl, ?_⟩) trivial ?_
            rotate_left
            · (intro w hSw; go_simp; try with_reducible rfl)
            try simp only [Act.put, List.setIfInBounds_toArray, List.set_cons_zero, List.set_cons_succ]
            refine wpAnyH_take (i := 6) (v := ?_) opAt_6 (by kernel_rfl) (by kernel_rfl) (by kernel_rfl) (fun _ _ _ h => h) (Or.inl ⟨by rfl, ?_⟩) trivial ?_
            rotate_left
            · (intro w hSw; go_simp; try with_reducible rfl)
            try simp only [Act.put, List.setIfInBounds_toArray, List.set_cons_zero, List.set_cons_succ]
            refine wpAnyH_take (i := 7) (v := ?_) opAt_7 (by kernel_rfl) (by kernel_rfl) (by kernel_rfl) (fun _ _ _ h => h) (Or.inl ⟨by rfl, ?_⟩) trivial ?_
            rotate_left
            · (intro w hSw; go_simp; try with_reducible rfl)
            try simp only [Act.put, List.setIfInBounds_toArray, List.set_cons_zero, List.set_cons_succ]
            refine wpAnyH_take (i := 8) (v := ?_) opAt_8 (by kernel_rfl) (by kernel_rfl) (by kernel_rfl) (fun _ _ _ h => h) (Or.inl ⟨by rfl, ?_⟩) trivial ?_
            rotate_left
            · (intro w hSw; go_simp; try with_reducible rfl)
            try simp only [Act.put, List.setIfInBounds_toArray, List.set_cons_zero, List.set_cons_succ]
            refine wpAnyH_take (i := 10) (v := ?_) opAt_10 (by kernel_rfl) (by kernel_rfl) (by kernel_rfl) (fun _ _ _ h => h) (Or.inl ⟨by rfl, ?_⟩) trivial ?_
            rotate_left
            · (intro w hSw; go_simp; try with_reducible rfl)
            try simp only [Act.put, List.setIfInBounds_toArray, List.set_cons_zero, List.set_cons_succ]
            refine wpAnyH_take (i := 11) (v := ?_) opAt_11 (by kernel_rfl) (by kernel_rfl) (by kernel_rfl) (fun _ _ _ h => h) (Or.inl ⟨by rfl, ?_⟩) trivial ?_
            rotate_left
            · (intro w hSw; go_simp; try with_reducible rfl)
            try simp only [Act.put, List.setIfInBounds_toArray, List.set_cons_zero, List.set_cons_succ]
            refine wpAnyH_take (i := 12) (v := ?_) opAt_12 (by kernel_rfl) (by kernel_rfl) (by kernel_rfl) (fun _ _ _ h => h) (Or.inl ⟨by rfl, ?_⟩) trivial ?_
            rotate_left
            · (intro w hSw; go_simp; try with_reducible rfl)
            try simp only [Act.put, List.setIfInBounds_toArray, List.set_cons_zero, List.set_cons_succ]
            refine wpAnyH_ready (rs := [9]) (by kernel_rfl) (by simp) ?_
            refine AllReadyH.cons rfl (fun K hK => ?_) AllReadyH.nil
            go_simp
            refine (put_b _ [] _ _ (by exact Bs.none_) (by omega) (by omega) (by simp)).mono ?_
            rintro e w9 ⟨r9, rfl, hown9, hb9⟩
            rw [Int.toNat_natCast, List.nil_append, Hf.out] at hown9
            have Hs9 := Lib.hid (Bs.of_own hown9)
            have Hr9 := Lib.hid (Hr8.out.drew.below hb9 b8.size)
            have b9 := b8.drew.trans (hb9.mono b8.size)
            clear hown9 hb9
            go_wp2_with fail
            refine hK.out _ _ trivial (fun _ => ?_)
            clear hK K
            refine wpAnyH_ready (rs := [13]) (by kernel_rfl) (by simp) ?_
            refine AllReadyH.cons rfl (fun K hK => ?_) AllReadyH.nil
            go_simp
            refine (equal_b _ _ (l.take k) (l.take k) _ w.heap.size _ Hs9.out ⟨A2, c2, by rw [List.length_take, Nat.min_eq_left hk2], by rw [List.length_take]; omega, by rw [bvs_take]; exact Hr9.out.take _⟩).mono ?_
            rintro e w10 ⟨rfl, rfl⟩
            rw [show (l.take k == l.take k) = true from by simp]
            go_wp2_with fail
            refine hK.out _ _ trivial (fun _ => ?_)
            clear hK K
            refine wpAnyH_take (i := 14) (v := ?_) opAt_14 (by kernel_rfl) (by kernel_rfl) (by kernel_rfl) (fun _ _ _ h => h) (Or.inl ⟨by rfl, ?_⟩) trivial ?_
            rotate_left
            · (intro w hSw; go_simp; try with_reducible rfl)
            try simp only [Act.put, List.setIfInBounds_toArray, List.set_cons_zero, List.set_cons_succ]
            refine wpAnyH_take (i := 15) (v := ?_) opAt_15 (by kernel_rfl) (by kernel_rfl) (by kernel_rfl) (fun _ _ _ h => h) (Or.inl ⟨by rfl, ?_⟩) trivial ?_
            rotate_left
            · (intro w hSw; go_simp; try with_reducible rfl)
            try simp only [Act.put, List.setIfInBounds_toArray, List.set_cons_zero, List.set_cons_succ]
            refine wpAnyH_take (i := 16) (v := undef) opAt_16 (by kernel_rfl) (by kernel_rfl) (by kernel_rfl) (fun _ _ _ h => h) (Or.inr ⟨by rfl, rfl⟩) trivial ?_
            try simp only [Act.put, List.setIfInBounds_toArray, List.set_cons_zero, List.set_cons_succ]
            refine wpAnyH_take (i := 17) (v := undef) opAt_17 (by kernel_rfl) (by kernel_rfl) (by kernel_rfl) (fun _ _ _ h => h) (Or.inr ⟨by rfl, rfl⟩) trivial ?_
            try simp only [Act.put, List.setIfInBounds_toArray, List.set_cons_zero, List.set_cons_succ]
            refine wpAnyH_take (i := 18) (v := undef) opAt_18 (by kernel_rfl) (by kernel_rfl) (by kernel_rfl) (fun _ _ _ h => h) (Or.inr ⟨by rfl, rfl⟩) trivial ?_
            try simp only [Act.put, List.setIfInBounds_toArray, List.set_cons_zero, List.set_cons_succ]
            refine wpAnyH_take (i := 19) (v := undef) opAt_19 (by kernel_rfl) (by kernel_rfl) (by kernel_rfl) (fun _ _ _ h => h) (Or.inr ⟨by rfl, rfl⟩) trivial ?_
            try simp only [Act.put, List.setIfInBounds_toArray, List.set_cons_zero, List.set_cons_succ]
            refine wpAnyH_take (i := 20) (v := undef) opAt_20 (by kernel_rfl) (by kernel_rfl) (by kernel_rfl) (fun _ _ _ h => h) (Or.inr ⟨by rfl, rfl⟩) trivial ?_
            try simp only [Act.put, List.setIfInBounds_toArray, List.set_cons_zero, List.set_cons_succ]
            refine wpAnyH_take (i := 21) (v := undef) opAt_21 (by kernel_rfl) (by kernel_rfl) (by kernel_rfl) (fun _ _ _ h => h) (Or.inr ⟨by rfl, rfl⟩) trivial ?_
            try simp only [Act.put, List.setIfInBounds_toArray, List.set_cons_zero, List.set_cons_succ]
            refine wpAnyH_take (i := 22) (v := undef) opAt_22 (by kernel_rfl) (by kernel_rfl) (by kernel_rfl) (fun _ _ _ h => h) (Or.inr ⟨by rfl, rfl⟩) trivial ?_
            try simp only [Act.put, List.setIfInBounds_toArray, List.set_cons_zero, List.set_cons_succ]
            refine wpAnyH_take (i := 23) (v := undef) opAt_23 (by kernel_rfl) (by kernel_rfl) (by kernel_rfl) (fun _ _ _ h => h) (Or.inr ⟨by rfl, rfl⟩) trivial ?_
            try simp only [Act.put, List.setIfInBounds_toArray, List.set_cons_zero, List.set_cons_succ]
            refine wpAnyH_take (i := 24) (v := undef) opAt_24 (by kernel_rfl) (by kernel_rfl) (by kernel_rfl) (fun _ _ _ h => h) (Or.inr ⟨by rfl, rfl⟩) trivial ?_
            try simp only [Act.put, List.setIfInBounds_toArray, List.set_cons_zero, List.set_cons_succ]
            refine wpAnyH_take (i := 25) (v := undef) opAt_25 (by kernel_rfl) (by kernel_rfl) (by kernel_rfl) (fun _ _ _ h => h) (Or.inr ⟨by rfl, rfl⟩) trivial ?_
            try simp only [Act.put, List.setIfInBounds_toArray, List.set_cons_zero, List.set_cons_succ]
            refine wpAnyH_take (i := 26) (v := undef) opAt_26 (by kernel_rfl) (by kernel_rfl) (by kernel_rfl) (fun _ _ _ h => h) (Or.inr ⟨by rfl, rfl⟩) trivial ?_
            try simp only [Act.put, List.setIfInBounds_toArray, List.set_cons_zero, List.set_cons_succ]
            refine wpAnyH_take (i := 27) (v := undef) opAt_27 (by kernel_rfl) (by kernel_rfl) (by kernel_rfl) (fun _ _ _ h => h) (Or.inr ⟨by rfl, rfl⟩) trivial ?_
            try simp only [Act.put, List.setIfInBounds_toArray, List.set_cons_zero, List.set_cons_succ]
            refine wpAnyH_take (i := 28) (v := undef) opAt_28 (by kernel_rfl) (by kernel_rfl) (by kernel_rfl) (fun _ _ _ h => h) (Or.inr ⟨by rfl, rfl⟩) trivial ?_
            try simp only [Act.put, List.setIfInBounds_toArray, List.set_cons_zero, List.set_cons_succ]
            refine wpAnyH_take (i := 29) (v := undef) opAt_29 (by kernel_rfl) (by kernel_rfl) (by kernel_rfl) (fun _ _ _ h => h) (Or.inr ⟨by rfl, rfl⟩) trivial ?_
            try simp only [Act.put, List.setIfInBounds_toArray, List.set_cons_zero, List.set_cons_succ]
            refine wpAnyH_take (i := 30) (v := ?_) opAt_30 (by kernel_rfl) (by kernel_rfl) (by kernel_rfl) (fun _ _ _ h => h) (Or.inl ⟨by rfl, ?_⟩) trivial ?_
            rotate_left
            · (intro w hSw; go_simp; try with_reducible rfl)
            try simp only [Act.put, List.setIfInBounds_toArray, List.set_cons_zero, List.set_cons_succ]
            refine wpAnyH_take (i := 31) (v := ?_) opAt_31 (by kernel_rfl) (by kernel_rfl) (by kernel_rfl) (fun _ _ _ h => h) (Or.inl ⟨by rfl, ?_⟩) trivial ?_
            rotate_left
            · (intro w hSw; go_simp; try with_reducible rfl)
            try simp only [Act.put, List.setIfInBounds_toArray, List.set_cons_zero, List.set_cons_succ]
            refine wpAnyH_take (i := 32) (v := ?_) opAt_32 (by kernel_rfl) (by kernel_rfl) (by kernel_rfl) (fun _ _ _ h => h) (Or.inl ⟨by rfl, ?_⟩) trivial ?_
            rotate_left
            · (intro w hSw; go_simp; try with_reducible rfl)
            try simp only [Act.put, List.setIfInBounds_toArray, List.set_cons_zero, List.set_cons_succ]
            refine wpAnyH_ready (rs := [33]) (by kernel_rfl) (by simp) ?_
            refine AllReadyH.cons rfl (fun K hK => ?_) AllReadyH.nil
            go_simp
            refine (wakes_any _).mono ?_
            rintro e w11 ⟨rfl, hb11⟩
            go_wp2_with fail
            refine hK.out _ _ trivial (fun _ => ?_)
            clear hK K
            refine wpAnyH_take (i := 34) (v := ?_) opAt_34 (by kernel_rfl) (by kernel_rfl) (by kernel_rfl) (fun _ _ _ h => h) (Or.inl ⟨by rfl, ?_⟩) trivial ?_
            rotate_left
            · (intro w hSw; go_simp; try with_reducible rfl)
            try simp only [Act.put, List.setIfInBounds_toArray, List.set_cons_zero, List.set_cons_succ]
            refine wpAnyH_take (i := 35) (v := ?_) opAt_35 (by kernel_rfl) (by kernel_rfl) (by kernel_rfl) (fun _ _ _ h => h) (Or.inl ⟨by rfl, ?_⟩) trivial ?_
            rotate_left
            · (intro w hSw; go_simp; try with_reducible rfl)
            try simp only [Act.put, List.setIfInBounds_toArray, List.set_cons_zero, List.set_cons_succ]
            refine wpAnyH_done (by kernel_rfl) ?_ _
            refine NoPanic.normal ?_
            go_wp2_with fail
            go_ret
            exact ⟨rfl, b9.trans (hb11.mono b9.size)⟩
end Go.Proofs.Ytaocibomejjfjaa.prefixBack
