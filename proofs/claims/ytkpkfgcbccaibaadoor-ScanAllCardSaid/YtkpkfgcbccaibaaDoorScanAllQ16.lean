/-
  ScanAll, part 16 of what the law's proof leans on: WScanAll.
-/
import Derived.BigQuiet
import Derived.Test.YtkpkfgcbccaibaaDoorScanAllQ15
/- WScanAll -/

/-
  ScanAll, walked: all that was laid is found; cut anywhere, the whole ones.
-/
set_option linter.unusedVariables false
set_option linter.unusedSimpArgs false
namespace Go.Proofs.YtkpkfgcbccaibaaDoor.ScanAll
open Go Go.RowKit Go.Proofs.YtkpkfgcbccaibaaDoor Go.Proofs.YtkpkfgcbccaibaaDoor.Sc

set_option maxRecDepth 100000 in
set_option maxHeartbeats 32000000 in
theorem walk (v0 : Value) (l0 : List Pl) (a1 : Int) (a2 : Int) (w : World) (w0 : Pls w w.heap.size v0 l0) (w1 : (Lit.int .u16 a1).wf = true) (w2 : (Lit.int .u32 a2).wf = true) (ht : RTab w) :
    Calls Tryd.prog 4 #[v0, .int .u16 a1, .int .u32 a2] w fun e w' => e = .returned (.bool true) ∧ Below w.heap.size w w' := by
  obtain ⟨ct, rfl, hct⟩ : ∃ n : Nat, a1 = (n : Int) ∧ n ≤ 65535 := ⟨a1.toNat, by simp only [Lit.wf, Bool.and_eq_true, decide_eq_true_eq] at w1; have h1 : IntKind.u16.min = 0 := rfl; have h2 : IntKind.u16.max = 65535 := rfl; omega⟩
  obtain ⟨ot, rfl, hot⟩ : ∃ n : Nat, a2 = (n : Int) ∧ n ≤ 4294967295 := ⟨a2.toNat, by simp only [Lit.wf, Bool.and_eq_true, decide_eq_true_eq] at w2; have h1 : IntKind.u32.min = 0 := rfl; have h2 : IntKind.u32.max = 4294967295 := rfl; omega⟩
  clear w1 w2
  have hab : ∀ a ∈ l0.take 20, a.above < 256 := by
    obtain ⟨A, c, _, _, _, hpl⟩ := w0
    intro a ha
    obtain ⟨i, hi⟩ := List.getElem?_of_mem (List.mem_of_mem_take ha)
    obtain ⟨_, _, _, _, _, _, _, h, _⟩ := hpl i a hi
    omega
  have hl20 : (l0.take 20).length ≤ 20 := by rw [List.length_take]; omega
  obtain ⟨rs, hrs⟩ : ∃ rs, recsP 0 0 (l0.take 20) = rs := ⟨_, rfl⟩
  have hup : Up 0 rs := by rw [← hrs]; exact recsP_up _ 0 0 0 hab (Int.le_refl _) (by omega)
  have hrl : rs.length = (l0.take 20).length := by rw [← hrs, recsP_len]
  have hrn : (runsL rs).length ≤ 5800 := by have := runsP_len (l0.take 20) 0 0; rw [hrs] at this; omega
  have hid7 : Hd.mayB ((1 : Nat) : Int) 7 = true := by decide
  have HLY := Lib.hid (slays w0)
  rw [hrs] at HLY
  have HT := Lib.hid ht
  have HRS := Lib.hid hrs
  have HUP := Lib.hid hup
  have HRN := Lib.hid hrn
  have HID := Lib.hid hid7
  obtain ⟨m, hm⟩ : ∃ m, m = (l0.take 20).length := ⟨_, rfl⟩
  rw [← hm] at HLY hrl hl20
  have HAB := Lib.hid hab
  have hm20 : m ≤ 20 := hl20
  have HM := Lib.hid hrl
  obtain ⟨n, hn⟩ : ∃ n, n = (layB 7 rs).length := ⟨_, rfl⟩
  have hn16 : n = 16 + (runsL rs).length := by rw [hn, layB_length]
  have hn6 : 16 ≤ n ∧ n ≤ 6000 := by omega
  have HN := Lib.hid (And.intro hn hn16)
  clear hab hrs hup hrn hid7 hm hrl hl20 hn hn16 ht w0
  go_enter Tryd.func4, Tryd.ntmps4
  go_wp2_with fail
  refine HLY.out.mono ?_
  rintro e w2 ⟨vb, va, n', rfl, hob, hn', hoa, hbw⟩
  rw [← HN.out.1] at hn'
  subst hn'
  obtain ⟨Ab, cb, rfl, hcb, hcbm, _⟩ := own_slice hob
  obtain ⟨Aa, ca, rfl, hca, _, _⟩ := own_slice hoa
  have HOB := Lib.hid hob
  have HOA := Lib.hid hoa
  have HBW := Lib.hid hbw
  clear hob hoa hbw
  obtain ⟨k, hk⟩ : ∃ k, k = ct % (n' + 1) := ⟨_, rfl⟩
  have hkn : k ≤ n' := by have := Nat.mod_lt ct (show 0 < n' + 1 by omega); omega
  have u2 : IntKind.i64.wrap ((n' : Int) + 1) = (n' : Int) + 1 := IntWalk.i64_in _ (by omega)
  have u3 : (ct : Int) % ((n' : Int) + 1) = (k : Int) := by rw [hk]; push_cast; rfl
  go_upto_region 3 with fail
  simp only [u3]
  have hof7 : of 7 (layB 7 rs) = ⟨7, places 16 rs, [], n', 0⟩ := by
    have := of_lay 7 HID.out rs [] HUP.out (by have := HRN.out; omega) (.inl rfl)
    rw [List.append_nil, if_pos rfl] at this
    rw [this, HN.out.2]
  obtain ⟨i, E, W, hi, hcut, hs2, hsh, hlo⟩ := of_cut 7 HID.out rs HUP.out (by have := HRN.out; omega) k (by have := HN.out.2; omega)
  have hil : (places 16 (rs.take i)).length = i := by rw [places_length, List.length_take]; omega
  have HA := Lib.hid (show ∀ V, Below w2.heap.size w2 V → Calls Tryd.prog 7 #[.int .u32 7, .slice Ab n' cb] V fun e w' => ∃ rv, e = .returned rv ∧ ScanV 52 w' V.heap.size rv ⟨7, places 16 rs, [], n', 0⟩ ∧ Below V.heap.size V w' from fun V hV => by
    rw [← hof7]
    exact sof (.slice Ab n' cb) (layB 7 rs) 7 V ⟨_, _, by rw [← HN.out.1], by rw [← HN.out.1]; exact hcb, Rd.of_own (own_below HOB.out hV (Nat.le_refl _))⟩ (by rw [← HN.out.1]; omega) (by decide) (HT.out.on (HBW.out.trans (hV.mono HBW.out.size))))
  have HB := Lib.hid (show ∀ V, Below w2.heap.size w2 V → Calls Tryd.prog 7 #[.int .u32 7, .slice Ab k cb] V fun e w' => ∃ rv, e = .returned rv ∧ ScanV 52 w' V.heap.size rv ⟨7, places 16 (rs.take i), [], E, W⟩ ∧ Below V.heap.size V w' from fun V hV => by
    rw [← hs2]
    have hl : ((layB 7 rs).take k).length = k := by rw [List.length_take, ← HN.out.1]; omega
    exact sof (.slice Ab k cb) ((layB 7 rs).take k) 7 V ⟨_, _, by rw [hl], by rw [hl]; omega, by rw [bvs_take]; exact (Rd.of_own (own_below HOB.out hV (Nat.le_refl _))).take k⟩ (by rw [hl]; omega) (by decide) (HT.out.on (HBW.out.trans (hV.mono HBW.out.size))))
  have HI := Lib.hid (And.intro hi (And.intro hcut (And.intro hsh (And.intro hlo hil))))
  have hi20 : i ≤ 20 := by have := HM.out; omega
  have hkc : k ≤ cb := by omega
  clear hs2 hi hcut hsh hlo hil hk
  go_cut [10, 11] from 30 to 35 (fun s10 s11 wx => ∃ g1 g2 : Nat, s10 = .pointer (some ⟨g1, 0, none⟩) ∧ s11 = .pointer (some ⟨g2, 0, none⟩) ∧ g1 ≠ g2 ∧ AtScan wx w2.heap.size g1 ⟨7, places 16 rs, [], n', 0⟩ ∧ AtScan wx w2.heap.size g2 ⟨7, places 16 (rs.take i), [], E, W⟩ ∧ Below w2.heap.size w2 wx)
  case first =>
    as_aux_lemma =>
      refine wp_region_noPanic ?_
      refine wp_region_held_drew (S := fun _ => True) (by kernel_rfl) trivial (fun hHeld => ?_)
      have hb0 : Below w2.heap.size w2 w2.drew := (Below.refl _ _).drew
      generalize World.drew w2 = V0 at *
      refine wpAnyH_take (i := 0) (v := ?_) opAt_0 (by kernel_rfl) (by kernel_rfl) (by kernel_rfl) (fun _ _ _ h => h) (Or.inl ⟨by rfl, ?_⟩) (by assumption) ?_
      rotate_left
      · (intro w hSw; go_simp; try with_reducible rfl)
      try simp only [Act.put, List.setIfInBounds_toArray, List.set_cons_zero, List.set_cons_succ]
      refine wpAnyH_take (i := 2) (v := ?_) opAt_2 (by kernel_rfl) (by kernel_rfl) (by kernel_rfl) (fun _ _ _ h => h) (Or.inl ⟨by rfl, ?_⟩) (by assumption) ?_
      rotate_left
      · (intro w hSw; go_simp; try with_reducible rfl)
      try simp only [Act.put, List.setIfInBounds_toArray, List.set_cons_zero, List.set_cons_succ]
      refine wpAnyH_take (i := 3) (v := ?_) opAt_3 (by kernel_rfl) (by kernel_rfl) (by kernel_rfl) (fun _ _ _ h => h) (Or.inl ⟨by rfl, ?_⟩) (by assumption) ?_
      rotate_left
      · (intro w hSw; go_simp; try with_reducible rfl)
      try simp only [Act.put, List.setIfInBounds_toArray, List.set_cons_zero, List.set_cons_succ]
      refine wpAnyH_take (i := 4) (v := ?_) opAt_4 (by kernel_rfl) (by kernel_rfl) (by kernel_rfl) (fun _ _ _ h => h) (Or.inl ⟨by rfl, ?_⟩) (by assumption) ?_
      rotate_left
      · (intro w hSw; go_simp; try with_reducible rfl)
      try simp only [Act.put, List.setIfInBounds_toArray, List.set_cons_zero, List.set_cons_succ]
      refine wpAnyH_ready (rs := [1, 6, 7]) (by kernel_rfl) (by simp) ?_
      refine AllReadyH.cons rfl (fun K hK => ?_) (AllReadyH.cons rfl (fun K hK => ?_) (AllReadyH.cons rfl (fun K hK => ?_) AllReadyH.nil))
      · go_simp
        refine (HA.out V0 hb0).mono ?_
        rintro e V1 ⟨rv1, rfl, hs, nb⟩
        have H1 := Lib.hid (show TellS V1 w2.heap.size rv1 _ from ⟨_, hb0.size, hs⟩)
        clear hs
        go_wp2_with fail
        have hb1 : Below w2.heap.size w2 V1 := hb0.trans (nb.mono hb0.size)
        clear nb
        refine hK.out _ _ trivial (fun hHeld => ?_)
        clear hK K
        try simp only [Act.put, List.setIfInBounds_toArray, List.set_cons_zero, List.set_cons_succ]
        refine wpAnyH_ready (rs := [5, 6, 7]) (by kernel_rfl) (by simp) ?_
        refine AllReadyH.cons rfl (fun K hK => ?_) (AllReadyH.cons rfl (fun K hK => ?_) (AllReadyH.cons rfl (fun K hK => ?_) AllReadyH.nil))
        · go_simp
          refine (HB.out V1 hb1).mono ?_
          rintro e V2 ⟨rv2, rfl, hs, nb⟩
          have H2 := Lib.hid (show TellS V2 w2.heap.size rv2 _ from ⟨_, hb1.size, hs⟩)
          clear hs
          go_wp2_with fail
          have hb2 : Below w2.heap.size w2 V2 := hb1.trans (nb.mono hb1.size)
          have H1 := Lib.hid (H1.out.on nb)
          clear nb
          refine hK.out _ _ trivial (fun hHeld => ?_)
          clear hK K
          try simp only [Act.put, List.setIfInBounds_toArray, List.set_cons_zero, List.set_cons_succ]
          refine wpAnyH_ready (rs := [6, 7]) (by kernel_rfl) (by simp) ?_
          refine AllReadyH.cons rfl (fun K hK => ?_) (AllReadyH.cons rfl (fun K hK => ?_) AllReadyH.nil)
          · go_simp
            obtain ⟨g1, hg1⟩ : ∃ g, V2.heap.size = g := ⟨_, rfl⟩
            try rw [hg1]
            have n0 : (V2.alloc (.cells #[.int .u32 0, .slice none 0 0, .slice none 0 0, .int .i64 0, .int .i64 0] 31)).heap[V2.heap.size]? = some (.cells #[.int .u32 0, .slice none 0 0, .slice none 0 0, .int .i64 0, .int .i64 0] 31 (0, 0)) := heap_alloc_new V2 _
            rw [hg1] at n0
            have nb : Below V2.heap.size V2 (V2.alloc (.cells #[.int .u32 0, .slice none 0 0, .slice none 0 0, .int .i64 0, .int .i64 0] 31)) := (Below.refl _ _).alloc (Nat.le_refl _) _
            have lg1 : w2.heap.size ≤ g1 := by have := hb2.size; omega
            generalize V2.alloc (.cells #[.int .u32 0, .slice none 0 0, .slice none 0 0, .int .i64 0, .int .i64 0] 31) = V3 at *
            clear hg1
            have Hg1 : Hid (V3.heap[g1]? = some (.cells #[.int .u32 0, .slice none 0 0, .slice none 0 0, .int .i64 0, .int .i64 0] 31 (0, 0))) := Lib.hid n0
            have hb3 : Below w2.heap.size w2 V3 := hb2.trans (nb.mono hb2.size)
            have H1 := Lib.hid (H1.out.on nb)
            have H2 := Lib.hid (H2.out.on nb)
            clear nb
            refine hK.out _ _ trivial (fun hHeld => ?_)
            clear hK K
            try simp only [Act.put, List.setIfInBounds_toArray, List.set_cons_zero, List.set_cons_succ]
            refine wpAnyH_ready (rs := [7]) (by kernel_rfl) (by simp) ?_
            refine AllReadyH.cons rfl (fun K hK => ?_) AllReadyH.nil
            go_simp
            obtain ⟨g2, hg2⟩ : ∃ g, V3.heap.size = g := ⟨_, rfl⟩
            try rw [hg2]
            have n0 : (V3.alloc (.cells #[.int .u32 0, .slice none 0 0, .slice none 0 0, .int .i64 0, .int .i64 0] 31)).heap[V3.heap.size]? = some (.cells #[.int .u32 0, .slice none 0 0, .slice none 0 0, .int .i64 0, .int .i64 0] 31 (0, 0)) := heap_alloc_new V3 _
            rw [hg2] at n0
            have nb : Below V3.heap.size V3 (V3.alloc (.cells #[.int .u32 0, .slice none 0 0, .slice none 0 0, .int .i64 0, .int .i64 0] 31)) := (Below.refl _ _).alloc (Nat.le_refl _) _
            have lg2 : w2.heap.size ≤ g2 := by have := hb3.size; omega
            have hne : g2 ≠ g1 := by have := (Array.getElem?_eq_some_iff.1 Hg1.out).1; omega
            generalize V3.alloc (.cells #[.int .u32 0, .slice none 0 0, .slice none 0 0, .int .i64 0, .int .i64 0] 31) = V4 at *
            clear hg2
            have Hg2 : Hid (V4.heap[g2]? = some (.cells #[.int .u32 0, .slice none 0 0, .slice none 0 0, .int .i64 0, .int .i64 0] 31 (0, 0))) := Lib.hid n0
            have hb4 : Below w2.heap.size w2 V4 := hb3.trans (nb.mono hb3.size)
            have Hg1 := Lib.hid ((nb.block g1 (Array.getElem?_eq_some_iff.1 Hg1.out).1).trans Hg1.out)
            have H1 := Lib.hid (H1.out.on nb)
            have H2 := Lib.hid (H2.out.on nb)
            clear nb
            refine hK.out _ _ trivial (fun hHeld => ?_)
            clear hK K
            try simp only [Act.put, List.setIfInBounds_toArray, List.set_cons_zero, List.set_cons_succ]
            obtain ⟨Af1, cf1, Ap1, cp1, rfl⟩ := H1.out.lit 7 n' 0 m 0 rfl (by rw [places_length, HM.out]) rfl rfl rfl
            obtain ⟨Af2, cf2, Ap2, cp2, rfl⟩ := H2.out.lit 7 E W i 0 rfl HI.out.2.2.2.2 rfl rfl rfl
            have HF := Lib.hid (two_stored Hg1.out Hg2.out (by omega) (by omega) (by omega) H1.out H2.out)
            obtain ⟨VX, hVX⟩ : ∃ X, set5 V4 g1 (.int .u32 7) (.slice Af1 m cf1) (.slice Ap1 0 cp1) (.int .i64 n') (.int .i64 0) = X := ⟨_, rfl⟩
            have hz2 : VX.heap[g2]? = some (.cells #[.int .u32 0, .slice none 0 0, .slice none 0 0, .int .i64 0, .int .i64 0] 31 (0, 0)) := by rw [← hVX]; exact ((set5_chg V4 g1 _ _ _ _ _).block g2 (Array.getElem?_eq_some_iff.1 Hg2.out).1 (by omega)).trans Hg2.out
            refine wpAnyH_ready (rs := [8]) (by kernel_rfl) (by simp) ?_
            refine AllReadyH.cons rfl (fun K hK => ?_) AllReadyH.nil
            obtain ⟨f0, f1, f2, f3, f4⟩ := rw5f Hg1.out
            obtain ⟨x0, x1, x2, x3, x4⟩ := rw5 Hg1.out
            go_simp
            change K _ (set5 V4 g1 _ _ _ _ _)
            rw [hVX]
            rw [hVX] at HF
            refine hK.out _ _ trivial (fun hHeld => ?_)
            clear hK K x0 x1 x2 x3 x4 f0 f1 f2 f3 f4 hVX
            try simp only [Act.put, List.setIfInBounds_toArray, List.set_cons_zero, List.set_cons_succ]
            refine wpAnyH_ready (rs := [9]) (by kernel_rfl) (by simp) ?_
            refine AllReadyH.cons rfl (fun K hK => ?_) AllReadyH.nil
            obtain ⟨f0, f1, f2, f3, f4⟩ := rw5f hz2
            obtain ⟨x0, x1, x2, x3, x4⟩ := rw5 hz2
            go_simp
            change K _ (set5 VX g2 _ _ _ _ _)
            refine hK.out _ _ trivial (fun hHeld => ?_)
            clear hK K x0 x1 x2 x3 x4 f0 f1 f2 f3 f4
            try simp only [Act.put, List.setIfInBounds_toArray, List.set_cons_zero, List.set_cons_succ]
            refine wpAnyH_done (by kernel_rfl) ?_ _
            refine NoPanic.normal ?_
            go_wp2_with fail
            go_meet
            case rel => exact ⟨g1, g2, rfl, rfl, by omega, HF.out.1, HF.out.2.1, HF.out.2.2 _ hb4 hb4.size⟩
          · go_simp
            obtain ⟨g2, hg2⟩ : ∃ g, V2.heap.size = g := ⟨_, rfl⟩
            try rw [hg2]
            have n0 : (V2.alloc (.cells #[.int .u32 0, .slice none 0 0, .slice none 0 0, .int .i64 0, .int .i64 0] 31)).heap[V2.heap.size]? = some (.cells #[.int .u32 0, .slice none 0 0, .slice none 0 0, .int .i64 0, .int .i64 0] 31 (0, 0)) := heap_alloc_new V2 _
            rw [hg2] at n0
            have nb : Below V2.heap.size V2 (V2.alloc (.cells #[.int .u32 0, .slice none 0 0, .slice none 0 0, .int .i64 0, .int .i64 0] 31)) := (Below.refl _ _).alloc (Nat.le_refl _) _
            have lg2 : w2.heap.size ≤ g2 := by have := hb2.size; omega
            generalize V2.alloc (.cells #[.int .u32 0, .slice none 0 0, .slice none 0 0, .int .i64 0, .int .i64 0] 31) = V3 at *
            clear hg2
            have Hg2 : Hid (V3.heap[g2]? = some (.cells #[.int .u32 0, .slice none 0 0, .slice none 0 0, .int .i64 0, .int .i64 0] 31 (0, 0))) := Lib.hid n0
            have hb3 : Below w2.heap.size w2 V3 := hb2.trans (nb.mono hb2.size)
            have H1 := Lib.hid (H1.out.on nb)
            have H2 := Lib.hid (H2.out.on nb)
            clear nb
            refine hK.out _ _ trivial (fun hHeld => ?_)
            clear hK K
            try simp only [Act.put, List.setIfInBounds_toArray, List.set_cons_zero, List.set_cons_succ]
            refine wpAnyH_ready (rs := [6]) (by kernel_rfl) (by simp) ?_
            refine AllReadyH.cons rfl (fun K hK => ?_) AllReadyH.nil
            go_simp
            obtain ⟨g1, hg1⟩ : ∃ g, V3.heap.size = g := ⟨_, rfl⟩
            try rw [hg1]
            have n0 : (V3.alloc (.cells #[.int .u32 0, .slice none 0 0, .slice none 0 0, .int .i64 0, .int .i64 0] 31)).heap[V3.heap.size]? = some (.cells #[.int .u32 0, .slice none 0 0, .slice none 0 0, .int .i64 0, .int .i64 0] 31 (0, 0)) := heap_alloc_new V3 _
            rw [hg1] at n0
            have nb : Below V3.heap.size V3 (V3.alloc (.cells #[.int .u32 0, .slice none 0 0, .slice none 0 0, .int .i64 0, .int .i64 0] 31)) := (Below.refl _ _).alloc (Nat.le_refl _) _
            have lg1 : w2.heap.size ≤ g1 := by have := hb3.size; omega
            have hne : g1 ≠ g2 := by have := (Array.getElem?_eq_some_iff.1 Hg2.out).1; omega
            generalize V3.alloc (.cells #[.int .u32 0, .slice none 0 0, .slice none 0 0, .int .i64 0, .int .i64 0] 31) = V4 at *
            clear hg1
            have Hg1 : Hid (V4.heap[g1]? = some (.cells #[.int .u32 0, .slice none 0 0, .slice none 0 0, .int .i64 0, .int .i64 0] 31 (0, 0))) := Lib.hid n0
            have hb4 : Below w2.heap.size w2 V4 := hb3.trans (nb.mono hb3.size)
            have Hg2 := Lib.hid ((nb.block g2 (Array.getElem?_eq_some_iff.1 Hg2.out).1).trans Hg2.out)
            have H1 := Lib.hid (H1.out.on nb)
            have H2 := Lib.hid (H2.out.on nb)
            clear nb
            refine hK.out _ _ trivial (fun hHeld => ?_)
            clear hK K
            try simp only [Act.put, List.setIfInBounds_toArray, List.set_cons_zero, List.set_cons_succ]
            obtain ⟨Af1, cf1, Ap1, cp1, rfl⟩ := H1.out.lit 7 n' 0 m 0 rfl (by rw [places_length, HM.out]) rfl rfl rfl
            obtain ⟨Af2, cf2, Ap2, cp2, rfl⟩ := H2.out.lit 7 E W i 0 rfl HI.out.2.2.2.2 rfl rfl rfl
            have HF := Lib.hid (two_stored Hg1.out Hg2.out (by omega) (by omega) (by omega) H1.out H2.out)
            obtain ⟨VX, hVX⟩ : ∃ X, set5 V4 g1 (.int .u32 7) (.slice Af1 m cf1) (.slice Ap1 0 cp1) (.int .i64 n') (.int .i64 0) = X := ⟨_, rfl⟩
            have hz2 : VX.heap[g2]? = some (.cells #[.int .u32 0, .slice none 0 0, .slice none 0 0, .int .i64 0, .int .i64 0] 31 (0, 0)) := by rw [← hVX]; exact ((set5_chg V4 g1 _ _ _ _ _).block g2 (Array.getElem?_eq_some_iff.1 Hg2.out).1 (by omega)).trans Hg2.out
            refine wpAnyH_ready (rs := [8]) (by kernel_rfl) (by simp) ?_
            refine AllReadyH.cons rfl (fun K hK => ?_) AllReadyH.nil
            obtain ⟨f0, f1, f2, f3, f4⟩ := rw5f Hg1.out
            obtain ⟨x0, x1, x2, x3, x4⟩ := rw5 Hg1.out
            go_simp
            change K _ (set5 V4 g1 _ _ _ _ _)
            rw [hVX]
            rw [hVX] at HF
            refine hK.out _ _ trivial (fun hHeld => ?_)
            clear hK K x0 x1 x2 x3 x4 f0 f1 f2 f3 f4 hVX
            try simp only [Act.put, List.setIfInBounds_toArray, List.set_cons_zero, List.set_cons_succ]
            refine wpAnyH_ready (rs := [9]) (by kernel_rfl) (by simp) ?_
            refine AllReadyH.cons rfl (fun K hK => ?_) AllReadyH.nil
            obtain ⟨f0, f1, f2, f3, f4⟩ := rw5f hz2
            obtain ⟨x0, x1, x2, x3, x4⟩ := rw5 hz2
            go_simp
            change K _ (set5 VX g2 _ _ _ _ _)
            refine hK.out _ _ trivial (fun hHeld => ?_)
            clear hK K x0 x1 x2 x3 x4 f0 f1 f2 f3 f4
            try simp only [Act.put, List.setIfInBounds_toArray, List.set_cons_zero, List.set_cons_succ]
            refine wpAnyH_done (by kernel_rfl) ?_ _
            refine NoPanic.normal ?_
            go_wp2_with fail
            go_meet
            case rel => exact ⟨g1, g2, rfl, rfl, by omega, HF.out.1, HF.out.2.1, HF.out.2.2 _ hb4 hb4.size⟩
        · go_simp
          obtain ⟨g1, hg1⟩ : ∃ g, V1.heap.size = g := ⟨_, rfl⟩
          try rw [hg1]
          have n0 : (V1.alloc (.cells #[.int .u32 0, .slice none 0 0, .slice none 0 0, .int .i64 0, .int .i64 0] 31)).heap[V1.heap.size]? = some (.cells #[.int .u32 0, .slice none 0 0, .slice none 0 0, .int .i64 0, .int .i64 0] 31 (0, 0)) := heap_alloc_new V1 _
          rw [hg1] at n0
          have nb : Below V1.heap.size V1 (V1.alloc (.cells #[.int .u32 0, .slice none 0 0, .slice none 0 0, .int .i64 0, .int .i64 0] 31)) := (Below.refl _ _).alloc (Nat.le_refl _) _
          have lg1 : w2.heap.size ≤ g1 := by have := hb1.size; omega
          generalize V1.alloc (.cells #[.int .u32 0, .slice none 0 0, .slice none 0 0, .int .i64 0, .int .i64 0] 31) = V2 at *
          clear hg1
          have Hg1 : Hid (V2.heap[g1]? = some (.cells #[.int .u32 0, .slice none 0 0, .slice none 0 0, .int .i64 0, .int .i64 0] 31 (0, 0))) := Lib.hid n0
          have hb2 : Below w2.heap.size w2 V2 := hb1.trans (nb.mono hb1.size)
          have H1 := Lib.hid (H1.out.on nb)
          clear nb
          refine hK.out _ _ trivial (fun hHeld => ?_)
          clear hK K
          try simp only [Act.put, List.setIfInBounds_toArray, List.set_cons_zero, List.set_cons_succ]
          refine wpAnyH_ready (rs := [5, 7]) (by kernel_rfl) (by simp) ?_
          refine AllReadyH.cons rfl (fun K hK => ?_) (AllReadyH.cons rfl (fun K hK => ?_) AllReadyH.nil)
          · go_simp
            refine (HB.out V2 hb2).mono ?_
            rintro e V3 ⟨rv2, rfl, hs, nb⟩
            have H2 := Lib.hid (show TellS V3 w2.heap.size rv2 _ from ⟨_, hb2.size, hs⟩)
            clear hs
            go_wp2_with fail
            have hb3 : Below w2.heap.size w2 V3 := hb2.trans (nb.mono hb2.size)
            have Hg1 := Lib.hid ((nb.block g1 (Array.getElem?_eq_some_iff.1 Hg1.out).1).trans Hg1.out)
            have H1 := Lib.hid (H1.out.on nb)
            clear nb
            refine hK.out _ _ trivial (fun hHeld => ?_)
            clear hK K
            try simp only [Act.put, List.setIfInBounds_toArray, List.set_cons_zero, List.set_cons_succ]
            refine wpAnyH_ready (rs := [7]) (by kernel_rfl) (by simp) ?_
            refine AllReadyH.cons rfl (fun K hK => ?_) AllReadyH.nil
            go_simp
            obtain ⟨g2, hg2⟩ : ∃ g, V3.heap.size = g := ⟨_, rfl⟩
            try rw [hg2]
            have n0 : (V3.alloc (.cells #[.int .u32 0, .slice none 0 0, .slice none 0 0, .int .i64 0, .int .i64 0] 31)).heap[V3.heap.size]? = some (.cells #[.int .u32 0, .slice none 0 0, .slice none 0 0, .int .i64 0, .int .i64 0] 31 (0, 0)) := heap_alloc_new V3 _
            rw [hg2] at n0
            have nb : Below V3.heap.size V3 (V3.alloc (.cells #[.int .u32 0, .slice none 0 0, .slice none 0 0, .int .i64 0, .int .i64 0] 31)) := (Below.refl _ _).alloc (Nat.le_refl _) _
            have lg2 : w2.heap.size ≤ g2 := by have := hb3.size; omega
            have hne : g2 ≠ g1 := by have := (Array.getElem?_eq_some_iff.1 Hg1.out).1; omega
            generalize V3.alloc (.cells #[.int .u32 0, .slice none 0 0, .slice none 0 0, .int .i64 0, .int .i64 0] 31) = V4 at *
            clear hg2
            have Hg2 : Hid (V4.heap[g2]? = some (.cells #[.int .u32 0, .slice none 0 0, .slice none 0 0, .int .i64 0, .int .i64 0] 31 (0, 0))) := Lib.hid n0
            have hb4 : Below w2.heap.size w2 V4 := hb3.trans (nb.mono hb3.size)
            have Hg1 := Lib.hid ((nb.block g1 (Array.getElem?_eq_some_iff.1 Hg1.out).1).trans Hg1.out)
            have H1 := Lib.hid (H1.out.on nb)
            have H2 := Lib.hid (H2.out.on nb)
            clear nb
            refine hK.out _ _ trivial (fun hHeld => ?_)
            clear hK K
            try simp only [Act.put, List.setIfInBounds_toArray, List.set_cons_zero, List.set_cons_succ]
            obtain ⟨Af1, cf1, Ap1, cp1, rfl⟩ := H1.out.lit 7 n' 0 m 0 rfl (by rw [places_length, HM.out]) rfl rfl rfl
            obtain ⟨Af2, cf2, Ap2, cp2, rfl⟩ := H2.out.lit 7 E W i 0 rfl HI.out.2.2.2.2 rfl rfl rfl
            have HF := Lib.hid (two_stored Hg1.out Hg2.out (by omega) (by omega) (by omega) H1.out H2.out)
            obtain ⟨VX, hVX⟩ : ∃ X, set5 V4 g1 (.int .u32 7) (.slice Af1 m cf1) (.slice Ap1 0 cp1) (.int .i64 n') (.int .i64 0) = X := ⟨_, rfl⟩
            have hz2 : VX.heap[g2]? = some (.cells #[.int .u32 0, .slice none 0 0, .slice none 0 0, .int .i64 0, .int .i64 0] 31 (0, 0)) := by rw [← hVX]; exact ((set5_chg V4 g1 _ _ _ _ _).block g2 (Array.getElem?_eq_some_iff.1 Hg2.out).1 (by omega)).trans Hg2.out
            refine wpAnyH_ready (rs := [8]) (by kernel_rfl) (by simp) ?_
            refine AllReadyH.cons rfl (fun K hK => ?_) AllReadyH.nil
            obtain ⟨f0, f1, f2, f3, f4⟩ := rw5f Hg1.out
            obtain ⟨x0, x1, x2, x3, x4⟩ := rw5 Hg1.out
            go_simp
            change K _ (set5 V4 g1 _ _ _ _ _)
            rw [hVX]
            rw [hVX] at HF
            refine hK.out _ _ trivial (fun hHeld => ?_)
            clear hK K x0 x1 x2 x3 x4 f0 f1 f2 f3 f4 hVX
            try simp only [Act.put, List.setIfInBounds_toArray, List.set_cons_zero, List.set_cons_succ]
            refine wpAnyH_ready (rs := [9]) (by kernel_rfl) (by simp) ?_
            refine AllReadyH.cons rfl (fun K hK => ?_) AllReadyH.nil
            obtain ⟨f0, f1, f2, f3, f4⟩ := rw5f hz2
            obtain ⟨x0, x1, x2, x3, x4⟩ := rw5 hz2
            go_simp
            change K _ (set5 VX g2 _ _ _ _ _)
            refine hK.out _ _ trivial (fun hHeld => ?_)
            clear hK K x0 x1 x2 x3 x4 f0 f1 f2 f3 f4
            try simp only [Act.put, List.setIfInBounds_toArray, List.set_cons_zero, List.set_cons_succ]
            refine wpAnyH_done (by kernel_rfl) ?_ _
            refine NoPanic.normal ?_
            go_wp2_with fail
            go_meet
            case rel => exact ⟨g1, g2, rfl, rfl, by omega, HF.out.1, HF.out.2.1, HF.out.2.2 _ hb4 hb4.size⟩
          · go_simp
            obtain ⟨g2, hg2⟩ : ∃ g, V2.heap.size = g := ⟨_, rfl⟩
            try rw [hg2]
            have n0 : (V2.alloc (.cells #[.int .u32 0, .slice none 0 0, .slice none 0 0, .int .i64 0, .int .i64 0] 31)).heap[V2.heap.size]? = some (.cells #[.int .u32 0, .slice none 0 0, .slice none 0 0, .int .i64 0, .int .i64 0] 31 (0, 0)) := heap_alloc_new V2 _
            rw [hg2] at n0
            have nb : Below V2.heap.size V2 (V2.alloc (.cells #[.int .u32 0, .slice none 0 0, .slice none 0 0, .int .i64 0, .int .i64 0] 31)) := (Below.refl _ _).alloc (Nat.le_refl _) _
            have lg2 : w2.heap.size ≤ g2 := by have := hb2.size; omega
            have hne : g2 ≠ g1 := by have := (Array.getElem?_eq_some_iff.1 Hg1.out).1; omega
            generalize V2.alloc (.cells #[.int .u32 0, .slice none 0 0, .slice none 0 0, .int .i64 0, .int .i64 0] 31) = V3 at *
            clear hg2
            have Hg2 : Hid (V3.heap[g2]? = some (.cells #[.int .u32 0, .slice none 0 0, .slice none 0 0, .int .i64 0, .int .i64 0] 31 (0, 0))) := Lib.hid n0
            have hb3 : Below w2.heap.size w2 V3 := hb2.trans (nb.mono hb2.size)
            have Hg1 := Lib.hid ((nb.block g1 (Array.getElem?_eq_some_iff.1 Hg1.out).1).trans Hg1.out)
            have H1 := Lib.hid (H1.out.on nb)
            clear nb
            refine hK.out _ _ trivial (fun hHeld => ?_)
            clear hK K
            try simp only [Act.put, List.setIfInBounds_toArray, List.set_cons_zero, List.set_cons_succ]
            refine wpAnyH_ready (rs := [5]) (by kernel_rfl) (by simp) ?_
            refine AllReadyH.cons rfl (fun K hK => ?_) AllReadyH.nil
            go_simp
            refine (HB.out V3 hb3).mono ?_
            rintro e V4 ⟨rv2, rfl, hs, nb⟩
            have H2 := Lib.hid (show TellS V4 w2.heap.size rv2 _ from ⟨_, hb3.size, hs⟩)
            clear hs
            go_wp2_with fail
            have hb4 : Below w2.heap.size w2 V4 := hb3.trans (nb.mono hb3.size)
            have Hg1 := Lib.hid ((nb.block g1 (Array.getElem?_eq_some_iff.1 Hg1.out).1).trans Hg1.out)
            have Hg2 := Lib.hid ((nb.block g2 (Array.getElem?_eq_some_iff.1 Hg2.out).1).trans Hg2.out)
            have H1 := Lib.hid (H1.out.on nb)
            clear nb
            refine hK.out _ _ trivial (fun hHeld => ?_)
            clear hK K
            try simp only [Act.put, List.setIfInBounds_toArray, List.set_cons_zero, List.set_cons_succ]
            obtain ⟨Af1, cf1, Ap1, cp1, rfl⟩ := H1.out.lit 7 n' 0 m 0 rfl (by rw [places_length, HM.out]) rfl rfl rfl
            obtain ⟨Af2, cf2, Ap2, cp2, rfl⟩ := H2.out.lit 7 E W i 0 rfl HI.out.2.2.2.2 rfl rfl rfl
            have HF := Lib.hid (two_stored Hg1.out Hg2.out (by omega) (by omega) (by omega) H1.out H2.out)
            obtain ⟨VX, hVX⟩ : ∃ X, set5 V4 g1 (.int .u32 7) (.slice Af1 m cf1) (.slice Ap1 0 cp1) (.int .i64 n') (.int .i64 0) = X := ⟨_, rfl⟩
            have hz2 : VX.heap[g2]? = some (.cells #[.int .u32 0, .slice none 0 0, .slice none 0 0, .int .i64 0, .int .i64 0] 31 (0, 0)) := by rw [← hVX]; exact ((set5_chg V4 g1 _ _ _ _ _).block g2 (Array.getElem?_eq_some_iff.1 Hg2.out).1 (by omega)).trans Hg2.out
            refine wpAnyH_ready (rs := [8]) (by kernel_rfl) (by simp) ?_
            refine AllReadyH.cons rfl (fun K hK => ?_) AllReadyH.nil
            obtain ⟨f0, f1, f2, f3, f4⟩ := rw5f Hg1.out
            obtain ⟨x0, x1, x2, x3, x4⟩ := rw5 Hg1.out
            go_simp
            change K _ (set5 V4 g1 _ _ _ _ _)
            rw [hVX]
            rw [hVX] at HF
            refine hK.out _ _ trivial (fun hHeld => ?_)
            clear hK K x0 x1 x2 x3 x4 f0 f1 f2 f3 f4 hVX
            try simp only [Act.put, List.setIfInBounds_toArray, List.set_cons_zero, List.set_cons_succ]
            refine wpAnyH_ready (rs := [9]) (by kernel_rfl) (by simp) ?_
            refine AllReadyH.cons rfl (fun K hK => ?_) AllReadyH.nil
            obtain ⟨f0, f1, f2, f3, f4⟩ := rw5f hz2
            obtain ⟨x0, x1, x2, x3, x4⟩ := rw5 hz2
            go_simp
            change K _ (set5 VX g2 _ _ _ _ _)
            refine hK.out _ _ trivial (fun hHeld => ?_)
            clear hK K x0 x1 x2 x3 x4 f0 f1 f2 f3 f4
            try simp only [Act.put, List.setIfInBounds_toArray, List.set_cons_zero, List.set_cons_succ]
            refine wpAnyH_done (by kernel_rfl) ?_ _
            refine NoPanic.normal ?_
            go_wp2_with fail
            go_meet
            case rel => exact ⟨g1, g2, rfl, rfl, by omega, HF.out.1, HF.out.2.1, HF.out.2.2 _ hb4 hb4.size⟩
        · go_simp
          obtain ⟨g2, hg2⟩ : ∃ g, V1.heap.size = g := ⟨_, rfl⟩
          try rw [hg2]
          have n0 : (V1.alloc (.cells #[.int .u32 0, .slice none 0 0, .slice none 0 0, .int .i64 0, .int .i64 0] 31)).heap[V1.heap.size]? = some (.cells #[.int .u32 0, .slice none 0 0, .slice none 0 0, .int .i64 0, .int .i64 0] 31 (0, 0)) := heap_alloc_new V1 _
          rw [hg2] at n0
          have nb : Below V1.heap.size V1 (V1.alloc (.cells #[.int .u32 0, .slice none 0 0, .slice none 0 0, .int .i64 0, .int .i64 0] 31)) := (Below.refl _ _).alloc (Nat.le_refl _) _
          have lg2 : w2.heap.size ≤ g2 := by have := hb1.size; omega
          generalize V1.alloc (.cells #[.int .u32 0, .slice none 0 0, .slice none 0 0, .int .i64 0, .int .i64 0] 31) = V2 at *
          clear hg2
          have Hg2 : Hid (V2.heap[g2]? = some (.cells #[.int .u32 0, .slice none 0 0, .slice none 0 0, .int .i64 0, .int .i64 0] 31 (0, 0))) := Lib.hid n0
          have hb2 : Below w2.heap.size w2 V2 := hb1.trans (nb.mono hb1.size)
          have H1 := Lib.hid (H1.out.on nb)
          clear nb
          refine hK.out _ _ trivial (fun hHeld => ?_)
          clear hK K
          try simp only [Act.put, List.setIfInBounds_toArray, List.set_cons_zero, List.set_cons_succ]
          refine wpAnyH_ready (rs := [5, 6]) (by kernel_rfl) (by simp) ?_
          refine AllReadyH.cons rfl (fun K hK => ?_) (AllReadyH.cons rfl (fun K hK => ?_) AllReadyH.nil)
          · go_simp
            refine (HB.out V2 hb2).mono ?_
            rintro e V3 ⟨rv2, rfl, hs, nb⟩
            have H2 := Lib.hid (show TellS V3 w2.heap.size rv2 _ from ⟨_, hb2.size, hs⟩)
            clear hs
            go_wp2_with fail
            have hb3 : Below w2.heap.size w2 V3 := hb2.trans (nb.mono hb2.size)
            have Hg2 := Lib.hid ((nb.block g2 (Array.getElem?_eq_some_iff.1 Hg2.out).1).trans Hg2.out)
            have H1 := Lib.hid (H1.out.on nb)
            clear nb
            refine hK.out _ _ trivial (fun hHeld => ?_)
            clear hK K
            try simp only [Act.put, List.setIfInBounds_toArray, List.set_cons_zero, List.set_cons_succ]
            refine wpAnyH_ready (rs := [6]) (by kernel_rfl) (by simp) ?_
            refine AllReadyH.cons rfl (fun K hK => ?_) AllReadyH.nil
            go_simp
            obtain ⟨g1, hg1⟩ : ∃ g, V3.heap.size = g := ⟨_, rfl⟩
            try rw [hg1]
            have n0 : (V3.alloc (.cells #[.int .u32 0, .slice none 0 0, .slice none 0 0, .int .i64 0, .int .i64 0] 31)).heap[V3.heap.size]? = some (.cells #[.int .u32 0, .slice none 0 0, .slice none 0 0, .int .i64 0, .int .i64 0] 31 (0, 0)) := heap_alloc_new V3 _
            rw [hg1] at n0
            have nb : Below V3.heap.size V3 (V3.alloc (.cells #[.int .u32 0, .slice none 0 0, .slice none 0 0, .int .i64 0, .int .i64 0] 31)) := (Below.refl _ _).alloc (Nat.le_refl _) _
            have lg1 : w2.heap.size ≤ g1 := by have := hb3.size; omega
            have hne : g1 ≠ g2 := by have := (Array.getElem?_eq_some_iff.1 Hg2.out).1; omega
            generalize V3.alloc (.cells #[.int .u32 0, .slice none 0 0, .slice none 0 0, .int .i64 0, .int .i64 0] 31) = V4 at *
            clear hg1
            have Hg1 : Hid (V4.heap[g1]? = some (.cells #[.int .u32 0, .slice none 0 0, .slice none 0 0, .int .i64 0, .int .i64 0] 31 (0, 0))) := Lib.hid n0
            have hb4 : Below w2.heap.size w2 V4 := hb3.trans (nb.mono hb3.size)
            have Hg2 := Lib.hid ((nb.block g2 (Array.getElem?_eq_some_iff.1 Hg2.out).1).trans Hg2.out)
            have H1 := Lib.hid (H1.out.on nb)
            have H2 := Lib.hid (H2.out.on nb)
            clear nb
            refine hK.out _ _ trivial (fun hHeld => ?_)
            clear hK K
            try simp only [Act.put, List.setIfInBounds_toArray, List.set_cons_zero, List.set_cons_succ]
            obtain ⟨Af1, cf1, Ap1, cp1, rfl⟩ := H1.out.lit 7 n' 0 m 0 rfl (by rw [places_length, HM.out]) rfl rfl rfl
            obtain ⟨Af2, cf2, Ap2, cp2, rfl⟩ := H2.out.lit 7 E W i 0 rfl HI.out.2.2.2.2 rfl rfl rfl
            have HF := Lib.hid (two_stored Hg1.out Hg2.out (by omega) (by omega) (by omega) H1.out H2.out)
            obtain ⟨VX, hVX⟩ : ∃ X, set5 V4 g1 (.int .u32 7) (.slice Af1 m cf1) (.slice Ap1 0 cp1) (.int .i64 n') (.int .i64 0) = X := ⟨_, rfl⟩
            have hz2 : VX.heap[g2]? = some (.cells #[.int .u32 0, .slice none 0 0, .slice none 0 0, .int .i64 0, .int .i64 0] 31 (0, 0)) := by rw [← hVX]; exact ((set5_chg V4 g1 _ _ _ _ _).block g2 (Array.getElem?_eq_some_iff.1 Hg2.out).1 (by omega)).trans Hg2.out
            refine wpAnyH_ready (rs := [8]) (by kernel_rfl) (by simp) ?_
            refine AllReadyH.cons rfl (fun K hK => ?_) AllReadyH.nil
            obtain ⟨f0, f1, f2, f3, f4⟩ := rw5f Hg1.out
            obtain ⟨x0, x1, x2, x3, x4⟩ := rw5 Hg1.out
            go_simp
            change K _ (set5 V4 g1 _ _ _ _ _)
            rw [hVX]
            rw [hVX] at HF
            refine hK.out _ _ trivial (fun hHeld => ?_)
            clear hK K x0 x1 x2 x3 x4 f0 f1 f2 f3 f4 hVX
            try simp only [Act.put, List.setIfInBounds_toArray, List.set_cons_zero, List.set_cons_succ]
            refine wpAnyH_ready (rs := [9]) (by kernel_rfl) (by simp) ?_
            refine AllReadyH.cons rfl (fun K hK => ?_) AllReadyH.nil
            obtain ⟨f0, f1, f2, f3, f4⟩ := rw5f hz2
            obtain ⟨x0, x1, x2, x3, x4⟩ := rw5 hz2
            go_simp
            change K _ (set5 VX g2 _ _ _ _ _)
            refine hK.out _ _ trivial (fun hHeld => ?_)
            clear hK K x0 x1 x2 x3 x4 f0 f1 f2 f3 f4
            try simp only [Act.put, List.setIfInBounds_toArray, List.set_cons_zero, List.set_cons_succ]
            refine wpAnyH_done (by kernel_rfl) ?_ _
            refine NoPanic.normal ?_
            go_wp2_with fail
            go_meet
            case rel => exact ⟨g1, g2, rfl, rfl, by omega, HF.out.1, HF.out.2.1, HF.out.2.2 _ hb4 hb4.size⟩
          · go_simp
            obtain ⟨g1, hg1⟩ : ∃ g, V2.heap.size = g := ⟨_, rfl⟩
            try rw [hg1]
            have n0 : (V2.alloc (.cells #[.int .u32 0, .slice none 0 0, .slice none 0 0, .int .i64 0, .int .i64 0] 31)).heap[V2.heap.size]? = some (.cells #[.int .u32 0, .slice none 0 0, .slice none 0 0, .int .i64 0, .int .i64 0] 31 (0, 0)) := heap_alloc_new V2 _
            rw [hg1] at n0
            have nb : Below V2.heap.size V2 (V2.alloc (.cells #[.int .u32 0, .slice none 0 0, .slice none 0 0, .int .i64 0, .int .i64 0] 31)) := (Below.refl _ _).alloc (Nat.le_refl _) _
            have lg1 : w2.heap.size ≤ g1 := by have := hb2.size; omega
            have hne : g1 ≠ g2 := by have := (Array.getElem?_eq_some_iff.1 Hg2.out).1; omega
            generalize V2.alloc (.cells #[.int .u32 0, .slice none 0 0, .slice none 0 0, .int .i64 0, .int .i64 0] 31) = V3 at *
            clear hg1
            have Hg1 : Hid (V3.heap[g1]? = some (.cells #[.int .u32 0, .slice none 0 0, .slice none 0 0, .int .i64 0, .int .i64 0] 31 (0, 0))) := Lib.hid n0
            have hb3 : Below w2.heap.size w2 V3 := hb2.trans (nb.mono hb2.size)
            have Hg2 := Lib.hid ((nb.block g2 (Array.getElem?_eq_some_iff.1 Hg2.out).1).trans Hg2.out)
            have H1 := Lib.hid (H1.out.on nb)
            clear nb
            refine hK.out _ _ trivial (fun hHeld => ?_)
            clear hK K
            try simp only [Act.put, List.setIfInBounds_toArray, List.set_cons_zero, List.set_cons_succ]
            refine wpAnyH_ready (rs := [5]) (by kernel_rfl) (by simp) ?_
            refine AllReadyH.cons rfl (fun K hK => ?_) AllReadyH.nil
            go_simp
            refine (HB.out V3 hb3).mono ?_
            rintro e V4 ⟨rv2, rfl, hs, nb⟩
            have H2 := Lib.hid (show TellS V4 w2.heap.size rv2 _ from ⟨_, hb3.size, hs⟩)
            clear hs
            go_wp2_with fail
            have hb4 : Below w2.heap.size w2 V4 := hb3.trans (nb.mono hb3.size)
            have Hg1 := Lib.hid ((nb.block g1 (Array.getElem?_eq_some_iff.1 Hg1.out).1).trans Hg1.out)
            have Hg2 := Lib.hid ((nb.block g2 (Array.getElem?_eq_some_iff.1 Hg2.out).1).trans Hg2.out)
            have H1 := Lib.hid (H1.out.on nb)
            clear nb
            refine hK.out _ _ trivial (fun hHeld => ?_)
            clear hK K
            try simp only [Act.put, List.setIfInBounds_toArray, List.set_cons_zero, List.set_cons_succ]
            obtain ⟨Af1, cf1, Ap1, cp1, rfl⟩ := H1.out.lit 7 n' 0 m 0 rfl (by rw [places_length, HM.out]) rfl rfl rfl
            obtain ⟨Af2, cf2, Ap2, cp2, rfl⟩ := H2.out.lit 7 E W i 0 rfl HI.out.2.2.2.2 rfl rfl rfl
            have HF := Lib.hid (two_stored Hg1.out Hg2.out (by omega) (by omega) (by omega) H1.out H2.out)
            obtain ⟨VX, hVX⟩ : ∃ X, set5 V4 g1 (.int .u32 7) (.slice Af1 m cf1) (.slice Ap1 0 cp1) (.int .i64 n') (.int .i64 0) = X := ⟨_, rfl⟩
            have hz2 : VX.heap[g2]? = some (.cells #[.int .u32 0, .slice none 0 0, .slice none 0 0, .int .i64 0, .int .i64 0] 31 (0, 0)) := by rw [← hVX]; exact ((set5_chg V4 g1 _ _ _ _ _).block g2 (Array.getElem?_eq_some_iff.1 Hg2.out).1 (by omega)).trans Hg2.out
            refine wpAnyH_ready (rs := [8]) (by kernel_rfl) (by simp) ?_
            refine AllReadyH.cons rfl (fun K hK => ?_) AllReadyH.nil
            obtain ⟨f0, f1, f2, f3, f4⟩ := rw5f Hg1.out
            obtain ⟨x0, x1, x2, x3, x4⟩ := rw5 Hg1.out
            go_simp
            change K _ (set5 V4 g1 _ _ _ _ _)
            rw [hVX]
            rw [hVX] at HF
            refine hK.out _ _ trivial (fun hHeld => ?_)
            clear hK K x0 x1 x2 x3 x4 f0 f1 f2 f3 f4 hVX
            try simp only [Act.put, List.setIfInBounds_toArray, List.set_cons_zero, List.set_cons_succ]
            refine wpAnyH_ready (rs := [9]) (by kernel_rfl) (by simp) ?_
            refine AllReadyH.cons rfl (fun K hK => ?_) AllReadyH.nil
            obtain ⟨f0, f1, f2, f3, f4⟩ := rw5f hz2
            obtain ⟨x0, x1, x2, x3, x4⟩ := rw5 hz2
            go_simp
            change K _ (set5 VX g2 _ _ _ _ _)
            refine hK.out _ _ trivial (fun hHeld => ?_)
            clear hK K x0 x1 x2 x3 x4 f0 f1 f2 f3 f4
            try simp only [Act.put, List.setIfInBounds_toArray, List.set_cons_zero, List.set_cons_succ]
            refine wpAnyH_done (by kernel_rfl) ?_ _
            refine NoPanic.normal ?_
            go_wp2_with fail
            go_meet
            case rel => exact ⟨g1, g2, rfl, rfl, by omega, HF.out.1, HF.out.2.1, HF.out.2.2 _ hb4 hb4.size⟩
      · go_simp
        obtain ⟨g1, hg1⟩ : ∃ g, V0.heap.size = g := ⟨_, rfl⟩
        try rw [hg1]
        have n0 : (V0.alloc (.cells #[.int .u32 0, .slice none 0 0, .slice none 0 0, .int .i64 0, .int .i64 0] 31)).heap[V0.heap.size]? = some (.cells #[.int .u32 0, .slice none 0 0, .slice none 0 0, .int .i64 0, .int .i64 0] 31 (0, 0)) := heap_alloc_new V0 _
        rw [hg1] at n0
        have nb : Below V0.heap.size V0 (V0.alloc (.cells #[.int .u32 0, .slice none 0 0, .slice none 0 0, .int .i64 0, .int .i64 0] 31)) := (Below.refl _ _).alloc (Nat.le_refl _) _
        have lg1 : w2.heap.size ≤ g1 := by have := hb0.size; omega
        generalize V0.alloc (.cells #[.int .u32 0, .slice none 0 0, .slice none 0 0, .int .i64 0, .int .i64 0] 31) = V1 at *
        clear hg1
        have Hg1 : Hid (V1.heap[g1]? = some (.cells #[.int .u32 0, .slice none 0 0, .slice none 0 0, .int .i64 0, .int .i64 0] 31 (0, 0))) := Lib.hid n0
        have hb1 : Below w2.heap.size w2 V1 := hb0.trans (nb.mono hb0.size)
        clear nb
        refine hK.out _ _ trivial (fun hHeld => ?_)
        clear hK K
        try simp only [Act.put, List.setIfInBounds_toArray, List.set_cons_zero, List.set_cons_succ]
        refine wpAnyH_ready (rs := [1, 7]) (by kernel_rfl) (by simp) ?_
        refine AllReadyH.cons rfl (fun K hK => ?_) (AllReadyH.cons rfl (fun K hK => ?_) AllReadyH.nil)
        · go_simp
          refine (HA.out V1 hb1).mono ?_
          rintro e V2 ⟨rv1, rfl, hs, nb⟩
          have H1 := Lib.hid (show TellS V2 w2.heap.size rv1 _ from ⟨_, hb1.size, hs⟩)
          clear hs
          go_wp2_with fail
          have hb2 : Below w2.heap.size w2 V2 := hb1.trans (nb.mono hb1.size)
          have Hg1 := Lib.hid ((nb.block g1 (Array.getElem?_eq_some_iff.1 Hg1.out).1).trans Hg1.out)
          clear nb
          refine hK.out _ _ trivial (fun hHeld => ?_)
          clear hK K
          try simp only [Act.put, List.setIfInBounds_toArray, List.set_cons_zero, List.set_cons_succ]
          refine wpAnyH_ready (rs := [5, 7]) (by kernel_rfl) (by simp) ?_
          refine AllReadyH.cons rfl (fun K hK => ?_) (AllReadyH.cons rfl (fun K hK => ?_) AllReadyH.nil)
          · go_simp
            refine (HB.out V2 hb2).mono ?_
            rintro e V3 ⟨rv2, rfl, hs, nb⟩
            have H2 := Lib.hid (show TellS V3 w2.heap.size rv2 _ from ⟨_, hb2.size, hs⟩)
            clear hs
            go_wp2_with fail
            have hb3 : Below w2.heap.size w2 V3 := hb2.trans (nb.mono hb2.size)
            have Hg1 := Lib.hid ((nb.block g1 (Array.getElem?_eq_some_iff.1 Hg1.out).1).trans Hg1.out)
            have H1 := Lib.hid (H1.out.on nb)
            clear nb
            refine hK.out _ _ trivial (fun hHeld => ?_)
            clear hK K
            try simp only [Act.put, List.setIfInBounds_toArray, List.set_cons_zero, List.set_cons_succ]
            refine wpAnyH_ready (rs := [7]) (by kernel_rfl) (by simp) ?_
            refine AllReadyH.cons rfl (fun K hK => ?_) AllReadyH.nil
            go_simp
            obtain ⟨g2, hg2⟩ : ∃ g, V3.heap.size = g := ⟨_, rfl⟩
            try rw [hg2]
            have n0 : (V3.alloc (.cells #[.int .u32 0, .slice none 0 0, .slice none 0 0, .int .i64 0, .int .i64 0] 31)).heap[V3.heap.size]? = some (.cells #[.int .u32 0, .slice none 0 0, .slice none 0 0, .int .i64 0, .int .i64 0] 31 (0, 0)) := heap_alloc_new V3 _
            rw [hg2] at n0
            have nb : Below V3.heap.size V3 (V3.alloc (.cells #[.int .u32 0, .slice none 0 0, .slice none 0 0, .int .i64 0, .int .i64 0] 31)) := (Below.refl _ _).alloc (Nat.le_refl _) _
            have lg2 : w2.heap.size ≤ g2 := by have := hb3.size; omega
            have hne : g2 ≠ g1 := by have := (Array.getElem?_eq_some_iff.1 Hg1.out).1; omega
            generalize V3.alloc (.cells #[.int .u32 0, .slice none 0 0, .slice none 0 0, .int .i64 0, .int .i64 0] 31) = V4 at *
            clear hg2
            have Hg2 : Hid (V4.heap[g2]? = some (.cells #[.int .u32 0, .slice none 0 0, .slice none 0 0, .int .i64 0, .int .i64 0] 31 (0, 0))) := Lib.hid n0
            have hb4 : Below w2.heap.size w2 V4 := hb3.trans (nb.mono hb3.size)
            have Hg1 := Lib.hid ((nb.block g1 (Array.getElem?_eq_some_iff.1 Hg1.out).1).trans Hg1.out)
            have H1 := Lib.hid (H1.out.on nb)
            have H2 := Lib.hid (H2.out.on nb)
            clear nb
            refine hK.out _ _ trivial (fun hHeld => ?_)
            clear hK K
            try simp only [Act.put, List.setIfInBounds_toArray, List.set_cons_zero, List.set_cons_succ]
            obtain ⟨Af1, cf1, Ap1, cp1, rfl⟩ := H1.out.lit 7 n' 0 m 0 rfl (by rw [places_length, HM.out]) rfl rfl rfl
            obtain ⟨Af2, cf2, Ap2, cp2, rfl⟩ := H2.out.lit 7 E W i 0 rfl HI.out.2.2.2.2 rfl rfl rfl
            have HF := Lib.hid (two_stored Hg1.out Hg2.out (by omega) (by omega) (by omega) H1.out H2.out)
            obtain ⟨VX, hVX⟩ : ∃ X, set5 V4 g1 (.int .u32 7) (.slice Af1 m cf1) (.slice Ap1 0 cp1) (.int .i64 n') (.int .i64 0) = X := ⟨_, rfl⟩
            have hz2 : VX.heap[g2]? = some (.cells #[.int .u32 0, .slice none 0 0, .slice none 0 0, .int .i64 0, .int .i64 0] 31 (0, 0)) := by rw [← hVX]; exact ((set5_chg V4 g1 _ _ _ _ _).block g2 (Array.getElem?_eq_some_iff.1 Hg2.out).1 (by omega)).trans Hg2.out
            refine wpAnyH_ready (rs := [8]) (by kernel_rfl) (by simp) ?_
            refine AllReadyH.cons rfl (fun K hK => ?_) AllReadyH.nil
            obtain ⟨f0, f1, f2, f3, f4⟩ := rw5f Hg1.out
            obtain ⟨x0, x1, x2, x3, x4⟩ := rw5 Hg1.out
            go_simp
            change K _ (set5 V4 g1 _ _ _ _ _)
            rw [hVX]
            rw [hVX] at HF
            refine hK.out _ _ trivial (fun hHeld => ?_)
            clear hK K x0 x1 x2 x3 x4 f0 f1 f2 f3 f4 hVX
            try simp only [Act.put, List.setIfInBounds_toArray, List.set_cons_zero, List.set_cons_succ]
            refine wpAnyH_ready (rs := [9]) (by kernel_rfl) (by simp) ?_
            refine AllReadyH.cons rfl (fun K hK => ?_) AllReadyH.nil
            obtain ⟨f0, f1, f2, f3, f4⟩ := rw5f hz2
            obtain ⟨x0, x1, x2, x3, x4⟩ := rw5 hz2
            go_simp
            change K _ (set5 VX g2 _ _ _ _ _)
            refine hK.out _ _ trivial (fun hHeld => ?_)
            clear hK K x0 x1 x2 x3 x4 f0 f1 f2 f3 f4
            try simp only [Act.put, List.setIfInBounds_toArray, List.set_cons_zero, List.set_cons_succ]
            refine wpAnyH_done (by kernel_rfl) ?_ _
            refine NoPanic.normal ?_
            go_wp2_with fail
            go_meet
            case rel => exact ⟨g1, g2, rfl, rfl, by omega, HF.out.1, HF.out.2.1, HF.out.2.2 _ hb4 hb4.size⟩
          · go_simp
            obtain ⟨g2, hg2⟩ : ∃ g, V2.heap.size = g := ⟨_, rfl⟩
            try rw [hg2]
            have n0 : (V2.alloc (.cells #[.int .u32 0, .slice none 0 0, .slice none 0 0, .int .i64 0, .int .i64 0] 31)).heap[V2.heap.size]? = some (.cells #[.int .u32 0, .slice none 0 0, .slice none 0 0, .int .i64 0, .int .i64 0] 31 (0, 0)) := heap_alloc_new V2 _
            rw [hg2] at n0
            have nb : Below V2.heap.size V2 (V2.alloc (.cells #[.int .u32 0, .slice none 0 0, .slice none 0 0, .int .i64 0, .int .i64 0] 31)) := (Below.refl _ _).alloc (Nat.le_refl _) _
            have lg2 : w2.heap.size ≤ g2 := by have := hb2.size; omega
            have hne : g2 ≠ g1 := by have := (Array.getElem?_eq_some_iff.1 Hg1.out).1; omega
            generalize V2.alloc (.cells #[.int .u32 0, .slice none 0 0, .slice none 0 0, .int .i64 0, .int .i64 0] 31) = V3 at *
            clear hg2
            have Hg2 : Hid (V3.heap[g2]? = some (.cells #[.int .u32 0, .slice none 0 0, .slice none 0 0, .int .i64 0, .int .i64 0] 31 (0, 0))) := Lib.hid n0
            have hb3 : Below w2.heap.size w2 V3 := hb2.trans (nb.mono hb2.size)
            have Hg1 := Lib.hid ((nb.block g1 (Array.getElem?_eq_some_iff.1 Hg1.out).1).trans Hg1.out)
            have H1 := Lib.hid (H1.out.on nb)
            clear nb
            refine hK.out _ _ trivial (fun hHeld => ?_)
            clear hK K
            try simp only [Act.put, List.setIfInBounds_toArray, List.set_cons_zero, List.set_cons_succ]
            refine wpAnyH_ready (rs := [5]) (by kernel_rfl) (by simp) ?_
            refine AllReadyH.cons rfl (fun K hK => ?_) AllReadyH.nil
            go_simp
            refine (HB.out V3 hb3).mono ?_
            rintro e V4 ⟨rv2, rfl, hs, nb⟩
            have H2 := Lib.hid (show TellS V4 w2.heap.size rv2 _ from ⟨_, hb3.size, hs⟩)
            clear hs
            go_wp2_with fail
            have hb4 : Below w2.heap.size w2 V4 := hb3.trans (nb.mono hb3.size)
            have Hg1 := Lib.hid ((nb.block g1 (Array.getElem?_eq_some_iff.1 Hg1.out).1).trans Hg1.out)
            have Hg2 := Lib.hid ((nb.block g2 (Array.getElem?_eq_some_iff.1 Hg2.out).1).trans Hg2.out)
            have H1 := Lib.hid (H1.out.on nb)
            clear nb
            refine hK.out _ _ trivial (fun hHeld => ?_)
            clear hK K
            try simp only [Act.put, List.setIfInBounds_toArray, List.set_cons_zero, List.set_cons_succ]
            obtain ⟨Af1, cf1, Ap1, cp1, rfl⟩ := H1.out.lit 7 n' 0 m 0 rfl (by rw [places_length, HM.out]) rfl rfl rfl
            obtain ⟨Af2, cf2, Ap2, cp2, rfl⟩ := H2.out.lit 7 E W i 0 rfl HI.out.2.2.2.2 rfl rfl rfl
            have HF := Lib.hid (two_stored Hg1.out Hg2.out (by omega) (by omega) (by omega) H1.out H2.out)
            obtain ⟨VX, hVX⟩ : ∃ X, set5 V4 g1 (.int .u32 7) (.slice Af1 m cf1) (.slice Ap1 0 cp1) (.int .i64 n') (.int .i64 0) = X := ⟨_, rfl⟩
            have hz2 : VX.heap[g2]? = some (.cells #[.int .u32 0, .slice none 0 0, .slice none 0 0, .int .i64 0, .int .i64 0] 31 (0, 0)) := by rw [← hVX]; exact ((set5_chg V4 g1 _ _ _ _ _).block g2 (Array.getElem?_eq_some_iff.1 Hg2.out).1 (by omega)).trans Hg2.out
            refine wpAnyH_ready (rs := [8]) (by kernel_rfl) (by simp) ?_
            refine AllReadyH.cons rfl (fun K hK => ?_) AllReadyH.nil
            obtain ⟨f0, f1, f2, f3, f4⟩ := rw5f Hg1.out
            obtain ⟨x0, x1, x2, x3, x4⟩ := rw5 Hg1.out
            go_simp
            change K _ (set5 V4 g1 _ _ _ _ _)
            rw [hVX]
            rw [hVX] at HF
            refine hK.out _ _ trivial (fun hHeld => ?_)
            clear hK K x0 x1 x2 x3 x4 f0 f1 f2 f3 f4 hVX
            try simp only [Act.put, List.setIfInBounds_toArray, List.set_cons_zero, List.set_cons_succ]
            refine wpAnyH_ready (rs := [9]) (by kernel_rfl) (by simp) ?_
            refine AllReadyH.cons rfl (fun K hK => ?_) AllReadyH.nil
            obtain ⟨f0, f1, f2, f3, f4⟩ := rw5f hz2
            obtain ⟨x0, x1, x2, x3, x4⟩ := rw5 hz2
            go_simp
            change K _ (set5 VX g2 _ _ _ _ _)
            refine hK.out _ _ trivial (fun hHeld => ?_)
            clear hK K x0 x1 x2 x3 x4 f0 f1 f2 f3 f4
            try simp only [Act.put, List.setIfInBounds_toArray, List.set_cons_zero, List.set_cons_succ]
            refine wpAnyH_done (by kernel_rfl) ?_ _
            refine NoPanic.normal ?_
            go_wp2_with fail
            go_meet
            case rel => exact ⟨g1, g2, rfl, rfl, by omega, HF.out.1, HF.out.2.1, HF.out.2.2 _ hb4 hb4.size⟩
        · go_simp
          obtain ⟨g2, hg2⟩ : ∃ g, V1.heap.size = g := ⟨_, rfl⟩
          try rw [hg2]
          have n0 : (V1.alloc (.cells #[.int .u32 0, .slice none 0 0, .slice none 0 0, .int .i64 0, .int .i64 0] 31)).heap[V1.heap.size]? = some (.cells #[.int .u32 0, .slice none 0 0, .slice none 0 0, .int .i64 0, .int .i64 0] 31 (0, 0)) := heap_alloc_new V1 _
          rw [hg2] at n0
          have nb : Below V1.heap.size V1 (V1.alloc (.cells #[.int .u32 0, .slice none 0 0, .slice none 0 0, .int .i64 0, .int .i64 0] 31)) := (Below.refl _ _).alloc (Nat.le_refl _) _
          have lg2 : w2.heap.size ≤ g2 := by have := hb1.size; omega
          have hne : g2 ≠ g1 := by have := (Array.getElem?_eq_some_iff.1 Hg1.out).1; omega
          generalize V1.alloc (.cells #[.int .u32 0, .slice none 0 0, .slice none 0 0, .int .i64 0, .int .i64 0] 31) = V2 at *
          clear hg2
          have Hg2 : Hid (V2.heap[g2]? = some (.cells #[.int .u32 0, .slice none 0 0, .slice none 0 0, .int .i64 0, .int .i64 0] 31 (0, 0))) := Lib.hid n0
          have hb2 : Below w2.heap.size w2 V2 := hb1.trans (nb.mono hb1.size)
          have Hg1 := Lib.hid ((nb.block g1 (Array.getElem?_eq_some_iff.1 Hg1.out).1).trans Hg1.out)
          clear nb
          refine hK.out _ _ trivial (fun hHeld => ?_)
          clear hK K
          try simp only [Act.put, List.setIfInBounds_toArray, List.set_cons_zero, List.set_cons_succ]
          refine wpAnyH_ready (rs := [1]) (by kernel_rfl) (by simp) ?_
          refine AllReadyH.cons rfl (fun K hK => ?_) AllReadyH.nil
          go_simp
          refine (HA.out V2 hb2).mono ?_
          rintro e V3 ⟨rv1, rfl, hs, nb⟩
          have H1 := Lib.hid (show TellS V3 w2.heap.size rv1 _ from ⟨_, hb2.size, hs⟩)
          clear hs
          go_wp2_with fail
          have hb3 : Below w2.heap.size w2 V3 := hb2.trans (nb.mono hb2.size)
          have Hg1 := Lib.hid ((nb.block g1 (Array.getElem?_eq_some_iff.1 Hg1.out).1).trans Hg1.out)
          have Hg2 := Lib.hid ((nb.block g2 (Array.getElem?_eq_some_iff.1 Hg2.out).1).trans Hg2.out)
          clear nb
          refine hK.out _ _ trivial (fun hHeld => ?_)
          clear hK K
          try simp only [Act.put, List.setIfInBounds_toArray, List.set_cons_zero, List.set_cons_succ]
          refine wpAnyH_ready (rs := [5]) (by kernel_rfl) (by simp) ?_
          refine AllReadyH.cons rfl (fun K hK => ?_) AllReadyH.nil
          go_simp
          refine (HB.out V3 hb3).mono ?_
          rintro e V4 ⟨rv2, rfl, hs, nb⟩
          have H2 := Lib.hid (show TellS V4 w2.heap.size rv2 _ from ⟨_, hb3.size, hs⟩)
          clear hs
          go_wp2_with fail
          have hb4 : Below w2.heap.size w2 V4 := hb3.trans (nb.mono hb3.size)
          have Hg1 := Lib.hid ((nb.block g1 (Array.getElem?_eq_some_iff.1 Hg1.out).1).trans Hg1.out)
          have Hg2 := Lib.hid ((nb.block g2 (Array.getElem?_eq_some_iff.1 Hg2.out).1).trans Hg2.out)
          have H1 := Lib.hid (H1.out.on nb)
          clear nb
          refine hK.out _ _ trivial (fun hHeld => ?_)
          clear hK K
          try simp only [Act.put, List.setIfInBounds_toArray, List.set_cons_zero, List.set_cons_succ]
          obtain ⟨Af1, cf1, Ap1, cp1, rfl⟩ := H1.out.lit 7 n' 0 m 0 rfl (by rw [places_length, HM.out]) rfl rfl rfl
          obtain ⟨Af2, cf2, Ap2, cp2, rfl⟩ := H2.out.lit 7 E W i 0 rfl HI.out.2.2.2.2 rfl rfl rfl
          have HF := Lib.hid (two_stored Hg1.out Hg2.out (by omega) (by omega) (by omega) H1.out H2.out)
          obtain ⟨VX, hVX⟩ : ∃ X, set5 V4 g1 (.int .u32 7) (.slice Af1 m cf1) (.slice Ap1 0 cp1) (.int .i64 n') (.int .i64 0) = X := ⟨_, rfl⟩
          have hz2 : VX.heap[g2]? = some (.cells #[.int .u32 0, .slice none 0 0, .slice none 0 0, .int .i64 0, .int .i64 0] 31 (0, 0)) := by rw [← hVX]; exact ((set5_chg V4 g1 _ _ _ _ _).block g2 (Array.getElem?_eq_some_iff.1 Hg2.out).1 (by omega)).trans Hg2.out
          refine wpAnyH_ready (rs := [8]) (by kernel_rfl) (by simp) ?_
          refine AllReadyH.cons rfl (fun K hK => ?_) AllReadyH.nil
          obtain ⟨f0, f1, f2, f3, f4⟩ := rw5f Hg1.out
          obtain ⟨x0, x1, x2, x3, x4⟩ := rw5 Hg1.out
          go_simp
          change K _ (set5 V4 g1 _ _ _ _ _)
          rw [hVX]
          rw [hVX] at HF
          refine hK.out _ _ trivial (fun hHeld => ?_)
          clear hK K x0 x1 x2 x3 x4 f0 f1 f2 f3 f4 hVX
          try simp only [Act.put, List.setIfInBounds_toArray, List.set_cons_zero, List.set_cons_succ]
          refine wpAnyH_ready (rs := [9]) (by kernel_rfl) (by simp) ?_
          refine AllReadyH.cons rfl (fun K hK => ?_) AllReadyH.nil
          obtain ⟨f0, f1, f2, f3, f4⟩ := rw5f hz2
          obtain ⟨x0, x1, x2, x3, x4⟩ := rw5 hz2
          go_simp
          change K _ (set5 VX g2 _ _ _ _ _)
          refine hK.out _ _ trivial (fun hHeld => ?_)
          clear hK K x0 x1 x2 x3 x4 f0 f1 f2 f3 f4
          try simp only [Act.put, List.setIfInBounds_toArray, List.set_cons_zero, List.set_cons_succ]
          refine wpAnyH_done (by kernel_rfl) ?_ _
          refine NoPanic.normal ?_
          go_wp2_with fail
          go_meet
          case rel => exact ⟨g1, g2, rfl, rfl, by omega, HF.out.1, HF.out.2.1, HF.out.2.2 _ hb4 hb4.size⟩
      · go_simp
        obtain ⟨g2, hg2⟩ : ∃ g, V0.heap.size = g := ⟨_, rfl⟩
        try rw [hg2]
        have n0 : (V0.alloc (.cells #[.int .u32 0, .slice none 0 0, .slice none 0 0, .int .i64 0, .int .i64 0] 31)).heap[V0.heap.size]? = some (.cells #[.int .u32 0, .slice none 0 0, .slice none 0 0, .int .i64 0, .int .i64 0] 31 (0, 0)) := heap_alloc_new V0 _
        rw [hg2] at n0
        have nb : Below V0.heap.size V0 (V0.alloc (.cells #[.int .u32 0, .slice none 0 0, .slice none 0 0, .int .i64 0, .int .i64 0] 31)) := (Below.refl _ _).alloc (Nat.le_refl _) _
        have lg2 : w2.heap.size ≤ g2 := by have := hb0.size; omega
        generalize V0.alloc (.cells #[.int .u32 0, .slice none 0 0, .slice none 0 0, .int .i64 0, .int .i64 0] 31) = V1 at *
        clear hg2
        have Hg2 : Hid (V1.heap[g2]? = some (.cells #[.int .u32 0, .slice none 0 0, .slice none 0 0, .int .i64 0, .int .i64 0] 31 (0, 0))) := Lib.hid n0
        have hb1 : Below w2.heap.size w2 V1 := hb0.trans (nb.mono hb0.size)
        clear nb
        refine hK.out _ _ trivial (fun hHeld => ?_)
        clear hK K
        try simp only [Act.put, List.setIfInBounds_toArray, List.set_cons_zero, List.set_cons_succ]
        refine wpAnyH_ready (rs := [1, 6]) (by kernel_rfl) (by simp) ?_
        refine AllReadyH.cons rfl (fun K hK => ?_) (AllReadyH.cons rfl (fun K hK => ?_) AllReadyH.nil)
        · go_simp
          refine (HA.out V1 hb1).mono ?_
          rintro e V2 ⟨rv1, rfl, hs, nb⟩
          have H1 := Lib.hid (show TellS V2 w2.heap.size rv1 _ from ⟨_, hb1.size, hs⟩)
          clear hs
          go_wp2_with fail
          have hb2 : Below w2.heap.size w2 V2 := hb1.trans (nb.mono hb1.size)
          have Hg2 := Lib.hid ((nb.block g2 (Array.getElem?_eq_some_iff.1 Hg2.out).1).trans Hg2.out)
          clear nb
          refine hK.out _ _ trivial (fun hHeld => ?_)
          clear hK K
          try simp only [Act.put, List.setIfInBounds_toArray, List.set_cons_zero, List.set_cons_succ]
          refine wpAnyH_ready (rs := [5, 6]) (by kernel_rfl) (by simp) ?_
          refine AllReadyH.cons rfl (fun K hK => ?_) (AllReadyH.cons rfl (fun K hK => ?_) AllReadyH.nil)
          · go_simp
            refine (HB.out V2 hb2).mono ?_
            rintro e V3 ⟨rv2, rfl, hs, nb⟩
            have H2 := Lib.hid (show TellS V3 w2.heap.size rv2 _ from ⟨_, hb2.size, hs⟩)
            clear hs
            go_wp2_with fail
            have hb3 : Below w2.heap.size w2 V3 := hb2.trans (nb.mono hb2.size)
            have Hg2 := Lib.hid ((nb.block g2 (Array.getElem?_eq_some_iff.1 Hg2.out).1).trans Hg2.out)
            have H1 := Lib.hid (H1.out.on nb)
            clear nb
            refine hK.out _ _ trivial (fun hHeld => ?_)
            clear hK K
            try simp only [Act.put, List.setIfInBounds_toArray, List.set_cons_zero, List.set_cons_succ]
            refine wpAnyH_ready (rs := [6]) (by kernel_rfl) (by simp) ?_
            refine AllReadyH.cons rfl (fun K hK => ?_) AllReadyH.nil
            go_simp
            obtain ⟨g1, hg1⟩ : ∃ g, V3.heap.size = g := ⟨_, rfl⟩
            try rw [hg1]
            have n0 : (V3.alloc (.cells #[.int .u32 0, .slice none 0 0, .slice none 0 0, .int .i64 0, .int .i64 0] 31)).heap[V3.heap.size]? = some (.cells #[.int .u32 0, .slice none 0 0, .slice none 0 0, .int .i64 0, .int .i64 0] 31 (0, 0)) := heap_alloc_new V3 _
            rw [hg1] at n0
            have nb : Below V3.heap.size V3 (V3.alloc (.cells #[.int .u32 0, .slice none 0 0, .slice none 0 0, .int .i64 0, .int .i64 0] 31)) := (Below.refl _ _).alloc (Nat.le_refl _) _
            have lg1 : w2.heap.size ≤ g1 := by have := hb3.size; omega
            have hne : g1 ≠ g2 := by have := (Array.getElem?_eq_some_iff.1 Hg2.out).1; omega
            generalize V3.alloc (.cells #[.int .u32 0, .slice none 0 0, .slice none 0 0, .int .i64 0, .int .i64 0] 31) = V4 at *
            clear hg1
            have Hg1 : Hid (V4.heap[g1]? = some (.cells #[.int .u32 0, .slice none 0 0, .slice none 0 0, .int .i64 0, .int .i64 0] 31 (0, 0))) := Lib.hid n0
            have hb4 : Below w2.heap.size w2 V4 := hb3.trans (nb.mono hb3.size)
            have Hg2 := Lib.hid ((nb.block g2 (Array.getElem?_eq_some_iff.1 Hg2.out).1).trans Hg2.out)
            have H1 := Lib.hid (H1.out.on nb)
            have H2 := Lib.hid (H2.out.on nb)
            clear nb
            refine hK.out _ _ trivial (fun hHeld => ?_)
            clear hK K
            try simp only [Act.put, List.setIfInBounds_toArray, List.set_cons_zero, List.set_cons_succ]
            obtain ⟨Af1, cf1, Ap1, cp1, rfl⟩ := H1.out.lit 7 n' 0 m 0 rfl (by rw [places_length, HM.out]) rfl rfl rfl
            obtain ⟨Af2, cf2, Ap2, cp2, rfl⟩ := H2.out.lit 7 E W i 0 rfl HI.out.2.2.2.2 rfl rfl rfl
            have HF := Lib.hid (two_stored Hg1.out Hg2.out (by omega) (by omega) (by omega) H1.out H2.out)
            obtain ⟨VX, hVX⟩ : ∃ X, set5 V4 g1 (.int .u32 7) (.slice Af1 m cf1) (.slice Ap1 0 cp1) (.int .i64 n') (.int .i64 0) = X := ⟨_, rfl⟩
            have hz2 : VX.heap[g2]? = some (.cells #[.int .u32 0, .slice none 0 0, .slice none 0 0, .int .i64 0, .int .i64 0] 31 (0, 0)) := by rw [← hVX]; exact ((set5_chg V4 g1 _ _ _ _ _).block g2 (Array.getElem?_eq_some_iff.1 Hg2.out).1 (by omega)).trans Hg2.out
            refine wpAnyH_ready (rs := [8]) (by kernel_rfl) (by simp) ?_
            refine AllReadyH.cons rfl (fun K hK => ?_) AllReadyH.nil
            obtain ⟨f0, f1, f2, f3, f4⟩ := rw5f Hg1.out
            obtain ⟨x0, x1, x2, x3, x4⟩ := rw5 Hg1.out
            go_simp
            change K _ (set5 V4 g1 _ _ _ _ _)
            rw [hVX]
            rw [hVX] at HF
            refine hK.out _ _ trivial (fun hHeld => ?_)
            clear hK K x0 x1 x2 x3 x4 f0 f1 f2 f3 f4 hVX
            try simp only [Act.put, List.setIfInBounds_toArray, List.set_cons_zero, List.set_cons_succ]
            refine wpAnyH_ready (rs := [9]) (by kernel_rfl) (by simp) ?_
            refine AllReadyH.cons rfl (fun K hK => ?_) AllReadyH.nil
            obtain ⟨f0, f1, f2, f3, f4⟩ := rw5f hz2
            obtain ⟨x0, x1, x2, x3, x4⟩ := rw5 hz2
            go_simp
            change K _ (set5 VX g2 _ _ _ _ _)
            refine hK.out _ _ trivial (fun hHeld => ?_)
            clear hK K x0 x1 x2 x3 x4 f0 f1 f2 f3 f4
            try simp only [Act.put, List.setIfInBounds_toArray, List.set_cons_zero, List.set_cons_succ]
            refine wpAnyH_done (by kernel_rfl) ?_ _
            refine NoPanic.normal ?_
            go_wp2_with fail
            go_meet
            case rel => exact ⟨g1, g2, rfl, rfl, by omega, HF.out.1, HF.out.2.1, HF.out.2.2 _ hb4 hb4.size⟩
          · go_simp
            obtain ⟨g1, hg1⟩ : ∃ g, V2.heap.size = g := ⟨_, rfl⟩
            try rw [hg1]
            have n0 : (V2.alloc (.cells #[.int .u32 0, .slice none 0 0, .slice none 0 0, .int .i64 0, .int .i64 0] 31)).heap[V2.heap.size]? = some (.cells #[.int .u32 0, .slice none 0 0, .slice none 0 0, .int .i64 0, .int .i64 0] 31 (0, 0)) := heap_alloc_new V2 _
            rw [hg1] at n0
            have nb : Below V2.heap.size V2 (V2.alloc (.cells #[.int .u32 0, .slice none 0 0, .slice none 0 0, .int .i64 0, .int .i64 0] 31)) := (Below.refl _ _).alloc (Nat.le_refl _) _
            have lg1 : w2.heap.size ≤ g1 := by have := hb2.size; omega
            have hne : g1 ≠ g2 := by have := (Array.getElem?_eq_some_iff.1 Hg2.out).1; omega
            generalize V2.alloc (.cells #[.int .u32 0, .slice none 0 0, .slice none 0 0, .int .i64 0, .int .i64 0] 31) = V3 at *
            clear hg1
            have Hg1 : Hid (V3.heap[g1]? = some (.cells #[.int .u32 0, .slice none 0 0, .slice none 0 0, .int .i64 0, .int .i64 0] 31 (0, 0))) := Lib.hid n0
            have hb3 : Below w2.heap.size w2 V3 := hb2.trans (nb.mono hb2.size)
            have Hg2 := Lib.hid ((nb.block g2 (Array.getElem?_eq_some_iff.1 Hg2.out).1).trans Hg2.out)
            have H1 := Lib.hid (H1.out.on nb)
            clear nb
            refine hK.out _ _ trivial (fun hHeld => ?_)
            clear hK K
            try simp only [Act.put, List.setIfInBounds_toArray, List.set_cons_zero, List.set_cons_succ]
            refine wpAnyH_ready (rs := [5]) (by kernel_rfl) (by simp) ?_
            refine AllReadyH.cons rfl (fun K hK => ?_) AllReadyH.nil
            go_simp
            refine (HB.out V3 hb3).mono ?_
            rintro e V4 ⟨rv2, rfl, hs, nb⟩
            have H2 := Lib.hid (show TellS V4 w2.heap.size rv2 _ from ⟨_, hb3.size, hs⟩)
            clear hs
            go_wp2_with fail
            have hb4 : Below w2.heap.size w2 V4 := hb3.trans (nb.mono hb3.size)
            have Hg1 := Lib.hid ((nb.block g1 (Array.getElem?_eq_some_iff.1 Hg1.out).1).trans Hg1.out)
            have Hg2 := Lib.hid ((nb.block g2 (Array.getElem?_eq_some_iff.1 Hg2.out).1).trans Hg2.out)
            have H1 := Lib.hid (H1.out.on nb)
            clear nb
            refine hK.out _ _ trivial (fun hHeld => ?_)
            clear hK K
            try simp only [Act.put, List.setIfInBounds_toArray, List.set_cons_zero, List.set_cons_succ]
            obtain ⟨Af1, cf1, Ap1, cp1, rfl⟩ := H1.out.lit 7 n' 0 m 0 rfl (by rw [places_length, HM.out]) rfl rfl rfl
            obtain ⟨Af2, cf2, Ap2, cp2, rfl⟩ := H2.out.lit 7 E W i 0 rfl HI.out.2.2.2.2 rfl rfl rfl
            have HF := Lib.hid (two_stored Hg1.out Hg2.out (by omega) (by omega) (by omega) H1.out H2.out)
            obtain ⟨VX, hVX⟩ : ∃ X, set5 V4 g1 (.int .u32 7) (.slice Af1 m cf1) (.slice Ap1 0 cp1) (.int .i64 n') (.int .i64 0) = X := ⟨_, rfl⟩
            have hz2 : VX.heap[g2]? = some (.cells #[.int .u32 0, .slice none 0 0, .slice none 0 0, .int .i64 0, .int .i64 0] 31 (0, 0)) := by rw [← hVX]; exact ((set5_chg V4 g1 _ _ _ _ _).block g2 (Array.getElem?_eq_some_iff.1 Hg2.out).1 (by omega)).trans Hg2.out
            refine wpAnyH_ready (rs := [8]) (by kernel_rfl) (by simp) ?_
            refine AllReadyH.cons rfl (fun K hK => ?_) AllReadyH.nil
            obtain ⟨f0, f1, f2, f3, f4⟩ := rw5f Hg1.out
            obtain ⟨x0, x1, x2, x3, x4⟩ := rw5 Hg1.out
            go_simp
            change K _ (set5 V4 g1 _ _ _ _ _)
            rw [hVX]
            rw [hVX] at HF
            refine hK.out _ _ trivial (fun hHeld => ?_)
            clear hK K x0 x1 x2 x3 x4 f0 f1 f2 f3 f4 hVX
            try simp only [Act.put, List.setIfInBounds_toArray, List.set_cons_zero, List.set_cons_succ]
            refine wpAnyH_ready (rs := [9]) (by kernel_rfl) (by simp) ?_
            refine AllReadyH.cons rfl (fun K hK => ?_) AllReadyH.nil
            obtain ⟨f0, f1, f2, f3, f4⟩ := rw5f hz2
            obtain ⟨x0, x1, x2, x3, x4⟩ := rw5 hz2
            go_simp
            change K _ (set5 VX g2 _ _ _ _ _)
            refine hK.out _ _ trivial (fun hHeld => ?_)
            clear hK K x0 x1 x2 x3 x4 f0 f1 f2 f3 f4
            try simp only [Act.put, List.setIfInBounds_toArray, List.set_cons_zero, List.set_cons_succ]
            refine wpAnyH_done (by kernel_rfl) ?_ _
            refine NoPanic.normal ?_
            go_wp2_with fail
            go_meet
            case rel => exact ⟨g1, g2, rfl, rfl, by omega, HF.out.1, HF.out.2.1, HF.out.2.2 _ hb4 hb4.size⟩
        · go_simp
          obtain ⟨g1, hg1⟩ : ∃ g, V1.heap.size = g := ⟨_, rfl⟩
          try rw [hg1]
          have n0 : (V1.alloc (.cells #[.int .u32 0, .slice none 0 0, .slice none 0 0, .int .i64 0, .int .i64 0] 31)).heap[V1.heap.size]? = some (.cells #[.int .u32 0, .slice none 0 0, .slice none 0 0, .int .i64 0, .int .i64 0] 31 (0, 0)) := heap_alloc_new V1 _
          rw [hg1] at n0
          have nb : Below V1.heap.size V1 (V1.alloc (.cells #[.int .u32 0, .slice none 0 0, .slice none 0 0, .int .i64 0, .int .i64 0] 31)) := (Below.refl _ _).alloc (Nat.le_refl _) _
          have lg1 : w2.heap.size ≤ g1 := by have := hb1.size; omega
          have hne : g1 ≠ g2 := by have := (Array.getElem?_eq_some_iff.1 Hg2.out).1; omega
          generalize V1.alloc (.cells #[.int .u32 0, .slice none 0 0, .slice none 0 0, .int .i64 0, .int .i64 0] 31) = V2 at *
          clear hg1
          have Hg1 : Hid (V2.heap[g1]? = some (.cells #[.int .u32 0, .slice none 0 0, .slice none 0 0, .int .i64 0, .int .i64 0] 31 (0, 0))) := Lib.hid n0
          have hb2 : Below w2.heap.size w2 V2 := hb1.trans (nb.mono hb1.size)
          have Hg2 := Lib.hid ((nb.block g2 (Array.getElem?_eq_some_iff.1 Hg2.out).1).trans Hg2.out)
          clear nb
          refine hK.out _ _ trivial (fun hHeld => ?_)
          clear hK K
          try simp only [Act.put, List.setIfInBounds_toArray, List.set_cons_zero, List.set_cons_succ]
          refine wpAnyH_ready (rs := [1]) (by kernel_rfl) (by simp) ?_
          refine AllReadyH.cons rfl (fun K hK => ?_) AllReadyH.nil
          go_simp
          refine (HA.out V2 hb2).mono ?_
          rintro e V3 ⟨rv1, rfl, hs, nb⟩
          have H1 := Lib.hid (show TellS V3 w2.heap.size rv1 _ from ⟨_, hb2.size, hs⟩)
          clear hs
          go_wp2_with fail
          have hb3 : Below w2.heap.size w2 V3 := hb2.trans (nb.mono hb2.size)
          have Hg1 := Lib.hid ((nb.block g1 (Array.getElem?_eq_some_iff.1 Hg1.out).1).trans Hg1.out)
          have Hg2 := Lib.hid ((nb.block g2 (Array.getElem?_eq_some_iff.1 Hg2.out).1).trans Hg2.out)
          clear nb
          refine hK.out _ _ trivial (fun hHeld => ?_)
          clear hK K
          try simp only [Act.put, List.setIfInBounds_toArray, List.set_cons_zero, List.set_cons_succ]
          refine wpAnyH_ready (rs := [5]) (by kernel_rfl) (by simp) ?_
          refine AllReadyH.cons rfl (fun K hK => ?_) AllReadyH.nil
          go_simp
          refine (HB.out V3 hb3).mono ?_
          rintro e V4 ⟨rv2, rfl, hs, nb⟩
          have H2 := Lib.hid (show TellS V4 w2.heap.size rv2 _ from ⟨_, hb3.size, hs⟩)
          clear hs
          go_wp2_with fail
          have hb4 : Below w2.heap.size w2 V4 := hb3.trans (nb.mono hb3.size)
          have Hg1 := Lib.hid ((nb.block g1 (Array.getElem?_eq_some_iff.1 Hg1.out).1).trans Hg1.out)
          have Hg2 := Lib.hid ((nb.block g2 (Array.getElem?_eq_some_iff.1 Hg2.out).1).trans Hg2.out)
          have H1 := Lib.hid (H1.out.on nb)
          clear nb
          refine hK.out _ _ trivial (fun hHeld => ?_)
          clear hK K
          try simp only [Act.put, List.setIfInBounds_toArray, List.set_cons_zero, List.set_cons_succ]
          obtain ⟨Af1, cf1, Ap1, cp1, rfl⟩ := H1.out.lit 7 n' 0 m 0 rfl (by rw [places_length, HM.out]) rfl rfl rfl
          obtain ⟨Af2, cf2, Ap2, cp2, rfl⟩ := H2.out.lit 7 E W i 0 rfl HI.out.2.2.2.2 rfl rfl rfl
          have HF := Lib.hid (two_stored Hg1.out Hg2.out (by omega) (by omega) (by omega) H1.out H2.out)
          obtain ⟨VX, hVX⟩ : ∃ X, set5 V4 g1 (.int .u32 7) (.slice Af1 m cf1) (.slice Ap1 0 cp1) (.int .i64 n') (.int .i64 0) = X := ⟨_, rfl⟩
          have hz2 : VX.heap[g2]? = some (.cells #[.int .u32 0, .slice none 0 0, .slice none 0 0, .int .i64 0, .int .i64 0] 31 (0, 0)) := by rw [← hVX]; exact ((set5_chg V4 g1 _ _ _ _ _).block g2 (Array.getElem?_eq_some_iff.1 Hg2.out).1 (by omega)).trans Hg2.out
          refine wpAnyH_ready (rs := [8]) (by kernel_rfl) (by simp) ?_
          refine AllReadyH.cons rfl (fun K hK => ?_) AllReadyH.nil
          obtain ⟨f0, f1, f2, f3, f4⟩ := rw5f Hg1.out
          obtain ⟨x0, x1, x2, x3, x4⟩ := rw5 Hg1.out
          go_simp
          change K _ (set5 V4 g1 _ _ _ _ _)
          rw [hVX]
          rw [hVX] at HF
          refine hK.out _ _ trivial (fun hHeld => ?_)
          clear hK K x0 x1 x2 x3 x4 f0 f1 f2 f3 f4 hVX
          try simp only [Act.put, List.setIfInBounds_toArray, List.set_cons_zero, List.set_cons_succ]
          refine wpAnyH_ready (rs := [9]) (by kernel_rfl) (by simp) ?_
          refine AllReadyH.cons rfl (fun K hK => ?_) AllReadyH.nil
          obtain ⟨f0, f1, f2, f3, f4⟩ := rw5f hz2
          obtain ⟨x0, x1, x2, x3, x4⟩ := rw5 hz2
          go_simp
          change K _ (set5 VX g2 _ _ _ _ _)
          refine hK.out _ _ trivial (fun hHeld => ?_)
          clear hK K x0 x1 x2 x3 x4 f0 f1 f2 f3 f4
          try simp only [Act.put, List.setIfInBounds_toArray, List.set_cons_zero, List.set_cons_succ]
          refine wpAnyH_done (by kernel_rfl) ?_ _
          refine NoPanic.normal ?_
          go_wp2_with fail
          go_meet
          case rel => exact ⟨g1, g2, rfl, rfl, by omega, HF.out.1, HF.out.2.1, HF.out.2.2 _ hb4 hb4.size⟩
  case rest =>
    rename World => wd
    obtain ⟨g1, g2, rfl, rfl, hg12, hx, hy, hbc⟩ := hcut
    obtain ⟨hg1, lo1, Af1, cf1, Ap1, cp1, q1, hlo1, hk1, hv1, hq1, hc1, hcm1, ho1, hf1⟩ := hx.lit 7 n' 0 m 0 rfl (by rw [places_length, HM.out]) rfl rfl rfl
    obtain ⟨hg2, lo2, Af2, cf2, Ap2, cp2, q2, hlo2, hk2, hv2, hq2, hc2, hcm2, ho2, hf2⟩ := hy.lit 7 E W i 0 rfl HI.out.2.2.2.2 rfl rfl rfl
    have hrise : Rise ⟨7, places 16 rs, [], n', 0⟩ := by have h1 := of_rise 7 (layB 7 rs); rwa [hof7] at h1
    have hsl : seal_ ⟨7, places 16 rs, [], n', 0⟩ = wholeSeal 7 rs := by
      unfold seal_ wholeSeal
      simp only [places_length, List.length_nil, Nat.add_zero]
      rw [← HN.out.2]
    have hpos : ∀ f ∈ (S.found ⟨7, places 16 rs, [], n', 0⟩), 0 ≤ f.r.seq := fun f hf => by have h1 := (hrise.num f hf).1; omega
    have hlst : lostL ⟨7, places 16 rs, [], n', 0⟩ (seal_ ⟨7, places 16 rs, [], n', 0⟩) = [] := by
      rw [lostL_eq _ hrise]
      exact lost_own _ rfl rfl (by rw [hsl]; exact strange_sub HUP.out (fun f hf => (places_off rs 16 f hf).2.2.2) [] n' 0)
    have hfit : (seal_ ⟨7, places 16 rs, [], n', 0⟩).Fits := seal_fits hrise (by show (7 : Nat) < _; decide) (by show n' < _; omega) (by show (places 16 rs).length + 0 < _; rw [places_length, HM.out]; omega)
    have HS := Lib.hid (And.intro hk1 hv1)
    have HS2 := Lib.hid (And.intro hk2 hv2)
    have HQ := Lib.hid (And.intro hq1 (And.intro ho1 hf1))
    have HSE := Lib.hid (show ∀ V, Below wd.heap.size wd V → Calls Tryd.prog 10 #[.agg #[.int .u32 7, .slice Af1 m cf1, .slice Ap1 0 cp1, .int .i64 n', .int .i64 0]] V fun e w' => e = .returned (seal_ ⟨7, places 16 rs, [], n', 0⟩).val ∧ Below V.heap.size V w' from fun V hV => sseal12 (hv1.on hV) (by show (7 : Nat) < _; decide) (by show n' < _; omega) (by show (places 16 rs).length + 0 ≤ _; rw [places_length, HM.out]; omega) hpos)
    have HLO := Lib.hid (show ∀ V, Below wd.heap.size wd V → Calls Tryd.prog 12 #[.agg #[.int .u32 7, .slice Af1 m cf1, .slice Ap1 0 cp1, .int .i64 n', .int .i64 0], (seal_ ⟨7, places 16 rs, [], n', 0⟩).val] V fun e w' => ∃ rv, e = .returned rv ∧ LostV w' V.heap.size rv [] ∧ Below V.heap.size V w' from fun V hV => by
      have h1 := slost (x := seal_ ⟨7, places 16 rs, [], n', 0⟩) (hv1.on hV) hrise (by show (7 : Nat) < _; decide) (by show n' < _; omega) (by show (places 16 rs).length + 0 ≤ _; rw [places_length, HM.out]; omega) hfit
      rwa [hlst] at h1)
    obtain ⟨sv, hsv⟩ : ∃ sv, (seal_ ⟨7, places 16 rs, [], n', 0⟩).val = sv := ⟨_, rfl⟩
    rw [hsv] at HSE HLO
    have HSV := Lib.hid (And.intro hsv hsl)
    have HG := Lib.hid (And.intro hg12 (And.intro hg1 (And.intro hlo1 (And.intro hg2 hlo2))))
    have HBC := Lib.hid (HBW.out.trans (hbc.mono HBW.out.size))
    have HOB := Lib.hid (own_below HOB.out hbc (Nat.le_refl _))
    have HOA := Lib.hid (own_below HOA.out hbc (Nat.le_refl _))
    clear hx hy hk1 hv1 hq1 ho1 hf1 hk2 hv2 hq2 ho2 hf2 hrise hsl hpos hlst hfit hsv hg12 hg1 hlo1 hg2 hlo2 hbc HA HB HLY
    clear hof7
    go_upto_region 4 with fail
    go_cut [72] from 36 to 71 (fun s72 wx => s72 = .bool false ∧ Below wd.heap.size wd wx)
    case first =>
      as_aux_lemma =>
        refine wp_region_noPanic ?_
        refine wp_region_held_drew (S := fun w' => w'.cell? ⟨g1, 0, none⟩ = some (.int .u32 7) ∧ w'.cell? ⟨g1, 1, none⟩ = some (.slice Af1 m cf1) ∧ w'.cell? ⟨g1, 2, none⟩ = some (.slice Ap1 0 cp1) ∧ w'.cell? ⟨g1, 3, none⟩ = some (.int .i64 n') ∧ w'.cell? ⟨g1, 4, none⟩ = some (.int .i64 0)) (by kernel_rfl) (show _ from rw5 HS.out.1) (fun hHeld => ?_)
        have hb0 : Below wd.heap.size wd wd.drew := (Below.refl _ _).drew
        generalize World.drew wd = V0 at *
        refine wpAnyH_take (i := 0) (v := ?_) opAt_0 (by kernel_rfl) (by kernel_rfl) (by kernel_rfl) (fun _ _ _ h => h) (Or.inl ⟨by rfl, ?_⟩) (by assumption) ?_
        rotate_left
        · (intro w hSw; obtain ⟨y0, y1, y2, y3, y4⟩ := hSw; go_simp; try with_reducible rfl)
        try simp only [Act.put, List.setIfInBounds_toArray, List.set_cons_zero, List.set_cons_succ]
        refine wpAnyH_take (i := 1) (v := ?_) opAt_1 (by kernel_rfl) (by kernel_rfl) (by kernel_rfl) (fun _ _ _ h => h) (Or.inl ⟨by rfl, ?_⟩) (by assumption) ?_
        rotate_left
        · (intro w hSw; obtain ⟨y0, y1, y2, y3, y4⟩ := hSw; go_simp; try with_reducible rfl)
        try simp only [Act.put, List.setIfInBounds_toArray, List.set_cons_zero, List.set_cons_succ]
        refine wpAnyH_take (i := 2) (v := ?_) opAt_2 (by kernel_rfl) (by kernel_rfl) (by kernel_rfl) (fun _ _ _ h => h) (Or.inl ⟨by rfl, ?_⟩) (by assumption) ?_
        rotate_left
        · (intro w hSw; obtain ⟨y0, y1, y2, y3, y4⟩ := hSw; go_simp; try with_reducible rfl)
        try simp only [Act.put, List.setIfInBounds_toArray, List.set_cons_zero, List.set_cons_succ]
        refine wpAnyH_take (i := 3) (v := ?_) opAt_3 (by kernel_rfl) (by kernel_rfl) (by kernel_rfl) (fun _ _ _ h => h) (Or.inl ⟨by rfl, ?_⟩) (by assumption) ?_
        rotate_left
        · (intro w hSw; obtain ⟨y0, y1, y2, y3, y4⟩ := hSw; go_simp; try with_reducible rfl)
        try simp only [Act.put, List.setIfInBounds_toArray, List.set_cons_zero, List.set_cons_succ]
        refine wpAnyH_take (i := 4) (v := ?_) opAt_4 (by kernel_rfl) (by kernel_rfl) (by kernel_rfl) (fun _ _ _ h => h) (Or.inl ⟨by rfl, ?_⟩) (by assumption) ?_
        rotate_left
        · (intro w hSw; obtain ⟨y0, y1, y2, y3, y4⟩ := hSw; go_simp; try with_reducible rfl)
        try simp only [Act.put, List.setIfInBounds_toArray, List.set_cons_zero, List.set_cons_succ]
        refine wpAnyH_take (i := 5) (v := ?_) opAt_5 (by kernel_rfl) (by kernel_rfl) (by kernel_rfl) (fun _ _ _ h => h) (Or.inl ⟨by rfl, ?_⟩) (by assumption) ?_
        rotate_left
        · (intro w hSw; obtain ⟨y0, y1, y2, y3, y4⟩ := hSw; go_simp; try with_reducible rfl)
        try simp only [Act.put, List.setIfInBounds_toArray, List.set_cons_zero, List.set_cons_succ]
        refine wpAnyH_take (i := 6) (v := ?_) opAt_6 (by kernel_rfl) (by kernel_rfl) (by kernel_rfl) (fun _ _ _ h => h) (Or.inl ⟨by rfl, ?_⟩) (by assumption) ?_
        rotate_left
        · (intro w hSw; obtain ⟨y0, y1, y2, y3, y4⟩ := hSw; go_simp; try with_reducible rfl)
        try simp only [Act.put, List.setIfInBounds_toArray, List.set_cons_zero, List.set_cons_succ]
        refine wpAnyH_take (i := 7) (v := ?_) opAt_7 (by kernel_rfl) (by kernel_rfl) (by kernel_rfl) (fun _ _ _ h => h) (Or.inl ⟨by rfl, ?_⟩) (by assumption) ?_
        rotate_left
        · (intro w hSw; obtain ⟨y0, y1, y2, y3, y4⟩ := hSw; go_simp; try with_reducible rfl)
        try simp only [Act.put, List.setIfInBounds_toArray, List.set_cons_zero, List.set_cons_succ]
        refine wpAnyH_take (i := 8) (v := ?_) opAt_8 (by kernel_rfl) (by kernel_rfl) (by kernel_rfl) (fun _ _ _ h => h) (Or.inl ⟨by rfl, ?_⟩) (by assumption) ?_
        rotate_left
        · (intro w hSw; obtain ⟨y0, y1, y2, y3, y4⟩ := hSw; go_simp; try with_reducible rfl)
        try simp only [Act.put, List.setIfInBounds_toArray, List.set_cons_zero, List.set_cons_succ]
        refine wpAnyH_take (i := 9) (v := ?_) opAt_9 (by kernel_rfl) (by kernel_rfl) (by kernel_rfl) (fun _ _ _ h => h) (Or.inl ⟨by rfl, ?_⟩) (by assumption) ?_
        rotate_left
        · (intro w hSw; obtain ⟨y0, y1, y2, y3, y4⟩ := hSw; go_simp; try with_reducible rfl)
        try simp only [Act.put, List.setIfInBounds_toArray, List.set_cons_zero, List.set_cons_succ]
        refine wpAnyH_take (i := 10) (v := ?_) opAt_10 (by kernel_rfl) (by kernel_rfl) (by kernel_rfl) (fun _ _ _ h => h) (Or.inl ⟨by rfl, ?_⟩) (by assumption) ?_
        rotate_left
        · (intro w hSw; obtain ⟨y0, y1, y2, y3, y4⟩ := hSw; go_simp; try with_reducible rfl)
        try simp only [Act.put, List.setIfInBounds_toArray, List.set_cons_zero, List.set_cons_succ]
        refine wpAnyH_take (i := 11) (v := ?_) opAt_11 (by kernel_rfl) (by kernel_rfl) (by kernel_rfl) (fun _ _ _ h => h) (Or.inl ⟨by rfl, ?_⟩) (by assumption) ?_
        rotate_left
        · (intro w hSw; obtain ⟨y0, y1, y2, y3, y4⟩ := hSw; go_simp; try with_reducible rfl)
        try simp only [Act.put, List.setIfInBounds_toArray, List.set_cons_zero, List.set_cons_succ]
        refine wpAnyH_take (i := 12) (v := ?_) opAt_12 (by kernel_rfl) (by kernel_rfl) (by kernel_rfl) (fun _ _ _ h => h) (Or.inl ⟨by rfl, ?_⟩) (by assumption) ?_
        rotate_left
        · (intro w hSw; obtain ⟨y0, y1, y2, y3, y4⟩ := hSw; go_simp; try with_reducible rfl)
        try simp only [Act.put, List.setIfInBounds_toArray, List.set_cons_zero, List.set_cons_succ]
        refine wpAnyH_take (i := 13) (v := ?_) opAt_13 (by kernel_rfl) (by kernel_rfl) (by kernel_rfl) (fun _ _ _ h => h) (Or.inl ⟨by rfl, ?_⟩) (by assumption) ?_
        rotate_left
        · (intro w hSw; obtain ⟨y0, y1, y2, y3, y4⟩ := hSw; go_simp; try with_reducible rfl)
        try simp only [Act.put, List.setIfInBounds_toArray, List.set_cons_zero, List.set_cons_succ]
        refine wpAnyH_take (i := 14) (v := ?_) opAt_14 (by kernel_rfl) (by kernel_rfl) (by kernel_rfl) (fun _ _ _ h => h) (Or.inl ⟨by rfl, ?_⟩) (by assumption) ?_
        rotate_left
        · (intro w hSw; obtain ⟨y0, y1, y2, y3, y4⟩ := hSw; go_simp; try with_reducible rfl)
        try simp only [Act.put, List.setIfInBounds_toArray, List.set_cons_zero, List.set_cons_succ]
        refine wpAnyH_take (i := 15) (v := ?_) opAt_15 (by kernel_rfl) (by kernel_rfl) (by kernel_rfl) (fun _ _ _ h => h) (Or.inl ⟨by rfl, ?_⟩) (by assumption) ?_
        rotate_left
        · (intro w hSw; obtain ⟨y0, y1, y2, y3, y4⟩ := hSw; go_simp; try with_reducible rfl)
        try simp only [Act.put, List.setIfInBounds_toArray, List.set_cons_zero, List.set_cons_succ]
        refine wpAnyH_take (i := 16) (v := ?_) opAt_16 (by kernel_rfl) (by kernel_rfl) (by kernel_rfl) (fun _ _ _ h => h) (Or.inl ⟨by rfl, ?_⟩) (by assumption) ?_
        rotate_left
        · (intro w hSw; obtain ⟨y0, y1, y2, y3, y4⟩ := hSw; go_simp; try with_reducible rfl)
        try simp only [Act.put, List.setIfInBounds_toArray, List.set_cons_zero, List.set_cons_succ]
        refine wpAnyH_take (i := 17) (v := ?_) opAt_17 (by kernel_rfl) (by kernel_rfl) (by kernel_rfl) (fun _ _ _ h => h) (Or.inl ⟨by rfl, ?_⟩) (by assumption) ?_
        rotate_left
        · (intro w hSw; obtain ⟨y0, y1, y2, y3, y4⟩ := hSw; go_simp; try with_reducible rfl)
        try simp only [Act.put, List.setIfInBounds_toArray, List.set_cons_zero, List.set_cons_succ]
        refine wpAnyH_take (i := 18) (v := ?_) opAt_18 (by kernel_rfl) (by kernel_rfl) (by kernel_rfl) (fun _ _ _ h => h) (Or.inl ⟨by rfl, ?_⟩) (by assumption) ?_
        rotate_left
        · (intro w hSw; obtain ⟨y0, y1, y2, y3, y4⟩ := hSw; go_simp; try with_reducible rfl)
        try simp only [Act.put, List.setIfInBounds_toArray, List.set_cons_zero, List.set_cons_succ]
        refine wpAnyH_take (i := 19) (v := ?_) opAt_19 (by kernel_rfl) (by kernel_rfl) (by kernel_rfl) (fun _ _ _ h => h) (Or.inl ⟨by rfl, ?_⟩) (by assumption) ?_
        rotate_left
        · (intro w hSw; obtain ⟨y0, y1, y2, y3, y4⟩ := hSw; go_simp; try with_reducible rfl)
        try simp only [Act.put, List.setIfInBounds_toArray, List.set_cons_zero, List.set_cons_succ]
        refine wpAnyH_take (i := 20) (v := ?_) opAt_20 (by kernel_rfl) (by kernel_rfl) (by kernel_rfl) (fun _ _ _ h => h) (Or.inl ⟨by rfl, ?_⟩) (by assumption) ?_
        rotate_left
        · (intro w hSw; obtain ⟨y0, y1, y2, y3, y4⟩ := hSw; go_simp; try with_reducible rfl)
        try simp only [Act.put, List.setIfInBounds_toArray, List.set_cons_zero, List.set_cons_succ]
        refine wpAnyH_take (i := 21) (v := ?_) opAt_21 (by kernel_rfl) (by kernel_rfl) (by kernel_rfl) (fun _ _ _ h => h) (Or.inl ⟨by rfl, ?_⟩) (by assumption) ?_
        rotate_left
        · (intro w hSw; obtain ⟨y0, y1, y2, y3, y4⟩ := hSw; go_simp; try with_reducible rfl)
        try simp only [Act.put, List.setIfInBounds_toArray, List.set_cons_zero, List.set_cons_succ]
        refine wpAnyH_take (i := 22) (v := ?_) opAt_22 (by kernel_rfl) (by kernel_rfl) (by kernel_rfl) (fun _ _ _ h => h) (Or.inl ⟨by rfl, ?_⟩) (by assumption) ?_
        rotate_left
        · (intro w hSw; obtain ⟨y0, y1, y2, y3, y4⟩ := hSw; go_simp; try with_reducible rfl)
        try simp only [Act.put, List.setIfInBounds_toArray, List.set_cons_zero, List.set_cons_succ]
        refine wpAnyH_take (i := 23) (v := ?_) opAt_23 (by kernel_rfl) (by kernel_rfl) (by kernel_rfl) (fun _ _ _ h => h) (Or.inl ⟨by rfl, ?_⟩) (by assumption) ?_
        rotate_left
        · (intro w hSw; obtain ⟨y0, y1, y2, y3, y4⟩ := hSw; go_simp; try with_reducible rfl)
        try simp only [Act.put, List.setIfInBounds_toArray, List.set_cons_zero, List.set_cons_succ]
        refine wpAnyH_take (i := 24) (v := ?_) opAt_24 (by kernel_rfl) (by kernel_rfl) (by kernel_rfl) (fun _ _ _ h => h) (Or.inl ⟨by rfl, ?_⟩) (by assumption) ?_
        rotate_left
        · (intro w hSw; obtain ⟨y0, y1, y2, y3, y4⟩ := hSw; go_simp; try with_reducible rfl)
        try simp only [Act.put, List.setIfInBounds_toArray, List.set_cons_zero, List.set_cons_succ]
        refine wpAnyH_take (i := 25) (v := ?_) opAt_25 (by kernel_rfl) (by kernel_rfl) (by kernel_rfl) (fun _ _ _ h => h) (Or.inl ⟨by rfl, ?_⟩) (by assumption) ?_
        rotate_left
        · (intro w hSw; obtain ⟨y0, y1, y2, y3, y4⟩ := hSw; go_simp; try with_reducible rfl)
        try simp only [Act.put, List.setIfInBounds_toArray, List.set_cons_zero, List.set_cons_succ]
        refine wpAnyH_take (i := 26) (v := ?_) opAt_26 (by kernel_rfl) (by kernel_rfl) (by kernel_rfl) (fun _ _ _ h => h) (Or.inl ⟨by rfl, ?_⟩) (by assumption) ?_
        rotate_left
        · (intro w hSw; obtain ⟨y0, y1, y2, y3, y4⟩ := hSw; go_simp; try with_reducible rfl)
        try simp only [Act.put, List.setIfInBounds_toArray, List.set_cons_zero, List.set_cons_succ]
        refine wpAnyH_ready (rs := [27]) (by kernel_rfl) (by simp) ?_
        refine AllReadyH.cons rfl (fun K hK => ?_) AllReadyH.nil
        go_simp
        refine (HSE.out V0 hb0).mono ?_
        rintro e V1 ⟨rfl, nb⟩
        have hb1 : Below wd.heap.size wd V1 := hb0.trans (nb.mono hb0.size)
        go_wp2_with fail
        refine hK.out _ _ (show _ from rw5 ((hb1.block g1 (Array.getElem?_eq_some_iff.1 HS.out.1).1).trans HS.out.1)) (fun hHeld => ?_)
        clear hK K
        try simp only [Act.put, List.setIfInBounds_toArray, List.set_cons_zero, List.set_cons_succ]
        refine wpAnyH_ready (rs := [28]) (by kernel_rfl) (by simp) ?_
        refine AllReadyH.cons rfl (fun K hK => ?_) AllReadyH.nil
        go_simp
        refine (HLO.out V1 hb1).mono ?_
        rintro e V2 ⟨rv, rfl, hlv, nb2⟩
        obtain ⟨Al, nl, cl, rfl, hnl, hol⟩ := hlv
        have hnl : 0 = nl := hnl
        subst hnl
        have hb2 : Below wd.heap.size wd V2 := hb1.trans (nb2.mono hb1.size)
        clear hol
        go_wp2_with fail
        refine hK.out _ _ (show _ from rw5 ((hb2.block g1 (Array.getElem?_eq_some_iff.1 HS.out.1).1).trans HS.out.1)) (fun hHeld => ?_)
        clear hK K
        try simp only [Act.put, List.setIfInBounds_toArray, List.set_cons_zero, List.set_cons_succ]
        refine wpAnyH_take (i := 29) (v := ?_) opAt_29 (by kernel_rfl) (by kernel_rfl) (by kernel_rfl) (fun _ _ _ h => h) (Or.inl ⟨by rfl, ?_⟩) (by assumption) ?_
        rotate_left
        · (intro w hSw; obtain ⟨y0, y1, y2, y3, y4⟩ := hSw; go_simp; try with_reducible rfl)
        try simp only [Act.put, List.setIfInBounds_toArray, List.set_cons_zero, List.set_cons_succ]
        refine wpAnyH_take (i := 30) (v := ?_) opAt_30 (by kernel_rfl) (by kernel_rfl) (by kernel_rfl) (fun _ _ _ h => h) (Or.inl ⟨by rfl, ?_⟩) (by assumption) ?_
        rotate_left
        · (intro w hSw; obtain ⟨y0, y1, y2, y3, y4⟩ := hSw; go_simp; try with_reducible rfl)
        try simp only [Act.put, List.setIfInBounds_toArray, List.set_cons_zero, List.set_cons_succ]
        refine wpAnyH_take (i := 31) (v := ?_) opAt_31 (by kernel_rfl) (by kernel_rfl) (by kernel_rfl) (fun _ _ _ h => h) (Or.inl ⟨by rfl, ?_⟩) (by assumption) ?_
        rotate_left
        · (intro w hSw; obtain ⟨y0, y1, y2, y3, y4⟩ := hSw; go_simp; try with_reducible rfl)
        try simp only [Act.put, List.setIfInBounds_toArray, List.set_cons_zero, List.set_cons_succ]
        refine wpAnyH_take (i := 32) (v := ?_) opAt_32 (by kernel_rfl) (by kernel_rfl) (by kernel_rfl) (fun _ _ _ h => h) (Or.inl ⟨by rfl, ?_⟩) (by assumption) ?_
        rotate_left
        · (intro w hSw; obtain ⟨y0, y1, y2, y3, y4⟩ := hSw; go_simp; try with_reducible rfl)
        try simp only [Act.put, List.setIfInBounds_toArray, List.set_cons_zero, List.set_cons_succ]
        refine wpAnyH_take (i := 33) (v := ?_) opAt_33 (by kernel_rfl) (by kernel_rfl) (by kernel_rfl) (fun _ _ _ h => h) (Or.inl ⟨by rfl, ?_⟩) (by assumption) ?_
        rotate_left
        · (intro w hSw; obtain ⟨y0, y1, y2, y3, y4⟩ := hSw; go_simp; try with_reducible rfl)
        try simp only [Act.put, List.setIfInBounds_toArray, List.set_cons_zero, List.set_cons_succ]
        refine wpAnyH_take (i := 34) (v := ?_) opAt_34 (by kernel_rfl) (by kernel_rfl) (by kernel_rfl) (fun _ _ _ h => h) (Or.inl ⟨by rfl, ?_⟩) (by assumption) ?_
        rotate_left
        · (intro w hSw; obtain ⟨y0, y1, y2, y3, y4⟩ := hSw; go_simp; try with_reducible rfl)
        try simp only [Act.put, List.setIfInBounds_toArray, List.set_cons_zero, List.set_cons_succ]
        refine wpAnyH_take (i := 35) (v := ?_) opAt_35 (by kernel_rfl) (by kernel_rfl) (by kernel_rfl) (fun _ _ _ h => h) (Or.inl ⟨by rfl, ?_⟩) (by assumption) ?_
        rotate_left
        · (intro w hSw; obtain ⟨y0, y1, y2, y3, y4⟩ := hSw; go_simp; try with_reducible rfl)
        try simp only [Act.put, List.setIfInBounds_toArray, List.set_cons_zero, List.set_cons_succ]
        refine wpAnyH_take (i := 36) (v := ?_) opAt_36 (by kernel_rfl) (by kernel_rfl) (by kernel_rfl) (fun _ _ _ h => h) (Or.inl ⟨by rfl, ?_⟩) (by assumption) ?_
        rotate_left
        · (intro w hSw; obtain ⟨y0, y1, y2, y3, y4⟩ := hSw; go_simp; try with_reducible rfl)
        try simp only [Act.put, List.setIfInBounds_toArray, List.set_cons_zero, List.set_cons_succ]
        refine wpAnyH_done (by kernel_rfl) ?_ _
        refine NoPanic.normal ?_
        go_wp2_with fail
        go_meet
        case rel => exact ⟨rfl, hb2⟩
    case rest =>
      obtain ⟨rfl, hb4⟩ := hcut
      have HB4 := Lib.hid hb4
      have HQL := Lib.hid (show q1.length = m by have h1 := congrArg List.length HQ.out.1; rw [List.length_map] at h1; rw [h1]; show (places 16 rs).length = m; rw [places_length, HM.out])
      clear hb4
      go_wp2_with fail
      go_loopw [12, 13, 14] (fun wh en ix wr => ∃ j x y : Nat, wh = .int .i64 (x : Int) ∧ en = .int .i64 (y : Int) ∧ ix = .int .i64 (j : Int) ∧ j ≤ m ∧ x ≤ 20 ∧ y ≤ 6000 ∧ Hid (x = min j i ∧ y = endN rs x ∧ Below wd.heap.size wd wr)) (fun _ _ ix _ => m - (RowKit.intOf ix).toNat)
      case atStart => exact ⟨0, 0, 16, rfl, rfl, rfl, Nat.zero_le _, by omega, by omega, Lib.hid ⟨by omega, (endN_zero rs).symm, HB4.out⟩⟩
      case round =>
        as_aux_lemma =>
          obtain ⟨j, x, y, rfl, rfl, rfl, hj, hx20, hy6, hh⟩ := hrel
          rename World => wr
          by_cases hjm : j < m
          · obtain ⟨r, hr⟩ : ∃ r, rs[j]? = some r := ⟨_, List.getElem?_eq_getElem (by rw [HM.out]; exact hjm)⟩
            obtain ⟨s', a, hmk, hla, hsq⟩ := recsP_get (l := l0.take 20) (i := 0) (s := 0) (by rw [HRS.out]; exact hr)
            rw [Nat.zero_add] at hmk
            have hpl := places_endN hr
            have hst := endN_step hr
            have hws := whole_step HI.out.2.1 (show j < rs.length by rw [HM.out]; exact hjm)
            have hen : endN rs (j + 1) ≤ 6000 := by have h1 := endN_mono rs (i := j + 1) (j := rs.length) (by rw [HM.out]; omega); rw [endN_all (Nat.le_refl _), ← HN.out.2] at h1; omega
            obtain ⟨xq, hxq⟩ : ∃ x, q1[j]? = some x := ⟨_, List.getElem?_eq_getElem (by rw [HQL.out]; exact hjm)⟩
            have hx1 : xq.1 = ⟨endN rs j, Rc.sizeN r, r⟩ := by
              have h1 : (q1.map (·.1))[j]? = some xq.1 := by rw [List.getElem?_map, hxq]; rfl
              rw [HQ.out.1] at h1
              exact Option.some.inj (h1.symm.trans hpl)
            have hfq := (HQ.out.2.2 xq (List.mem_of_getElem? hxq)).on hh.out.2.2
            have hof := own_below HQ.out.2.1 hh.out.2.2 (Nat.le_refl _)
            have hoa := own_below HOA.out hh.out.2.2 (Nat.le_refl _)
            obtain ⟨gf, rfl, hgf⟩ := own_at hof (by omega)
            obtain ⟨ga, rfl, hga⟩ := own_at hoa (by omega)
            obtain ⟨⟨fo, fz, fr⟩, kv, vv⟩ := xq
            have hx1 : (Sc.Fd.mk fo fz fr) = Sc.Fd.mk (endN rs j) (Rc.sizeN r) r := hx1
            injection hx1 with e1 e2 e3
            have e3 := e3.symm
            subst e1 e2 e3
            have hkey := hfq.key
            obtain ⟨Av, nv, cv, rfl⟩ : ∃ A n c, vv = .slice A n c := by rcases hfq.val with ⟨h1, _⟩ | ⟨g, h1, _⟩ <;> exact ⟨_, _, _, h1⟩
            have hkr : r.key = UInt8.ofNat j :: List.replicate (a.key % 64) 0 := by rw [hmk]; rfl
            dsimp only at hkey
            rw [hkr] at hkey
            rcases hkey with ⟨_, h1⟩ | ⟨kb, rfl, hkb, hrow⟩
            · cases h1
            obtain ⟨o1, ho1⟩ : ∃ o, o = endN rs j := ⟨_, rfl⟩
            obtain ⟨z, hz⟩ : ∃ o, o = Rc.sizeN r := ⟨_, rfl⟩
            obtain ⟨sq, hsqe⟩ : ∃ o, o = r.seq := ⟨_, rfl⟩
            obtain ⟨kd, hkd⟩ : ∃ o, o = r.kind := ⟨_, rfl⟩
            obtain ⟨sg, hsg⟩ : ∃ o, o = r.seg := ⟨_, rfl⟩
            obtain ⟨of_, hof_⟩ : ∃ o, o = r.off := ⟨_, rfl⟩
            obtain ⟨kn, hkn'⟩ : ∃ o, o = (UInt8.ofNat j :: List.replicate (a.key % 64) 0).length := ⟨_, rfl⟩
            have hkn1 : 0 < kn := by rw [hkn', List.length_cons]; omega
            obtain ⟨o2, ho2⟩ : ∃ o, o = o1 + z := ⟨_, rfl⟩
            have ho26 : o2 ≤ 6000 := by rw [ho2, ho1, hz, ← hst]; exact hen
            have F := fun k (hk : k < 9) => rowF_get (id := 7) hxq k hk
            rw [← ho1, ← hz, ← hkn'] at F
            have c0 := hof.cells (g := gf) rfl (j * 9) (.int .u32 7) (F 0 (by decide))
            have c1 := hof.cells (g := gf) rfl (j * 9 + 1) (.int .u32 (o1 : Int)) (F 1 (by decide))
            have c2 := hof.cells (g := gf) rfl (j * 9 + 2) (.int .i64 (z : Int)) (F 2 (by decide))
            have c3 := hof.cells (g := gf) rfl (j * 9 + 3) (.int .u64 sq) (by rw [hsqe]; exact F 3 (by decide))
            have c4 := hof.cells (g := gf) rfl (j * 9 + 4) (.int .i64 kd) (by rw [hkd]; exact F 4 (by decide))
            have c5 := hof.cells (g := gf) rfl (j * 9 + 5) (.slice (some ⟨kb, 0, none⟩) kn kn) (F 5 (by decide))
            have c6 := hof.cells (g := gf) rfl (j * 9 + 6) (.slice Av nv cv) (F 6 (by decide))
            have c7 := hof.cells (g := gf) rfl (j * 9 + 7) (.int .u32 sg) (by rw [hsg]; exact F 7 (by decide))
            have c8 := hof.cells (g := gf) rfl (j * 9 + 8) (.int .u32 of_) (by rw [hof_]; exact F 8 (by decide))
            rw [addr_add1] at c0 c1 c2 c3 c4 c5 c6 c7 c8
            obtain ⟨p0, p1, p2⟩ := rowL12_get hpl
            have t0 := hoa.cells (g := ga) rfl (j * 3) (.int .i64 (o1 : Int)) (by rw [p0, ho1])
            have t1 := hoa.cells (g := ga) rfl (j * 3 + 1) (.int .i64 (o2 : Int)) (by rw [p1, ho2, ho1, hz])
            have t2 := hoa.cells (g := ga) rfl (j * 3 + 2) (.int .u64 sq) (by rw [p2, hsqe])
            rw [addr_add1] at t0 t1 t2
            have hkc : wr.cell? ⟨kb, 0, none⟩ = some (.int .u8 (j : Int)) := by
              have h1 := cell_of_row wr kb 0 _ _ _ hrow
              rw [h1]
              show some (Value.int .u8 (((UInt8.ofNat j).toNat : Nat) : Int)) = _
              have : (UInt8.ofNat j).toNat = j := by simp; omega
              rw [this]
            obtain ⟨gb, hgb⟩ : ∃ g, wr.heap.size = g := ⟨_, rfl⟩
            obtain ⟨W6, hW6⟩ : ∃ W6, wr.alloc (.cells #[.int .u32 7, .int .u32 (o1 : Int), .int .i64 (z : Int), .int .u64 sq, .int .i64 kd, .slice (some ⟨kb, 0, none⟩) kn kn, .slice Av nv cv, .int .u32 sg, .int .u32 of_] 52) = W6 := ⟨_, rfl⟩
            have hb6 : Below wr.heap.size wr W6 := by rw [← hW6]; exact (Below.refl _ _).alloc (Nat.le_refl _) _
            have hk6 : W6.heap[gb]? = some (.cells #[.int .u32 7, .int .u32 (o1 : Int), .int .i64 (z : Int), .int .u64 sq, .int .i64 kd, .slice (some ⟨kb, 0, none⟩) kn kn, .slice Av nv cv, .int .u32 sg, .int .u32 of_] 52 (0, 0)) := by rw [← hW6, ← hgb]; exact heap_alloc_new wr _
            have b0 := cell_of_row W6 gb 0 _ _ _ hk6
            have b1 := cell_of_row W6 gb 1 _ _ _ hk6
            have b2 := cell_of_row W6 gb 2 _ _ _ hk6
            have b3 := cell_of_row W6 gb 3 _ _ _ hk6
            have b4 := cell_of_row W6 gb 4 _ _ _ hk6
            have b5 := cell_of_row W6 gb 5 _ _ _ hk6
            have b6 := cell_of_row W6 gb 6 _ _ _ hk6
            have b7 := cell_of_row W6 gb 7 _ _ _ hk6
            have b8 := cell_of_row W6 gb 8 _ _ _ hk6
            have s6 : ∀ {g o : Nat} {v : Value}, wr.cell? ⟨g, o, none⟩ = some v → W6.cell? ⟨g, o, none⟩ = some v := fun h => (hb6.cell (p := ⟨_, _, none⟩) (fblock_of_cell12 h)).trans h
            have t0' := s6 t0
            have t1' := s6 t1
            have t2' := s6 t2
            have hkc' := s6 hkc
            have hs1 := rw5 ((hh.out.2.2.block g1 (Array.getElem?_eq_some_iff.1 HS.out.1).1).trans HS.out.1)
            have v1 : IntKind.u32.wrap (o1 : Int) = (o1 : Int) := IntWalk.u32_in _ (by omega)
            have v2 : IntKind.i64.wrap ((o2 : Int) - (o1 : Int)) = (z : Int) := by rw [IntWalk.i64_in _ (by omega)]; omega
            have v3 : IntKind.u8.wrap (j : Int) = (j : Int) := IntWalk.u8_in _ (by omega)
            have HW6 := Lib.hid hW6
            have HB6 := Lib.hid hb6
            have HE := Lib.hid (And.intro ho1 (And.intro hz (And.intro ho2 (And.intro hst hws))))
            obtain ⟨sc0, sc1, sc2, sc3, sc4⟩ := hs1
            clear hW6 hb6 hk6 s6 hr hmk hla hsq hpl hst hws hen hxq hfq hof hoa hkr hrow F p0 p1 p2 ho1 hz hsqe hkd hsg hof_ hkn' ho2
            clear t0 t1 t2 hkc
            go_wp2_with fail
            rw [HW6.out]
            go_quiet (fail)
            obtain ⟨ho1, hz, ho2, hst, hws⟩ := HE.out
            have hen2 : endN rs (j + 1) = o2 := by omega
            rw [hen2] at hws
            clear ho1 hz ho2 hst
            rcases hws with ⟨hle, hmin⟩ | ⟨hle, hmin⟩
            · have hs' : (o2 : Int) ≤ (k : Int) := by omega
              have HMN := Lib.hid hmin
              have HEN := Lib.hid hen2
              clear hmin hen2 hle
              go_wp2_with fail
              go_quiet (fail)
              go_wp2_with fail
              refine ⟨⟨j + 1, j + 1, o2, by push_cast; rfl, rfl, by push_cast; rfl, by omega, by omega, by omega, Lib.hid ⟨HMN.out.symm, HEN.out.symm, ?_⟩⟩, by simp [RowKit.intOf]; omega⟩
              exact below_drewN (hh.out.2.2.trans (HB6.out.mono hh.out.2.2.size)) _
            · have hs' : ¬ ((o2 : Int) ≤ (k : Int)) := by omega
              have HMN := Lib.hid hmin
              clear hmin hen2 hle
              go_wp2_with fail
              refine ⟨⟨j + 1, x, y, rfl, rfl, by push_cast; rfl, by omega, by omega, by omega, Lib.hid ⟨by rw [HMN.out]; exact hh.out.1, hh.out.2.1, ?_⟩⟩, by simp [RowKit.intOf]; omega⟩
              exact below_drewN (hh.out.2.2.trans (HB6.out.mono hh.out.2.2.size)) _
          · obtain rfl : j = m := by omega
            have hx0 : x = i := by have := hh.out.1; have := HI.out.1; have := HM.out; omega
            subst hx0
            have hns : ¬ ((j : Int) < (j : Int)) := by omega
            have HYE := Lib.hid hh.out.2.1
            have hb5 := hh.out.2.2
            have HS := Lib.hid (And.intro ((hb5.block g1 (Array.getElem?_eq_some_iff.1 HS.out.1).1).trans HS.out.1) (HS.out.2.on hb5))
            have hk2 := (hb5.block g2 (Array.getElem?_eq_some_iff.1 HS2.out.1).1).trans HS2.out.1
            have HS2 := Lib.hid (And.intro hk2 (HS2.out.2.on hb5))
            have HB5 := Lib.hid hb5
            clear hk2 hb5 hh
            obtain ⟨fi, hfi⟩ : ∃ x, x = firstOf (places 16 rs) := ⟨_, rfl⟩
            obtain ⟨la, hla⟩ : ∃ x, x = lastF (places 16 rs) := ⟨_, rfl⟩
            obtain rfl : sv = .agg #[.int .u32 7, .int .u32 (n' : Int), .int .u32 (j : Int), .int .u64 (fi : Int), .int .u64 (la : Int)] := by
              rw [← HSV.out.1, hfi, hla]
              unfold seal_ Sl.val
              simp only [places_length, List.length_nil, Nat.add_zero, HM.out]
              rfl
            have HFL := Lib.hid (And.intro hfi hla)
            clear hfi hla
            have hpath : (k < 16 ∧ E = 0 ∧ W = 22) ∨ (16 ≤ k ∧ k = E ∧ W = 0 ∧ y = E) ∨ (16 ≤ k ∧ k ≠ E ∧ W = 22 ∧ y = E) := by
              by_cases h16 : k < 16
              · exact .inl ⟨h16, (HI.out.2.2.1 h16).2⟩
              · obtain ⟨e1, e2⟩ := HI.out.2.2.2.1 (by omega)
                by_cases hkE : k = E
                · rw [if_pos hkE] at e2
                  exact .inr (.inl ⟨by omega, hkE, e2, by rw [HYE.out, e1]⟩)
                · rw [if_neg hkE] at e2
                  exact .inr (.inr ⟨by omega, hkE, e2, by rw [HYE.out, e1]⟩)
            rcases hpath with ⟨q1, rfl, rfl⟩ | ⟨q1, rfl, rfl, rfl⟩ | ⟨q1, q2, rfl, rfl⟩
            · have hs1 : (k : Int) < 16 := by omega
              have hs2 : ¬ ((k : Int) = (y : Int)) := by have h1 := endN_mono rs (Nat.zero_le x); rw [endN_zero, ← HYE.out] at h1; omega
              have HSE := Lib.hid (HSE.out wr HB5.out)
              clear q1
              obtain ⟨d0, d1, d2, d3, d4⟩ := rw5 HS2.out.1
              obtain ⟨x0, x1, x2, x3, x4⟩ := rw5 HS.out.1
              go_wp2_with fail
              clear d0 d1 d2 d3 d4 x0 x1 x2 x3 x4
              refine HSE.out.mono ?_
              rintro e w6 ⟨rfl, nb⟩
              obtain ⟨g7, hg7⟩ : ∃ g, w6.heap.size = g := ⟨_, rfl⟩
              obtain ⟨W7, hW7⟩ : ∃ V, w6.alloc (.cells #[.int .u32 7, .int .u32 (n' : Int), .int .u32 (j : Int), .int .u64 (fi : Int), .int .u64 (la : Int)] 26) = V := ⟨_, rfl⟩
              have hb7 : Below w6.heap.size w6 W7 := by rw [← hW7]; exact (Below.refl _ _).alloc (Nat.le_refl _) _
              have hk7 : W7.heap[g7]? = some (.cells #[.int .u32 7, .int .u32 (n' : Int), .int .u32 (j : Int), .int .u64 (fi : Int), .int .u64 (la : Int)] 26 (0, 0)) := by rw [← hW7, ← hg7]; exact heap_alloc_new w6 _
              have nb7 : Below wr.heap.size wr W7 := nb.trans (hb7.mono nb.size)
              have HS2 := Lib.hid (And.intro ((nb7.block g2 (Array.getElem?_eq_some_iff.1 HS2.out.1).1).trans HS2.out.1) (HS2.out.2.on nb7))
              have HB7 := Lib.hid (HB5.out.trans (nb7.mono HB5.out.size))
              have HOA7 := Lib.hid (own_below HOA.out HB7.out (Nat.le_refl _))
              have HK7 := Lib.hid hk7
              have HW7 := Lib.hid hW7
              clear nb hb7 hk7 hW7 nb7
              go_upto_region 23 with fail
              rw [HW7.out]
              go_cut [208] from 157 to 207 (fun s208 wx => s208 = .bool false ∧ Below W7.heap.size W7 wx)
              case first =>
                as_aux_lemma =>
                  obtain ⟨d0, d1, d2, d3, d4⟩ := rw5 HS2.out.1
                  obtain ⟨e0, e1, e2, e3, e4⟩ := rw5 HK7.out
                  have v1 : IntKind.u32.wrap (n' : Int) = (n' : Int) := IntWalk.u32_in _ (by omega)
                  have v2 : IntKind.i64.wrap (j : Int) = (j : Int) := IntWalk.i64_in _ (by omega)
                  by_cases hj0 : 0 < j
                  · have hj0' : (0 : Int) < (j : Int) := by omega
                    obtain ⟨ga, rfl, hga⟩ := own_at HOA7.out hj0
                    obtain ⟨jm, hjm⟩ : ∃ jm, jm + 1 = j := ⟨j - 1, by omega⟩
                    have v3 : IntKind.i64.wrap ((j : Int) - 1) = (jm : Int) := by rw [IntWalk.i64_in _ (by omega)]; omega
                    have hjm' : jm < j := by omega
                    have hfp := fi_la HUP.out HM.out hjm
                    rw [← HFL.out.1, ← HFL.out.2] at hfp
                    have p0 := HOA7.out.cells (g := ga) rfl 2 (.int .u64 (fi : Int)) hfp.1
                    have p1 := HOA7.out.cells (g := ga) rfl (jm * 3 + 2) (.int .u64 (la : Int)) hfp.2
                    rw [addr_add1] at p0 p1
                    clear hfp hga hjm
                    go_quiet (fail)
                    go_wp2_with fail
                    go_meet
                    case rel => exact ⟨rfl, below_drewN (Below.refl _ _) _⟩
                  · have hj0' : ¬ ((0 : Int) < (j : Int)) := by omega
                    go_quiet (fail)
                    go_wp2_with fail
                    go_meet
                    case rel => exact ⟨rfl, below_drewN (Below.refl _ _) _⟩
              case rest =>
                rename World => wz
                obtain ⟨rfl, hb8⟩ := hcut
                have HB8 := Lib.hid (HB7.out.trans (hb8.mono HB7.out.size))
                have HBz := Lib.hid (HBC.out.trans (HB8.out.mono HBC.out.size))
                have hoz := own_below HOB.out HB8.out (Nat.le_refl _)
                have HOf := Lib.hid (sof (.slice Ab n' cb) (layB 7 rs) ot wz ⟨_, _, by rw [← HN.out.1], by rw [← HN.out.1]; exact hcb, Rd.of_own hoz⟩ (by rw [← HN.out.1]; omega) (by omega) (HT.out.on HBz.out))
                clear hb8 hoz
                go_wp2_with fail
                refine HOf.out.mono ?_
                rintro e wy ⟨rv, rfl, hsv, nb⟩
                by_cases ho7 : ot = 7
                · subst ho7
                  rw [of_all HID.out HUP.out HRN.out HN.out.2] at hsv
                  obtain ⟨Af3, cf3, Ap3, cp3, q3, rfl, _⟩ := hsv.lit 7 n' 0 j 0 rfl (by rw [places_length, HM.out]) rfl rfl rfl
                  obtain ⟨g9, hg9⟩ : ∃ g, wy.heap.size = g := ⟨_, rfl⟩
                  obtain ⟨W9, hW9⟩ : ∃ V, wy.alloc (.cells #[.int .u32 7, .slice Af3 j cf3, .slice Ap3 0 cp3, .int .i64 (n' : Int), .int .i64 0] 31) = V := ⟨_, rfl⟩
                  have hb9 : Below wy.heap.size wy W9 := by rw [← hW9]; exact (Below.refl _ _).alloc (Nat.le_refl _) _
                  have HB9 := Lib.hid ((HBz.out.trans (nb.mono HBz.out.size)).trans (hb9.mono (Nat.le_trans HBz.out.size nb.size)))
                  have HKW := Lib.hid (knows12 W9 (HT.out.on HB9.out))
                  have HW9 := Lib.hid hW9
                  clear hb9 hW9 nb hsv
                  go_wp2_with fail
                  rw [HW9.out]
                  refine HKW.out.mono ?_
                  rintro e wf ⟨rfl, nb⟩
                  go_wp2_with fail
                  go_ret
                  exact ⟨rfl, HB9.out.trans (nb.mono HB9.out.size)⟩
                · have hso : of ot (layB 7 rs) = ⟨ot, [], [], 0, 23⟩ := of_other 7 ot HID.out (fun e => ho7 e.symm) (runsL rs)
                  rw [hso] at hsv
                  obtain ⟨Af3, cf3, Ap3, cp3, q3, rfl, _⟩ := hsv.lit ot 0 23 0 0 rfl rfl rfl rfl rfl
                  obtain ⟨g9, hg9⟩ : ∃ g, wy.heap.size = g := ⟨_, rfl⟩
                  obtain ⟨W9, hW9⟩ : ∃ V, wy.alloc (.cells #[.int .u32 (ot : Int), .slice Af3 0 cf3, .slice Ap3 0 cp3, .int .i64 0, .int .i64 23] 31) = V := ⟨_, rfl⟩
                  have hb9 : Below wy.heap.size wy W9 := by rw [← hW9]; exact (Below.refl _ _).alloc (Nat.le_refl _) _
                  have hk9 : W9.heap[g9]? = some (.cells #[.int .u32 (ot : Int), .slice Af3 0 cf3, .slice Ap3 0 cp3, .int .i64 0, .int .i64 23] 31 (0, 0)) := by rw [← hW9, ← hg9]; exact heap_alloc_new wy _
                  have HB9 := Lib.hid ((HBz.out.trans (nb.mono HBz.out.size)).trans (hb9.mono (Nat.le_trans HBz.out.size nb.size)))
                  have HKW := Lib.hid (knows12 W9 (HT.out.on HB9.out))
                  have HW9 := Lib.hid hW9
                  obtain ⟨z0, z1, z2, z3, z4⟩ := rw5 hk9
                  have ho7' : ¬ ((ot : Int) = 7) := by omega
                  clear hb9 hW9 nb hsv hk9 hso
                  go_wp2_with fail
                  rw [HW9.out]
                  refine HKW.out.mono ?_
                  rintro e wf ⟨rfl, nb⟩
                  go_wp2_with fail
                  go_ret
                  exact ⟨rfl, HB9.out.trans (nb.mono HB9.out.size)⟩
            · have hs1 : ¬ ((y : Int) < 16) := by omega
              have HSE := Lib.hid (HSE.out wr HB5.out)
              clear q1
              obtain ⟨d0, d1, d2, d3, d4⟩ := rw5 HS2.out.1
              obtain ⟨x0, x1, x2, x3, x4⟩ := rw5 HS.out.1
              go_wp2_with fail
              clear d0 d1 d2 d3 d4 x0 x1 x2 x3 x4
              refine HSE.out.mono ?_
              rintro e w6 ⟨rfl, nb⟩
              obtain ⟨g7, hg7⟩ : ∃ g, w6.heap.size = g := ⟨_, rfl⟩
              obtain ⟨W7, hW7⟩ : ∃ V, w6.alloc (.cells #[.int .u32 7, .int .u32 (n' : Int), .int .u32 (j : Int), .int .u64 (fi : Int), .int .u64 (la : Int)] 26) = V := ⟨_, rfl⟩
              have hb7 : Below w6.heap.size w6 W7 := by rw [← hW7]; exact (Below.refl _ _).alloc (Nat.le_refl _) _
              have hk7 : W7.heap[g7]? = some (.cells #[.int .u32 7, .int .u32 (n' : Int), .int .u32 (j : Int), .int .u64 (fi : Int), .int .u64 (la : Int)] 26 (0, 0)) := by rw [← hW7, ← hg7]; exact heap_alloc_new w6 _
              have nb7 : Below wr.heap.size wr W7 := nb.trans (hb7.mono nb.size)
              have HS2 := Lib.hid (And.intro ((nb7.block g2 (Array.getElem?_eq_some_iff.1 HS2.out.1).1).trans HS2.out.1) (HS2.out.2.on nb7))
              have HB7 := Lib.hid (HB5.out.trans (nb7.mono HB5.out.size))
              have HOA7 := Lib.hid (own_below HOA.out HB7.out (Nat.le_refl _))
              have HK7 := Lib.hid hk7
              have HW7 := Lib.hid hW7
              clear nb hb7 hk7 hW7 nb7
              go_upto_region 23 with fail
              rw [HW7.out]
              go_cut [208] from 157 to 207 (fun s208 wx => s208 = .bool false ∧ Below W7.heap.size W7 wx)
              case first =>
                as_aux_lemma =>
                  obtain ⟨d0, d1, d2, d3, d4⟩ := rw5 HS2.out.1
                  obtain ⟨e0, e1, e2, e3, e4⟩ := rw5 HK7.out
                  have v1 : IntKind.u32.wrap (n' : Int) = (n' : Int) := IntWalk.u32_in _ (by omega)
                  have v2 : IntKind.i64.wrap (j : Int) = (j : Int) := IntWalk.i64_in _ (by omega)
                  by_cases hj0 : 0 < j
                  · have hj0' : (0 : Int) < (j : Int) := by omega
                    obtain ⟨ga, rfl, hga⟩ := own_at HOA7.out hj0
                    obtain ⟨jm, hjm⟩ : ∃ jm, jm + 1 = j := ⟨j - 1, by omega⟩
                    have v3 : IntKind.i64.wrap ((j : Int) - 1) = (jm : Int) := by rw [IntWalk.i64_in _ (by omega)]; omega
                    have hjm' : jm < j := by omega
                    have hfp := fi_la HUP.out HM.out hjm
                    rw [← HFL.out.1, ← HFL.out.2] at hfp
                    have p0 := HOA7.out.cells (g := ga) rfl 2 (.int .u64 (fi : Int)) hfp.1
                    have p1 := HOA7.out.cells (g := ga) rfl (jm * 3 + 2) (.int .u64 (la : Int)) hfp.2
                    rw [addr_add1] at p0 p1
                    clear hfp hga hjm
                    go_quiet (fail)
                    go_wp2_with fail
                    go_meet
                    case rel => exact ⟨rfl, below_drewN (Below.refl _ _) _⟩
                  · have hj0' : ¬ ((0 : Int) < (j : Int)) := by omega
                    go_quiet (fail)
                    go_wp2_with fail
                    go_meet
                    case rel => exact ⟨rfl, below_drewN (Below.refl _ _) _⟩
              case rest =>
                rename World => wz
                obtain ⟨rfl, hb8⟩ := hcut
                have HB8 := Lib.hid (HB7.out.trans (hb8.mono HB7.out.size))
                have HBz := Lib.hid (HBC.out.trans (HB8.out.mono HBC.out.size))
                have hoz := own_below HOB.out HB8.out (Nat.le_refl _)
                have HOf := Lib.hid (sof (.slice Ab n' cb) (layB 7 rs) ot wz ⟨_, _, by rw [← HN.out.1], by rw [← HN.out.1]; exact hcb, Rd.of_own hoz⟩ (by rw [← HN.out.1]; omega) (by omega) (HT.out.on HBz.out))
                clear hb8 hoz
                go_wp2_with fail
                refine HOf.out.mono ?_
                rintro e wy ⟨rv, rfl, hsv, nb⟩
                by_cases ho7 : ot = 7
                · subst ho7
                  rw [of_all HID.out HUP.out HRN.out HN.out.2] at hsv
                  obtain ⟨Af3, cf3, Ap3, cp3, q3, rfl, _⟩ := hsv.lit 7 n' 0 j 0 rfl (by rw [places_length, HM.out]) rfl rfl rfl
                  obtain ⟨g9, hg9⟩ : ∃ g, wy.heap.size = g := ⟨_, rfl⟩
                  obtain ⟨W9, hW9⟩ : ∃ V, wy.alloc (.cells #[.int .u32 7, .slice Af3 j cf3, .slice Ap3 0 cp3, .int .i64 (n' : Int), .int .i64 0] 31) = V := ⟨_, rfl⟩
                  have hb9 : Below wy.heap.size wy W9 := by rw [← hW9]; exact (Below.refl _ _).alloc (Nat.le_refl _) _
                  have HB9 := Lib.hid ((HBz.out.trans (nb.mono HBz.out.size)).trans (hb9.mono (Nat.le_trans HBz.out.size nb.size)))
                  have HKW := Lib.hid (knows12 W9 (HT.out.on HB9.out))
                  have HW9 := Lib.hid hW9
                  clear hb9 hW9 nb hsv
                  go_wp2_with fail
                  rw [HW9.out]
                  refine HKW.out.mono ?_
                  rintro e wf ⟨rfl, nb⟩
                  go_wp2_with fail
                  go_ret
                  exact ⟨rfl, HB9.out.trans (nb.mono HB9.out.size)⟩
                · have hso : of ot (layB 7 rs) = ⟨ot, [], [], 0, 23⟩ := of_other 7 ot HID.out (fun e => ho7 e.symm) (runsL rs)
                  rw [hso] at hsv
                  obtain ⟨Af3, cf3, Ap3, cp3, q3, rfl, _⟩ := hsv.lit ot 0 23 0 0 rfl rfl rfl rfl rfl
                  obtain ⟨g9, hg9⟩ : ∃ g, wy.heap.size = g := ⟨_, rfl⟩
                  obtain ⟨W9, hW9⟩ : ∃ V, wy.alloc (.cells #[.int .u32 (ot : Int), .slice Af3 0 cf3, .slice Ap3 0 cp3, .int .i64 0, .int .i64 23] 31) = V := ⟨_, rfl⟩
                  have hb9 : Below wy.heap.size wy W9 := by rw [← hW9]; exact (Below.refl _ _).alloc (Nat.le_refl _) _
                  have hk9 : W9.heap[g9]? = some (.cells #[.int .u32 (ot : Int), .slice Af3 0 cf3, .slice Ap3 0 cp3, .int .i64 0, .int .i64 23] 31 (0, 0)) := by rw [← hW9, ← hg9]; exact heap_alloc_new wy _
                  have HB9 := Lib.hid ((HBz.out.trans (nb.mono HBz.out.size)).trans (hb9.mono (Nat.le_trans HBz.out.size nb.size)))
                  have HKW := Lib.hid (knows12 W9 (HT.out.on HB9.out))
                  have HW9 := Lib.hid hW9
                  obtain ⟨z0, z1, z2, z3, z4⟩ := rw5 hk9
                  have ho7' : ¬ ((ot : Int) = 7) := by omega
                  clear hb9 hW9 nb hsv hk9 hso
                  go_wp2_with fail
                  rw [HW9.out]
                  refine HKW.out.mono ?_
                  rintro e wf ⟨rfl, nb⟩
                  go_wp2_with fail
                  go_ret
                  exact ⟨rfl, HB9.out.trans (nb.mono HB9.out.size)⟩
            · have hs1 : ¬ ((k : Int) < 16) := by omega
              have hs2 : ¬ ((k : Int) = (y : Int)) := by omega
              have HSE := Lib.hid (HSE.out wr HB5.out)
              clear q1
              obtain ⟨d0, d1, d2, d3, d4⟩ := rw5 HS2.out.1
              obtain ⟨x0, x1, x2, x3, x4⟩ := rw5 HS.out.1
              go_wp2_with fail
              clear d0 d1 d2 d3 d4 x0 x1 x2 x3 x4
              refine HSE.out.mono ?_
              rintro e w6 ⟨rfl, nb⟩
              obtain ⟨g7, hg7⟩ : ∃ g, w6.heap.size = g := ⟨_, rfl⟩
              obtain ⟨W7, hW7⟩ : ∃ V, w6.alloc (.cells #[.int .u32 7, .int .u32 (n' : Int), .int .u32 (j : Int), .int .u64 (fi : Int), .int .u64 (la : Int)] 26) = V := ⟨_, rfl⟩
              have hb7 : Below w6.heap.size w6 W7 := by rw [← hW7]; exact (Below.refl _ _).alloc (Nat.le_refl _) _
              have hk7 : W7.heap[g7]? = some (.cells #[.int .u32 7, .int .u32 (n' : Int), .int .u32 (j : Int), .int .u64 (fi : Int), .int .u64 (la : Int)] 26 (0, 0)) := by rw [← hW7, ← hg7]; exact heap_alloc_new w6 _
              have nb7 : Below wr.heap.size wr W7 := nb.trans (hb7.mono nb.size)
              have HS2 := Lib.hid (And.intro ((nb7.block g2 (Array.getElem?_eq_some_iff.1 HS2.out.1).1).trans HS2.out.1) (HS2.out.2.on nb7))
              have HB7 := Lib.hid (HB5.out.trans (nb7.mono HB5.out.size))
              have HOA7 := Lib.hid (own_below HOA.out HB7.out (Nat.le_refl _))
              have HK7 := Lib.hid hk7
              have HW7 := Lib.hid hW7
              clear nb hb7 hk7 hW7 nb7
              go_upto_region 23 with fail
              rw [HW7.out]
              go_cut [208] from 157 to 207 (fun s208 wx => s208 = .bool false ∧ Below W7.heap.size W7 wx)
              case first =>
                as_aux_lemma =>
                  obtain ⟨d0, d1, d2, d3, d4⟩ := rw5 HS2.out.1
                  obtain ⟨e0, e1, e2, e3, e4⟩ := rw5 HK7.out
                  have v1 : IntKind.u32.wrap (n' : Int) = (n' : Int) := IntWalk.u32_in _ (by omega)
                  have v2 : IntKind.i64.wrap (j : Int) = (j : Int) := IntWalk.i64_in _ (by omega)
                  by_cases hj0 : 0 < j
                  · have hj0' : (0 : Int) < (j : Int) := by omega
                    obtain ⟨ga, rfl, hga⟩ := own_at HOA7.out hj0
                    obtain ⟨jm, hjm⟩ : ∃ jm, jm + 1 = j := ⟨j - 1, by omega⟩
                    have v3 : IntKind.i64.wrap ((j : Int) - 1) = (jm : Int) := by rw [IntWalk.i64_in _ (by omega)]; omega
                    have hjm' : jm < j := by omega
                    have hfp := fi_la HUP.out HM.out hjm
                    rw [← HFL.out.1, ← HFL.out.2] at hfp
                    have p0 := HOA7.out.cells (g := ga) rfl 2 (.int .u64 (fi : Int)) hfp.1
                    have p1 := HOA7.out.cells (g := ga) rfl (jm * 3 + 2) (.int .u64 (la : Int)) hfp.2
                    rw [addr_add1] at p0 p1
                    clear hfp hga hjm
                    go_quiet (fail)
                    go_wp2_with fail
                    go_meet
                    case rel => exact ⟨rfl, below_drewN (Below.refl _ _) _⟩
                  · have hj0' : ¬ ((0 : Int) < (j : Int)) := by omega
                    go_quiet (fail)
                    go_wp2_with fail
                    go_meet
                    case rel => exact ⟨rfl, below_drewN (Below.refl _ _) _⟩
              case rest =>
                rename World => wz
                obtain ⟨rfl, hb8⟩ := hcut
                have HB8 := Lib.hid (HB7.out.trans (hb8.mono HB7.out.size))
                have HBz := Lib.hid (HBC.out.trans (HB8.out.mono HBC.out.size))
                have hoz := own_below HOB.out HB8.out (Nat.le_refl _)
                have HOf := Lib.hid (sof (.slice Ab n' cb) (layB 7 rs) ot wz ⟨_, _, by rw [← HN.out.1], by rw [← HN.out.1]; exact hcb, Rd.of_own hoz⟩ (by rw [← HN.out.1]; omega) (by omega) (HT.out.on HBz.out))
                clear hb8 hoz
                go_wp2_with fail
                refine HOf.out.mono ?_
                rintro e wy ⟨rv, rfl, hsv, nb⟩
                by_cases ho7 : ot = 7
                · subst ho7
                  rw [of_all HID.out HUP.out HRN.out HN.out.2] at hsv
                  obtain ⟨Af3, cf3, Ap3, cp3, q3, rfl, _⟩ := hsv.lit 7 n' 0 j 0 rfl (by rw [places_length, HM.out]) rfl rfl rfl
                  obtain ⟨g9, hg9⟩ : ∃ g, wy.heap.size = g := ⟨_, rfl⟩
                  obtain ⟨W9, hW9⟩ : ∃ V, wy.alloc (.cells #[.int .u32 7, .slice Af3 j cf3, .slice Ap3 0 cp3, .int .i64 (n' : Int), .int .i64 0] 31) = V := ⟨_, rfl⟩
                  have hb9 : Below wy.heap.size wy W9 := by rw [← hW9]; exact (Below.refl _ _).alloc (Nat.le_refl _) _
                  have HB9 := Lib.hid ((HBz.out.trans (nb.mono HBz.out.size)).trans (hb9.mono (Nat.le_trans HBz.out.size nb.size)))
                  have HKW := Lib.hid (knows12 W9 (HT.out.on HB9.out))
                  have HW9 := Lib.hid hW9
                  clear hb9 hW9 nb hsv
                  go_wp2_with fail
                  rw [HW9.out]
                  refine HKW.out.mono ?_
                  rintro e wf ⟨rfl, nb⟩
                  go_wp2_with fail
                  go_ret
                  exact ⟨rfl, HB9.out.trans (nb.mono HB9.out.size)⟩
                · have hso : of ot (layB 7 rs) = ⟨ot, [], [], 0, 23⟩ := of_other 7 ot HID.out (fun e => ho7 e.symm) (runsL rs)
                  rw [hso] at hsv
                  obtain ⟨Af3, cf3, Ap3, cp3, q3, rfl, _⟩ := hsv.lit ot 0 23 0 0 rfl rfl rfl rfl rfl
                  obtain ⟨g9, hg9⟩ : ∃ g, wy.heap.size = g := ⟨_, rfl⟩
                  obtain ⟨W9, hW9⟩ : ∃ V, wy.alloc (.cells #[.int .u32 (ot : Int), .slice Af3 0 cf3, .slice Ap3 0 cp3, .int .i64 0, .int .i64 23] 31) = V := ⟨_, rfl⟩
                  have hb9 : Below wy.heap.size wy W9 := by rw [← hW9]; exact (Below.refl _ _).alloc (Nat.le_refl _) _
                  have hk9 : W9.heap[g9]? = some (.cells #[.int .u32 (ot : Int), .slice Af3 0 cf3, .slice Ap3 0 cp3, .int .i64 0, .int .i64 23] 31 (0, 0)) := by rw [← hW9, ← hg9]; exact heap_alloc_new wy _
                  have HB9 := Lib.hid ((HBz.out.trans (nb.mono HBz.out.size)).trans (hb9.mono (Nat.le_trans HBz.out.size nb.size)))
                  have HKW := Lib.hid (knows12 W9 (HT.out.on HB9.out))
                  have HW9 := Lib.hid hW9
                  obtain ⟨z0, z1, z2, z3, z4⟩ := rw5 hk9
                  have ho7' : ¬ ((ot : Int) = 7) := by omega
                  clear hb9 hW9 nb hsv hk9 hso
                  go_wp2_with fail
                  rw [HW9.out]
                  refine HKW.out.mono ?_
                  rintro e wf ⟨rfl, nb⟩
                  go_wp2_with fail
                  go_ret
                  exact ⟨rfl, HB9.out.trans (nb.mono HB9.out.size)⟩
end Go.Proofs.YtkpkfgcbccaibaaDoor.ScanAll

