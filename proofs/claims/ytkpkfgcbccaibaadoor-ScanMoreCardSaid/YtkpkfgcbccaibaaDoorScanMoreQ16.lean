/-
  ScanMore, part 16 of what the law's proof leans on: WScanMore.
-/
import Derived.BigQuiet
import Derived.Test.YtkpkfgcbccaibaaDoorScanMoreQ15
import Derived.Test.YtkpkfgcbccaibaaDoorScanMoreQ5
/- WScanMore -/

/-
  ScanMore, walked: what stands behind a whole segment's bytes is found behind what was found.
-/
set_option linter.unusedVariables false
set_option linter.unusedSimpArgs false
namespace Go.Proofs.YtkpkfgcbccaibaaDoor.ScanMore
open Go Go.RowKit Go.Proofs.YtkpkfgcbccaibaaDoor Go.Proofs.YtkpkfgcbccaibaaDoor.Sc

set_option maxRecDepth 100000 in
set_option maxHeartbeats 32000000 in
theorem walk (v0 : Value) (l0 : List Pl) (a1 : Int) (w : World) (w0 : Pls w w.heap.size v0 l0) (w1 : (Lit.int .u8 a1).wf = true) (ht : RTab w) :
    Calls Tryd.prog 6 #[v0, .int .u8 a1] w fun e w' => e = .returned (.bool true) ∧ Below w.heap.size w w' := by
  obtain ⟨ct, rfl, hct⟩ : ∃ n : Nat, a1 = (n : Int) ∧ n ≤ 255 := ⟨a1.toNat, by simp only [Lit.wf, Bool.and_eq_true, decide_eq_true_eq] at w1; have h1 : IntKind.u8.min = 0 := rfl; have h2 : IntKind.u8.max = 255 := rfl; omega⟩
  clear w1
  have hab : ∀ a ∈ l0.take 20, a.above < 256 := by
    obtain ⟨A, c, _, _, _, hpl⟩ := w0
    intro a ha
    obtain ⟨i, hi⟩ := List.getElem?_of_mem (List.mem_of_mem_take ha)
    obtain ⟨_, _, _, _, _, _, _, h, _⟩ := hpl i a hi
    omega
  have hl20 : (l0.take 20).length ≤ 20 := by rw [List.length_take]; omega
  obtain ⟨rs, hrs⟩ : ∃ rs, recsP 0 0 (l0.take 20) = rs := ⟨_, rfl⟩
  have hup : Up 0 rs := by rw [← hrs]; exact recsP_up _ 0 0 0 hab (Int.le_refl _) (by omega)
  have hrl : rs.length = (l0.take 20).length := by rw [← hrs, recsP_len]
  have hrn : (runsL rs).length ≤ 5800 := by have := runsP_len (l0.take 20) 0 0; rw [hrs] at this; omega
  have hid7 : Hd.mayB ((1 : Nat) : Int) 7 = true := by decide
  have HLY := Lib.hid (slays w0)
  rw [hrs] at HLY
  have HT := Lib.hid ht
  have HRS := Lib.hid hrs
  have HUP := Lib.hid hup
  have HRN := Lib.hid hrn
  have HID := Lib.hid hid7
  obtain ⟨m, hm⟩ : ∃ m, m = (l0.take 20).length := ⟨_, rfl⟩
  rw [← hm] at HLY hrl hl20
  have HAB := Lib.hid hab
  have hm20 : m ≤ 20 := hl20
  have HM := Lib.hid hrl
  obtain ⟨n, hn⟩ : ∃ n, n = (layB 7 rs).length := ⟨_, rfl⟩
  have hn16 : n = 16 + (runsL rs).length := by rw [hn, layB_length]
  have hn6 : 16 ≤ n ∧ n ≤ 6000 := by omega
  have HN := Lib.hid (And.intro hn hn16)
  clear hab hrs hup hrn hid7 hm hrl hl20 hn hn16 ht w0
  go_enter Tryd.func6, Tryd.ntmps6
  go_wp2_with fail
  refine HLY.out.mono ?_
  rintro e w2 ⟨vb, va, n', rfl, hob, hn', hoa, hbw⟩
  rw [← HN.out.1] at hn'
  subst hn'
  obtain ⟨Ab, cb, rfl, hcb, hcbm, _⟩ := own_slice hob
  obtain ⟨Aa, ca, rfl, hca, _, _⟩ := own_slice hoa
  have HOB := Lib.hid hob
  have HOA := Lib.hid hoa
  have HBW := Lib.hid hbw
  clear hob hoa hbw
  obtain ⟨k, hk⟩ : ∃ k, k = ct % (m + 1) := ⟨_, rfl⟩
  have hkm : k ≤ m := by have := Nat.mod_lt ct (show 0 < m + 1 by omega); omega
  have u2 : IntKind.i64.wrap ((m : Int) + 1) = (m : Int) + 1 := IntWalk.i64_in _ (by omega)
  have u3 : (ct : Int) % ((m : Int) + 1) = (k : Int) := by rw [hk]; push_cast; rfl
  obtain ⟨en, hen⟩ : ∃ en, en = endN rs k := ⟨_, rfl⟩
  have hen6 : 16 ≤ en ∧ en ≤ n' := by
    have h1 := endN_mono rs (Nat.zero_le k)
    have h2 := endN_mono rs (i := k) (j := rs.length) (by rw [HM.out]; exact hkm)
    rw [endN_zero, ← hen] at h1
    rw [endN_all (Nat.le_refl _), ← HN.out.2, ← hen] at h2
    exact ⟨h1, h2⟩
  have HEN := Lib.hid hen
  clear hk hen
  go_upto_if 28 with fail
  simp only [u3]
  go_cut [8] from 28 to 34 (fun s8 wx => s8 = .int .i64 (en : Int) ∧ wx = w2)
  case first =>
    as_aux_lemma =>
      by_cases hk0 : 0 < k
      · have hk0' : (0 : Int) < (k : Int) := by omega
        obtain ⟨ga, rfl, hga⟩ := own_at HOA.out (by omega)
        obtain ⟨km, hkm'⟩ : ∃ km, km + 1 = k := ⟨k - 1, by omega⟩
        have v3 : IntKind.i64.wrap ((k : Int) - 1) = (km : Int) := by rw [IntWalk.i64_in _ (by omega)]; omega
        have hkm2 : km < m := by omega
        obtain ⟨r, hr⟩ : ∃ r, rs[km]? = some r := ⟨_, List.getElem?_eq_getElem (by rw [HM.out]; omega)⟩
        have p1 := HOA.out.cells (g := ga) rfl (km * 3 + 1) (.int .i64 (en : Int)) (by rw [(rowL12_get (places_endN hr)).2.1, HEN.out, ← hkm', endN_step hr])
        rw [addr_add1] at p1
        clear hr hkm' hga
        go_wp2_with fail
        go_meet
        case rel => exact ⟨rfl, rfl⟩
      · have hk0' : ¬ ((0 : Int) < (k : Int)) := by omega
        have he : en = 16 := by rw [HEN.out, show k = 0 by omega, endN_zero]
        subst he
        go_wp2_with fail
        go_meet
        case rel => exact ⟨rfl, rfl⟩
  case rest =>
    rename World => w3
    obtain ⟨rfl, rfl⟩ := hcut
    have HA := Lib.hid (show ∀ V, Below w3.heap.size w3 V → Calls Tryd.prog 7 #[.int .u32 7, .slice Ab en cb] V fun e w' => ∃ rv, e = .returned rv ∧ ScanV 52 w' V.heap.size rv ⟨7, places 16 (rs.take k), [], en, 0⟩ ∧ Below V.heap.size V w' from fun V hV => by
      rw [← of_part HID.out HUP.out HRN.out (show k ≤ rs.length by rw [HM.out]; exact hkm) HEN.out]
      have hl : ((layB 7 rs).take en).length = en := by rw [List.length_take, ← HN.out.1]; omega
      exact sof (.slice Ab en cb) ((layB 7 rs).take en) 7 V ⟨_, _, by rw [hl], by rw [hl]; omega, by rw [bvs_take]; exact (Rd.of_own (own_below HOB.out hV (Nat.le_refl _))).take en⟩ (by rw [hl]; omega) (by decide) (HT.out.on (HBW.out.trans (hV.mono HBW.out.size))))
    have HB := Lib.hid (show ∀ V, Below w3.heap.size w3 V → Calls Tryd.prog 7 #[.int .u32 7, .slice Ab n' cb] V fun e w' => ∃ rv, e = .returned rv ∧ ScanV 52 w' V.heap.size rv ⟨7, places 16 rs, [], n', 0⟩ ∧ Below V.heap.size V w' from fun V hV => by
      rw [← of_all HID.out HUP.out HRN.out HN.out.2]
      exact sof (.slice Ab n' cb) (layB 7 rs) 7 V ⟨_, _, by rw [← HN.out.1], by rw [← HN.out.1]; exact hcb, Rd.of_own (own_below HOB.out hV (Nat.le_refl _))⟩ (by rw [← HN.out.1]; omega) (by decide) (HT.out.on (HBW.out.trans (hV.mono HBW.out.size))))
    have hec : en ≤ cb := by omega
    have hpl : (places 16 (rs.take k)).length = k := by rw [places_length, List.length_take, HM.out]; omega
    have HPL := Lib.hid hpl
    clear hpl
    go_upto_region 6 with fail
    go_cut [9, 10] from 35 to 40 (fun s10 s11 wx => ∃ g1 g2 : Nat, s10 = .pointer (some ⟨g1, 0, none⟩) ∧ s11 = .pointer (some ⟨g2, 0, none⟩) ∧ g1 ≠ g2 ∧ AtScan wx w3.heap.size g1 ⟨7, places 16 (rs.take k), [], en, 0⟩ ∧ AtScan wx w3.heap.size g2 ⟨7, places 16 rs, [], n', 0⟩ ∧ Below w3.heap.size w3 wx)
    case first =>
      as_aux_lemma =>
        go_wp2_with fail
        refine (HA.out w3 (Below.refl _ _)).mono ?_
        rintro e V1 ⟨rv1, rfl, hs, nb⟩
        have H1 := Lib.hid (show TellS V1 w3.heap.size rv1 _ from ⟨_, Nat.le_refl _, hs⟩)
        have hb1 : Below w3.heap.size w3 V1 := nb
        clear hs nb
        go_wp2_with fail
        refine (HB.out V1 hb1).mono ?_
        rintro e V2 ⟨rv2, rfl, hs, nb⟩
        have H2 := Lib.hid (show TellS V2 w3.heap.size rv2 _ from ⟨_, hb1.size, hs⟩)
        have H1 := Lib.hid (H1.out.on nb)
        have hb2 : Below w3.heap.size w3 V2 := hb1.trans (nb.mono hb1.size)
        clear hs nb
        obtain ⟨Af1, cf1, Ap1, cp1, rfl⟩ := H1.out.lit 7 en 0 k 0 rfl HPL.out rfl rfl rfl
        obtain ⟨Af2, cf2, Ap2, cp2, rfl⟩ := H2.out.lit 7 n' 0 m 0 rfl (by rw [places_length, HM.out]) rfl rfl rfl
        go_wp2_with fail
        have a1 : Below V2.heap.size V2 (V2.alloc (.cells #[.int .u32 7, .slice Af1 k cf1, .slice Ap1 0 cp1, .int .i64 (en : Int), .int .i64 0] 31)) := (Below.refl _ _).alloc (Nat.le_refl _) _
        have k1 := heap_alloc_new V2 (.cells #[.int .u32 7, .slice Af1 k cf1, .slice Ap1 0 cp1, .int .i64 (en : Int), .int .i64 0] 31)
        have z1 : (V2.alloc (.cells #[.int .u32 7, .slice Af1 k cf1, .slice Ap1 0 cp1, .int .i64 (en : Int), .int .i64 0] 31)).heap.size = V2.heap.size + 1 := by simp
        generalize V2.alloc (.cells #[.int .u32 7, .slice Af1 k cf1, .slice Ap1 0 cp1, .int .i64 (en : Int), .int .i64 0] 31) = V3 at *
        have a2 : Below V3.heap.size V3 (V3.alloc (.cells #[.int .u32 7, .slice Af2 m cf2, .slice Ap2 0 cp2, .int .i64 (n' : Int), .int .i64 0] 31)) := (Below.refl _ _).alloc (Nat.le_refl _) _
        have k2 := heap_alloc_new V3 (.cells #[.int .u32 7, .slice Af2 m cf2, .slice Ap2 0 cp2, .int .i64 (n' : Int), .int .i64 0] 31)
        rw [z1] at k2
        generalize V3.alloc (.cells #[.int .u32 7, .slice Af2 m cf2, .slice Ap2 0 cp2, .int .i64 (n' : Int), .int .i64 0] 31) = V4 at *
        have hb3 := hb2.trans (a1.mono hb2.size)
        have hb4 := hb3.trans (a2.mono hb3.size)
        go_meet
        case rel => exact ⟨V2.heap.size, V2.heap.size + 1, rfl, rfl, by omega, AtScan.of_lit ((H1.out.on a1).on a2) hb2.size ((a2.block _ (by omega)).trans k1), AtScan.of_lit ((H2.out.on a1).on a2) (by have := hb2.size; omega) k2, hb4⟩
    case rest =>
      rename World => wd
      obtain ⟨g1, g2, rfl, rfl, hg12, hx, hy, hbc⟩ := hcut
      obtain ⟨hg1, lo1, Af1, cf1, Ap1, cp1, q1, hlo1, hk1, hv1, hq1, hc1, hcm1, ho1, hf1⟩ := hx.lit 7 en 0 k 0 rfl HPL.out rfl rfl rfl
      obtain ⟨hg2, lo2, Af2, cf2, Ap2, cp2, q2, hlo2, hk2, hv2, hq2, hc2, hcm2, ho2, hf2⟩ := hy.lit 7 n' 0 m 0 rfl (by rw [places_length, HM.out]) rfl rfl rfl
      have hrise1 : Rise ⟨7, places 16 (rs.take k), [], en, 0⟩ := by have h1 := of_rise 7 ((layB 7 rs).take en); rwa [of_part HID.out HUP.out HRN.out (show k ≤ rs.length by rw [HM.out]; exact hkm) HEN.out] at h1
      have hrise2 : Rise ⟨7, places 16 rs, [], n', 0⟩ := by have h1 := of_rise 7 (layB 7 rs); rwa [of_all HID.out HUP.out HRN.out HN.out.2] at h1
      obtain ⟨f1, hf1'⟩ : ∃ x, x = firstOf (places 16 (rs.take k)) := ⟨_, rfl⟩
      obtain ⟨l1, hl1'⟩ : ∃ x, x = lastF (places 16 (rs.take k)) := ⟨_, rfl⟩
      obtain ⟨f2, hf2'⟩ : ∃ x, x = firstOf (places 16 rs) := ⟨_, rfl⟩
      obtain ⟨l2, hl2'⟩ : ∃ x, x = lastF (places 16 rs) := ⟨_, rfl⟩
      have hsv1 : (seal_ ⟨7, places 16 (rs.take k), [], en, 0⟩).val = .agg #[.int .u32 7, .int .u32 (en : Int), .int .u32 (k : Int), .int .u64 (f1 : Int), .int .u64 (l1 : Int)] := by
        rw [hf1', hl1']
        unfold seal_ Sl.val
        simp only [HPL.out, List.length_nil, Nat.add_zero]
        rfl
      have hsv2 : (seal_ ⟨7, places 16 rs, [], n', 0⟩).val = .agg #[.int .u32 7, .int .u32 (n' : Int), .int .u32 (m : Int), .int .u64 (f2 : Int), .int .u64 (l2 : Int)] := by
        rw [hf2', hl2']
        unfold seal_ Sl.val
        simp only [places_length, List.length_nil, Nat.add_zero, HM.out]
        rfl
      have hpos1 : ∀ f ∈ (S.found ⟨7, places 16 (rs.take k), [], en, 0⟩), 0 ≤ f.r.seq := fun f hf => by have h1 := (hrise1.num f hf).1; omega
      have hpos2 : ∀ f ∈ (S.found ⟨7, places 16 rs, [], n', 0⟩), 0 ≤ f.r.seq := fun f hf => by have h1 := (hrise2.num f hf).1; omega
      have hfit : (seal_ ⟨7, places 16 rs, [], n', 0⟩).Fits := seal_fits hrise2 (by show (7 : Nat) < _; decide) (by show n' < _; omega) (by show (places 16 rs).length + 0 < _; rw [places_length, HM.out]; omega)
      have hmf := more_facts HUP.out HM.out hkm
      rw [← hf1', ← hl1', ← hf2', ← hl2'] at hmf
      have HS := Lib.hid (And.intro hk1 hv1)
      have HS2 := Lib.hid (And.intro hk2 hv2)
      have HQ := Lib.hid (And.intro hq1 (And.intro ho1 hf1))
      have HQ2 := Lib.hid (And.intro hq2 (And.intro ho2 hf2))
      have HSE1 := Lib.hid (show ∀ V, Below wd.heap.size wd V → Calls Tryd.prog 10 #[.agg #[.int .u32 7, .slice Af1 k cf1, .slice Ap1 0 cp1, .int .i64 (en : Int), .int .i64 0]] V fun e w' => e = .returned (.agg #[.int .u32 7, .int .u32 (en : Int), .int .u32 (k : Int), .int .u64 (f1 : Int), .int .u64 (l1 : Int)]) ∧ Below V.heap.size V w' from fun V hV => by
        rw [← hsv1]
        exact sseal12 (hv1.on hV) (by show (7 : Nat) < _; decide) (by show en < _; omega) (by show (places 16 (rs.take k)).length + 0 ≤ _; rw [HPL.out]; omega) hpos1)
      have HSE2 := Lib.hid (show ∀ V, Below wd.heap.size wd V → Calls Tryd.prog 10 #[.agg #[.int .u32 7, .slice Af2 m cf2, .slice Ap2 0 cp2, .int .i64 (n' : Int), .int .i64 0]] V fun e w' => e = .returned (.agg #[.int .u32 7, .int .u32 (n' : Int), .int .u32 (m : Int), .int .u64 (f2 : Int), .int .u64 (l2 : Int)]) ∧ Below V.heap.size V w' from fun V hV => by
        rw [← hsv2]
        exact sseal12 (hv2.on hV) (by show (7 : Nat) < _; decide) (by show n' < _; omega) (by show (places 16 rs).length + 0 ≤ _; rw [places_length, HM.out]; omega) hpos2)
      have HLO := Lib.hid (show ∀ V, Below wd.heap.size wd V → Calls Tryd.prog 12 #[.agg #[.int .u32 7, .slice Af1 k cf1, .slice Ap1 0 cp1, .int .i64 (en : Int), .int .i64 0], .agg #[.int .u32 7, .int .u32 (n' : Int), .int .u32 (m : Int), .int .u64 (f2 : Int), .int .u64 (l2 : Int)]] V fun e w' => ∃ rv, e = .returned rv ∧ LostV w' V.heap.size rv (if k = m then [] else [(((if k = 0 then f2 else l1 + 1 : Nat) : Int), (l2 : Int))]) ∧ Below V.heap.size V w' from fun V hV => by
        have h1 := slost (x := seal_ ⟨7, places 16 rs, [], n', 0⟩) (hv1.on hV) hrise1 (by show (7 : Nat) < _; decide) (by show en < _; omega) (by show (places 16 (rs.take k)).length + 0 ≤ _; rw [HPL.out]; omega) hfit
        rw [lostL_eq _ hrise1, hsv2] at h1
        by_cases hkm' : k = m
        · rw [more_own HUP.out HM.out hkm' HEN.out HN.out.2] at h1
          rw [if_pos hkm']
          exact h1
        · rw [more_lost HUP.out HM.out (by omega) HEN.out HN.out.2, ← hf2', ← hl1', ← hl2'] at h1
          rw [if_neg hkm']
          exact h1)
      have HMF := Lib.hid hmf
      have HG := Lib.hid (And.intro hg12 (And.intro hg1 (And.intro hlo1 (And.intro hg2 hlo2))))
      have HBC := Lib.hid (HBW.out.trans (hbc.mono HBW.out.size))
      have HQL := Lib.hid (show q1.length = k by have h1 := congrArg List.length HQ.out.1; rw [List.length_map] at h1; rw [h1]; exact HPL.out)
      have HQL2 := Lib.hid (show q2.length = m by have h1 := congrArg List.length HQ2.out.1; rw [List.length_map] at h1; rw [h1]; show (places 16 rs).length = m; rw [places_length, HM.out])
      have HB4 := Lib.hid (Below.refl wd.heap.size wd)
      obtain ⟨d0, d1, d2, d3, d4⟩ := rw5 hk2
      obtain ⟨x0, x1, x2, x3, x4⟩ := rw5 hk1
      clear hx hy hk1 hv1 hq1 ho1 hf1 hk2 hv2 hq2 ho2 hf2 hrise1 hrise2 hsv1 hsv2 hpos1 hpos2 hfit hmf hf1' hl1' hf2' hl2' hg12 hg1 hlo1 hg2 hlo2 hbc HA HB HLY
      go_wp2_with fail
      clear d0 d1 d2 d3 d4 x0 x1 x2 x3 x4
      go_loopw [11] (fun ix wr => ∃ j : Nat, ix = .int .i64 (j : Int) ∧ j ≤ k ∧ Hid (Below wd.heap.size wd wr)) (fun ix _ => k - (RowKit.intOf ix).toNat)
      case atStart => exact ⟨0, rfl, Nat.zero_le _, Lib.hid HB4.out⟩
      case round =>
        as_aux_lemma =>
          obtain ⟨j, rfl, hj, hh⟩ := hrel
          rename World => wr
          by_cases hjk : j < k
          · obtain ⟨r, hr⟩ : ∃ r, rs[j]? = some r := ⟨_, List.getElem?_eq_getElem (by rw [HM.out]; omega)⟩
            have hpl := places_endN hr
            have hjm : j < m := by omega
            have hpk : (places 16 (rs.take k))[j]? = some ⟨endN rs j, Rc.sizeN r, r⟩ := by rw [places_take, List.getElem?_take, if_pos hjk]; exact hpl
            have hen : endN rs j ≤ 6000 := by have h1 := endN_mono rs (i := j) (j := rs.length) (by rw [HM.out]; omega); rw [endN_all (Nat.le_refl _), ← HN.out.2] at h1; omega
            obtain ⟨ga, Ak, nk, ck, Av, nv, cv, rfl, hga, a0, a1, a2, a3, a4, a5, a6, a7, a8, hka, hva⟩ := found_cells (own_below HQ.out.2.1 hh.out (Nat.le_refl _)) (fun x hx => (HQ.out.2.2 x hx).on hh.out) HQ.out.1 (by omega) hpk
            obtain ⟨gb, Bk, mk, bk, Bv, mv, bv, rfl, hgb, b0, b1, b2, b3, b4, b5, b6, b7, b8, hkb, hvb⟩ := found_cells (own_below HQ2.out.2.1 hh.out (Nat.le_refl _)) (fun x hx => (HQ2.out.2.2 x hx).on hh.out) HQ2.out.1 (by omega) hpl
            dsimp only at a0 a1 a2 a3 a4 a5 a6 a7 a8 b0 b1 b2 b3 b4 b5 b6 b7 b8
            have hsm : ∀ V, Below wr.heap.size wr V → Calls Tryd.prog 16 #[.agg #[.int .u64 r.seq, .int .i64 r.kind, .slice Ak nk ck, .slice Av nv cv, .int .u32 r.seg, .int .u32 r.off], .agg #[.int .u64 r.seq, .int .i64 r.kind, .slice Bk mk bk, .slice Bv mv bv, .int .u32 r.seg, .int .u32 r.off]] V fun e w' => e = .returned (.bool true) ∧ Below V.heap.size V w' := fun V hV => by
              have h1 := rsame_b _ _ r r V.heap.size V ⟨_, _, rfl, (hka.on hV).bs, (hva.on hV).bs⟩ ⟨_, _, rfl, (hkb.on hV).bs, (hvb.on hV).bs⟩ (Nat.le_refl _)
              rw [Rc.sameB_self] at h1
              exact h1
            have hk1 := (hh.out.block g1 (Array.getElem?_eq_some_iff.1 HS.out.1).1).trans HS.out.1
            have hk2 := (hh.out.block g2 (Array.getElem?_eq_some_iff.1 HS2.out.1).1).trans HS2.out.1
            obtain ⟨x0, x1, x2, x3, x4⟩ := rw5 hk1
            obtain ⟨y0, y1, y2, y3, y4⟩ := rw5 hk2
            obtain ⟨o1, ho1⟩ : ∃ o, o = endN rs j := ⟨_, rfl⟩
            obtain ⟨z, hz⟩ : ∃ o, o = Rc.sizeN r := ⟨_, rfl⟩
            rw [← ho1] at a1 b1 hen
            rw [← hz] at a2 b2
            have SF : ∀ V, Below wr.heap.size wr V → V.cell? ⟨g1, 0, none⟩ = some (.int .u32 7) ∧ V.cell? ⟨g1, 1, none⟩ = some (.slice (some ⟨ga, 0, none⟩) k cf1) ∧ V.cell? ⟨g1, 2, none⟩ = some (.slice Ap1 0 cp1) ∧ V.cell? ⟨g1, 3, none⟩ = some (.int .i64 (en : Int)) ∧ V.cell? ⟨g1, 4, none⟩ = some (.int .i64 0) ∧ V.cell? ⟨g2, 0, none⟩ = some (.int .u32 7) ∧ V.cell? ⟨g2, 1, none⟩ = some (.slice (some ⟨gb, 0, none⟩) m cf2) ∧ V.cell? ⟨g2, 2, none⟩ = some (.slice Ap2 0 cp2) ∧ V.cell? ⟨g2, 3, none⟩ = some (.int .i64 (n' : Int)) ∧ V.cell? ⟨g2, 4, none⟩ = some (.int .i64 0) ∧ V.cell? ⟨ga, j * 9, none⟩ = some (.int .u32 7) ∧ V.cell? ⟨ga, j * 9 + 1, none⟩ = some (.int .u32 (o1 : Int)) ∧ V.cell? ⟨ga, j * 9 + 2, none⟩ = some (.int .i64 (z : Int)) ∧ V.cell? ⟨ga, j * 9 + 3, none⟩ = some (.int .u64 r.seq) ∧ V.cell? ⟨ga, j * 9 + 4, none⟩ = some (.int .i64 r.kind) ∧ V.cell? ⟨ga, j * 9 + 5, none⟩ = some (.slice Ak nk ck) ∧ V.cell? ⟨ga, j * 9 + 6, none⟩ = some (.slice Av nv cv) ∧ V.cell? ⟨ga, j * 9 + 7, none⟩ = some (.int .u32 r.seg) ∧ V.cell? ⟨ga, j * 9 + 8, none⟩ = some (.int .u32 r.off) ∧ V.cell? ⟨gb, j * 9, none⟩ = some (.int .u32 7) ∧ V.cell? ⟨gb, j * 9 + 1, none⟩ = some (.int .u32 (o1 : Int)) ∧ V.cell? ⟨gb, j * 9 + 2, none⟩ = some (.int .i64 (z : Int)) ∧ V.cell? ⟨gb, j * 9 + 3, none⟩ = some (.int .u64 r.seq) ∧ V.cell? ⟨gb, j * 9 + 4, none⟩ = some (.int .i64 r.kind) ∧ V.cell? ⟨gb, j * 9 + 5, none⟩ = some (.slice Bk mk bk) ∧ V.cell? ⟨gb, j * 9 + 6, none⟩ = some (.slice Bv mv bv) ∧ V.cell? ⟨gb, j * 9 + 7, none⟩ = some (.int .u32 r.seg) ∧ V.cell? ⟨gb, j * 9 + 8, none⟩ = some (.int .u32 r.off) := fun V hV => by
              have mv : ∀ {g o : Nat} {v : Value}, wr.cell? ⟨g, o, none⟩ = some v → V.cell? ⟨g, o, none⟩ = some v := fun h => (hV.cell (p := ⟨_, _, none⟩) (fblock_of_cell12 h)).trans h
              exact ⟨mv x0, mv x1, mv x2, mv x3, mv x4, mv y0, mv y1, mv y2, mv y3, mv y4, mv a0, mv a1, mv a2, mv a3, mv a4, mv a5, mv a6, mv a7, mv a8, mv b0, mv b1, mv b2, mv b3, mv b4, mv b5, mv b6, mv b7, mv b8⟩
            have HSM := Lib.hid hsm
            have HSF := Lib.hid SF
            clear hsm SF hr hpl hpk hka hva hkb hvb hk1 hk2 ho1 hz hga hgb
            clear a0 a1 a2 a3 a4 a5 a6 a7 a8 b0 b1 b2 b3 b4 b5 b6 b7 b8 x0 x1 x2 x3 x4 y0 y1 y2 y3 y4
            generalize r.seq = sq at *
            generalize r.kind = kd at *
            generalize r.seg = sg at *
            generalize r.off = of_ at *
            go_upto_region 12 with fail
            go_cut [112] from 69 to 111 (fun s112 wx => s112 = .bool false ∧ Below wr.heap.size wr wx)
            case first =>
              as_aux_lemma =>
                refine wp_region_noPanic ?_
                have hb0 : Below wr.heap.size wr wr.drew := (Below.refl _ _).drew
                refine wp_region_held_drew (S := fun w' => w'.cell? ⟨g1, 0, none⟩ = some (.int .u32 7) ∧ w'.cell? ⟨g1, 1, none⟩ = some (.slice (some ⟨ga, 0, none⟩) k cf1) ∧ w'.cell? ⟨g1, 2, none⟩ = some (.slice Ap1 0 cp1) ∧ w'.cell? ⟨g1, 3, none⟩ = some (.int .i64 (en : Int)) ∧ w'.cell? ⟨g1, 4, none⟩ = some (.int .i64 0) ∧ w'.cell? ⟨g2, 0, none⟩ = some (.int .u32 7) ∧ w'.cell? ⟨g2, 1, none⟩ = some (.slice (some ⟨gb, 0, none⟩) m cf2) ∧ w'.cell? ⟨g2, 2, none⟩ = some (.slice Ap2 0 cp2) ∧ w'.cell? ⟨g2, 3, none⟩ = some (.int .i64 (n' : Int)) ∧ w'.cell? ⟨g2, 4, none⟩ = some (.int .i64 0) ∧ w'.cell? ⟨ga, j * 9, none⟩ = some (.int .u32 7) ∧ w'.cell? ⟨ga, j * 9 + 1, none⟩ = some (.int .u32 (o1 : Int)) ∧ w'.cell? ⟨ga, j * 9 + 2, none⟩ = some (.int .i64 (z : Int)) ∧ w'.cell? ⟨ga, j * 9 + 3, none⟩ = some (.int .u64 sq) ∧ w'.cell? ⟨ga, j * 9 + 4, none⟩ = some (.int .i64 kd) ∧ w'.cell? ⟨ga, j * 9 + 5, none⟩ = some (.slice Ak nk ck) ∧ w'.cell? ⟨ga, j * 9 + 6, none⟩ = some (.slice Av nv cv) ∧ w'.cell? ⟨ga, j * 9 + 7, none⟩ = some (.int .u32 sg) ∧ w'.cell? ⟨ga, j * 9 + 8, none⟩ = some (.int .u32 of_) ∧ w'.cell? ⟨gb, j * 9, none⟩ = some (.int .u32 7) ∧ w'.cell? ⟨gb, j * 9 + 1, none⟩ = some (.int .u32 (o1 : Int)) ∧ w'.cell? ⟨gb, j * 9 + 2, none⟩ = some (.int .i64 (z : Int)) ∧ w'.cell? ⟨gb, j * 9 + 3, none⟩ = some (.int .u64 sq) ∧ w'.cell? ⟨gb, j * 9 + 4, none⟩ = some (.int .i64 kd) ∧ w'.cell? ⟨gb, j * 9 + 5, none⟩ = some (.slice Bk mk bk) ∧ w'.cell? ⟨gb, j * 9 + 6, none⟩ = some (.slice Bv mv bv) ∧ w'.cell? ⟨gb, j * 9 + 7, none⟩ = some (.int .u32 sg) ∧ w'.cell? ⟨gb, j * 9 + 8, none⟩ = some (.int .u32 of_)) (by kernel_rfl) (show _ from HSF.out _ hb0) (fun hHeld => ?_)
                generalize World.drew wr = V0 at *
                refine wpAnyH_take (i := 0) (v := ?_) opAt_0 (by kernel_rfl) (by kernel_rfl) (by kernel_rfl) (fun _ _ _ h => h) (Or.inl ⟨by rfl, ?_⟩) (by assumption) ?_
                rotate_left
                · (intro w hSw; obtain ⟨s0, s1, s2, s3, s4, s5, s6, s7, s8, s9, s10, s11, s12, s13, s14, s15, s16, s17, s18, s19, s20, s21, s22, s23, s24, s25, s26, s27⟩ := hSw; go_simp; try with_reducible rfl)
                try simp only [Act.put, List.setIfInBounds_toArray, List.set_cons_zero, List.set_cons_succ]
                refine wpAnyH_take (i := 1) (v := ?_) opAt_1 (by kernel_rfl) (by kernel_rfl) (by kernel_rfl) (fun _ _ _ h => h) (Or.inl ⟨by rfl, ?_⟩) (by assumption) ?_
                rotate_left
                · (intro w hSw; obtain ⟨s0, s1, s2, s3, s4, s5, s6, s7, s8, s9, s10, s11, s12, s13, s14, s15, s16, s17, s18, s19, s20, s21, s22, s23, s24, s25, s26, s27⟩ := hSw; go_simp; try with_reducible rfl)
                try simp only [Act.put, List.setIfInBounds_toArray, List.set_cons_zero, List.set_cons_succ]
                refine wpAnyH_take (i := 2) (v := ?_) opAt_2 (by kernel_rfl) (by kernel_rfl) (by kernel_rfl) (fun _ _ _ h => h) (Or.inl ⟨by rfl, ?_⟩) (by assumption) ?_
                rotate_left
                · (intro w hSw; obtain ⟨s0, s1, s2, s3, s4, s5, s6, s7, s8, s9, s10, s11, s12, s13, s14, s15, s16, s17, s18, s19, s20, s21, s22, s23, s24, s25, s26, s27⟩ := hSw; go_simp; try with_reducible rfl)
                try simp only [Act.put, List.setIfInBounds_toArray, List.set_cons_zero, List.set_cons_succ]
                refine wpAnyH_take (i := 3) (v := ?_) opAt_3 (by kernel_rfl) (by kernel_rfl) (by kernel_rfl) (fun _ _ _ h => h) (Or.inl ⟨by rfl, ?_⟩) (by assumption) ?_
                rotate_left
                · (intro w hSw; obtain ⟨s0, s1, s2, s3, s4, s5, s6, s7, s8, s9, s10, s11, s12, s13, s14, s15, s16, s17, s18, s19, s20, s21, s22, s23, s24, s25, s26, s27⟩ := hSw; go_simp; try with_reducible rfl)
                try simp only [Act.put, List.setIfInBounds_toArray, List.set_cons_zero, List.set_cons_succ]
                refine wpAnyH_take (i := 4) (v := ?_) opAt_4 (by kernel_rfl) (by kernel_rfl) (by kernel_rfl) (fun _ _ _ h => h) (Or.inl ⟨by rfl, ?_⟩) (by assumption) ?_
                rotate_left
                · (intro w hSw; obtain ⟨s0, s1, s2, s3, s4, s5, s6, s7, s8, s9, s10, s11, s12, s13, s14, s15, s16, s17, s18, s19, s20, s21, s22, s23, s24, s25, s26, s27⟩ := hSw; go_simp; try with_reducible rfl)
                try simp only [Act.put, List.setIfInBounds_toArray, List.set_cons_zero, List.set_cons_succ]
                refine wpAnyH_take (i := 5) (v := ?_) opAt_5 (by kernel_rfl) (by kernel_rfl) (by kernel_rfl) (fun _ _ _ h => h) (Or.inl ⟨by rfl, ?_⟩) (by assumption) ?_
                rotate_left
                · (intro w hSw; obtain ⟨s0, s1, s2, s3, s4, s5, s6, s7, s8, s9, s10, s11, s12, s13, s14, s15, s16, s17, s18, s19, s20, s21, s22, s23, s24, s25, s26, s27⟩ := hSw; go_simp; try with_reducible rfl)
                try simp only [Act.put, List.setIfInBounds_toArray, List.set_cons_zero, List.set_cons_succ]
                refine wpAnyH_take (i := 6) (v := ?_) opAt_6 (by kernel_rfl) (by kernel_rfl) (by kernel_rfl) (fun _ _ _ h => h) (Or.inl ⟨by rfl, ?_⟩) (by assumption) ?_
                rotate_left
                · (intro w hSw; obtain ⟨s0, s1, s2, s3, s4, s5, s6, s7, s8, s9, s10, s11, s12, s13, s14, s15, s16, s17, s18, s19, s20, s21, s22, s23, s24, s25, s26, s27⟩ := hSw; go_simp; try with_reducible rfl)
                try simp only [Act.put, List.setIfInBounds_toArray, List.set_cons_zero, List.set_cons_succ]
                refine wpAnyH_take (i := 7) (v := ?_) opAt_7 (by kernel_rfl) (by kernel_rfl) (by kernel_rfl) (fun _ _ _ h => h) (Or.inl ⟨by rfl, ?_⟩) (by assumption) ?_
                rotate_left
                · (intro w hSw; obtain ⟨s0, s1, s2, s3, s4, s5, s6, s7, s8, s9, s10, s11, s12, s13, s14, s15, s16, s17, s18, s19, s20, s21, s22, s23, s24, s25, s26, s27⟩ := hSw; go_simp; try with_reducible rfl)
                try simp only [Act.put, List.setIfInBounds_toArray, List.set_cons_zero, List.set_cons_succ]
                refine wpAnyH_take (i := 8) (v := ?_) opAt_8 (by kernel_rfl) (by kernel_rfl) (by kernel_rfl) (fun _ _ _ h => h) (Or.inl ⟨by rfl, ?_⟩) (by assumption) ?_
                rotate_left
                · (intro w hSw; obtain ⟨s0, s1, s2, s3, s4, s5, s6, s7, s8, s9, s10, s11, s12, s13, s14, s15, s16, s17, s18, s19, s20, s21, s22, s23, s24, s25, s26, s27⟩ := hSw; go_simp; try with_reducible rfl)
                try simp only [Act.put, List.setIfInBounds_toArray, List.set_cons_zero, List.set_cons_succ]
                refine wpAnyH_take (i := 9) (v := ?_) opAt_9 (by kernel_rfl) (by kernel_rfl) (by kernel_rfl) (fun _ _ _ h => h) (Or.inl ⟨by rfl, ?_⟩) (by assumption) ?_
                rotate_left
                · (intro w hSw; obtain ⟨s0, s1, s2, s3, s4, s5, s6, s7, s8, s9, s10, s11, s12, s13, s14, s15, s16, s17, s18, s19, s20, s21, s22, s23, s24, s25, s26, s27⟩ := hSw; go_simp; try with_reducible rfl)
                try simp only [Act.put, List.setIfInBounds_toArray, List.set_cons_zero, List.set_cons_succ]
                refine wpAnyH_take (i := 10) (v := ?_) opAt_10 (by kernel_rfl) (by kernel_rfl) (by kernel_rfl) (fun _ _ _ h => h) (Or.inl ⟨by rfl, ?_⟩) (by assumption) ?_
                rotate_left
                · (intro w hSw; obtain ⟨s0, s1, s2, s3, s4, s5, s6, s7, s8, s9, s10, s11, s12, s13, s14, s15, s16, s17, s18, s19, s20, s21, s22, s23, s24, s25, s26, s27⟩ := hSw; go_simp; try with_reducible rfl)
                try simp only [Act.put, List.setIfInBounds_toArray, List.set_cons_zero, List.set_cons_succ]
                refine wpAnyH_take (i := 11) (v := ?_) opAt_11 (by kernel_rfl) (by kernel_rfl) (by kernel_rfl) (fun _ _ _ h => h) (Or.inl ⟨by rfl, ?_⟩) (by assumption) ?_
                rotate_left
                · (intro w hSw; obtain ⟨s0, s1, s2, s3, s4, s5, s6, s7, s8, s9, s10, s11, s12, s13, s14, s15, s16, s17, s18, s19, s20, s21, s22, s23, s24, s25, s26, s27⟩ := hSw; go_simp; try with_reducible rfl)
                try simp only [Act.put, List.setIfInBounds_toArray, List.set_cons_zero, List.set_cons_succ]
                refine wpAnyH_take (i := 12) (v := ?_) opAt_12 (by kernel_rfl) (by kernel_rfl) (by kernel_rfl) (fun _ _ _ h => h) (Or.inl ⟨by rfl, ?_⟩) (by assumption) ?_
                rotate_left
                · (intro w hSw; obtain ⟨s0, s1, s2, s3, s4, s5, s6, s7, s8, s9, s10, s11, s12, s13, s14, s15, s16, s17, s18, s19, s20, s21, s22, s23, s24, s25, s26, s27⟩ := hSw; go_simp; try with_reducible rfl)
                try simp only [Act.put, List.setIfInBounds_toArray, List.set_cons_zero, List.set_cons_succ]
                refine wpAnyH_take (i := 13) (v := ?_) opAt_13 (by kernel_rfl) (by kernel_rfl) (by kernel_rfl) (fun _ _ _ h => h) (Or.inl ⟨by rfl, ?_⟩) (by assumption) ?_
                rotate_left
                · (intro w hSw; obtain ⟨s0, s1, s2, s3, s4, s5, s6, s7, s8, s9, s10, s11, s12, s13, s14, s15, s16, s17, s18, s19, s20, s21, s22, s23, s24, s25, s26, s27⟩ := hSw; go_simp; try with_reducible rfl)
                try simp only [Act.put, List.setIfInBounds_toArray, List.set_cons_zero, List.set_cons_succ]
                refine wpAnyH_take (i := 14) (v := ?_) opAt_14 (by kernel_rfl) (by kernel_rfl) (by kernel_rfl) (fun _ _ _ h => h) (Or.inl ⟨by rfl, ?_⟩) (by assumption) ?_
                rotate_left
                · (intro w hSw; obtain ⟨s0, s1, s2, s3, s4, s5, s6, s7, s8, s9, s10, s11, s12, s13, s14, s15, s16, s17, s18, s19, s20, s21, s22, s23, s24, s25, s26, s27⟩ := hSw; go_simp; try with_reducible rfl)
                try simp only [Act.put, List.setIfInBounds_toArray, List.set_cons_zero, List.set_cons_succ]
                refine wpAnyH_take (i := 15) (v := ?_) opAt_15 (by kernel_rfl) (by kernel_rfl) (by kernel_rfl) (fun _ _ _ h => h) (Or.inl ⟨by rfl, ?_⟩) (by assumption) ?_
                rotate_left
                · (intro w hSw; obtain ⟨s0, s1, s2, s3, s4, s5, s6, s7, s8, s9, s10, s11, s12, s13, s14, s15, s16, s17, s18, s19, s20, s21, s22, s23, s24, s25, s26, s27⟩ := hSw; go_simp; try with_reducible rfl)
                try simp only [Act.put, List.setIfInBounds_toArray, List.set_cons_zero, List.set_cons_succ]
                refine wpAnyH_take (i := 16) (v := ?_) opAt_16 (by kernel_rfl) (by kernel_rfl) (by kernel_rfl) (fun _ _ _ h => h) (Or.inl ⟨by rfl, ?_⟩) (by assumption) ?_
                rotate_left
                · (intro w hSw; obtain ⟨s0, s1, s2, s3, s4, s5, s6, s7, s8, s9, s10, s11, s12, s13, s14, s15, s16, s17, s18, s19, s20, s21, s22, s23, s24, s25, s26, s27⟩ := hSw; go_simp; try with_reducible rfl)
                try simp only [Act.put, List.setIfInBounds_toArray, List.set_cons_zero, List.set_cons_succ]
                refine wpAnyH_take (i := 17) (v := ?_) opAt_17 (by kernel_rfl) (by kernel_rfl) (by kernel_rfl) (fun _ _ _ h => h) (Or.inl ⟨by rfl, ?_⟩) (by assumption) ?_
                rotate_left
                · (intro w hSw; obtain ⟨s0, s1, s2, s3, s4, s5, s6, s7, s8, s9, s10, s11, s12, s13, s14, s15, s16, s17, s18, s19, s20, s21, s22, s23, s24, s25, s26, s27⟩ := hSw; go_simp; try with_reducible rfl)
                try simp only [Act.put, List.setIfInBounds_toArray, List.set_cons_zero, List.set_cons_succ]
                refine wpAnyH_take (i := 18) (v := ?_) opAt_18 (by kernel_rfl) (by kernel_rfl) (by kernel_rfl) (fun _ _ _ h => h) (Or.inl ⟨by rfl, ?_⟩) (by assumption) ?_
                rotate_left
                · (intro w hSw; obtain ⟨s0, s1, s2, s3, s4, s5, s6, s7, s8, s9, s10, s11, s12, s13, s14, s15, s16, s17, s18, s19, s20, s21, s22, s23, s24, s25, s26, s27⟩ := hSw; go_simp; try with_reducible rfl)
                try simp only [Act.put, List.setIfInBounds_toArray, List.set_cons_zero, List.set_cons_succ]
                refine wpAnyH_take (i := 19) (v := ?_) opAt_19 (by kernel_rfl) (by kernel_rfl) (by kernel_rfl) (fun _ _ _ h => h) (Or.inl ⟨by rfl, ?_⟩) (by assumption) ?_
                rotate_left
                · (intro w hSw; obtain ⟨s0, s1, s2, s3, s4, s5, s6, s7, s8, s9, s10, s11, s12, s13, s14, s15, s16, s17, s18, s19, s20, s21, s22, s23, s24, s25, s26, s27⟩ := hSw; go_simp; try with_reducible rfl)
                try simp only [Act.put, List.setIfInBounds_toArray, List.set_cons_zero, List.set_cons_succ]
                refine wpAnyH_take (i := 20) (v := ?_) opAt_20 (by kernel_rfl) (by kernel_rfl) (by kernel_rfl) (fun _ _ _ h => h) (Or.inl ⟨by rfl, ?_⟩) (by assumption) ?_
                rotate_left
                · (intro w hSw; obtain ⟨s0, s1, s2, s3, s4, s5, s6, s7, s8, s9, s10, s11, s12, s13, s14, s15, s16, s17, s18, s19, s20, s21, s22, s23, s24, s25, s26, s27⟩ := hSw; go_simp; try with_reducible rfl)
                try simp only [Act.put, List.setIfInBounds_toArray, List.set_cons_zero, List.set_cons_succ]
                refine wpAnyH_take (i := 21) (v := ?_) opAt_21 (by kernel_rfl) (by kernel_rfl) (by kernel_rfl) (fun _ _ _ h => h) (Or.inl ⟨by rfl, ?_⟩) (by assumption) ?_
                rotate_left
                · (intro w hSw; obtain ⟨s0, s1, s2, s3, s4, s5, s6, s7, s8, s9, s10, s11, s12, s13, s14, s15, s16, s17, s18, s19, s20, s21, s22, s23, s24, s25, s26, s27⟩ := hSw; go_simp; try with_reducible rfl)
                try simp only [Act.put, List.setIfInBounds_toArray, List.set_cons_zero, List.set_cons_succ]
                refine wpAnyH_take (i := 22) (v := ?_) opAt_22 (by kernel_rfl) (by kernel_rfl) (by kernel_rfl) (fun _ _ _ h => h) (Or.inl ⟨by rfl, ?_⟩) (by assumption) ?_
                rotate_left
                · (intro w hSw; obtain ⟨s0, s1, s2, s3, s4, s5, s6, s7, s8, s9, s10, s11, s12, s13, s14, s15, s16, s17, s18, s19, s20, s21, s22, s23, s24, s25, s26, s27⟩ := hSw; go_simp; try with_reducible rfl)
                try simp only [Act.put, List.setIfInBounds_toArray, List.set_cons_zero, List.set_cons_succ]
                refine wpAnyH_take (i := 23) (v := ?_) opAt_23 (by kernel_rfl) (by kernel_rfl) (by kernel_rfl) (fun _ _ _ h => h) (Or.inl ⟨by rfl, ?_⟩) (by assumption) ?_
                rotate_left
                · (intro w hSw; obtain ⟨s0, s1, s2, s3, s4, s5, s6, s7, s8, s9, s10, s11, s12, s13, s14, s15, s16, s17, s18, s19, s20, s21, s22, s23, s24, s25, s26, s27⟩ := hSw; go_simp; try with_reducible rfl)
                try simp only [Act.put, List.setIfInBounds_toArray, List.set_cons_zero, List.set_cons_succ]
                refine wpAnyH_take (i := 24) (v := ?_) opAt_24 (by kernel_rfl) (by kernel_rfl) (by kernel_rfl) (fun _ _ _ h => h) (Or.inl ⟨by rfl, ?_⟩) (by assumption) ?_
                rotate_left
                · (intro w hSw; obtain ⟨s0, s1, s2, s3, s4, s5, s6, s7, s8, s9, s10, s11, s12, s13, s14, s15, s16, s17, s18, s19, s20, s21, s22, s23, s24, s25, s26, s27⟩ := hSw; go_simp; try with_reducible rfl)
                try simp only [Act.put, List.setIfInBounds_toArray, List.set_cons_zero, List.set_cons_succ]
                refine wpAnyH_take (i := 25) (v := ?_) opAt_25 (by kernel_rfl) (by kernel_rfl) (by kernel_rfl) (fun _ _ _ h => h) (Or.inl ⟨by rfl, ?_⟩) (by assumption) ?_
                rotate_left
                · (intro w hSw; obtain ⟨s0, s1, s2, s3, s4, s5, s6, s7, s8, s9, s10, s11, s12, s13, s14, s15, s16, s17, s18, s19, s20, s21, s22, s23, s24, s25, s26, s27⟩ := hSw; go_simp; try with_reducible rfl)
                try simp only [Act.put, List.setIfInBounds_toArray, List.set_cons_zero, List.set_cons_succ]
                refine wpAnyH_take (i := 26) (v := ?_) opAt_26 (by kernel_rfl) (by kernel_rfl) (by kernel_rfl) (fun _ _ _ h => h) (Or.inl ⟨by rfl, ?_⟩) (by assumption) ?_
                rotate_left
                · (intro w hSw; obtain ⟨s0, s1, s2, s3, s4, s5, s6, s7, s8, s9, s10, s11, s12, s13, s14, s15, s16, s17, s18, s19, s20, s21, s22, s23, s24, s25, s26, s27⟩ := hSw; go_simp; try with_reducible rfl)
                try simp only [Act.put, List.setIfInBounds_toArray, List.set_cons_zero, List.set_cons_succ]
                refine wpAnyH_take (i := 27) (v := ?_) opAt_27 (by kernel_rfl) (by kernel_rfl) (by kernel_rfl) (fun _ _ _ h => h) (Or.inl ⟨by rfl, ?_⟩) (by assumption) ?_
                rotate_left
                · (intro w hSw; obtain ⟨s0, s1, s2, s3, s4, s5, s6, s7, s8, s9, s10, s11, s12, s13, s14, s15, s16, s17, s18, s19, s20, s21, s22, s23, s24, s25, s26, s27⟩ := hSw; go_simp; try with_reducible rfl)
                try simp only [Act.put, List.setIfInBounds_toArray, List.set_cons_zero, List.set_cons_succ]
                refine wpAnyH_take (i := 28) (v := ?_) opAt_28 (by kernel_rfl) (by kernel_rfl) (by kernel_rfl) (fun _ _ _ h => h) (Or.inl ⟨by rfl, ?_⟩) (by assumption) ?_
                rotate_left
                · (intro w hSw; obtain ⟨s0, s1, s2, s3, s4, s5, s6, s7, s8, s9, s10, s11, s12, s13, s14, s15, s16, s17, s18, s19, s20, s21, s22, s23, s24, s25, s26, s27⟩ := hSw; go_simp; try with_reducible rfl)
                try simp only [Act.put, List.setIfInBounds_toArray, List.set_cons_zero, List.set_cons_succ]
                refine wpAnyH_take (i := 29) (v := ?_) opAt_29 (by kernel_rfl) (by kernel_rfl) (by kernel_rfl) (fun _ _ _ h => h) (Or.inl ⟨by rfl, ?_⟩) (by assumption) ?_
                rotate_left
                · (intro w hSw; obtain ⟨s0, s1, s2, s3, s4, s5, s6, s7, s8, s9, s10, s11, s12, s13, s14, s15, s16, s17, s18, s19, s20, s21, s22, s23, s24, s25, s26, s27⟩ := hSw; go_simp; try with_reducible rfl)
                try simp only [Act.put, List.setIfInBounds_toArray, List.set_cons_zero, List.set_cons_succ]
                refine wpAnyH_take (i := 30) (v := ?_) opAt_30 (by kernel_rfl) (by kernel_rfl) (by kernel_rfl) (fun _ _ _ h => h) (Or.inl ⟨by rfl, ?_⟩) (by assumption) ?_
                rotate_left
                · (intro w hSw; obtain ⟨s0, s1, s2, s3, s4, s5, s6, s7, s8, s9, s10, s11, s12, s13, s14, s15, s16, s17, s18, s19, s20, s21, s22, s23, s24, s25, s26, s27⟩ := hSw; go_simp; try with_reducible rfl)
                try simp only [Act.put, List.setIfInBounds_toArray, List.set_cons_zero, List.set_cons_succ]
                refine wpAnyH_take (i := 31) (v := ?_) opAt_31 (by kernel_rfl) (by kernel_rfl) (by kernel_rfl) (fun _ _ _ h => h) (Or.inl ⟨by rfl, ?_⟩) (by assumption) ?_
                rotate_left
                · (intro w hSw; obtain ⟨s0, s1, s2, s3, s4, s5, s6, s7, s8, s9, s10, s11, s12, s13, s14, s15, s16, s17, s18, s19, s20, s21, s22, s23, s24, s25, s26, s27⟩ := hSw; go_simp; try with_reducible rfl)
                try simp only [Act.put, List.setIfInBounds_toArray, List.set_cons_zero, List.set_cons_succ]
                refine wpAnyH_take (i := 32) (v := ?_) opAt_32 (by kernel_rfl) (by kernel_rfl) (by kernel_rfl) (fun _ _ _ h => h) (Or.inl ⟨by rfl, ?_⟩) (by assumption) ?_
                rotate_left
                · (intro w hSw; obtain ⟨s0, s1, s2, s3, s4, s5, s6, s7, s8, s9, s10, s11, s12, s13, s14, s15, s16, s17, s18, s19, s20, s21, s22, s23, s24, s25, s26, s27⟩ := hSw; go_simp; try with_reducible rfl)
                try simp only [Act.put, List.setIfInBounds_toArray, List.set_cons_zero, List.set_cons_succ]
                refine wpAnyH_take (i := 33) (v := ?_) opAt_33 (by kernel_rfl) (by kernel_rfl) (by kernel_rfl) (fun _ _ _ h => h) (Or.inl ⟨by rfl, ?_⟩) (by assumption) ?_
                rotate_left
                · (intro w hSw; obtain ⟨s0, s1, s2, s3, s4, s5, s6, s7, s8, s9, s10, s11, s12, s13, s14, s15, s16, s17, s18, s19, s20, s21, s22, s23, s24, s25, s26, s27⟩ := hSw; go_simp; try with_reducible rfl)
                try simp only [Act.put, List.setIfInBounds_toArray, List.set_cons_zero, List.set_cons_succ]
                refine wpAnyH_take (i := 34) (v := ?_) opAt_34 (by kernel_rfl) (by kernel_rfl) (by kernel_rfl) (fun _ _ _ h => h) (Or.inl ⟨by rfl, ?_⟩) (by assumption) ?_
                rotate_left
                · (intro w hSw; obtain ⟨s0, s1, s2, s3, s4, s5, s6, s7, s8, s9, s10, s11, s12, s13, s14, s15, s16, s17, s18, s19, s20, s21, s22, s23, s24, s25, s26, s27⟩ := hSw; go_simp; try with_reducible rfl)
                try simp only [Act.put, List.setIfInBounds_toArray, List.set_cons_zero, List.set_cons_succ]
                refine wpAnyH_take (i := 35) (v := ?_) opAt_35 (by kernel_rfl) (by kernel_rfl) (by kernel_rfl) (fun _ _ _ h => h) (Or.inl ⟨by rfl, ?_⟩) (by assumption) ?_
                rotate_left
                · (intro w hSw; obtain ⟨s0, s1, s2, s3, s4, s5, s6, s7, s8, s9, s10, s11, s12, s13, s14, s15, s16, s17, s18, s19, s20, s21, s22, s23, s24, s25, s26, s27⟩ := hSw; go_simp; try with_reducible rfl)
                try simp only [Act.put, List.setIfInBounds_toArray, List.set_cons_zero, List.set_cons_succ]
                refine wpAnyH_take (i := 36) (v := ?_) opAt_36 (by kernel_rfl) (by kernel_rfl) (by kernel_rfl) (fun _ _ _ h => h) (Or.inl ⟨by rfl, ?_⟩) (by assumption) ?_
                rotate_left
                · (intro w hSw; obtain ⟨s0, s1, s2, s3, s4, s5, s6, s7, s8, s9, s10, s11, s12, s13, s14, s15, s16, s17, s18, s19, s20, s21, s22, s23, s24, s25, s26, s27⟩ := hSw; go_simp; try with_reducible rfl)
                try simp only [Act.put, List.setIfInBounds_toArray, List.set_cons_zero, List.set_cons_succ]
                refine wpAnyH_take (i := 37) (v := ?_) opAt_37 (by kernel_rfl) (by kernel_rfl) (by kernel_rfl) (fun _ _ _ h => h) (Or.inl ⟨by rfl, ?_⟩) (by assumption) ?_
                rotate_left
                · (intro w hSw; obtain ⟨s0, s1, s2, s3, s4, s5, s6, s7, s8, s9, s10, s11, s12, s13, s14, s15, s16, s17, s18, s19, s20, s21, s22, s23, s24, s25, s26, s27⟩ := hSw; go_simp; try with_reducible rfl)
                try simp only [Act.put, List.setIfInBounds_toArray, List.set_cons_zero, List.set_cons_succ]
                refine wpAnyH_take (i := 38) (v := ?_) opAt_38 (by kernel_rfl) (by kernel_rfl) (by kernel_rfl) (fun _ _ _ h => h) (Or.inl ⟨by rfl, ?_⟩) (by assumption) ?_
                rotate_left
                · (intro w hSw; obtain ⟨s0, s1, s2, s3, s4, s5, s6, s7, s8, s9, s10, s11, s12, s13, s14, s15, s16, s17, s18, s19, s20, s21, s22, s23, s24, s25, s26, s27⟩ := hSw; go_simp; try with_reducible rfl)
                try simp only [Act.put, List.setIfInBounds_toArray, List.set_cons_zero, List.set_cons_succ]
                refine wpAnyH_take (i := 39) (v := ?_) opAt_39 (by kernel_rfl) (by kernel_rfl) (by kernel_rfl) (fun _ _ _ h => h) (Or.inl ⟨by rfl, ?_⟩) (by assumption) ?_
                rotate_left
                · (intro w hSw; obtain ⟨s0, s1, s2, s3, s4, s5, s6, s7, s8, s9, s10, s11, s12, s13, s14, s15, s16, s17, s18, s19, s20, s21, s22, s23, s24, s25, s26, s27⟩ := hSw; go_simp; try with_reducible rfl)
                try simp only [Act.put, List.setIfInBounds_toArray, List.set_cons_zero, List.set_cons_succ]
                refine wpAnyH_take (i := 40) (v := ?_) opAt_40 (by kernel_rfl) (by kernel_rfl) (by kernel_rfl) (fun _ _ _ h => h) (Or.inl ⟨by rfl, ?_⟩) (by assumption) ?_
                rotate_left
                · (intro w hSw; obtain ⟨s0, s1, s2, s3, s4, s5, s6, s7, s8, s9, s10, s11, s12, s13, s14, s15, s16, s17, s18, s19, s20, s21, s22, s23, s24, s25, s26, s27⟩ := hSw; go_simp; try with_reducible rfl)
                try simp only [Act.put, List.setIfInBounds_toArray, List.set_cons_zero, List.set_cons_succ]
                refine wpAnyH_ready (rs := [41]) (by kernel_rfl) (by simp) ?_
                refine AllReadyH.cons rfl (fun K hK => ?_) AllReadyH.nil
                go_simp
                refine (HSM.out V0 hb0).mono ?_
                rintro e V1 ⟨rfl, nb⟩
                have hb1 : Below wr.heap.size wr V1 := hb0.trans (nb.mono hb0.size)
                go_wp2_with fail
                refine hK.out _ _ (show _ from HSF.out _ hb1) (fun hHeld => ?_)
                clear hK K
                try simp only [Act.put, List.setIfInBounds_toArray, List.set_cons_zero, List.set_cons_succ]
                refine wpAnyH_take (i := 42) (v := ?_) opAt_42 (by kernel_rfl) (by kernel_rfl) (by kernel_rfl) (fun _ _ _ h => h) (Or.inl ⟨by rfl, ?_⟩) (by assumption) ?_
                rotate_left
                · (intro w hSw; obtain ⟨s0, s1, s2, s3, s4, s5, s6, s7, s8, s9, s10, s11, s12, s13, s14, s15, s16, s17, s18, s19, s20, s21, s22, s23, s24, s25, s26, s27⟩ := hSw; go_simp; try with_reducible rfl)
                try simp only [Act.put, List.setIfInBounds_toArray, List.set_cons_zero, List.set_cons_succ]
                refine wpAnyH_take (i := 43) (v := ?_) opAt_43 (by kernel_rfl) (by kernel_rfl) (by kernel_rfl) (fun _ _ _ h => h) (Or.inl ⟨by rfl, ?_⟩) (by assumption) ?_
                rotate_left
                · (intro w hSw; obtain ⟨s0, s1, s2, s3, s4, s5, s6, s7, s8, s9, s10, s11, s12, s13, s14, s15, s16, s17, s18, s19, s20, s21, s22, s23, s24, s25, s26, s27⟩ := hSw; go_simp; try with_reducible rfl)
                try simp only [Act.put, List.setIfInBounds_toArray, List.set_cons_zero, List.set_cons_succ]
                refine wpAnyH_done (by kernel_rfl) ?_ _
                refine NoPanic.normal ?_
                go_wp2_with fail
                go_meet
                case rel => exact ⟨rfl, hb1⟩
            case rest =>
              rename World => wq
              obtain ⟨rfl, hbq⟩ := hcut
              have HBq := Lib.hid (hh.out.trans (hbq.mono hh.out.size))
              clear hbq
              go_wp2_with fail
              exact ⟨⟨j + 1, by push_cast; rfl, by omega, Lib.hid HBq.out⟩, by simp [RowKit.intOf]; omega⟩
          · obtain rfl : k = j := by omega
            have hns : ¬ ((k : Int) < (k : Int)) := by omega
            have hb5 := hh.out
            have hk1 := (hb5.block g1 (Array.getElem?_eq_some_iff.1 HS.out.1).1).trans HS.out.1
            have hk2 := (hb5.block g2 (Array.getElem?_eq_some_iff.1 HS2.out.1).1).trans HS2.out.1
            have HB5 := Lib.hid hb5
            have HSE1 := Lib.hid (show ∀ V, Below wr.heap.size wr V → _ from fun V hV => HSE1.out V (HB5.out.trans (hV.mono HB5.out.size)))
            have HSE2 := Lib.hid (show ∀ V, Below wr.heap.size wr V → _ from fun V hV => HSE2.out V (HB5.out.trans (hV.mono HB5.out.size)))
            obtain ⟨x0, x1, x2, x3, x4⟩ := rw5 hk1
            obtain ⟨y0, y1, y2, y3, y4⟩ := rw5 hk2
            have SF : ∀ V, Below wr.heap.size wr V → V.cell? ⟨g1, 0, none⟩ = some (.int .u32 7) ∧ V.cell? ⟨g1, 1, none⟩ = some (.slice Af1 k cf1) ∧ V.cell? ⟨g1, 2, none⟩ = some (.slice Ap1 0 cp1) ∧ V.cell? ⟨g1, 3, none⟩ = some (.int .i64 (en : Int)) ∧ V.cell? ⟨g1, 4, none⟩ = some (.int .i64 0) ∧ V.cell? ⟨g2, 0, none⟩ = some (.int .u32 7) ∧ V.cell? ⟨g2, 1, none⟩ = some (.slice Af2 m cf2) ∧ V.cell? ⟨g2, 2, none⟩ = some (.slice Ap2 0 cp2) ∧ V.cell? ⟨g2, 3, none⟩ = some (.int .i64 (n' : Int)) ∧ V.cell? ⟨g2, 4, none⟩ = some (.int .i64 0) := fun V hV => by
              have mv : ∀ {g o : Nat} {v : Value}, wr.cell? ⟨g, o, none⟩ = some v → V.cell? ⟨g, o, none⟩ = some v := fun h => (hV.cell (p := ⟨_, _, none⟩) (fblock_of_cell12 h)).trans h
              exact ⟨mv x0, mv x1, mv x2, mv x3, mv x4, mv y0, mv y1, mv y2, mv y3, mv y4⟩
            have HSF := Lib.hid SF
            clear SF hk1 hk2 hb5 x0 x1 x2 x3 x4 y0 y1 y2 y3 y4 hh
            go_upto_region 14 with fail
            go_cut [12, 13] from 113 to 116 (fun s12 s13 wx => ∃ p1 p2 : Nat, s12 = .pointer (some ⟨p1, 0, none⟩) ∧ s13 = .pointer (some ⟨p2, 0, none⟩) ∧ wx.heap[p1]? = some (.cells #[.int .u32 7, .int .u32 (en : Int), .int .u32 (k : Int), .int .u64 (f1 : Int), .int .u64 (l1 : Int)] 26 (0, 0)) ∧ wx.heap[p2]? = some (.cells #[.int .u32 7, .int .u32 (n' : Int), .int .u32 (m : Int), .int .u64 (f2 : Int), .int .u64 (l2 : Int)] 26 (0, 0)) ∧ Below wr.heap.size wr wx)
            case first =>
              as_aux_lemma =>
                refine wp_region_noPanic ?_
                have hb0 : Below wr.heap.size wr wr.drew := (Below.refl _ _).drew
                refine wp_region_held_drew (S := fun w' => w'.cell? ⟨g1, 0, none⟩ = some (.int .u32 7) ∧ w'.cell? ⟨g1, 1, none⟩ = some (.slice Af1 k cf1) ∧ w'.cell? ⟨g1, 2, none⟩ = some (.slice Ap1 0 cp1) ∧ w'.cell? ⟨g1, 3, none⟩ = some (.int .i64 (en : Int)) ∧ w'.cell? ⟨g1, 4, none⟩ = some (.int .i64 0) ∧ w'.cell? ⟨g2, 0, none⟩ = some (.int .u32 7) ∧ w'.cell? ⟨g2, 1, none⟩ = some (.slice Af2 m cf2) ∧ w'.cell? ⟨g2, 2, none⟩ = some (.slice Ap2 0 cp2) ∧ w'.cell? ⟨g2, 3, none⟩ = some (.int .i64 (n' : Int)) ∧ w'.cell? ⟨g2, 4, none⟩ = some (.int .i64 0)) (by kernel_rfl) (show _ from HSF.out _ hb0) (fun hHeld => ?_)
                generalize World.drew wr = V0 at *
                refine wpAnyH_take (i := 0) (v := ?_) opAt_0 (by kernel_rfl) (by kernel_rfl) (by kernel_rfl) (fun _ _ _ h => h) (Or.inl ⟨by rfl, ?_⟩) (by assumption) ?_
                rotate_left
                · (intro w hSw; obtain ⟨x0, x1, x2, x3, x4, y0, y1, y2, y3, y4⟩ := hSw; go_simp; try with_reducible rfl)
                try simp only [Act.put, List.setIfInBounds_toArray, List.set_cons_zero, List.set_cons_succ]
                refine wpAnyH_take (i := 2) (v := ?_) opAt_2 (by kernel_rfl) (by kernel_rfl) (by kernel_rfl) (fun _ _ _ h => h) (Or.inl ⟨by rfl, ?_⟩) (by assumption) ?_
                rotate_left
                · (intro w hSw; obtain ⟨x0, x1, x2, x3, x4, y0, y1, y2, y3, y4⟩ := hSw; go_simp; try with_reducible rfl)
                try simp only [Act.put, List.setIfInBounds_toArray, List.set_cons_zero, List.set_cons_succ]
                refine wpAnyH_ready (rs := [1, 4, 5]) (by kernel_rfl) (by simp) ?_
                refine AllReadyH.cons rfl (fun K hK => ?_) (AllReadyH.cons rfl (fun K hK => ?_) (AllReadyH.cons rfl (fun K hK => ?_) AllReadyH.nil))
                · go_simp
                  refine (HSE1.out V0 hb0).mono ?_
                  rintro e V1 ⟨rfl, nb⟩
                  go_wp2_with fail
                  have hb1 : Below wr.heap.size wr V1 := hb0.trans (nb.mono hb0.size)
                  clear nb
                  refine hK.out _ _ (show _ from HSF.out _ hb1) (fun hHeld => ?_)
                  clear hK K
                  try simp only [Act.put, List.setIfInBounds_toArray, List.set_cons_zero, List.set_cons_succ]
                  refine wpAnyH_ready (rs := [3, 4, 5]) (by kernel_rfl) (by simp) ?_
                  refine AllReadyH.cons rfl (fun K hK => ?_) (AllReadyH.cons rfl (fun K hK => ?_) (AllReadyH.cons rfl (fun K hK => ?_) AllReadyH.nil))
                  · go_simp
                    refine (HSE2.out V1 hb1).mono ?_
                    rintro e V2 ⟨rfl, nb⟩
                    go_wp2_with fail
                    have hb2 : Below wr.heap.size wr V2 := hb1.trans (nb.mono hb1.size)
                    clear nb
                    refine hK.out _ _ (show _ from HSF.out _ hb2) (fun hHeld => ?_)
                    clear hK K
                    try simp only [Act.put, List.setIfInBounds_toArray, List.set_cons_zero, List.set_cons_succ]
                    refine wpAnyH_ready (rs := [4, 5]) (by kernel_rfl) (by simp) ?_
                    refine AllReadyH.cons rfl (fun K hK => ?_) (AllReadyH.cons rfl (fun K hK => ?_) AllReadyH.nil)
                    · go_simp
                      obtain ⟨p1, hp1⟩ : ∃ g, V2.heap.size = g := ⟨_, rfl⟩
                      try rw [hp1]
                      have n0 : (V2.alloc (.cells #[.int .u32 0, .int .u32 0, .int .u32 0, .int .u64 0, .int .u64 0] 26)).heap[V2.heap.size]? = some (.cells #[.int .u32 0, .int .u32 0, .int .u32 0, .int .u64 0, .int .u64 0] 26 (0, 0)) := heap_alloc_new V2 _
                      rw [hp1] at n0
                      have nb : Below V2.heap.size V2 (V2.alloc (.cells #[.int .u32 0, .int .u32 0, .int .u32 0, .int .u64 0, .int .u64 0] 26)) := (Below.refl _ _).alloc (Nat.le_refl _) _
                      have lp1 : wr.heap.size ≤ p1 := by have := hb2.size; omega
                      generalize V2.alloc (.cells #[.int .u32 0, .int .u32 0, .int .u32 0, .int .u64 0, .int .u64 0] 26) = V3 at *
                      clear hp1
                      have Hp1 : Hid (V3.heap[p1]? = some (.cells #[.int .u32 0, .int .u32 0, .int .u32 0, .int .u64 0, .int .u64 0] 26 (0, 0))) := Lib.hid n0
                      have hb3 : Below wr.heap.size wr V3 := hb2.trans (nb.mono hb2.size)
                      clear nb
                      refine hK.out _ _ (show _ from HSF.out _ hb3) (fun hHeld => ?_)
                      clear hK K
                      try simp only [Act.put, List.setIfInBounds_toArray, List.set_cons_zero, List.set_cons_succ]
                      refine wpAnyH_ready (rs := [5]) (by kernel_rfl) (by simp) ?_
                      refine AllReadyH.cons rfl (fun K hK => ?_) AllReadyH.nil
                      go_simp
                      obtain ⟨p2, hp2⟩ : ∃ g, V3.heap.size = g := ⟨_, rfl⟩
                      try rw [hp2]
                      have n0 : (V3.alloc (.cells #[.int .u32 0, .int .u32 0, .int .u32 0, .int .u64 0, .int .u64 0] 26)).heap[V3.heap.size]? = some (.cells #[.int .u32 0, .int .u32 0, .int .u32 0, .int .u64 0, .int .u64 0] 26 (0, 0)) := heap_alloc_new V3 _
                      rw [hp2] at n0
                      have nb : Below V3.heap.size V3 (V3.alloc (.cells #[.int .u32 0, .int .u32 0, .int .u32 0, .int .u64 0, .int .u64 0] 26)) := (Below.refl _ _).alloc (Nat.le_refl _) _
                      have lp2 : wr.heap.size ≤ p2 := by have := hb3.size; omega
                      have hne : p2 ≠ p1 := by have := (Array.getElem?_eq_some_iff.1 Hp1.out).1; omega
                      generalize V3.alloc (.cells #[.int .u32 0, .int .u32 0, .int .u32 0, .int .u64 0, .int .u64 0] 26) = V4 at *
                      clear hp2
                      have Hp2 : Hid (V4.heap[p2]? = some (.cells #[.int .u32 0, .int .u32 0, .int .u32 0, .int .u64 0, .int .u64 0] 26 (0, 0))) := Lib.hid n0
                      have hb4 : Below wr.heap.size wr V4 := hb3.trans (nb.mono hb3.size)
                      have Hp1 := Lib.hid ((nb.block p1 (Array.getElem?_eq_some_iff.1 Hp1.out).1).trans Hp1.out)
                      clear nb
                      refine hK.out _ _ (show _ from HSF.out _ hb4) (fun hHeld => ?_)
                      clear hK K
                      try simp only [Act.put, List.setIfInBounds_toArray, List.set_cons_zero, List.set_cons_succ]
                      obtain ⟨VX, hVX⟩ : ∃ X, set5 V4 p1 (.int .u32 7) (.int .u32 (en : Int)) (.int .u32 (k : Int)) (.int .u64 (f1 : Int)) (.int .u64 (l1 : Int)) = X := ⟨_, rfl⟩
                      have hz1 : VX.heap[p1]? = some (.cells #[.int .u32 7, .int .u32 (en : Int), .int .u32 (k : Int), .int .u64 (f1 : Int), .int .u64 (l1 : Int)] 26 (0, 0)) := by rw [← hVX]; exact set5_at Hp1.out _ _ _ _ _
                      have hz2 : VX.heap[p2]? = some (.cells #[.int .u32 0, .int .u32 0, .int .u32 0, .int .u64 0, .int .u64 0] 26 (0, 0)) := by rw [← hVX]; exact ((set5_chg V4 p1 _ _ _ _ _).block p2 (Array.getElem?_eq_some_iff.1 Hp2.out).1 (by omega)).trans Hp2.out
                      have hbX : Below wr.heap.size wr VX := by rw [← hVX]; exact hb4.trans ((set5_chg V4 p1 _ _ _ _ _).below hb4.size (fun i e => by omega))
                      refine wpAnyH_ready (rs := [6]) (by kernel_rfl) (by simp) ?_
                      refine AllReadyH.cons rfl (fun K hK => ?_) AllReadyH.nil
                      obtain ⟨f0, f1, f2, f3, f4⟩ := rw5f Hp1.out
                      obtain ⟨x0, x1, x2, x3, x4⟩ := rw5 Hp1.out
                      go_simp
                      change K _ (set5 V4 p1 _ _ _ _ _)
                      rw [hVX]
                      refine hK.out _ _ (show _ from HSF.out _ hbX) (fun hHeld => ?_)
                      clear hK K x0 x1 x2 x3 x4 f0 f1 f2 f3 f4 hVX
                      try simp only [Act.put, List.setIfInBounds_toArray, List.set_cons_zero, List.set_cons_succ]
                      obtain ⟨VY, hVY⟩ : ∃ X, set5 VX p2 (.int .u32 7) (.int .u32 (n' : Int)) (.int .u32 (m : Int)) (.int .u64 (f2 : Int)) (.int .u64 (l2 : Int)) = X := ⟨_, rfl⟩
                      have hy2 : VY.heap[p2]? = some (.cells #[.int .u32 7, .int .u32 (n' : Int), .int .u32 (m : Int), .int .u64 (f2 : Int), .int .u64 (l2 : Int)] 26 (0, 0)) := by rw [← hVY]; exact set5_at hz2 _ _ _ _ _
                      have hy1 : VY.heap[p1]? = some (.cells #[.int .u32 7, .int .u32 (en : Int), .int .u32 (k : Int), .int .u64 (f1 : Int), .int .u64 (l1 : Int)] 26 (0, 0)) := by rw [← hVY]; exact ((set5_chg VX p2 _ _ _ _ _).block p1 (Array.getElem?_eq_some_iff.1 hz1).1 (by omega)).trans hz1
                      have hbY : Below wr.heap.size wr VY := by rw [← hVY]; exact hbX.trans ((set5_chg VX p2 _ _ _ _ _).below hbX.size (fun i e => by omega))
                      refine wpAnyH_ready (rs := [7]) (by kernel_rfl) (by simp) ?_
                      refine AllReadyH.cons rfl (fun K hK => ?_) AllReadyH.nil
                      obtain ⟨f0, f1, f2, f3, f4⟩ := rw5f hz2
                      obtain ⟨x0, x1, x2, x3, x4⟩ := rw5 hz2
                      go_simp
                      change K _ (set5 VX p2 _ _ _ _ _)
                      rw [hVY]
                      refine hK.out _ _ (show _ from HSF.out _ hbY) (fun hHeld => ?_)
                      clear hK K x0 x1 x2 x3 x4 f0 f1 f2 f3 f4
                      try simp only [Act.put, List.setIfInBounds_toArray, List.set_cons_zero, List.set_cons_succ]
                      refine wpAnyH_done (by kernel_rfl) ?_ _
                      refine NoPanic.normal ?_
                      go_wp2_with fail
                      go_meet
                      case rel => exact ⟨p1, p2, rfl, rfl, hy1, hy2, hbY⟩
                    · go_simp
                      obtain ⟨p2, hp2⟩ : ∃ g, V2.heap.size = g := ⟨_, rfl⟩
                      try rw [hp2]
                      have n0 : (V2.alloc (.cells #[.int .u32 0, .int .u32 0, .int .u32 0, .int .u64 0, .int .u64 0] 26)).heap[V2.heap.size]? = some (.cells #[.int .u32 0, .int .u32 0, .int .u32 0, .int .u64 0, .int .u64 0] 26 (0, 0)) := heap_alloc_new V2 _
                      rw [hp2] at n0
                      have nb : Below V2.heap.size V2 (V2.alloc (.cells #[.int .u32 0, .int .u32 0, .int .u32 0, .int .u64 0, .int .u64 0] 26)) := (Below.refl _ _).alloc (Nat.le_refl _) _
                      have lp2 : wr.heap.size ≤ p2 := by have := hb2.size; omega
                      generalize V2.alloc (.cells #[.int .u32 0, .int .u32 0, .int .u32 0, .int .u64 0, .int .u64 0] 26) = V3 at *
                      clear hp2
                      have Hp2 : Hid (V3.heap[p2]? = some (.cells #[.int .u32 0, .int .u32 0, .int .u32 0, .int .u64 0, .int .u64 0] 26 (0, 0))) := Lib.hid n0
                      have hb3 : Below wr.heap.size wr V3 := hb2.trans (nb.mono hb2.size)
                      clear nb
                      refine hK.out _ _ (show _ from HSF.out _ hb3) (fun hHeld => ?_)
                      clear hK K
                      try simp only [Act.put, List.setIfInBounds_toArray, List.set_cons_zero, List.set_cons_succ]
                      refine wpAnyH_ready (rs := [4]) (by kernel_rfl) (by simp) ?_
                      refine AllReadyH.cons rfl (fun K hK => ?_) AllReadyH.nil
                      go_simp
                      obtain ⟨p1, hp1⟩ : ∃ g, V3.heap.size = g := ⟨_, rfl⟩
                      try rw [hp1]
                      have n0 : (V3.alloc (.cells #[.int .u32 0, .int .u32 0, .int .u32 0, .int .u64 0, .int .u64 0] 26)).heap[V3.heap.size]? = some (.cells #[.int .u32 0, .int .u32 0, .int .u32 0, .int .u64 0, .int .u64 0] 26 (0, 0)) := heap_alloc_new V3 _
                      rw [hp1] at n0
                      have nb : Below V3.heap.size V3 (V3.alloc (.cells #[.int .u32 0, .int .u32 0, .int .u32 0, .int .u64 0, .int .u64 0] 26)) := (Below.refl _ _).alloc (Nat.le_refl _) _
                      have lp1 : wr.heap.size ≤ p1 := by have := hb3.size; omega
                      have hne : p1 ≠ p2 := by have := (Array.getElem?_eq_some_iff.1 Hp2.out).1; omega
                      generalize V3.alloc (.cells #[.int .u32 0, .int .u32 0, .int .u32 0, .int .u64 0, .int .u64 0] 26) = V4 at *
                      clear hp1
                      have Hp1 : Hid (V4.heap[p1]? = some (.cells #[.int .u32 0, .int .u32 0, .int .u32 0, .int .u64 0, .int .u64 0] 26 (0, 0))) := Lib.hid n0
                      have hb4 : Below wr.heap.size wr V4 := hb3.trans (nb.mono hb3.size)
                      have Hp2 := Lib.hid ((nb.block p2 (Array.getElem?_eq_some_iff.1 Hp2.out).1).trans Hp2.out)
                      clear nb
                      refine hK.out _ _ (show _ from HSF.out _ hb4) (fun hHeld => ?_)
                      clear hK K
                      try simp only [Act.put, List.setIfInBounds_toArray, List.set_cons_zero, List.set_cons_succ]
                      obtain ⟨VX, hVX⟩ : ∃ X, set5 V4 p1 (.int .u32 7) (.int .u32 (en : Int)) (.int .u32 (k : Int)) (.int .u64 (f1 : Int)) (.int .u64 (l1 : Int)) = X := ⟨_, rfl⟩
                      have hz1 : VX.heap[p1]? = some (.cells #[.int .u32 7, .int .u32 (en : Int), .int .u32 (k : Int), .int .u64 (f1 : Int), .int .u64 (l1 : Int)] 26 (0, 0)) := by rw [← hVX]; exact set5_at Hp1.out _ _ _ _ _
                      have hz2 : VX.heap[p2]? = some (.cells #[.int .u32 0, .int .u32 0, .int .u32 0, .int .u64 0, .int .u64 0] 26 (0, 0)) := by rw [← hVX]; exact ((set5_chg V4 p1 _ _ _ _ _).block p2 (Array.getElem?_eq_some_iff.1 Hp2.out).1 (by omega)).trans Hp2.out
                      have hbX : Below wr.heap.size wr VX := by rw [← hVX]; exact hb4.trans ((set5_chg V4 p1 _ _ _ _ _).below hb4.size (fun i e => by omega))
                      refine wpAnyH_ready (rs := [6]) (by kernel_rfl) (by simp) ?_
                      refine AllReadyH.cons rfl (fun K hK => ?_) AllReadyH.nil
                      obtain ⟨f0, f1, f2, f3, f4⟩ := rw5f Hp1.out
                      obtain ⟨x0, x1, x2, x3, x4⟩ := rw5 Hp1.out
                      go_simp
                      change K _ (set5 V4 p1 _ _ _ _ _)
                      rw [hVX]
                      refine hK.out _ _ (show _ from HSF.out _ hbX) (fun hHeld => ?_)
                      clear hK K x0 x1 x2 x3 x4 f0 f1 f2 f3 f4 hVX
                      try simp only [Act.put, List.setIfInBounds_toArray, List.set_cons_zero, List.set_cons_succ]
                      obtain ⟨VY, hVY⟩ : ∃ X, set5 VX p2 (.int .u32 7) (.int .u32 (n' : Int)) (.int .u32 (m : Int)) (.int .u64 (f2 : Int)) (.int .u64 (l2 : Int)) = X := ⟨_, rfl⟩
                      have hy2 : VY.heap[p2]? = some (.cells #[.int .u32 7, .int .u32 (n' : Int), .int .u32 (m : Int), .int .u64 (f2 : Int), .int .u64 (l2 : Int)] 26 (0, 0)) := by rw [← hVY]; exact set5_at hz2 _ _ _ _ _
                      have hy1 : VY.heap[p1]? = some (.cells #[.int .u32 7, .int .u32 (en : Int), .int .u32 (k : Int), .int .u64 (f1 : Int), .int .u64 (l1 : Int)] 26 (0, 0)) := by rw [← hVY]; exact ((set5_chg VX p2 _ _ _ _ _).block p1 (Array.getElem?_eq_some_iff.1 hz1).1 (by omega)).trans hz1
                      have hbY : Below wr.heap.size wr VY := by rw [← hVY]; exact hbX.trans ((set5_chg VX p2 _ _ _ _ _).below hbX.size (fun i e => by omega))
                      refine wpAnyH_ready (rs := [7]) (by kernel_rfl) (by simp) ?_
                      refine AllReadyH.cons rfl (fun K hK => ?_) AllReadyH.nil
                      obtain ⟨f0, f1, f2, f3, f4⟩ := rw5f hz2
                      obtain ⟨x0, x1, x2, x3, x4⟩ := rw5 hz2
                      go_simp
                      change K _ (set5 VX p2 _ _ _ _ _)
                      rw [hVY]
                      refine hK.out _ _ (show _ from HSF.out _ hbY) (fun hHeld => ?_)
                      clear hK K x0 x1 x2 x3 x4 f0 f1 f2 f3 f4
                      try simp only [Act.put, List.setIfInBounds_toArray, List.set_cons_zero, List.set_cons_succ]
                      refine wpAnyH_done (by kernel_rfl) ?_ _
                      refine NoPanic.normal ?_
                      go_wp2_with fail
                      go_meet
                      case rel => exact ⟨p1, p2, rfl, rfl, hy1, hy2, hbY⟩
                  · go_simp
                    obtain ⟨p1, hp1⟩ : ∃ g, V1.heap.size = g := ⟨_, rfl⟩
                    try rw [hp1]
                    have n0 : (V1.alloc (.cells #[.int .u32 0, .int .u32 0, .int .u32 0, .int .u64 0, .int .u64 0] 26)).heap[V1.heap.size]? = some (.cells #[.int .u32 0, .int .u32 0, .int .u32 0, .int .u64 0, .int .u64 0] 26 (0, 0)) := heap_alloc_new V1 _
                    rw [hp1] at n0
                    have nb : Below V1.heap.size V1 (V1.alloc (.cells #[.int .u32 0, .int .u32 0, .int .u32 0, .int .u64 0, .int .u64 0] 26)) := (Below.refl _ _).alloc (Nat.le_refl _) _
                    have lp1 : wr.heap.size ≤ p1 := by have := hb1.size; omega
                    generalize V1.alloc (.cells #[.int .u32 0, .int .u32 0, .int .u32 0, .int .u64 0, .int .u64 0] 26) = V2 at *
                    clear hp1
                    have Hp1 : Hid (V2.heap[p1]? = some (.cells #[.int .u32 0, .int .u32 0, .int .u32 0, .int .u64 0, .int .u64 0] 26 (0, 0))) := Lib.hid n0
                    have hb2 : Below wr.heap.size wr V2 := hb1.trans (nb.mono hb1.size)
                    clear nb
                    refine hK.out _ _ (show _ from HSF.out _ hb2) (fun hHeld => ?_)
                    clear hK K
                    try simp only [Act.put, List.setIfInBounds_toArray, List.set_cons_zero, List.set_cons_succ]
                    refine wpAnyH_ready (rs := [3, 5]) (by kernel_rfl) (by simp) ?_
                    refine AllReadyH.cons rfl (fun K hK => ?_) (AllReadyH.cons rfl (fun K hK => ?_) AllReadyH.nil)
                    · go_simp
                      refine (HSE2.out V2 hb2).mono ?_
                      rintro e V3 ⟨rfl, nb⟩
                      go_wp2_with fail
                      have hb3 : Below wr.heap.size wr V3 := hb2.trans (nb.mono hb2.size)
                      have Hp1 := Lib.hid ((nb.block p1 (Array.getElem?_eq_some_iff.1 Hp1.out).1).trans Hp1.out)
                      clear nb
                      refine hK.out _ _ (show _ from HSF.out _ hb3) (fun hHeld => ?_)
                      clear hK K
                      try simp only [Act.put, List.setIfInBounds_toArray, List.set_cons_zero, List.set_cons_succ]
                      refine wpAnyH_ready (rs := [5]) (by kernel_rfl) (by simp) ?_
                      refine AllReadyH.cons rfl (fun K hK => ?_) AllReadyH.nil
                      go_simp
                      obtain ⟨p2, hp2⟩ : ∃ g, V3.heap.size = g := ⟨_, rfl⟩
                      try rw [hp2]
                      have n0 : (V3.alloc (.cells #[.int .u32 0, .int .u32 0, .int .u32 0, .int .u64 0, .int .u64 0] 26)).heap[V3.heap.size]? = some (.cells #[.int .u32 0, .int .u32 0, .int .u32 0, .int .u64 0, .int .u64 0] 26 (0, 0)) := heap_alloc_new V3 _
                      rw [hp2] at n0
                      have nb : Below V3.heap.size V3 (V3.alloc (.cells #[.int .u32 0, .int .u32 0, .int .u32 0, .int .u64 0, .int .u64 0] 26)) := (Below.refl _ _).alloc (Nat.le_refl _) _
                      have lp2 : wr.heap.size ≤ p2 := by have := hb3.size; omega
                      have hne : p2 ≠ p1 := by have := (Array.getElem?_eq_some_iff.1 Hp1.out).1; omega
                      generalize V3.alloc (.cells #[.int .u32 0, .int .u32 0, .int .u32 0, .int .u64 0, .int .u64 0] 26) = V4 at *
                      clear hp2
                      have Hp2 : Hid (V4.heap[p2]? = some (.cells #[.int .u32 0, .int .u32 0, .int .u32 0, .int .u64 0, .int .u64 0] 26 (0, 0))) := Lib.hid n0
                      have hb4 : Below wr.heap.size wr V4 := hb3.trans (nb.mono hb3.size)
                      have Hp1 := Lib.hid ((nb.block p1 (Array.getElem?_eq_some_iff.1 Hp1.out).1).trans Hp1.out)
                      clear nb
                      refine hK.out _ _ (show _ from HSF.out _ hb4) (fun hHeld => ?_)
                      clear hK K
                      try simp only [Act.put, List.setIfInBounds_toArray, List.set_cons_zero, List.set_cons_succ]
                      obtain ⟨VX, hVX⟩ : ∃ X, set5 V4 p1 (.int .u32 7) (.int .u32 (en : Int)) (.int .u32 (k : Int)) (.int .u64 (f1 : Int)) (.int .u64 (l1 : Int)) = X := ⟨_, rfl⟩
                      have hz1 : VX.heap[p1]? = some (.cells #[.int .u32 7, .int .u32 (en : Int), .int .u32 (k : Int), .int .u64 (f1 : Int), .int .u64 (l1 : Int)] 26 (0, 0)) := by rw [← hVX]; exact set5_at Hp1.out _ _ _ _ _
                      have hz2 : VX.heap[p2]? = some (.cells #[.int .u32 0, .int .u32 0, .int .u32 0, .int .u64 0, .int .u64 0] 26 (0, 0)) := by rw [← hVX]; exact ((set5_chg V4 p1 _ _ _ _ _).block p2 (Array.getElem?_eq_some_iff.1 Hp2.out).1 (by omega)).trans Hp2.out
                      have hbX : Below wr.heap.size wr VX := by rw [← hVX]; exact hb4.trans ((set5_chg V4 p1 _ _ _ _ _).below hb4.size (fun i e => by omega))
                      refine wpAnyH_ready (rs := [6]) (by kernel_rfl) (by simp) ?_
                      refine AllReadyH.cons rfl (fun K hK => ?_) AllReadyH.nil
                      obtain ⟨f0, f1, f2, f3, f4⟩ := rw5f Hp1.out
                      obtain ⟨x0, x1, x2, x3, x4⟩ := rw5 Hp1.out
                      go_simp
                      change K _ (set5 V4 p1 _ _ _ _ _)
                      rw [hVX]
                      refine hK.out _ _ (show _ from HSF.out _ hbX) (fun hHeld => ?_)
                      clear hK K x0 x1 x2 x3 x4 f0 f1 f2 f3 f4 hVX
                      try simp only [Act.put, List.setIfInBounds_toArray, List.set_cons_zero, List.set_cons_succ]
                      obtain ⟨VY, hVY⟩ : ∃ X, set5 VX p2 (.int .u32 7) (.int .u32 (n' : Int)) (.int .u32 (m : Int)) (.int .u64 (f2 : Int)) (.int .u64 (l2 : Int)) = X := ⟨_, rfl⟩
                      have hy2 : VY.heap[p2]? = some (.cells #[.int .u32 7, .int .u32 (n' : Int), .int .u32 (m : Int), .int .u64 (f2 : Int), .int .u64 (l2 : Int)] 26 (0, 0)) := by rw [← hVY]; exact set5_at hz2 _ _ _ _ _
                      have hy1 : VY.heap[p1]? = some (.cells #[.int .u32 7, .int .u32 (en : Int), .int .u32 (k : Int), .int .u64 (f1 : Int), .int .u64 (l1 : Int)] 26 (0, 0)) := by rw [← hVY]; exact ((set5_chg VX p2 _ _ _ _ _).block p1 (Array.getElem?_eq_some_iff.1 hz1).1 (by omega)).trans hz1
                      have hbY : Below wr.heap.size wr VY := by rw [← hVY]; exact hbX.trans ((set5_chg VX p2 _ _ _ _ _).below hbX.size (fun i e => by omega))
                      refine wpAnyH_ready (rs := [7]) (by kernel_rfl) (by simp) ?_
                      refine AllReadyH.cons rfl (fun K hK => ?_) AllReadyH.nil
                      obtain ⟨f0, f1, f2, f3, f4⟩ := rw5f hz2
                      obtain ⟨x0, x1, x2, x3, x4⟩ := rw5 hz2
                      go_simp
                      change K _ (set5 VX p2 _ _ _ _ _)
                      rw [hVY]
                      refine hK.out _ _ (show _ from HSF.out _ hbY) (fun hHeld => ?_)
                      clear hK K x0 x1 x2 x3 x4 f0 f1 f2 f3 f4
                      try simp only [Act.put, List.setIfInBounds_toArray, List.set_cons_zero, List.set_cons_succ]
                      refine wpAnyH_done (by kernel_rfl) ?_ _
                      refine NoPanic.normal ?_
                      go_wp2_with fail
                      go_meet
                      case rel => exact ⟨p1, p2, rfl, rfl, hy1, hy2, hbY⟩
                    · go_simp
                      obtain ⟨p2, hp2⟩ : ∃ g, V2.heap.size = g := ⟨_, rfl⟩
                      try rw [hp2]
                      have n0 : (V2.alloc (.cells #[.int .u32 0, .int .u32 0, .int .u32 0, .int .u64 0, .int .u64 0] 26)).heap[V2.heap.size]? = some (.cells #[.int .u32 0, .int .u32 0, .int .u32 0, .int .u64 0, .int .u64 0] 26 (0, 0)) := heap_alloc_new V2 _
                      rw [hp2] at n0
                      have nb : Below V2.heap.size V2 (V2.alloc (.cells #[.int .u32 0, .int .u32 0, .int .u32 0, .int .u64 0, .int .u64 0] 26)) := (Below.refl _ _).alloc (Nat.le_refl _) _
                      have lp2 : wr.heap.size ≤ p2 := by have := hb2.size; omega
                      have hne : p2 ≠ p1 := by have := (Array.getElem?_eq_some_iff.1 Hp1.out).1; omega
                      generalize V2.alloc (.cells #[.int .u32 0, .int .u32 0, .int .u32 0, .int .u64 0, .int .u64 0] 26) = V3 at *
                      clear hp2
                      have Hp2 : Hid (V3.heap[p2]? = some (.cells #[.int .u32 0, .int .u32 0, .int .u32 0, .int .u64 0, .int .u64 0] 26 (0, 0))) := Lib.hid n0
                      have hb3 : Below wr.heap.size wr V3 := hb2.trans (nb.mono hb2.size)
                      have Hp1 := Lib.hid ((nb.block p1 (Array.getElem?_eq_some_iff.1 Hp1.out).1).trans Hp1.out)
                      clear nb
                      refine hK.out _ _ (show _ from HSF.out _ hb3) (fun hHeld => ?_)
                      clear hK K
                      try simp only [Act.put, List.setIfInBounds_toArray, List.set_cons_zero, List.set_cons_succ]
                      refine wpAnyH_ready (rs := [3]) (by kernel_rfl) (by simp) ?_
                      refine AllReadyH.cons rfl (fun K hK => ?_) AllReadyH.nil
                      go_simp
                      refine (HSE2.out V3 hb3).mono ?_
                      rintro e V4 ⟨rfl, nb⟩
                      go_wp2_with fail
                      have hb4 : Below wr.heap.size wr V4 := hb3.trans (nb.mono hb3.size)
                      have Hp1 := Lib.hid ((nb.block p1 (Array.getElem?_eq_some_iff.1 Hp1.out).1).trans Hp1.out)
                      have Hp2 := Lib.hid ((nb.block p2 (Array.getElem?_eq_some_iff.1 Hp2.out).1).trans Hp2.out)
                      clear nb
                      refine hK.out _ _ (show _ from HSF.out _ hb4) (fun hHeld => ?_)
                      clear hK K
                      try simp only [Act.put, List.setIfInBounds_toArray, List.set_cons_zero, List.set_cons_succ]
                      obtain ⟨VX, hVX⟩ : ∃ X, set5 V4 p1 (.int .u32 7) (.int .u32 (en : Int)) (.int .u32 (k : Int)) (.int .u64 (f1 : Int)) (.int .u64 (l1 : Int)) = X := ⟨_, rfl⟩
                      have hz1 : VX.heap[p1]? = some (.cells #[.int .u32 7, .int .u32 (en : Int), .int .u32 (k : Int), .int .u64 (f1 : Int), .int .u64 (l1 : Int)] 26 (0, 0)) := by rw [← hVX]; exact set5_at Hp1.out _ _ _ _ _
                      have hz2 : VX.heap[p2]? = some (.cells #[.int .u32 0, .int .u32 0, .int .u32 0, .int .u64 0, .int .u64 0] 26 (0, 0)) := by rw [← hVX]; exact ((set5_chg V4 p1 _ _ _ _ _).block p2 (Array.getElem?_eq_some_iff.1 Hp2.out).1 (by omega)).trans Hp2.out
                      have hbX : Below wr.heap.size wr VX := by rw [← hVX]; exact hb4.trans ((set5_chg V4 p1 _ _ _ _ _).below hb4.size (fun i e => by omega))
                      refine wpAnyH_ready (rs := [6]) (by kernel_rfl) (by simp) ?_
                      refine AllReadyH.cons rfl (fun K hK => ?_) AllReadyH.nil
                      obtain ⟨f0, f1, f2, f3, f4⟩ := rw5f Hp1.out
                      obtain ⟨x0, x1, x2, x3, x4⟩ := rw5 Hp1.out
                      go_simp
                      change K _ (set5 V4 p1 _ _ _ _ _)
                      rw [hVX]
                      refine hK.out _ _ (show _ from HSF.out _ hbX) (fun hHeld => ?_)
                      clear hK K x0 x1 x2 x3 x4 f0 f1 f2 f3 f4 hVX
                      try simp only [Act.put, List.setIfInBounds_toArray, List.set_cons_zero, List.set_cons_succ]
                      obtain ⟨VY, hVY⟩ : ∃ X, set5 VX p2 (.int .u32 7) (.int .u32 (n' : Int)) (.int .u32 (m : Int)) (.int .u64 (f2 : Int)) (.int .u64 (l2 : Int)) = X := ⟨_, rfl⟩
                      have hy2 : VY.heap[p2]? = some (.cells #[.int .u32 7, .int .u32 (n' : Int), .int .u32 (m : Int), .int .u64 (f2 : Int), .int .u64 (l2 : Int)] 26 (0, 0)) := by rw [← hVY]; exact set5_at hz2 _ _ _ _ _
                      have hy1 : VY.heap[p1]? = some (.cells #[.int .u32 7, .int .u32 (en : Int), .int .u32 (k : Int), .int .u64 (f1 : Int), .int .u64 (l1 : Int)] 26 (0, 0)) := by rw [← hVY]; exact ((set5_chg VX p2 _ _ _ _ _).block p1 (Array.getElem?_eq_some_iff.1 hz1).1 (by omega)).trans hz1
                      have hbY : Below wr.heap.size wr VY := by rw [← hVY]; exact hbX.trans ((set5_chg VX p2 _ _ _ _ _).below hbX.size (fun i e => by omega))
                      refine wpAnyH_ready (rs := [7]) (by kernel_rfl) (by simp) ?_
                      refine AllReadyH.cons rfl (fun K hK => ?_) AllReadyH.nil
                      obtain ⟨f0, f1, f2, f3, f4⟩ := rw5f hz2
                      obtain ⟨x0, x1, x2, x3, x4⟩ := rw5 hz2
                      go_simp
                      change K _ (set5 VX p2 _ _ _ _ _)
                      rw [hVY]
                      refine hK.out _ _ (show _ from HSF.out _ hbY) (fun hHeld => ?_)
                      clear hK K x0 x1 x2 x3 x4 f0 f1 f2 f3 f4
                      try simp only [Act.put, List.setIfInBounds_toArray, List.set_cons_zero, List.set_cons_succ]
                      refine wpAnyH_done (by kernel_rfl) ?_ _
                      refine NoPanic.normal ?_
                      go_wp2_with fail
                      go_meet
                      case rel => exact ⟨p1, p2, rfl, rfl, hy1, hy2, hbY⟩
                  · go_simp
                    obtain ⟨p2, hp2⟩ : ∃ g, V1.heap.size = g := ⟨_, rfl⟩
                    try rw [hp2]
                    have n0 : (V1.alloc (.cells #[.int .u32 0, .int .u32 0, .int .u32 0, .int .u64 0, .int .u64 0] 26)).heap[V1.heap.size]? = some (.cells #[.int .u32 0, .int .u32 0, .int .u32 0, .int .u64 0, .int .u64 0] 26 (0, 0)) := heap_alloc_new V1 _
                    rw [hp2] at n0
                    have nb : Below V1.heap.size V1 (V1.alloc (.cells #[.int .u32 0, .int .u32 0, .int .u32 0, .int .u64 0, .int .u64 0] 26)) := (Below.refl _ _).alloc (Nat.le_refl _) _
                    have lp2 : wr.heap.size ≤ p2 := by have := hb1.size; omega
                    generalize V1.alloc (.cells #[.int .u32 0, .int .u32 0, .int .u32 0, .int .u64 0, .int .u64 0] 26) = V2 at *
                    clear hp2
                    have Hp2 : Hid (V2.heap[p2]? = some (.cells #[.int .u32 0, .int .u32 0, .int .u32 0, .int .u64 0, .int .u64 0] 26 (0, 0))) := Lib.hid n0
                    have hb2 : Below wr.heap.size wr V2 := hb1.trans (nb.mono hb1.size)
                    clear nb
                    refine hK.out _ _ (show _ from HSF.out _ hb2) (fun hHeld => ?_)
                    clear hK K
                    try simp only [Act.put, List.setIfInBounds_toArray, List.set_cons_zero, List.set_cons_succ]
                    refine wpAnyH_ready (rs := [3, 4]) (by kernel_rfl) (by simp) ?_
                    refine AllReadyH.cons rfl (fun K hK => ?_) (AllReadyH.cons rfl (fun K hK => ?_) AllReadyH.nil)
                    · go_simp
                      refine (HSE2.out V2 hb2).mono ?_
                      rintro e V3 ⟨rfl, nb⟩
                      go_wp2_with fail
                      have hb3 : Below wr.heap.size wr V3 := hb2.trans (nb.mono hb2.size)
                      have Hp2 := Lib.hid ((nb.block p2 (Array.getElem?_eq_some_iff.1 Hp2.out).1).trans Hp2.out)
                      clear nb
                      refine hK.out _ _ (show _ from HSF.out _ hb3) (fun hHeld => ?_)
                      clear hK K
                      try simp only [Act.put, List.setIfInBounds_toArray, List.set_cons_zero, List.set_cons_succ]
                      refine wpAnyH_ready (rs := [4]) (by kernel_rfl) (by simp) ?_
                      refine AllReadyH.cons rfl (fun K hK => ?_) AllReadyH.nil
                      go_simp
                      obtain ⟨p1, hp1⟩ : ∃ g, V3.heap.size = g := ⟨_, rfl⟩
                      try rw [hp1]
                      have n0 : (V3.alloc (.cells #[.int .u32 0, .int .u32 0, .int .u32 0, .int .u64 0, .int .u64 0] 26)).heap[V3.heap.size]? = some (.cells #[.int .u32 0, .int .u32 0, .int .u32 0, .int .u64 0, .int .u64 0] 26 (0, 0)) := heap_alloc_new V3 _
                      rw [hp1] at n0
                      have nb : Below V3.heap.size V3 (V3.alloc (.cells #[.int .u32 0, .int .u32 0, .int .u32 0, .int .u64 0, .int .u64 0] 26)) := (Below.refl _ _).alloc (Nat.le_refl _) _
                      have lp1 : wr.heap.size ≤ p1 := by have := hb3.size; omega
                      have hne : p1 ≠ p2 := by have := (Array.getElem?_eq_some_iff.1 Hp2.out).1; omega
                      generalize V3.alloc (.cells #[.int .u32 0, .int .u32 0, .int .u32 0, .int .u64 0, .int .u64 0] 26) = V4 at *
                      clear hp1
                      have Hp1 : Hid (V4.heap[p1]? = some (.cells #[.int .u32 0, .int .u32 0, .int .u32 0, .int .u64 0, .int .u64 0] 26 (0, 0))) := Lib.hid n0
                      have hb4 : Below wr.heap.size wr V4 := hb3.trans (nb.mono hb3.size)
                      have Hp2 := Lib.hid ((nb.block p2 (Array.getElem?_eq_some_iff.1 Hp2.out).1).trans Hp2.out)
                      clear nb
                      refine hK.out _ _ (show _ from HSF.out _ hb4) (fun hHeld => ?_)
                      clear hK K
                      try simp only [Act.put, List.setIfInBounds_toArray, List.set_cons_zero, List.set_cons_succ]
                      obtain ⟨VX, hVX⟩ : ∃ X, set5 V4 p1 (.int .u32 7) (.int .u32 (en : Int)) (.int .u32 (k : Int)) (.int .u64 (f1 : Int)) (.int .u64 (l1 : Int)) = X := ⟨_, rfl⟩
                      have hz1 : VX.heap[p1]? = some (.cells #[.int .u32 7, .int .u32 (en : Int), .int .u32 (k : Int), .int .u64 (f1 : Int), .int .u64 (l1 : Int)] 26 (0, 0)) := by rw [← hVX]; exact set5_at Hp1.out _ _ _ _ _
                      have hz2 : VX.heap[p2]? = some (.cells #[.int .u32 0, .int .u32 0, .int .u32 0, .int .u64 0, .int .u64 0] 26 (0, 0)) := by rw [← hVX]; exact ((set5_chg V4 p1 _ _ _ _ _).block p2 (Array.getElem?_eq_some_iff.1 Hp2.out).1 (by omega)).trans Hp2.out
                      have hbX : Below wr.heap.size wr VX := by rw [← hVX]; exact hb4.trans ((set5_chg V4 p1 _ _ _ _ _).below hb4.size (fun i e => by omega))
                      refine wpAnyH_ready (rs := [6]) (by kernel_rfl) (by simp) ?_
                      refine AllReadyH.cons rfl (fun K hK => ?_) AllReadyH.nil
                      obtain ⟨f0, f1, f2, f3, f4⟩ := rw5f Hp1.out
                      obtain ⟨x0, x1, x2, x3, x4⟩ := rw5 Hp1.out
                      go_simp
                      change K _ (set5 V4 p1 _ _ _ _ _)
                      rw [hVX]
                      refine hK.out _ _ (show _ from HSF.out _ hbX) (fun hHeld => ?_)
                      clear hK K x0 x1 x2 x3 x4 f0 f1 f2 f3 f4 hVX
                      try simp only [Act.put, List.setIfInBounds_toArray, List.set_cons_zero, List.set_cons_succ]
                      obtain ⟨VY, hVY⟩ : ∃ X, set5 VX p2 (.int .u32 7) (.int .u32 (n' : Int)) (.int .u32 (m : Int)) (.int .u64 (f2 : Int)) (.int .u64 (l2 : Int)) = X := ⟨_, rfl⟩
                      have hy2 : VY.heap[p2]? = some (.cells #[.int .u32 7, .int .u32 (n' : Int), .int .u32 (m : Int), .int .u64 (f2 : Int), .int .u64 (l2 : Int)] 26 (0, 0)) := by rw [← hVY]; exact set5_at hz2 _ _ _ _ _
                      have hy1 : VY.heap[p1]? = some (.cells #[.int .u32 7, .int .u32 (en : Int), .int .u32 (k : Int), .int .u64 (f1 : Int), .int .u64 (l1 : Int)] 26 (0, 0)) := by rw [← hVY]; exact ((set5_chg VX p2 _ _ _ _ _).block p1 (Array.getElem?_eq_some_iff.1 hz1).1 (by omega)).trans hz1
                      have hbY : Below wr.heap.size wr VY := by rw [← hVY]; exact hbX.trans ((set5_chg VX p2 _ _ _ _ _).below hbX.size (fun i e => by omega))
                      refine wpAnyH_ready (rs := [7]) (by kernel_rfl) (by simp) ?_
                      refine AllReadyH.cons rfl (fun K hK => ?_) AllReadyH.nil
                      obtain ⟨f0, f1, f2, f3, f4⟩ := rw5f hz2
                      obtain ⟨x0, x1, x2, x3, x4⟩ := rw5 hz2
                      go_simp
                      change K _ (set5 VX p2 _ _ _ _ _)
                      rw [hVY]
                      refine hK.out _ _ (show _ from HSF.out _ hbY) (fun hHeld => ?_)
                      clear hK K x0 x1 x2 x3 x4 f0 f1 f2 f3 f4
                      try simp only [Act.put, List.setIfInBounds_toArray, List.set_cons_zero, List.set_cons_succ]
                      refine wpAnyH_done (by kernel_rfl) ?_ _
                      refine NoPanic.normal ?_
                      go_wp2_with fail
                      go_meet
                      case rel => exact ⟨p1, p2, rfl, rfl, hy1, hy2, hbY⟩
                    · go_simp
                      obtain ⟨p1, hp1⟩ : ∃ g, V2.heap.size = g := ⟨_, rfl⟩
                      try rw [hp1]
                      have n0 : (V2.alloc (.cells #[.int .u32 0, .int .u32 0, .int .u32 0, .int .u64 0, .int .u64 0] 26)).heap[V2.heap.size]? = some (.cells #[.int .u32 0, .int .u32 0, .int .u32 0, .int .u64 0, .int .u64 0] 26 (0, 0)) := heap_alloc_new V2 _
                      rw [hp1] at n0
                      have nb : Below V2.heap.size V2 (V2.alloc (.cells #[.int .u32 0, .int .u32 0, .int .u32 0, .int .u64 0, .int .u64 0] 26)) := (Below.refl _ _).alloc (Nat.le_refl _) _
                      have lp1 : wr.heap.size ≤ p1 := by have := hb2.size; omega
                      have hne : p1 ≠ p2 := by have := (Array.getElem?_eq_some_iff.1 Hp2.out).1; omega
                      generalize V2.alloc (.cells #[.int .u32 0, .int .u32 0, .int .u32 0, .int .u64 0, .int .u64 0] 26) = V3 at *
                      clear hp1
                      have Hp1 : Hid (V3.heap[p1]? = some (.cells #[.int .u32 0, .int .u32 0, .int .u32 0, .int .u64 0, .int .u64 0] 26 (0, 0))) := Lib.hid n0
                      have hb3 : Below wr.heap.size wr V3 := hb2.trans (nb.mono hb2.size)
                      have Hp2 := Lib.hid ((nb.block p2 (Array.getElem?_eq_some_iff.1 Hp2.out).1).trans Hp2.out)
                      clear nb
                      refine hK.out _ _ (show _ from HSF.out _ hb3) (fun hHeld => ?_)
                      clear hK K
                      try simp only [Act.put, List.setIfInBounds_toArray, List.set_cons_zero, List.set_cons_succ]
                      refine wpAnyH_ready (rs := [3]) (by kernel_rfl) (by simp) ?_
                      refine AllReadyH.cons rfl (fun K hK => ?_) AllReadyH.nil
                      go_simp
                      refine (HSE2.out V3 hb3).mono ?_
                      rintro e V4 ⟨rfl, nb⟩
                      go_wp2_with fail
                      have hb4 : Below wr.heap.size wr V4 := hb3.trans (nb.mono hb3.size)
                      have Hp1 := Lib.hid ((nb.block p1 (Array.getElem?_eq_some_iff.1 Hp1.out).1).trans Hp1.out)
                      have Hp2 := Lib.hid ((nb.block p2 (Array.getElem?_eq_some_iff.1 Hp2.out).1).trans Hp2.out)
                      clear nb
                      refine hK.out _ _ (show _ from HSF.out _ hb4) (fun hHeld => ?_)
                      clear hK K
                      try simp only [Act.put, List.setIfInBounds_toArray, List.set_cons_zero, List.set_cons_succ]
                      obtain ⟨VX, hVX⟩ : ∃ X, set5 V4 p1 (.int .u32 7) (.int .u32 (en : Int)) (.int .u32 (k : Int)) (.int .u64 (f1 : Int)) (.int .u64 (l1 : Int)) = X := ⟨_, rfl⟩
                      have hz1 : VX.heap[p1]? = some (.cells #[.int .u32 7, .int .u32 (en : Int), .int .u32 (k : Int), .int .u64 (f1 : Int), .int .u64 (l1 : Int)] 26 (0, 0)) := by rw [← hVX]; exact set5_at Hp1.out _ _ _ _ _
                      have hz2 : VX.heap[p2]? = some (.cells #[.int .u32 0, .int .u32 0, .int .u32 0, .int .u64 0, .int .u64 0] 26 (0, 0)) := by rw [← hVX]; exact ((set5_chg V4 p1 _ _ _ _ _).block p2 (Array.getElem?_eq_some_iff.1 Hp2.out).1 (by omega)).trans Hp2.out
                      have hbX : Below wr.heap.size wr VX := by rw [← hVX]; exact hb4.trans ((set5_chg V4 p1 _ _ _ _ _).below hb4.size (fun i e => by omega))
                      refine wpAnyH_ready (rs := [6]) (by kernel_rfl) (by simp) ?_
                      refine AllReadyH.cons rfl (fun K hK => ?_) AllReadyH.nil
                      obtain ⟨f0, f1, f2, f3, f4⟩ := rw5f Hp1.out
                      obtain ⟨x0, x1, x2, x3, x4⟩ := rw5 Hp1.out
                      go_simp
                      change K _ (set5 V4 p1 _ _ _ _ _)
                      rw [hVX]
                      refine hK.out _ _ (show _ from HSF.out _ hbX) (fun hHeld => ?_)
                      clear hK K x0 x1 x2 x3 x4 f0 f1 f2 f3 f4 hVX
                      try simp only [Act.put, List.setIfInBounds_toArray, List.set_cons_zero, List.set_cons_succ]
                      obtain ⟨VY, hVY⟩ : ∃ X, set5 VX p2 (.int .u32 7) (.int .u32 (n' : Int)) (.int .u32 (m : Int)) (.int .u64 (f2 : Int)) (.int .u64 (l2 : Int)) = X := ⟨_, rfl⟩
                      have hy2 : VY.heap[p2]? = some (.cells #[.int .u32 7, .int .u32 (n' : Int), .int .u32 (m : Int), .int .u64 (f2 : Int), .int .u64 (l2 : Int)] 26 (0, 0)) := by rw [← hVY]; exact set5_at hz2 _ _ _ _ _
                      have hy1 : VY.heap[p1]? = some (.cells #[.int .u32 7, .int .u32 (en : Int), .int .u32 (k : Int), .int .u64 (f1 : Int), .int .u64 (l1 : Int)] 26 (0, 0)) := by rw [← hVY]; exact ((set5_chg VX p2 _ _ _ _ _).block p1 (Array.getElem?_eq_some_iff.1 hz1).1 (by omega)).trans hz1
                      have hbY : Below wr.heap.size wr VY := by rw [← hVY]; exact hbX.trans ((set5_chg VX p2 _ _ _ _ _).below hbX.size (fun i e => by omega))
                      refine wpAnyH_ready (rs := [7]) (by kernel_rfl) (by simp) ?_
                      refine AllReadyH.cons rfl (fun K hK => ?_) AllReadyH.nil
                      obtain ⟨f0, f1, f2, f3, f4⟩ := rw5f hz2
                      obtain ⟨x0, x1, x2, x3, x4⟩ := rw5 hz2
                      go_simp
                      change K _ (set5 VX p2 _ _ _ _ _)
                      rw [hVY]
                      refine hK.out _ _ (show _ from HSF.out _ hbY) (fun hHeld => ?_)
                      clear hK K x0 x1 x2 x3 x4 f0 f1 f2 f3 f4
                      try simp only [Act.put, List.setIfInBounds_toArray, List.set_cons_zero, List.set_cons_succ]
                      refine wpAnyH_done (by kernel_rfl) ?_ _
                      refine NoPanic.normal ?_
                      go_wp2_with fail
                      go_meet
                      case rel => exact ⟨p1, p2, rfl, rfl, hy1, hy2, hbY⟩
                · go_simp
                  obtain ⟨p1, hp1⟩ : ∃ g, V0.heap.size = g := ⟨_, rfl⟩
                  try rw [hp1]
                  have n0 : (V0.alloc (.cells #[.int .u32 0, .int .u32 0, .int .u32 0, .int .u64 0, .int .u64 0] 26)).heap[V0.heap.size]? = some (.cells #[.int .u32 0, .int .u32 0, .int .u32 0, .int .u64 0, .int .u64 0] 26 (0, 0)) := heap_alloc_new V0 _
                  rw [hp1] at n0
                  have nb : Below V0.heap.size V0 (V0.alloc (.cells #[.int .u32 0, .int .u32 0, .int .u32 0, .int .u64 0, .int .u64 0] 26)) := (Below.refl _ _).alloc (Nat.le_refl _) _
                  have lp1 : wr.heap.size ≤ p1 := by have := hb0.size; omega
                  generalize V0.alloc (.cells #[.int .u32 0, .int .u32 0, .int .u32 0, .int .u64 0, .int .u64 0] 26) = V1 at *
                  clear hp1
                  have Hp1 : Hid (V1.heap[p1]? = some (.cells #[.int .u32 0, .int .u32 0, .int .u32 0, .int .u64 0, .int .u64 0] 26 (0, 0))) := Lib.hid n0
                  have hb1 : Below wr.heap.size wr V1 := hb0.trans (nb.mono hb0.size)
                  clear nb
                  refine hK.out _ _ (show _ from HSF.out _ hb1) (fun hHeld => ?_)
                  clear hK K
                  try simp only [Act.put, List.setIfInBounds_toArray, List.set_cons_zero, List.set_cons_succ]
                  refine wpAnyH_ready (rs := [1, 5]) (by kernel_rfl) (by simp) ?_
                  refine AllReadyH.cons rfl (fun K hK => ?_) (AllReadyH.cons rfl (fun K hK => ?_) AllReadyH.nil)
                  · go_simp
                    refine (HSE1.out V1 hb1).mono ?_
                    rintro e V2 ⟨rfl, nb⟩
                    go_wp2_with fail
                    have hb2 : Below wr.heap.size wr V2 := hb1.trans (nb.mono hb1.size)
                    have Hp1 := Lib.hid ((nb.block p1 (Array.getElem?_eq_some_iff.1 Hp1.out).1).trans Hp1.out)
                    clear nb
                    refine hK.out _ _ (show _ from HSF.out _ hb2) (fun hHeld => ?_)
                    clear hK K
                    try simp only [Act.put, List.setIfInBounds_toArray, List.set_cons_zero, List.set_cons_succ]
                    refine wpAnyH_ready (rs := [3, 5]) (by kernel_rfl) (by simp) ?_
                    refine AllReadyH.cons rfl (fun K hK => ?_) (AllReadyH.cons rfl (fun K hK => ?_) AllReadyH.nil)
                    · go_simp
                      refine (HSE2.out V2 hb2).mono ?_
                      rintro e V3 ⟨rfl, nb⟩
                      go_wp2_with fail
                      have hb3 : Below wr.heap.size wr V3 := hb2.trans (nb.mono hb2.size)
                      have Hp1 := Lib.hid ((nb.block p1 (Array.getElem?_eq_some_iff.1 Hp1.out).1).trans Hp1.out)
                      clear nb
                      refine hK.out _ _ (show _ from HSF.out _ hb3) (fun hHeld => ?_)
                      clear hK K
                      try simp only [Act.put, List.setIfInBounds_toArray, List.set_cons_zero, List.set_cons_succ]
                      refine wpAnyH_ready (rs := [5]) (by kernel_rfl) (by simp) ?_
                      refine AllReadyH.cons rfl (fun K hK => ?_) AllReadyH.nil
                      go_simp
                      obtain ⟨p2, hp2⟩ : ∃ g, V3.heap.size = g := ⟨_, rfl⟩
                      try rw [hp2]
                      have n0 : (V3.alloc (.cells #[.int .u32 0, .int .u32 0, .int .u32 0, .int .u64 0, .int .u64 0] 26)).heap[V3.heap.size]? = some (.cells #[.int .u32 0, .int .u32 0, .int .u32 0, .int .u64 0, .int .u64 0] 26 (0, 0)) := heap_alloc_new V3 _
                      rw [hp2] at n0
                      have nb : Below V3.heap.size V3 (V3.alloc (.cells #[.int .u32 0, .int .u32 0, .int .u32 0, .int .u64 0, .int .u64 0] 26)) := (Below.refl _ _).alloc (Nat.le_refl _) _
                      have lp2 : wr.heap.size ≤ p2 := by have := hb3.size; omega
                      have hne : p2 ≠ p1 := by have := (Array.getElem?_eq_some_iff.1 Hp1.out).1; omega
                      generalize V3.alloc (.cells #[.int .u32 0, .int .u32 0, .int .u32 0, .int .u64 0, .int .u64 0] 26) = V4 at *
                      clear hp2
                      have Hp2 : Hid (V4.heap[p2]? = some (.cells #[.int .u32 0, .int .u32 0, .int .u32 0, .int .u64 0, .int .u64 0] 26 (0, 0))) := Lib.hid n0
                      have hb4 : Below wr.heap.size wr V4 := hb3.trans (nb.mono hb3.size)
                      have Hp1 := Lib.hid ((nb.block p1 (Array.getElem?_eq_some_iff.1 Hp1.out).1).trans Hp1.out)
                      clear nb
                      refine hK.out _ _ (show _ from HSF.out _ hb4) (fun hHeld => ?_)
                      clear hK K
                      try simp only [Act.put, List.setIfInBounds_toArray, List.set_cons_zero, List.set_cons_succ]
                      obtain ⟨VX, hVX⟩ : ∃ X, set5 V4 p1 (.int .u32 7) (.int .u32 (en : Int)) (.int .u32 (k : Int)) (.int .u64 (f1 : Int)) (.int .u64 (l1 : Int)) = X := ⟨_, rfl⟩
                      have hz1 : VX.heap[p1]? = some (.cells #[.int .u32 7, .int .u32 (en : Int), .int .u32 (k : Int), .int .u64 (f1 : Int), .int .u64 (l1 : Int)] 26 (0, 0)) := by rw [← hVX]; exact set5_at Hp1.out _ _ _ _ _
                      have hz2 : VX.heap[p2]? = some (.cells #[.int .u32 0, .int .u32 0, .int .u32 0, .int .u64 0, .int .u64 0] 26 (0, 0)) := by rw [← hVX]; exact ((set5_chg V4 p1 _ _ _ _ _).block p2 (Array.getElem?_eq_some_iff.1 Hp2.out).1 (by omega)).trans Hp2.out
                      have hbX : Below wr.heap.size wr VX := by rw [← hVX]; exact hb4.trans ((set5_chg V4 p1 _ _ _ _ _).below hb4.size (fun i e => by omega))
                      refine wpAnyH_ready (rs := [6]) (by kernel_rfl) (by simp) ?_
                      refine AllReadyH.cons rfl (fun K hK => ?_) AllReadyH.nil
                      obtain ⟨f0, f1, f2, f3, f4⟩ := rw5f Hp1.out
                      obtain ⟨x0, x1, x2, x3, x4⟩ := rw5 Hp1.out
                      go_simp
                      change K _ (set5 V4 p1 _ _ _ _ _)
                      rw [hVX]
                      refine hK.out _ _ (show _ from HSF.out _ hbX) (fun hHeld => ?_)
                      clear hK K x0 x1 x2 x3 x4 f0 f1 f2 f3 f4 hVX
                      try simp only [Act.put, List.setIfInBounds_toArray, List.set_cons_zero, List.set_cons_succ]
                      obtain ⟨VY, hVY⟩ : ∃ X, set5 VX p2 (.int .u32 7) (.int .u32 (n' : Int)) (.int .u32 (m : Int)) (.int .u64 (f2 : Int)) (.int .u64 (l2 : Int)) = X := ⟨_, rfl⟩
                      have hy2 : VY.heap[p2]? = some (.cells #[.int .u32 7, .int .u32 (n' : Int), .int .u32 (m : Int), .int .u64 (f2 : Int), .int .u64 (l2 : Int)] 26 (0, 0)) := by rw [← hVY]; exact set5_at hz2 _ _ _ _ _
                      have hy1 : VY.heap[p1]? = some (.cells #[.int .u32 7, .int .u32 (en : Int), .int .u32 (k : Int), .int .u64 (f1 : Int), .int .u64 (l1 : Int)] 26 (0, 0)) := by rw [← hVY]; exact ((set5_chg VX p2 _ _ _ _ _).block p1 (Array.getElem?_eq_some_iff.1 hz1).1 (by omega)).trans hz1
                      have hbY : Below wr.heap.size wr VY := by rw [← hVY]; exact hbX.trans ((set5_chg VX p2 _ _ _ _ _).below hbX.size (fun i e => by omega))
                      refine wpAnyH_ready (rs := [7]) (by kernel_rfl) (by simp) ?_
                      refine AllReadyH.cons rfl (fun K hK => ?_) AllReadyH.nil
                      obtain ⟨f0, f1, f2, f3, f4⟩ := rw5f hz2
                      obtain ⟨x0, x1, x2, x3, x4⟩ := rw5 hz2
                      go_simp
                      change K _ (set5 VX p2 _ _ _ _ _)
                      rw [hVY]
                      refine hK.out _ _ (show _ from HSF.out _ hbY) (fun hHeld => ?_)
                      clear hK K x0 x1 x2 x3 x4 f0 f1 f2 f3 f4
                      try simp only [Act.put, List.setIfInBounds_toArray, List.set_cons_zero, List.set_cons_succ]
                      refine wpAnyH_done (by kernel_rfl) ?_ _
                      refine NoPanic.normal ?_
                      go_wp2_with fail
                      go_meet
                      case rel => exact ⟨p1, p2, rfl, rfl, hy1, hy2, hbY⟩
                    · go_simp
                      obtain ⟨p2, hp2⟩ : ∃ g, V2.heap.size = g := ⟨_, rfl⟩
                      try rw [hp2]
                      have n0 : (V2.alloc (.cells #[.int .u32 0, .int .u32 0, .int .u32 0, .int .u64 0, .int .u64 0] 26)).heap[V2.heap.size]? = some (.cells #[.int .u32 0, .int .u32 0, .int .u32 0, .int .u64 0, .int .u64 0] 26 (0, 0)) := heap_alloc_new V2 _
                      rw [hp2] at n0
                      have nb : Below V2.heap.size V2 (V2.alloc (.cells #[.int .u32 0, .int .u32 0, .int .u32 0, .int .u64 0, .int .u64 0] 26)) := (Below.refl _ _).alloc (Nat.le_refl _) _
                      have lp2 : wr.heap.size ≤ p2 := by have := hb2.size; omega
                      have hne : p2 ≠ p1 := by have := (Array.getElem?_eq_some_iff.1 Hp1.out).1; omega
                      generalize V2.alloc (.cells #[.int .u32 0, .int .u32 0, .int .u32 0, .int .u64 0, .int .u64 0] 26) = V3 at *
                      clear hp2
                      have Hp2 : Hid (V3.heap[p2]? = some (.cells #[.int .u32 0, .int .u32 0, .int .u32 0, .int .u64 0, .int .u64 0] 26 (0, 0))) := Lib.hid n0
                      have hb3 : Below wr.heap.size wr V3 := hb2.trans (nb.mono hb2.size)
                      have Hp1 := Lib.hid ((nb.block p1 (Array.getElem?_eq_some_iff.1 Hp1.out).1).trans Hp1.out)
                      clear nb
                      refine hK.out _ _ (show _ from HSF.out _ hb3) (fun hHeld => ?_)
                      clear hK K
                      try simp only [Act.put, List.setIfInBounds_toArray, List.set_cons_zero, List.set_cons_succ]
                      refine wpAnyH_ready (rs := [3]) (by kernel_rfl) (by simp) ?_
                      refine AllReadyH.cons rfl (fun K hK => ?_) AllReadyH.nil
                      go_simp
                      refine (HSE2.out V3 hb3).mono ?_
                      rintro e V4 ⟨rfl, nb⟩
                      go_wp2_with fail
                      have hb4 : Below wr.heap.size wr V4 := hb3.trans (nb.mono hb3.size)
                      have Hp1 := Lib.hid ((nb.block p1 (Array.getElem?_eq_some_iff.1 Hp1.out).1).trans Hp1.out)
                      have Hp2 := Lib.hid ((nb.block p2 (Array.getElem?_eq_some_iff.1 Hp2.out).1).trans Hp2.out)
                      clear nb
                      refine hK.out _ _ (show _ from HSF.out _ hb4) (fun hHeld => ?_)
                      clear hK K
                      try simp only [Act.put, List.setIfInBounds_toArray, List.set_cons_zero, List.set_cons_succ]
                      obtain ⟨VX, hVX⟩ : ∃ X, set5 V4 p1 (.int .u32 7) (.int .u32 (en : Int)) (.int .u32 (k : Int)) (.int .u64 (f1 : Int)) (.int .u64 (l1 : Int)) = X := ⟨_, rfl⟩
                      have hz1 : VX.heap[p1]? = some (.cells #[.int .u32 7, .int .u32 (en : Int), .int .u32 (k : Int), .int .u64 (f1 : Int), .int .u64 (l1 : Int)] 26 (0, 0)) := by rw [← hVX]; exact set5_at Hp1.out _ _ _ _ _
                      have hz2 : VX.heap[p2]? = some (.cells #[.int .u32 0, .int .u32 0, .int .u32 0, .int .u64 0, .int .u64 0] 26 (0, 0)) := by rw [← hVX]; exact ((set5_chg V4 p1 _ _ _ _ _).block p2 (Array.getElem?_eq_some_iff.1 Hp2.out).1 (by omega)).trans Hp2.out
                      have hbX : Below wr.heap.size wr VX := by rw [← hVX]; exact hb4.trans ((set5_chg V4 p1 _ _ _ _ _).below hb4.size (fun i e => by omega))
                      refine wpAnyH_ready (rs := [6]) (by kernel_rfl) (by simp) ?_
                      refine AllReadyH.cons rfl (fun K hK => ?_) AllReadyH.nil
                      obtain ⟨f0, f1, f2, f3, f4⟩ := rw5f Hp1.out
                      obtain ⟨x0, x1, x2, x3, x4⟩ := rw5 Hp1.out
                      go_simp
                      change K _ (set5 V4 p1 _ _ _ _ _)
                      rw [hVX]
                      refine hK.out _ _ (show _ from HSF.out _ hbX) (fun hHeld => ?_)
                      clear hK K x0 x1 x2 x3 x4 f0 f1 f2 f3 f4 hVX
                      try simp only [Act.put, List.setIfInBounds_toArray, List.set_cons_zero, List.set_cons_succ]
                      obtain ⟨VY, hVY⟩ : ∃ X, set5 VX p2 (.int .u32 7) (.int .u32 (n' : Int)) (.int .u32 (m : Int)) (.int .u64 (f2 : Int)) (.int .u64 (l2 : Int)) = X := ⟨_, rfl⟩
                      have hy2 : VY.heap[p2]? = some (.cells #[.int .u32 7, .int .u32 (n' : Int), .int .u32 (m : Int), .int .u64 (f2 : Int), .int .u64 (l2 : Int)] 26 (0, 0)) := by rw [← hVY]; exact set5_at hz2 _ _ _ _ _
                      have hy1 : VY.heap[p1]? = some (.cells #[.int .u32 7, .int .u32 (en : Int), .int .u32 (k : Int), .int .u64 (f1 : Int), .int .u64 (l1 : Int)] 26 (0, 0)) := by rw [← hVY]; exact ((set5_chg VX p2 _ _ _ _ _).block p1 (Array.getElem?_eq_some_iff.1 hz1).1 (by omega)).trans hz1
                      have hbY : Below wr.heap.size wr VY := by rw [← hVY]; exact hbX.trans ((set5_chg VX p2 _ _ _ _ _).below hbX.size (fun i e => by omega))
                      refine wpAnyH_ready (rs := [7]) (by kernel_rfl) (by simp) ?_
                      refine AllReadyH.cons rfl (fun K hK => ?_) AllReadyH.nil
                      obtain ⟨f0, f1, f2, f3, f4⟩ := rw5f hz2
                      obtain ⟨x0, x1, x2, x3, x4⟩ := rw5 hz2
                      go_simp
                      change K _ (set5 VX p2 _ _ _ _ _)
                      rw [hVY]
                      refine hK.out _ _ (show _ from HSF.out _ hbY) (fun hHeld => ?_)
                      clear hK K x0 x1 x2 x3 x4 f0 f1 f2 f3 f4
                      try simp only [Act.put, List.setIfInBounds_toArray, List.set_cons_zero, List.set_cons_succ]
                      refine wpAnyH_done (by kernel_rfl) ?_ _
                      refine NoPanic.normal ?_
                      go_wp2_with fail
                      go_meet
                      case rel => exact ⟨p1, p2, rfl, rfl, hy1, hy2, hbY⟩
                  · go_simp
                    obtain ⟨p2, hp2⟩ : ∃ g, V1.heap.size = g := ⟨_, rfl⟩
                    try rw [hp2]
                    have n0 : (V1.alloc (.cells #[.int .u32 0, .int .u32 0, .int .u32 0, .int .u64 0, .int .u64 0] 26)).heap[V1.heap.size]? = some (.cells #[.int .u32 0, .int .u32 0, .int .u32 0, .int .u64 0, .int .u64 0] 26 (0, 0)) := heap_alloc_new V1 _
                    rw [hp2] at n0
                    have nb : Below V1.heap.size V1 (V1.alloc (.cells #[.int .u32 0, .int .u32 0, .int .u32 0, .int .u64 0, .int .u64 0] 26)) := (Below.refl _ _).alloc (Nat.le_refl _) _
                    have lp2 : wr.heap.size ≤ p2 := by have := hb1.size; omega
                    have hne : p2 ≠ p1 := by have := (Array.getElem?_eq_some_iff.1 Hp1.out).1; omega
                    generalize V1.alloc (.cells #[.int .u32 0, .int .u32 0, .int .u32 0, .int .u64 0, .int .u64 0] 26) = V2 at *
                    clear hp2
                    have Hp2 : Hid (V2.heap[p2]? = some (.cells #[.int .u32 0, .int .u32 0, .int .u32 0, .int .u64 0, .int .u64 0] 26 (0, 0))) := Lib.hid n0
                    have hb2 : Below wr.heap.size wr V2 := hb1.trans (nb.mono hb1.size)
                    have Hp1 := Lib.hid ((nb.block p1 (Array.getElem?_eq_some_iff.1 Hp1.out).1).trans Hp1.out)
                    clear nb
                    refine hK.out _ _ (show _ from HSF.out _ hb2) (fun hHeld => ?_)
                    clear hK K
                    try simp only [Act.put, List.setIfInBounds_toArray, List.set_cons_zero, List.set_cons_succ]
                    refine wpAnyH_ready (rs := [1]) (by kernel_rfl) (by simp) ?_
                    refine AllReadyH.cons rfl (fun K hK => ?_) AllReadyH.nil
                    go_simp
                    refine (HSE1.out V2 hb2).mono ?_
                    rintro e V3 ⟨rfl, nb⟩
                    go_wp2_with fail
                    have hb3 : Below wr.heap.size wr V3 := hb2.trans (nb.mono hb2.size)
                    have Hp1 := Lib.hid ((nb.block p1 (Array.getElem?_eq_some_iff.1 Hp1.out).1).trans Hp1.out)
                    have Hp2 := Lib.hid ((nb.block p2 (Array.getElem?_eq_some_iff.1 Hp2.out).1).trans Hp2.out)
                    clear nb
                    refine hK.out _ _ (show _ from HSF.out _ hb3) (fun hHeld => ?_)
                    clear hK K
                    try simp only [Act.put, List.setIfInBounds_toArray, List.set_cons_zero, List.set_cons_succ]
                    refine wpAnyH_ready (rs := [3]) (by kernel_rfl) (by simp) ?_
                    refine AllReadyH.cons rfl (fun K hK => ?_) AllReadyH.nil
                    go_simp
                    refine (HSE2.out V3 hb3).mono ?_
                    rintro e V4 ⟨rfl, nb⟩
                    go_wp2_with fail
                    have hb4 : Below wr.heap.size wr V4 := hb3.trans (nb.mono hb3.size)
                    have Hp1 := Lib.hid ((nb.block p1 (Array.getElem?_eq_some_iff.1 Hp1.out).1).trans Hp1.out)
                    have Hp2 := Lib.hid ((nb.block p2 (Array.getElem?_eq_some_iff.1 Hp2.out).1).trans Hp2.out)
                    clear nb
                    refine hK.out _ _ (show _ from HSF.out _ hb4) (fun hHeld => ?_)
                    clear hK K
                    try simp only [Act.put, List.setIfInBounds_toArray, List.set_cons_zero, List.set_cons_succ]
                    obtain ⟨VX, hVX⟩ : ∃ X, set5 V4 p1 (.int .u32 7) (.int .u32 (en : Int)) (.int .u32 (k : Int)) (.int .u64 (f1 : Int)) (.int .u64 (l1 : Int)) = X := ⟨_, rfl⟩
                    have hz1 : VX.heap[p1]? = some (.cells #[.int .u32 7, .int .u32 (en : Int), .int .u32 (k : Int), .int .u64 (f1 : Int), .int .u64 (l1 : Int)] 26 (0, 0)) := by rw [← hVX]; exact set5_at Hp1.out _ _ _ _ _
                    have hz2 : VX.heap[p2]? = some (.cells #[.int .u32 0, .int .u32 0, .int .u32 0, .int .u64 0, .int .u64 0] 26 (0, 0)) := by rw [← hVX]; exact ((set5_chg V4 p1 _ _ _ _ _).block p2 (Array.getElem?_eq_some_iff.1 Hp2.out).1 (by omega)).trans Hp2.out
                    have hbX : Below wr.heap.size wr VX := by rw [← hVX]; exact hb4.trans ((set5_chg V4 p1 _ _ _ _ _).below hb4.size (fun i e => by omega))
                    refine wpAnyH_ready (rs := [6]) (by kernel_rfl) (by simp) ?_
                    refine AllReadyH.cons rfl (fun K hK => ?_) AllReadyH.nil
                    obtain ⟨f0, f1, f2, f3, f4⟩ := rw5f Hp1.out
                    obtain ⟨x0, x1, x2, x3, x4⟩ := rw5 Hp1.out
                    go_simp
                    change K _ (set5 V4 p1 _ _ _ _ _)
                    rw [hVX]
                    refine hK.out _ _ (show _ from HSF.out _ hbX) (fun hHeld => ?_)
                    clear hK K x0 x1 x2 x3 x4 f0 f1 f2 f3 f4 hVX
                    try simp only [Act.put, List.setIfInBounds_toArray, List.set_cons_zero, List.set_cons_succ]
                    obtain ⟨VY, hVY⟩ : ∃ X, set5 VX p2 (.int .u32 7) (.int .u32 (n' : Int)) (.int .u32 (m : Int)) (.int .u64 (f2 : Int)) (.int .u64 (l2 : Int)) = X := ⟨_, rfl⟩
                    have hy2 : VY.heap[p2]? = some (.cells #[.int .u32 7, .int .u32 (n' : Int), .int .u32 (m : Int), .int .u64 (f2 : Int), .int .u64 (l2 : Int)] 26 (0, 0)) := by rw [← hVY]; exact set5_at hz2 _ _ _ _ _
                    have hy1 : VY.heap[p1]? = some (.cells #[.int .u32 7, .int .u32 (en : Int), .int .u32 (k : Int), .int .u64 (f1 : Int), .int .u64 (l1 : Int)] 26 (0, 0)) := by rw [← hVY]; exact ((set5_chg VX p2 _ _ _ _ _).block p1 (Array.getElem?_eq_some_iff.1 hz1).1 (by omega)).trans hz1
                    have hbY : Below wr.heap.size wr VY := by rw [← hVY]; exact hbX.trans ((set5_chg VX p2 _ _ _ _ _).below hbX.size (fun i e => by omega))
                    refine wpAnyH_ready (rs := [7]) (by kernel_rfl) (by simp) ?_
                    refine AllReadyH.cons rfl (fun K hK => ?_) AllReadyH.nil
                    obtain ⟨f0, f1, f2, f3, f4⟩ := rw5f hz2
                    obtain ⟨x0, x1, x2, x3, x4⟩ := rw5 hz2
                    go_simp
                    change K _ (set5 VX p2 _ _ _ _ _)
                    rw [hVY]
                    refine hK.out _ _ (show _ from HSF.out _ hbY) (fun hHeld => ?_)
                    clear hK K x0 x1 x2 x3 x4 f0 f1 f2 f3 f4
                    try simp only [Act.put, List.setIfInBounds_toArray, List.set_cons_zero, List.set_cons_succ]
                    refine wpAnyH_done (by kernel_rfl) ?_ _
                    refine NoPanic.normal ?_
                    go_wp2_with fail
                    go_meet
                    case rel => exact ⟨p1, p2, rfl, rfl, hy1, hy2, hbY⟩
                · go_simp
                  obtain ⟨p2, hp2⟩ : ∃ g, V0.heap.size = g := ⟨_, rfl⟩
                  try rw [hp2]
                  have n0 : (V0.alloc (.cells #[.int .u32 0, .int .u32 0, .int .u32 0, .int .u64 0, .int .u64 0] 26)).heap[V0.heap.size]? = some (.cells #[.int .u32 0, .int .u32 0, .int .u32 0, .int .u64 0, .int .u64 0] 26 (0, 0)) := heap_alloc_new V0 _
                  rw [hp2] at n0
                  have nb : Below V0.heap.size V0 (V0.alloc (.cells #[.int .u32 0, .int .u32 0, .int .u32 0, .int .u64 0, .int .u64 0] 26)) := (Below.refl _ _).alloc (Nat.le_refl _) _
                  have lp2 : wr.heap.size ≤ p2 := by have := hb0.size; omega
                  generalize V0.alloc (.cells #[.int .u32 0, .int .u32 0, .int .u32 0, .int .u64 0, .int .u64 0] 26) = V1 at *
                  clear hp2
                  have Hp2 : Hid (V1.heap[p2]? = some (.cells #[.int .u32 0, .int .u32 0, .int .u32 0, .int .u64 0, .int .u64 0] 26 (0, 0))) := Lib.hid n0
                  have hb1 : Below wr.heap.size wr V1 := hb0.trans (nb.mono hb0.size)
                  clear nb
                  refine hK.out _ _ (show _ from HSF.out _ hb1) (fun hHeld => ?_)
                  clear hK K
                  try simp only [Act.put, List.setIfInBounds_toArray, List.set_cons_zero, List.set_cons_succ]
                  refine wpAnyH_ready (rs := [1, 4]) (by kernel_rfl) (by simp) ?_
                  refine AllReadyH.cons rfl (fun K hK => ?_) (AllReadyH.cons rfl (fun K hK => ?_) AllReadyH.nil)
                  · go_simp
                    refine (HSE1.out V1 hb1).mono ?_
                    rintro e V2 ⟨rfl, nb⟩
                    go_wp2_with fail
                    have hb2 : Below wr.heap.size wr V2 := hb1.trans (nb.mono hb1.size)
                    have Hp2 := Lib.hid ((nb.block p2 (Array.getElem?_eq_some_iff.1 Hp2.out).1).trans Hp2.out)
                    clear nb
                    refine hK.out _ _ (show _ from HSF.out _ hb2) (fun hHeld => ?_)
                    clear hK K
                    try simp only [Act.put, List.setIfInBounds_toArray, List.set_cons_zero, List.set_cons_succ]
                    refine wpAnyH_ready (rs := [3, 4]) (by kernel_rfl) (by simp) ?_
                    refine AllReadyH.cons rfl (fun K hK => ?_) (AllReadyH.cons rfl (fun K hK => ?_) AllReadyH.nil)
                    · go_simp
                      refine (HSE2.out V2 hb2).mono ?_
                      rintro e V3 ⟨rfl, nb⟩
                      go_wp2_with fail
                      have hb3 : Below wr.heap.size wr V3 := hb2.trans (nb.mono hb2.size)
                      have Hp2 := Lib.hid ((nb.block p2 (Array.getElem?_eq_some_iff.1 Hp2.out).1).trans Hp2.out)
                      clear nb
                      refine hK.out _ _ (show _ from HSF.out _ hb3) (fun hHeld => ?_)
                      clear hK K
                      try simp only [Act.put, List.setIfInBounds_toArray, List.set_cons_zero, List.set_cons_succ]
                      refine wpAnyH_ready (rs := [4]) (by kernel_rfl) (by simp) ?_
                      refine AllReadyH.cons rfl (fun K hK => ?_) AllReadyH.nil
                      go_simp
                      obtain ⟨p1, hp1⟩ : ∃ g, V3.heap.size = g := ⟨_, rfl⟩
                      try rw [hp1]
                      have n0 : (V3.alloc (.cells #[.int .u32 0, .int .u32 0, .int .u32 0, .int .u64 0, .int .u64 0] 26)).heap[V3.heap.size]? = some (.cells #[.int .u32 0, .int .u32 0, .int .u32 0, .int .u64 0, .int .u64 0] 26 (0, 0)) := heap_alloc_new V3 _
                      rw [hp1] at n0
                      have nb : Below V3.heap.size V3 (V3.alloc (.cells #[.int .u32 0, .int .u32 0, .int .u32 0, .int .u64 0, .int .u64 0] 26)) := (Below.refl _ _).alloc (Nat.le_refl _) _
                      have lp1 : wr.heap.size ≤ p1 := by have := hb3.size; omega
                      have hne : p1 ≠ p2 := by have := (Array.getElem?_eq_some_iff.1 Hp2.out).1; omega
                      generalize V3.alloc (.cells #[.int .u32 0, .int .u32 0, .int .u32 0, .int .u64 0, .int .u64 0] 26) = V4 at *
                      clear hp1
                      have Hp1 : Hid (V4.heap[p1]? = some (.cells #[.int .u32 0, .int .u32 0, .int .u32 0, .int .u64 0, .int .u64 0] 26 (0, 0))) := Lib.hid n0
                      have hb4 : Below wr.heap.size wr V4 := hb3.trans (nb.mono hb3.size)
                      have Hp2 := Lib.hid ((nb.block p2 (Array.getElem?_eq_some_iff.1 Hp2.out).1).trans Hp2.out)
                      clear nb
                      refine hK.out _ _ (show _ from HSF.out _ hb4) (fun hHeld => ?_)
                      clear hK K
                      try simp only [Act.put, List.setIfInBounds_toArray, List.set_cons_zero, List.set_cons_succ]
                      obtain ⟨VX, hVX⟩ : ∃ X, set5 V4 p1 (.int .u32 7) (.int .u32 (en : Int)) (.int .u32 (k : Int)) (.int .u64 (f1 : Int)) (.int .u64 (l1 : Int)) = X := ⟨_, rfl⟩
                      have hz1 : VX.heap[p1]? = some (.cells #[.int .u32 7, .int .u32 (en : Int), .int .u32 (k : Int), .int .u64 (f1 : Int), .int .u64 (l1 : Int)] 26 (0, 0)) := by rw [← hVX]; exact set5_at Hp1.out _ _ _ _ _
                      have hz2 : VX.heap[p2]? = some (.cells #[.int .u32 0, .int .u32 0, .int .u32 0, .int .u64 0, .int .u64 0] 26 (0, 0)) := by rw [← hVX]; exact ((set5_chg V4 p1 _ _ _ _ _).block p2 (Array.getElem?_eq_some_iff.1 Hp2.out).1 (by omega)).trans Hp2.out
                      have hbX : Below wr.heap.size wr VX := by rw [← hVX]; exact hb4.trans ((set5_chg V4 p1 _ _ _ _ _).below hb4.size (fun i e => by omega))
                      refine wpAnyH_ready (rs := [6]) (by kernel_rfl) (by simp) ?_
                      refine AllReadyH.cons rfl (fun K hK => ?_) AllReadyH.nil
                      obtain ⟨f0, f1, f2, f3, f4⟩ := rw5f Hp1.out
                      obtain ⟨x0, x1, x2, x3, x4⟩ := rw5 Hp1.out
                      go_simp
                      change K _ (set5 V4 p1 _ _ _ _ _)
                      rw [hVX]
                      refine hK.out _ _ (show _ from HSF.out _ hbX) (fun hHeld => ?_)
                      clear hK K x0 x1 x2 x3 x4 f0 f1 f2 f3 f4 hVX
                      try simp only [Act.put, List.setIfInBounds_toArray, List.set_cons_zero, List.set_cons_succ]
                      obtain ⟨VY, hVY⟩ : ∃ X, set5 VX p2 (.int .u32 7) (.int .u32 (n' : Int)) (.int .u32 (m : Int)) (.int .u64 (f2 : Int)) (.int .u64 (l2 : Int)) = X := ⟨_, rfl⟩
                      have hy2 : VY.heap[p2]? = some (.cells #[.int .u32 7, .int .u32 (n' : Int), .int .u32 (m : Int), .int .u64 (f2 : Int), .int .u64 (l2 : Int)] 26 (0, 0)) := by rw [← hVY]; exact set5_at hz2 _ _ _ _ _
                      have hy1 : VY.heap[p1]? = some (.cells #[.int .u32 7, .int .u32 (en : Int), .int .u32 (k : Int), .int .u64 (f1 : Int), .int .u64 (l1 : Int)] 26 (0, 0)) := by rw [← hVY]; exact ((set5_chg VX p2 _ _ _ _ _).block p1 (Array.getElem?_eq_some_iff.1 hz1).1 (by omega)).trans hz1
                      have hbY : Below wr.heap.size wr VY := by rw [← hVY]; exact hbX.trans ((set5_chg VX p2 _ _ _ _ _).below hbX.size (fun i e => by omega))
                      refine wpAnyH_ready (rs := [7]) (by kernel_rfl) (by simp) ?_
                      refine AllReadyH.cons rfl (fun K hK => ?_) AllReadyH.nil
                      obtain ⟨f0, f1, f2, f3, f4⟩ := rw5f hz2
                      obtain ⟨x0, x1, x2, x3, x4⟩ := rw5 hz2
                      go_simp
                      change K _ (set5 VX p2 _ _ _ _ _)
                      rw [hVY]
                      refine hK.out _ _ (show _ from HSF.out _ hbY) (fun hHeld => ?_)
                      clear hK K x0 x1 x2 x3 x4 f0 f1 f2 f3 f4
                      try simp only [Act.put, List.setIfInBounds_toArray, List.set_cons_zero, List.set_cons_succ]
                      refine wpAnyH_done (by kernel_rfl) ?_ _
                      refine NoPanic.normal ?_
                      go_wp2_with fail
                      go_meet
                      case rel => exact ⟨p1, p2, rfl, rfl, hy1, hy2, hbY⟩
                    · go_simp
                      obtain ⟨p1, hp1⟩ : ∃ g, V2.heap.size = g := ⟨_, rfl⟩
                      try rw [hp1]
                      have n0 : (V2.alloc (.cells #[.int .u32 0, .int .u32 0, .int .u32 0, .int .u64 0, .int .u64 0] 26)).heap[V2.heap.size]? = some (.cells #[.int .u32 0, .int .u32 0, .int .u32 0, .int .u64 0, .int .u64 0] 26 (0, 0)) := heap_alloc_new V2 _
                      rw [hp1] at n0
                      have nb : Below V2.heap.size V2 (V2.alloc (.cells #[.int .u32 0, .int .u32 0, .int .u32 0, .int .u64 0, .int .u64 0] 26)) := (Below.refl _ _).alloc (Nat.le_refl _) _
                      have lp1 : wr.heap.size ≤ p1 := by have := hb2.size; omega
                      have hne : p1 ≠ p2 := by have := (Array.getElem?_eq_some_iff.1 Hp2.out).1; omega
                      generalize V2.alloc (.cells #[.int .u32 0, .int .u32 0, .int .u32 0, .int .u64 0, .int .u64 0] 26) = V3 at *
                      clear hp1
                      have Hp1 : Hid (V3.heap[p1]? = some (.cells #[.int .u32 0, .int .u32 0, .int .u32 0, .int .u64 0, .int .u64 0] 26 (0, 0))) := Lib.hid n0
                      have hb3 : Below wr.heap.size wr V3 := hb2.trans (nb.mono hb2.size)
                      have Hp2 := Lib.hid ((nb.block p2 (Array.getElem?_eq_some_iff.1 Hp2.out).1).trans Hp2.out)
                      clear nb
                      refine hK.out _ _ (show _ from HSF.out _ hb3) (fun hHeld => ?_)
                      clear hK K
                      try simp only [Act.put, List.setIfInBounds_toArray, List.set_cons_zero, List.set_cons_succ]
                      refine wpAnyH_ready (rs := [3]) (by kernel_rfl) (by simp) ?_
                      refine AllReadyH.cons rfl (fun K hK => ?_) AllReadyH.nil
                      go_simp
                      refine (HSE2.out V3 hb3).mono ?_
                      rintro e V4 ⟨rfl, nb⟩
                      go_wp2_with fail
                      have hb4 : Below wr.heap.size wr V4 := hb3.trans (nb.mono hb3.size)
                      have Hp1 := Lib.hid ((nb.block p1 (Array.getElem?_eq_some_iff.1 Hp1.out).1).trans Hp1.out)
                      have Hp2 := Lib.hid ((nb.block p2 (Array.getElem?_eq_some_iff.1 Hp2.out).1).trans Hp2.out)
                      clear nb
                      refine hK.out _ _ (show _ from HSF.out _ hb4) (fun hHeld => ?_)
                      clear hK K
                      try simp only [Act.put, List.setIfInBounds_toArray, List.set_cons_zero, List.set_cons_succ]
                      obtain ⟨VX, hVX⟩ : ∃ X, set5 V4 p1 (.int .u32 7) (.int .u32 (en : Int)) (.int .u32 (k : Int)) (.int .u64 (f1 : Int)) (.int .u64 (l1 : Int)) = X := ⟨_, rfl⟩
                      have hz1 : VX.heap[p1]? = some (.cells #[.int .u32 7, .int .u32 (en : Int), .int .u32 (k : Int), .int .u64 (f1 : Int), .int .u64 (l1 : Int)] 26 (0, 0)) := by rw [← hVX]; exact set5_at Hp1.out _ _ _ _ _
                      have hz2 : VX.heap[p2]? = some (.cells #[.int .u32 0, .int .u32 0, .int .u32 0, .int .u64 0, .int .u64 0] 26 (0, 0)) := by rw [← hVX]; exact ((set5_chg V4 p1 _ _ _ _ _).block p2 (Array.getElem?_eq_some_iff.1 Hp2.out).1 (by omega)).trans Hp2.out
                      have hbX : Below wr.heap.size wr VX := by rw [← hVX]; exact hb4.trans ((set5_chg V4 p1 _ _ _ _ _).below hb4.size (fun i e => by omega))
                      refine wpAnyH_ready (rs := [6]) (by kernel_rfl) (by simp) ?_
                      refine AllReadyH.cons rfl (fun K hK => ?_) AllReadyH.nil
                      obtain ⟨f0, f1, f2, f3, f4⟩ := rw5f Hp1.out
                      obtain ⟨x0, x1, x2, x3, x4⟩ := rw5 Hp1.out
                      go_simp
                      change K _ (set5 V4 p1 _ _ _ _ _)
                      rw [hVX]
                      refine hK.out _ _ (show _ from HSF.out _ hbX) (fun hHeld => ?_)
                      clear hK K x0 x1 x2 x3 x4 f0 f1 f2 f3 f4 hVX
                      try simp only [Act.put, List.setIfInBounds_toArray, List.set_cons_zero, List.set_cons_succ]
                      obtain ⟨VY, hVY⟩ : ∃ X, set5 VX p2 (.int .u32 7) (.int .u32 (n' : Int)) (.int .u32 (m : Int)) (.int .u64 (f2 : Int)) (.int .u64 (l2 : Int)) = X := ⟨_, rfl⟩
                      have hy2 : VY.heap[p2]? = some (.cells #[.int .u32 7, .int .u32 (n' : Int), .int .u32 (m : Int), .int .u64 (f2 : Int), .int .u64 (l2 : Int)] 26 (0, 0)) := by rw [← hVY]; exact set5_at hz2 _ _ _ _ _
                      have hy1 : VY.heap[p1]? = some (.cells #[.int .u32 7, .int .u32 (en : Int), .int .u32 (k : Int), .int .u64 (f1 : Int), .int .u64 (l1 : Int)] 26 (0, 0)) := by rw [← hVY]; exact ((set5_chg VX p2 _ _ _ _ _).block p1 (Array.getElem?_eq_some_iff.1 hz1).1 (by omega)).trans hz1
                      have hbY : Below wr.heap.size wr VY := by rw [← hVY]; exact hbX.trans ((set5_chg VX p2 _ _ _ _ _).below hbX.size (fun i e => by omega))
                      refine wpAnyH_ready (rs := [7]) (by kernel_rfl) (by simp) ?_
                      refine AllReadyH.cons rfl (fun K hK => ?_) AllReadyH.nil
                      obtain ⟨f0, f1, f2, f3, f4⟩ := rw5f hz2
                      obtain ⟨x0, x1, x2, x3, x4⟩ := rw5 hz2
                      go_simp
                      change K _ (set5 VX p2 _ _ _ _ _)
                      rw [hVY]
                      refine hK.out _ _ (show _ from HSF.out _ hbY) (fun hHeld => ?_)
                      clear hK K x0 x1 x2 x3 x4 f0 f1 f2 f3 f4
                      try simp only [Act.put, List.setIfInBounds_toArray, List.set_cons_zero, List.set_cons_succ]
                      refine wpAnyH_done (by kernel_rfl) ?_ _
                      refine NoPanic.normal ?_
                      go_wp2_with fail
                      go_meet
                      case rel => exact ⟨p1, p2, rfl, rfl, hy1, hy2, hbY⟩
                  · go_simp
                    obtain ⟨p1, hp1⟩ : ∃ g, V1.heap.size = g := ⟨_, rfl⟩
                    try rw [hp1]
                    have n0 : (V1.alloc (.cells #[.int .u32 0, .int .u32 0, .int .u32 0, .int .u64 0, .int .u64 0] 26)).heap[V1.heap.size]? = some (.cells #[.int .u32 0, .int .u32 0, .int .u32 0, .int .u64 0, .int .u64 0] 26 (0, 0)) := heap_alloc_new V1 _
                    rw [hp1] at n0
                    have nb : Below V1.heap.size V1 (V1.alloc (.cells #[.int .u32 0, .int .u32 0, .int .u32 0, .int .u64 0, .int .u64 0] 26)) := (Below.refl _ _).alloc (Nat.le_refl _) _
                    have lp1 : wr.heap.size ≤ p1 := by have := hb1.size; omega
                    have hne : p1 ≠ p2 := by have := (Array.getElem?_eq_some_iff.1 Hp2.out).1; omega
                    generalize V1.alloc (.cells #[.int .u32 0, .int .u32 0, .int .u32 0, .int .u64 0, .int .u64 0] 26) = V2 at *
                    clear hp1
                    have Hp1 : Hid (V2.heap[p1]? = some (.cells #[.int .u32 0, .int .u32 0, .int .u32 0, .int .u64 0, .int .u64 0] 26 (0, 0))) := Lib.hid n0
                    have hb2 : Below wr.heap.size wr V2 := hb1.trans (nb.mono hb1.size)
                    have Hp2 := Lib.hid ((nb.block p2 (Array.getElem?_eq_some_iff.1 Hp2.out).1).trans Hp2.out)
                    clear nb
                    refine hK.out _ _ (show _ from HSF.out _ hb2) (fun hHeld => ?_)
                    clear hK K
                    try simp only [Act.put, List.setIfInBounds_toArray, List.set_cons_zero, List.set_cons_succ]
                    refine wpAnyH_ready (rs := [1]) (by kernel_rfl) (by simp) ?_
                    refine AllReadyH.cons rfl (fun K hK => ?_) AllReadyH.nil
                    go_simp
                    refine (HSE1.out V2 hb2).mono ?_
                    rintro e V3 ⟨rfl, nb⟩
                    go_wp2_with fail
                    have hb3 : Below wr.heap.size wr V3 := hb2.trans (nb.mono hb2.size)
                    have Hp1 := Lib.hid ((nb.block p1 (Array.getElem?_eq_some_iff.1 Hp1.out).1).trans Hp1.out)
                    have Hp2 := Lib.hid ((nb.block p2 (Array.getElem?_eq_some_iff.1 Hp2.out).1).trans Hp2.out)
                    clear nb
                    refine hK.out _ _ (show _ from HSF.out _ hb3) (fun hHeld => ?_)
                    clear hK K
                    try simp only [Act.put, List.setIfInBounds_toArray, List.set_cons_zero, List.set_cons_succ]
                    refine wpAnyH_ready (rs := [3]) (by kernel_rfl) (by simp) ?_
                    refine AllReadyH.cons rfl (fun K hK => ?_) AllReadyH.nil
                    go_simp
                    refine (HSE2.out V3 hb3).mono ?_
                    rintro e V4 ⟨rfl, nb⟩
                    go_wp2_with fail
                    have hb4 : Below wr.heap.size wr V4 := hb3.trans (nb.mono hb3.size)
                    have Hp1 := Lib.hid ((nb.block p1 (Array.getElem?_eq_some_iff.1 Hp1.out).1).trans Hp1.out)
                    have Hp2 := Lib.hid ((nb.block p2 (Array.getElem?_eq_some_iff.1 Hp2.out).1).trans Hp2.out)
                    clear nb
                    refine hK.out _ _ (show _ from HSF.out _ hb4) (fun hHeld => ?_)
                    clear hK K
                    try simp only [Act.put, List.setIfInBounds_toArray, List.set_cons_zero, List.set_cons_succ]
                    obtain ⟨VX, hVX⟩ : ∃ X, set5 V4 p1 (.int .u32 7) (.int .u32 (en : Int)) (.int .u32 (k : Int)) (.int .u64 (f1 : Int)) (.int .u64 (l1 : Int)) = X := ⟨_, rfl⟩
                    have hz1 : VX.heap[p1]? = some (.cells #[.int .u32 7, .int .u32 (en : Int), .int .u32 (k : Int), .int .u64 (f1 : Int), .int .u64 (l1 : Int)] 26 (0, 0)) := by rw [← hVX]; exact set5_at Hp1.out _ _ _ _ _
                    have hz2 : VX.heap[p2]? = some (.cells #[.int .u32 0, .int .u32 0, .int .u32 0, .int .u64 0, .int .u64 0] 26 (0, 0)) := by rw [← hVX]; exact ((set5_chg V4 p1 _ _ _ _ _).block p2 (Array.getElem?_eq_some_iff.1 Hp2.out).1 (by omega)).trans Hp2.out
                    have hbX : Below wr.heap.size wr VX := by rw [← hVX]; exact hb4.trans ((set5_chg V4 p1 _ _ _ _ _).below hb4.size (fun i e => by omega))
                    refine wpAnyH_ready (rs := [6]) (by kernel_rfl) (by simp) ?_
                    refine AllReadyH.cons rfl (fun K hK => ?_) AllReadyH.nil
                    obtain ⟨f0, f1, f2, f3, f4⟩ := rw5f Hp1.out
                    obtain ⟨x0, x1, x2, x3, x4⟩ := rw5 Hp1.out
                    go_simp
                    change K _ (set5 V4 p1 _ _ _ _ _)
                    rw [hVX]
                    refine hK.out _ _ (show _ from HSF.out _ hbX) (fun hHeld => ?_)
                    clear hK K x0 x1 x2 x3 x4 f0 f1 f2 f3 f4 hVX
                    try simp only [Act.put, List.setIfInBounds_toArray, List.set_cons_zero, List.set_cons_succ]
                    obtain ⟨VY, hVY⟩ : ∃ X, set5 VX p2 (.int .u32 7) (.int .u32 (n' : Int)) (.int .u32 (m : Int)) (.int .u64 (f2 : Int)) (.int .u64 (l2 : Int)) = X := ⟨_, rfl⟩
                    have hy2 : VY.heap[p2]? = some (.cells #[.int .u32 7, .int .u32 (n' : Int), .int .u32 (m : Int), .int .u64 (f2 : Int), .int .u64 (l2 : Int)] 26 (0, 0)) := by rw [← hVY]; exact set5_at hz2 _ _ _ _ _
                    have hy1 : VY.heap[p1]? = some (.cells #[.int .u32 7, .int .u32 (en : Int), .int .u32 (k : Int), .int .u64 (f1 : Int), .int .u64 (l1 : Int)] 26 (0, 0)) := by rw [← hVY]; exact ((set5_chg VX p2 _ _ _ _ _).block p1 (Array.getElem?_eq_some_iff.1 hz1).1 (by omega)).trans hz1
                    have hbY : Below wr.heap.size wr VY := by rw [← hVY]; exact hbX.trans ((set5_chg VX p2 _ _ _ _ _).below hbX.size (fun i e => by omega))
                    refine wpAnyH_ready (rs := [7]) (by kernel_rfl) (by simp) ?_
                    refine AllReadyH.cons rfl (fun K hK => ?_) AllReadyH.nil
                    obtain ⟨f0, f1, f2, f3, f4⟩ := rw5f hz2
                    obtain ⟨x0, x1, x2, x3, x4⟩ := rw5 hz2
                    go_simp
                    change K _ (set5 VX p2 _ _ _ _ _)
                    rw [hVY]
                    refine hK.out _ _ (show _ from HSF.out _ hbY) (fun hHeld => ?_)
                    clear hK K x0 x1 x2 x3 x4 f0 f1 f2 f3 f4
                    try simp only [Act.put, List.setIfInBounds_toArray, List.set_cons_zero, List.set_cons_succ]
                    refine wpAnyH_done (by kernel_rfl) ?_ _
                    refine NoPanic.normal ?_
                    go_wp2_with fail
                    go_meet
                    case rel => exact ⟨p1, p2, rfl, rfl, hy1, hy2, hbY⟩
            case rest =>
              rename World => wv
              obtain ⟨p1, p2, rfl, rfl, hp1, hp2, hbv⟩ := hcut
              have HB6 := Lib.hid (HB5.out.trans (hbv.mono HB5.out.size))
              have HP := Lib.hid (And.intro hp1 hp2)
              have HLO := Lib.hid (HLO.out wv HB6.out)
              have hcs := HSF.out wv hbv
              obtain ⟨e0, e1, e2, e3, e4⟩ := rw5 hp1
              obtain ⟨h0, h1, h2, h3, h4⟩ := rw5 hp2
              obtain ⟨df, hdf⟩ : ∃ d, en + d = n' := ⟨n' - en, by omega⟩
              obtain ⟨dm, hdm⟩ : ∃ d, k + d = m := ⟨m - k, by omega⟩
              have v1 : IntKind.u32.wrap ((n' : Int) - (en : Int)) = (df : Int) := by rw [IntWalk.u32_in _ (by omega)]; omega
              have v2 : IntKind.i64.wrap ((n' : Int) - (en : Int)) = (df : Int) := by rw [IntWalk.i64_in _ (by omega)]; omega
              have v3 : IntKind.i64.wrap (df : Int) = (df : Int) := IntWalk.i64_in _ (by omega)
              have v4 : IntKind.u32.wrap ((m : Int) - (k : Int)) = (dm : Int) := by rw [IntWalk.u32_in _ (by omega)]; omega
              have v5 : IntKind.i64.wrap ((m : Int) - (k : Int)) = (dm : Int) := by rw [IntWalk.i64_in _ (by omega)]; omega
              have v6 : IntKind.i64.wrap (dm : Int) = (dm : Int) := IntWalk.i64_in _ (by omega)
              have hle : ¬ ((l2 : Int) < (l1 : Int)) := by have := HMF.out.2.1; omega
              clear hdf hdm hbv hp1 hp2
              go_upto_region 15 with fail
              go_cut [158] from 117 to 157 (fun s158 wx => s158 = .bool false ∧ wx = wv)
              case first =>
                as_aux_lemma =>
                  clear hcs
                  by_cases hk0 : 0 < k
                  · have hk0' : (0 : Int) < (k : Int) := by omega
                    obtain rfl : f1 = f2 := HMF.out.1 hk0
                    go_wp2_with fail
                    go_meet
                    case rel => exact ⟨rfl, rfl⟩
                  · have hk0' : ¬ ((0 : Int) < (k : Int)) := by omega
                    go_wp2_with fail
                    go_meet
                    case rel => exact ⟨rfl, rfl⟩
              case rest =>
                obtain ⟨rfl, rfl⟩ := hcut
                clear v1 v2 v3 v4 v5 v6 hle
                obtain ⟨x0, x1, x2, x3, x4, y0, y1, y2, y3, y4⟩ := hcs
                clear y0 y1 y2 y3 y4
                go_wp2_with fail
                refine HLO.out.mono ?_
                rintro e w8 ⟨rv, rfl, hlv, nb⟩
                clear x0 x1 x2 x3 x4 e0 e1 e2 e3 e4 h0 h1 h2 h3 h4
                have HB8 := Lib.hid (HB6.out.trans (nb.mono HB6.out.size))
                have hp1 := (nb.block p1 (Array.getElem?_eq_some_iff.1 HP.out.1).1).trans HP.out.1
                have hp2 := (nb.block p2 (Array.getElem?_eq_some_iff.1 HP.out.2).1).trans HP.out.2
                obtain ⟨e0, e1, e2, e3, e4⟩ := rw5 hp1
                obtain ⟨h0, h1, h2, h3, h4⟩ := rw5 hp2
                have HBz := Lib.hid (HBC.out.trans (HB8.out.mono HBC.out.size))
                by_cases hkm' : k = m
                · rw [if_pos hkm'] at hlv
                  obtain ⟨Al, nl, cl, rfl, hnl, hol⟩ := hlv
                  have hnl : 0 = nl := hnl
                  subst hnl
                  subst hkm'
                  have HKW := Lib.hid (knows12 w8 (HT.out.on HBz.out))
                  clear hol nb hp1 hp2 e0 e1 e2 e3 e4 h0 h1 h2 h3 h4
                  go_wp2_with fail
                  refine HKW.out.mono ?_
                  rintro e wf ⟨rfl, nb⟩
                  go_wp2_with fail
                  go_ret
                  exact ⟨rfl, HBz.out.trans (nb.mono HBz.out.size)⟩
                · rw [if_neg hkm'] at hlv
                  obtain ⟨fr, hfr⟩ : ∃ fr, fr = (if k = 0 then f2 else l1 + 1) := ⟨_, rfl⟩
                  rw [← hfr] at hlv
                  obtain ⟨Al, nl, cl, rfl, hnl, hol⟩ := hlv
                  have hnl : 1 = nl := hnl
                  subst hnl
                  obtain ⟨gl, rfl, hgl⟩ := own_at hol (by decide)
                  have q0 := hol.cells (g := gl) rfl 0 (.int .u64 (fr : Int)) rfl
                  have q1' := hol.cells (g := gl) rfl 1 (.int .u64 (l2 : Int)) rfl
                  rw [addr_add1] at q0 q1'
                  have hkm2 : ¬ ((k : Int) = (m : Int)) := by omega
                  have hl2 : l1 ≤ 1099511627776 := by have := HMF.out.2; omega
                  have SF : ∀ V, Below w8.heap.size w8 V → V.cell? ⟨p2, 0, none⟩ = some (.int .u32 7) ∧ V.cell? ⟨p2, 1, none⟩ = some (.int .u32 (n' : Int)) ∧ V.cell? ⟨p2, 2, none⟩ = some (.int .u32 (m : Int)) ∧ V.cell? ⟨p2, 3, none⟩ = some (.int .u64 (f2 : Int)) ∧ V.cell? ⟨p2, 4, none⟩ = some (.int .u64 (l2 : Int)) ∧ V.cell? ⟨gl, 0, none⟩ = some (.int .u64 (fr : Int)) ∧ V.cell? ⟨gl, 1, none⟩ = some (.int .u64 (l2 : Int)) := fun V hV => by
                    have mv : ∀ {g o : Nat} {v : Value}, w8.cell? ⟨g, o, none⟩ = some v → V.cell? ⟨g, o, none⟩ = some v := fun h => (hV.cell (p := ⟨_, _, none⟩) (fblock_of_cell12 h)).trans h
                    exact ⟨mv h0, mv h1, mv h2, mv h3, mv h4, mv q0, mv q1'⟩
                  have HSF := Lib.hid SF
                  have HKW := Lib.hid (fun (V : World) (hV : Below w8.heap.size w8 V) => knows12 V (HT.out.on (HBz.out.trans (hV.mono HBz.out.size))))
                  clear SF hol nb hp1 hp2 e0 e1 e2 h0 h1 h2 q0 q1' hgl
                  go_upto_if 175 with fail
                  go_cut [15] from 165 to 178 (fun s15 wx => s15 = .int .u64 (fr : Int) ∧ wx = w8)
                  case first =>
                    as_aux_lemma =>
                      by_cases hk0 : 0 < k
                      · have hk0' : (0 : Int) < (k : Int) := by omega
                        have hfr2 : fr = l1 + 1 := by rw [hfr, if_neg (by omega)]
                        have v1 : IntKind.u64.wrap ((l1 : Int) + 1) = (fr : Int) := by rw [IntWalk.u64_in _ (by omega)]; omega
                        clear hfr hfr2
                        go_wp2_with fail
                        go_meet
                        case rel => exact ⟨rfl, rfl⟩
                      · have hk0' : ¬ ((0 : Int) < (k : Int)) := by omega
                        have hfr2 : fr = f2 := by rw [hfr, if_pos (by omega)]
                        clear hfr
                        subst hfr2
                        go_wp2_with fail
                        go_meet
                        case rel => exact ⟨rfl, rfl⟩
                  case rest =>
                    rename World => w9
                    obtain ⟨rfl, rfl⟩ := hcut
                    clear hfr e3 e4 h3 h4
                    go_upto_region 23 with fail
                    refine wp_region_noPanic ?_
                    have hb0 : Below w9.heap.size w9 w9.drew := (Below.refl _ _).drew
                    refine wp_region_held_drew (S := fun w' => w'.cell? ⟨p2, 0, none⟩ = some (.int .u32 7) ∧ w'.cell? ⟨p2, 1, none⟩ = some (.int .u32 (n' : Int)) ∧ w'.cell? ⟨p2, 2, none⟩ = some (.int .u32 (m : Int)) ∧ w'.cell? ⟨p2, 3, none⟩ = some (.int .u64 (f2 : Int)) ∧ w'.cell? ⟨p2, 4, none⟩ = some (.int .u64 (l2 : Int)) ∧ w'.cell? ⟨gl, 0, none⟩ = some (.int .u64 (fr : Int)) ∧ w'.cell? ⟨gl, 1, none⟩ = some (.int .u64 (l2 : Int))) (by kernel_rfl) (show _ from HSF.out _ hb0) (fun hHeld => ?_)
                    generalize World.drew w9 = V0 at *
                    refine wpAnyH_take (i := 0) (v := ?_) opAt_0 (by kernel_rfl) (by kernel_rfl) (by kernel_rfl) (fun _ _ _ h => h) (Or.inl ⟨by rfl, ?_⟩) (by assumption) ?_
                    rotate_left
                    · (intro w hSw; obtain ⟨h0, h1, h2, h3, h4, q0, q1⟩ := hSw; go_simp; try with_reducible rfl)
                    try simp only [Act.put, List.setIfInBounds_toArray, List.set_cons_zero, List.set_cons_succ]
                    refine wpAnyH_take (i := 1) (v := ?_) opAt_1 (by kernel_rfl) (by kernel_rfl) (by kernel_rfl) (fun _ _ _ h => h) (Or.inl ⟨by rfl, ?_⟩) (by assumption) ?_
                    rotate_left
                    · (intro w hSw; obtain ⟨h0, h1, h2, h3, h4, q0, q1⟩ := hSw; go_simp; try with_reducible rfl)
                    try simp only [Act.put, List.setIfInBounds_toArray, List.set_cons_zero, List.set_cons_succ]
                    refine wpAnyH_take (i := 2) (v := ?_) opAt_2 (by kernel_rfl) (by kernel_rfl) (by kernel_rfl) (fun _ _ _ h => h) (Or.inl ⟨by rfl, ?_⟩) (by assumption) ?_
                    rotate_left
                    · (intro w hSw; obtain ⟨h0, h1, h2, h3, h4, q0, q1⟩ := hSw; go_simp; try with_reducible rfl)
                    try simp only [Act.put, List.setIfInBounds_toArray, List.set_cons_zero, List.set_cons_succ]
                    refine wpAnyH_take (i := 3) (v := ?_) opAt_3 (by kernel_rfl) (by kernel_rfl) (by kernel_rfl) (fun _ _ _ h => h) (Or.inl ⟨by rfl, ?_⟩) (by assumption) ?_
                    rotate_left
                    · (intro w hSw; obtain ⟨h0, h1, h2, h3, h4, q0, q1⟩ := hSw; go_simp; try with_reducible rfl)
                    try simp only [Act.put, List.setIfInBounds_toArray, List.set_cons_zero, List.set_cons_succ]
                    refine wpAnyH_take (i := 4) (v := ?_) opAt_4 (by kernel_rfl) (by kernel_rfl) (by kernel_rfl) (fun _ _ _ h => h) (Or.inl ⟨by rfl, ?_⟩) (by assumption) ?_
                    rotate_left
                    · (intro w hSw; obtain ⟨h0, h1, h2, h3, h4, q0, q1⟩ := hSw; go_simp; try with_reducible rfl)
                    try simp only [Act.put, List.setIfInBounds_toArray, List.set_cons_zero, List.set_cons_succ]
                    refine wpAnyH_take (i := 5) (v := ?_) opAt_5 (by kernel_rfl) (by kernel_rfl) (by kernel_rfl) (fun _ _ _ h => h) (Or.inl ⟨by rfl, ?_⟩) (by assumption) ?_
                    rotate_left
                    · (intro w hSw; obtain ⟨h0, h1, h2, h3, h4, q0, q1⟩ := hSw; go_simp; try with_reducible rfl)
                    try simp only [Act.put, List.setIfInBounds_toArray, List.set_cons_zero, List.set_cons_succ]
                    refine wpAnyH_take (i := 6) (v := ?_) opAt_6 (by kernel_rfl) (by kernel_rfl) (by kernel_rfl) (fun _ _ _ h => h) (Or.inl ⟨by rfl, ?_⟩) (by assumption) ?_
                    rotate_left
                    · (intro w hSw; obtain ⟨h0, h1, h2, h3, h4, q0, q1⟩ := hSw; go_simp; try with_reducible rfl)
                    try simp only [Act.put, List.setIfInBounds_toArray, List.set_cons_zero, List.set_cons_succ]
                    refine wpAnyH_take (i := 7) (v := ?_) opAt_7 (by kernel_rfl) (by kernel_rfl) (by kernel_rfl) (fun _ _ _ h => h) (Or.inl ⟨by rfl, ?_⟩) (by assumption) ?_
                    rotate_left
                    · (intro w hSw; obtain ⟨h0, h1, h2, h3, h4, q0, q1⟩ := hSw; go_simp; try with_reducible rfl)
                    try simp only [Act.put, List.setIfInBounds_toArray, List.set_cons_zero, List.set_cons_succ]
                    refine wpAnyH_take (i := 8) (v := ?_) opAt_8 (by kernel_rfl) (by kernel_rfl) (by kernel_rfl) (fun _ _ _ h => h) (Or.inl ⟨by rfl, ?_⟩) (by assumption) ?_
                    rotate_left
                    · (intro w hSw; obtain ⟨h0, h1, h2, h3, h4, q0, q1⟩ := hSw; go_simp; try with_reducible rfl)
                    try simp only [Act.put, List.setIfInBounds_toArray, List.set_cons_zero, List.set_cons_succ]
                    refine wpAnyH_take (i := 9) (v := ?_) opAt_9 (by kernel_rfl) (by kernel_rfl) (by kernel_rfl) (fun _ _ _ h => h) (Or.inl ⟨by rfl, ?_⟩) (by assumption) ?_
                    rotate_left
                    · (intro w hSw; obtain ⟨h0, h1, h2, h3, h4, q0, q1⟩ := hSw; go_simp; try with_reducible rfl)
                    try simp only [Act.put, List.setIfInBounds_toArray, List.set_cons_zero, List.set_cons_succ]
                    refine wpAnyH_take (i := 10) (v := ?_) opAt_10 (by kernel_rfl) (by kernel_rfl) (by kernel_rfl) (fun _ _ _ h => h) (Or.inl ⟨by rfl, ?_⟩) (by assumption) ?_
                    rotate_left
                    · (intro w hSw; obtain ⟨h0, h1, h2, h3, h4, q0, q1⟩ := hSw; go_simp; try with_reducible rfl)
                    try simp only [Act.put, List.setIfInBounds_toArray, List.set_cons_zero, List.set_cons_succ]
                    refine wpAnyH_take (i := 11) (v := ?_) opAt_11 (by kernel_rfl) (by kernel_rfl) (by kernel_rfl) (fun _ _ _ h => h) (Or.inl ⟨by rfl, ?_⟩) (by assumption) ?_
                    rotate_left
                    · (intro w hSw; obtain ⟨h0, h1, h2, h3, h4, q0, q1⟩ := hSw; go_simp; try with_reducible rfl)
                    try simp only [Act.put, List.setIfInBounds_toArray, List.set_cons_zero, List.set_cons_succ]
                    refine wpAnyH_take (i := 12) (v := ?_) opAt_12 (by kernel_rfl) (by kernel_rfl) (by kernel_rfl) (fun _ _ _ h => h) (Or.inl ⟨by rfl, ?_⟩) (by assumption) ?_
                    rotate_left
                    · (intro w hSw; obtain ⟨h0, h1, h2, h3, h4, q0, q1⟩ := hSw; go_simp; try with_reducible rfl)
                    try simp only [Act.put, List.setIfInBounds_toArray, List.set_cons_zero, List.set_cons_succ]
                    refine wpAnyH_take (i := 13) (v := ?_) opAt_13 (by kernel_rfl) (by kernel_rfl) (by kernel_rfl) (fun _ _ _ h => h) (Or.inl ⟨by rfl, ?_⟩) (by assumption) ?_
                    rotate_left
                    · (intro w hSw; obtain ⟨h0, h1, h2, h3, h4, q0, q1⟩ := hSw; go_simp; try with_reducible rfl)
                    try simp only [Act.put, List.setIfInBounds_toArray, List.set_cons_zero, List.set_cons_succ]
                    refine wpAnyH_ready (rs := [14]) (by kernel_rfl) (by simp) ?_
                    refine AllReadyH.cons rfl (fun K hK => ?_) AllReadyH.nil
                    go_simp
                    refine (HKW.out V0 hb0).mono ?_
                    rintro e V1 ⟨rfl, nb⟩
                    have hb1 : Below w9.heap.size w9 V1 := hb0.trans (nb.mono hb0.size)
                    go_wp2_with fail
                    refine hK.out _ _ (show _ from HSF.out _ hb1) (fun hHeld => ?_)
                    clear hK K
                    try simp only [Act.put, List.setIfInBounds_toArray, List.set_cons_zero, List.set_cons_succ]
                    refine wpAnyH_take (i := 15) (v := ?_) opAt_15 (by kernel_rfl) (by kernel_rfl) (by kernel_rfl) (fun _ _ _ h => h) (Or.inl ⟨by rfl, ?_⟩) (by assumption) ?_
                    rotate_left
                    · (intro w hSw; obtain ⟨h0, h1, h2, h3, h4, q0, q1⟩ := hSw; go_simp; try with_reducible rfl)
                    try simp only [Act.put, List.setIfInBounds_toArray, List.set_cons_zero, List.set_cons_succ]
                    refine wpAnyH_take (i := 16) (v := ?_) opAt_16 (by kernel_rfl) (by kernel_rfl) (by kernel_rfl) (fun _ _ _ h => h) (Or.inl ⟨by rfl, ?_⟩) (by assumption) ?_
                    rotate_left
                    · (intro w hSw; obtain ⟨h0, h1, h2, h3, h4, q0, q1⟩ := hSw; go_simp; try with_reducible rfl)
                    try simp only [Act.put, List.setIfInBounds_toArray, List.set_cons_zero, List.set_cons_succ]
                    refine wpAnyH_done (by kernel_rfl) ?_ _
                    refine NoPanic.normal ?_
                    go_wp2_with fail
                    go_ret
                    exact ⟨rfl, HBz.out.trans (hb1.mono HBz.out.size)⟩
end Go.Proofs.YtkpkfgcbccaibaaDoor.ScanMore

