
/-
  FolderKnown's walk.
-/
import Derived.Test.YtpjmjcjikaekiaaDoorKnLaid
set_option linter.unusedVariables false
set_option linter.unusedSimpArgs false
namespace Go.Proofs.YtpjmjcjikaekiaaDoor
open Go.RowKit Go.Maps
namespace folderKnown

set_option maxRecDepth 100000 in
set_option maxHeartbeats 16000000 in
theorem walk (w : World) (ht : Tab w) : Calls Tryd.prog 3 #[] w fun e w' => e = .returned (.bool true) ∧ Below w.heap.size w w' := by
  have HT := Lib.hid ht
  clear ht
  have hbz : Below w.heap.size w (w.alloc (.cells #[.map none, .map none, .slice none 0 0, .int .u64 0, .int .u64 0] 28)) := (Below.refl _ _).alloc (Nat.le_refl _) _
  have hz : (w.alloc (.cells #[.map none, .map none, .slice none 0 0, .int .u64 0, .int .u64 0] 28)).cell? ⟨w.heap.size, 1, none⟩ = some (.map none) := by simp
  go_enter Tryd.func3, Tryd.ntmps3
  go_wp2_with fail
  obtain ⟨Z, hZ⟩ : ∃ Z, Z = w.heap.size := ⟨_, rfl⟩
  rw [← hZ] at hz
  simp only [← hZ]
  have HB0 := Lib.hid hbz
  clear hZ hbz
  generalize w.alloc (.cells #[.map none, .map none, .slice none 0 0, .int .u64 0, .int .u64 0] 28) = w0 at *
  have HZ0 := Lib.hid hz
  clear hz
  refine (hcreate_nil _ _).mono ?_
  rintro e w1 ⟨rfl, hb⟩
  have HB1 := Lib.hid (HB0.out.trans (hb.mono HB0.out.size))
  have HZ1 := Lib.hid ((hb.cell (p := ⟨Z, 1, none⟩) (World.block_lt_of_cell? _ ⟨Z, 1, none⟩ HZ0.out)).trans HZ0.out)
  clear hb
  go_wp2_with fail
  refine (hfind_zero _ _ HZ1.out).mono ?_
  rintro e w2 ⟨rfl, hb⟩
  have HB2 := Lib.hid (HB1.out.trans (hb.mono HB1.out.size))
  have HZ2 := Lib.hid ((hb.cell (p := ⟨Z, 1, none⟩) (World.block_lt_of_cell? _ ⟨Z, 1, none⟩ HZ1.out)).trans HZ1.out)
  clear hb
  go_wp2_with fail
  refine (hrename_nil _ _ _).mono ?_
  rintro e w3 ⟨rfl, hb⟩
  have HB3 := Lib.hid (HB2.out.trans (hb.mono HB2.out.size))
  have HZ3 := Lib.hid ((hb.cell (p := ⟨Z, 1, none⟩) (World.block_lt_of_cell? _ ⟨Z, 1, none⟩ HZ2.out)).trans HZ2.out)
  clear hb
  go_wp2_with fail
  refine (hremove_zero _ _ HZ3.out).mono ?_
  rintro e w4 ⟨rfl, hb⟩
  have HB4 := Lib.hid (HB3.out.trans (hb.mono HB3.out.size))
  have HZ4 := Lib.hid ((hb.cell (p := ⟨Z, 1, none⟩) (World.block_lt_of_cell? _ ⟨Z, 1, none⟩ HZ3.out)).trans HZ3.out)
  clear hb
  go_wp2_with fail
  refine (hsync_nil _).mono ?_
  rintro e w5 ⟨rfl, hb⟩
  have HB5 := Lib.hid (HB4.out.trans (hb.mono HB4.out.size))
  have HZ5 := Lib.hid ((hb.cell (p := ⟨Z, 1, none⟩) (World.block_lt_of_cell? _ ⟨Z, 1, none⟩ HZ4.out)).trans HZ4.out)
  clear hb
  go_wp2_with fail
  refine (hcrash_zero _ _ HZ5.out).mono ?_
  rintro e w6 ⟨rfl, hb⟩
  have HB6 := Lib.hid (HB5.out.trans (hb.mono HB5.out.size))
  have HZ6 := Lib.hid ((hb.cell (p := ⟨Z, 1, none⟩) (World.block_lt_of_cell? _ ⟨Z, 1, none⟩ HZ5.out)).trans HZ5.out)
  clear hb
  go_wp2_with fail
  refine (hlist_nil _).mono ?_
  rintro e w7 ⟨rfl, hb⟩
  have HB7 := Lib.hid (HB6.out.trans (hb.mono HB6.out.size))
  have HZ7 := Lib.hid ((hb.cell (p := ⟨Z, 1, none⟩) (World.block_lt_of_cell? _ ⟨Z, 1, none⟩ HZ6.out)).trans HZ6.out)
  clear hb
  go_wp2_with fail
  refine (hloose_zero _ HZ7.out).mono ?_
  rintro e w8 ⟨rfl, hb⟩
  have HB8 := Lib.hid (HB7.out.trans (hb.mono HB7.out.size))
  have HZ8 := Lib.hid ((hb.cell (p := ⟨Z, 1, none⟩) (World.block_lt_of_cell? _ ⟨Z, 1, none⟩ HZ7.out)).trans HZ7.out)
  clear hb
  go_wp2_with fail
  refine (hlive_nil _).mono ?_
  rintro e w9 ⟨rfl, hb⟩
  have HB9 := Lib.hid (HB8.out.trans (hb.mono HB8.out.size))
  have HZ9 := Lib.hid ((hb.cell (p := ⟨Z, 1, none⟩) (World.block_lt_of_cell? _ ⟨Z, 1, none⟩ HZ8.out)).trans HZ8.out)
  clear hb
  go_wp2_with fail
  refine (hcopy_zero _ HZ9.out).mono ?_
  rintro e w10 ⟨rfl, hb⟩
  have HB10 := Lib.hid (HB9.out.trans (hb.mono HB9.out.size))
  have HZ10 := Lib.hid ((hb.cell (p := ⟨Z, 1, none⟩) (World.block_lt_of_cell? _ ⟨Z, 1, none⟩ HZ9.out)).trans HZ9.out)
  clear hb
  go_wp2_with fail
  refine (hnew _).mono ?_
  rintro e w11 ⟨X, M1, rfl, h1, hb1, hM1⟩
  have H1 : Hid (∃ R, HFolM w11 X M1 R PSt.new) := ⟨_, h1⟩
  have HB11 := Lib.hid (HB10.out.trans (hb1.mono HB10.out.size))
  have HN := Lib.hid (fun i hi => Nat.le_trans HB10.out.size (hM1 i hi))
  clear h1 hb1 hM1
  go_wp2_with fail
  go_loopw [8] (fun i wr => ∃ (j : Nat) (M R : Nat → Prop), j ≤ 256 ∧ i = .int .i64 j ∧ HFolM wr X M R (sF j) ∧ Below w.heap.size w wr ∧ ∀ i, M i → w.heap.size ≤ i) (fun i _ => 256 - (intOf i).toNat)
  case atStart =>
    obtain ⟨R, h⟩ := H1.out
    exact ⟨0, M1, R, by omega, rfl, h, HB11.out, HN.out⟩
  case round =>
    obtain ⟨j, M, R, hj, rfl, hF, hB, hM⟩ := hrel
    have HF := Lib.hid hF
    have HB := Lib.hid hB
    have HM := Lib.hid hM
    clear hF hB hM
    by_cases hjl : j < 256
    · have hd : decide ((j : Int) < 256) = true := decide_eq_true (by omega)
      go_wp2_with fail
      refine (hitoa (HT.out.stays HB.out) j (by omega)).mono ?_
      rintro e w12 ⟨rfl, hb⟩
      have HF2 := Lib.hid (HF.out.on hb)
      have HB2 := Lib.hid (HB.out.trans (hb.mono HB.out.size))
      clear hb
      have hs1 : (sF j).safe.length + (sF j).deeds.length < 100000 := by rw [sF_safe, sF_deeds]; simp; omega
      have kc := hcreate HF2.out hs1 (by rw [sF_last]; omega) (nF j) (by have := nF_size (i := j) (by omega); omega)
      rw [createF_ j hjl] at kc
      have Hkc := Lib.hid kc
      obtain ⟨dg, hdg⟩ : ∃ a : ByteArray, a = { data := (Lib.decDigits j).toArray } := ⟨_, rfl⟩
      have hdl : dg.size ≤ 3 := by
        have h9 := dec_len (u := j) (by omega)
        rw [hdg]
        show (Lib.decDigits j).toArray.size ≤ _
        rw [List.size_toArray]
        exact h9
      have hnF : nF j = { data := #[102, 46] } ++ dg := by rw [hdg]; rfl
      rw [hnF] at Hkc
      simp only [← hdg]
      have hl2 : ({ data := #[102, 46] } : ByteArray).size = 2 := rfl
      clear hdg hnF
      clear kc hs1
      go_wp2_with fail
      refine Calls.mono Hkc.out ?_
      rintro e w13 ⟨rfl, hm⟩
      obtain ⟨M', R', h3, hb3, hM3, _⟩ := hm.below HB2.out HM.out
      have HF3 := Lib.hid h3
      have HB3 := Lib.hid hb3
      have HM3 := Lib.hid hM3
      clear hm h3 hb3 hM3
      go_wp2_with fail
      go_roundw
      case rel => exact ⟨j + 1, M', R', by omega, by go_num, HF3.out, HB3.out, HM3.out⟩
      case measure => simp [intOf]; omega
    · obtain rfl : j = 256 := by omega
      have hs1 : Hid ((sF 256).safe.length + (sF 256).deeds.length < 100000 ∧ (sF 256).last + 1 < 100000000) := ⟨by rw [sF_safe, sF_deeds]; simp, by rw [sF_last]; omega⟩
      have hs2 : Hid (sG.safe.length + sG.deeds.length < 100000 ∧ sG.last + 1 < 100000000) := by
        have h1 : sG.safe = (sF 256).safe := by unfold sG PSt.push; rfl
        have h2 : sG.deeds = (sF 256).deeds ++ [.mv (nF 1) (nF 2)] := by unfold sG PSt.push; rfl
        have h3 : sG.last = (sF 256).last := by unfold sG PSt.push; rfl
        refine ⟨?_, ?_⟩
        · rw [h1, h2, sF_safe, List.length_append, sF_deeds]; simp
        · rw [h3, sF_last]; omega
      have q7 := nF7
      have q1 := nF1
      have q2 := nF2
      have q256 := nF256
      have HF0 := Lib.hid HF.out
      have HBx0 := Lib.hid HB.out
      have HMx0 := Lib.hid HM.out
      clear q7 q1 q2 q256
      have kc := hcreate HF0.out hs1.out.1 hs1.out.2 nOne (by decide)
      rw [kOne] at kc
      have Hkc0 := Lib.hid kc
      clear kc
      go_wp2_with fail
      refine Calls.mono Hkc0.out ?_
      rintro e v1 ⟨rfl, hm⟩
      obtain ⟨Mv1, Rv1, h3, hb3, hM3, _⟩ := hm.below HBx0.out HMx0.out
      have HF1 := Lib.hid h3
      have HBx1 := Lib.hid hb3
      have HMx1 := Lib.hid hM3
      clear hm h3 hb3 hM3
      have kc := hcreate HF1.out hs1.out.1 hs1.out.2 (nF 7) (by rw [nF7]; decide)
      rw [k7] at kc
      simp only [nF7] at kc
      have Hkc1 := Lib.hid kc
      clear kc
      go_wp2_with fail
      refine Calls.mono Hkc1.out ?_
      rintro e v2 ⟨rfl, hm⟩
      obtain ⟨Mv2, Rv2, h3, hb3, hM3, _⟩ := hm.below HBx1.out HMx1.out
      have HF2 := Lib.hid h3
      have HBx2 := Lib.hid hb3
      have HMx2 := Lib.hid hM3
      clear hm h3 hb3 hM3
      have kc := hcreate HF2.out hs1.out.1 hs1.out.2 { data := #[70] } (by decide)
      rw [kBig] at kc
      have Hkc2 := Lib.hid kc
      clear kc
      go_wp2_with fail
      refine Calls.mono Hkc2.out ?_
      rintro e v3 ⟨rfl, hm⟩
      obtain ⟨Mv3, Rv3, h3, hb3, hM3, _⟩ := hm.below HBx2.out HMx2.out
      have HF3 := Lib.hid h3
      have HBx3 := Lib.hid hb3
      have HMx3 := Lib.hid hM3
      clear hm h3 hb3 hM3
      have kc := hrename HF3.out hs1.out.1 (nF 1) { data := #[] } (by rw [nF1]; decide) (by decide)
      rw [kTo] at kc
      simp only [nF1] at kc
      have Hkc3 := Lib.hid kc
      clear kc
      go_wp2_with fail
      refine Calls.mono Hkc3.out ?_
      rintro e v4 ⟨rfl, hm⟩
      obtain ⟨Mv4, Rv4, h3, hb3, hM3, _⟩ := hm.below HBx3.out HMx3.out
      have HF4 := Lib.hid h3
      have HBx4 := Lib.hid hb3
      have HMx4 := Lib.hid hM3
      clear hm h3 hb3 hM3
      have kc := hrename HF4.out hs1.out.1 nNone (nF 1) (by decide) (by rw [nF1]; decide)
      rw [kNone] at kc
      simp only [nF1] at kc
      have Hkc4 := Lib.hid kc
      clear kc
      go_wp2_with fail
      refine Calls.mono Hkc4.out ?_
      rintro e v5 ⟨rfl, hm⟩
      obtain ⟨Mv5, Rv5, h3, hb3, hM3, _⟩ := hm.below HBx4.out HMx4.out
      have HF5 := Lib.hid h3
      have HBx5 := Lib.hid hb3
      have HMx5 := Lib.hid hM3
      clear hm h3 hb3 hM3
      have kc := hrename HF5.out hs1.out.1 (nF 1) (nF 1) (by rw [nF1]; decide) (by rw [nF1]; decide)
      rw [kSame] at kc
      simp only [nF1] at kc
      have Hkc5 := Lib.hid kc
      clear kc
      go_wp2_with fail
      refine Calls.mono Hkc5.out ?_
      rintro e v6 ⟨rfl, hm⟩
      obtain ⟨Mv6, Rv6, h3, hb3, hM3, _⟩ := hm.below HBx5.out HMx5.out
      have HF6 := Lib.hid h3
      have HBx6 := Lib.hid hb3
      have HMx6 := Lib.hid hM3
      clear hm h3 hb3 hM3
      have kc := hremove HF6.out hs1.out.1 { data := #[65] } (by decide)
      rw [kA] at kc
      have Hkc6 := Lib.hid kc
      clear kc
      go_wp2_with fail
      refine Calls.mono Hkc6.out ?_
      rintro e v7 ⟨rfl, hm⟩
      obtain ⟨Mv7, Rv7, h3, hb3, hM3, _⟩ := hm.below HBx6.out HMx6.out
      have HF7 := Lib.hid h3
      have HBx7 := Lib.hid hb3
      have HMx7 := Lib.hid hM3
      clear hm h3 hb3 hM3
      have kc := hremove HF7.out hs1.out.1 (nF 256) (by rw [nF256]; decide)
      rw [k256] at kc
      simp only [nF256] at kc
      have Hkc7 := Lib.hid kc
      clear kc
      go_wp2_with fail
      refine Calls.mono Hkc7.out ?_
      rintro e v8 ⟨rfl, hm⟩
      obtain ⟨Mv8, Rv8, h3, hb3, hM3, _⟩ := hm.below HBx7.out HMx7.out
      have HF8 := Lib.hid h3
      have HBx8 := Lib.hid hb3
      have HMx8 := Lib.hid hM3
      clear hm h3 hb3 hM3
      go_wp2_with fail
      obtain ⟨bsL, bnL, AdL, cdL, hcL, _, _⟩ := HF8.out.cells
      rw [sF_deeds] at hcL
      have HcL := Lib.hid hcL
      clear hcL
      refine (hloose HcL.out).mono ?_
      rintro e w' ⟨rfl, rfl⟩
      have kc := hrename HF8.out hs1.out.1 (nF 1) (nF 2) (by rw [nF1]; decide) (by rw [nF2]; decide)
      rw [kMv] at kc
      simp only [nF1, nF2] at kc
      have Hkc9 := Lib.hid kc
      clear kc
      go_wp2_with fail
      refine Calls.mono Hkc9.out ?_
      rintro e v9 ⟨rfl, hm⟩
      obtain ⟨Mv9, Rv9, h3, hb3, hM3, _⟩ := hm.below HBx8.out HMx8.out
      have HF9 := Lib.hid h3
      have HBx9 := Lib.hid hb3
      have HMx9 := Lib.hid hM3
      clear hm h3 hb3 hM3
      have kc := hcreate HF9.out hs2.out.1 hs2.out.2 nOne (by decide)
      rw [kLast] at kc
      have Hkc10 := Lib.hid kc
      clear kc
      go_wp2_with fail
      refine Calls.mono Hkc10.out ?_
      rintro e v10 ⟨rfl, hm⟩
      obtain ⟨Mv10, Rv10, h3, hb3, hM3, _⟩ := hm.below HBx9.out HMx9.out
      have HF10 := Lib.hid h3
      have HBx10 := Lib.hid hb3
      have HMx10 := Lib.hid hM3
      clear hm h3 hb3 hM3
      go_wp2_with fail
      have km := hmay { data := #[97, 98, 99, 100, 101, 102, 103, 104, 105, 106, 107, 108, 109, 110, 111, 112, 113, 114, 115, 116, 117, 118, 119, 120, 121, 122, 48, 49, 50, 51, 52, 53, 54] } v10 (by decide)
      rw [show mayN { data := #[97, 98, 99, 100, 101, 102, 103, 104, 105, 106, 107, 108, 109, 110, 111, 112, 113, 114, 115, 116, 117, 118, 119, 120, 121, 122, 48, 49, 50, 51, 52, 53, 54] } = false by decide] at km
      refine Calls.mono km ?_
      rintro e m0 ⟨rfl, hb⟩
      have HBm0 := Lib.hid (HBx10.out.trans (hb.mono HBx10.out.size))
      clear hb km
      go_wp2_with fail
      have km := hmay { data := #[97, 98, 99, 100, 101, 102, 103, 104, 105, 106, 107, 108, 109, 110, 111, 112, 113, 114, 115, 116, 117, 118, 119, 120, 121, 122, 45, 46, 48, 57, 49, 50] } m0 (by decide)
      rw [show mayN { data := #[97, 98, 99, 100, 101, 102, 103, 104, 105, 106, 107, 108, 109, 110, 111, 112, 113, 114, 115, 116, 117, 118, 119, 120, 121, 122, 45, 46, 48, 57, 49, 50] } = true by decide] at km
      refine Calls.mono km ?_
      rintro e m1 ⟨rfl, hb⟩
      have HBm1 := Lib.hid (HBm0.out.trans (hb.mono HBm0.out.size))
      clear hb km
      go_wp2_with fail
      have km := hmay { data := #[97, 95, 98] } m1 (by decide)
      rw [show mayN { data := #[97, 95, 98] } = false by decide] at km
      refine Calls.mono km ?_
      rintro e m2 ⟨rfl, hb⟩
      have HBm2 := Lib.hid (HBm1.out.trans (hb.mono HBm1.out.size))
      clear hb km
      go_wp2_with fail
      have km := hmay { data := #[225] } m2 (by decide)
      rw [show mayN { data := #[225] } = false by decide] at km
      refine Calls.mono km ?_
      rintro e m3 ⟨rfl, hb⟩
      have HBm3 := Lib.hid (HBm2.out.trans (hb.mono HBm2.out.size))
      clear hb km
      go_wp2_with fail
      refine (hknows _).mono ?_
      rintro e m9 ⟨rfl, hb⟩
      have HBm9 := Lib.hid (HBm3.out.trans (hb.mono HBm3.out.size))
      clear hb
      go_wp2_with fail
      go_ret
      exact ⟨rfl, HBm9.out⟩
end folderKnown
end Go.Proofs.YtpjmjcjikaekiaaDoor
