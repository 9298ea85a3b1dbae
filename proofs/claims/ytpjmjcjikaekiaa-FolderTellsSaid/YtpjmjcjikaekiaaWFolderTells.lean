
/-
  FolderTells' walk.
-/
import Derived.Test.YtpjmjcjikaekiaaHxTells
import Derived.Deep.CutBlock
import Derived.Deep.CutRange
import Derived.Deep.LoopGhost
import Derived.BigGuard
import Derived.BigCall
import Derived.CellFam
import Derived.Deep.Draws
import Derived.Deep.QuietTactic
import Derived.BigQuiet
set_option linter.unusedVariables false
set_option linter.unusedSimpArgs false
namespace Go.Proofs.Ytpjmjcjikaekiaa
open Go.RowKit Go.Maps
namespace folderTells

set_option maxRecDepth 100000 in
set_option maxHeartbeats 8000000 in
theorem walk (v0 : Value) (l0 : List Call6) (w : World) (hl0 : Calls6 w w.heap.size v0 l0) :
    Calls Try.prog 3 #[v0] w fun e w' => e = .returned (.bool true) ∧ Below w.heap.size w w' := by
  have HL0 := Lib.hid hl0
  obtain ⟨A0, c0, rfl, hc0, hm0, hx0, hy0⟩ := hl0
  obtain ⟨k0, hk0⟩ : ∃ k, k = l0.length := ⟨_, rfl⟩
  have hm0' : k0 ≤ 9223372036854775807 := by unfold maxLen at hm0; omega
  rw [← hk0]
  have Hk0 := Lib.hid hk0
  clear hc0 hm0 hk0 hx0 hy0
  go_enter Try.func3, Try.ntmps3
  go_wp2_with fail
  refine (hnew _).mono ?_
  rintro e w1 ⟨X1, M1, rfl, h1, hb1, hM1⟩
  have H1 := Lib.hid (⟨h1, hb1, hM1⟩ : HLive w w1 X1 M1 (fun _ => False) PSt.new)
  clear h1 hb1 hM1
  go_wp2_with fail
  refine (rnew _).mono ?_
  rintro e w2 ⟨Y, vs1, rfl, hr1, hb2, hY, hV⟩
  have HT1 : Hid (TI w w2 X1 M1 (fun _ => False) PSt.new Y (fun _ => False) vs1 [.slice none 0 0] PSt.new.states PSt.new.last) := Lib.hid ⟨H1.out.on hb2, hr1, fun i hi => by
    have hlo : w1.heap.size ≤ i := by
      rcases hi with rfl | hi | hi
      · exact hY
      · exact hV i hi
      · exact hi.elim
    exact ⟨fun e => by have := H1.out.ltM i (.inl e); omega, fun e => e, Nat.le_trans H1.out.below.size hlo⟩⟩
  clear hr1 hb2 hY hV H1
  go_wp2_with fail
  go_loopw [3, 5] (fun f i wr => ∃ (j X : Nat) (M R N : Nat → Prop) (s : PSt) (vs : Value) (vals : List Value), j ≤ k0 ∧ j ≤ 80 ∧ f = .pointer (some ⟨X, 0, none⟩) ∧ i = .int .i64 j ∧ TI w wr X M R s Y N vs vals s.states s.last ∧ GInv s ∧ Made s ∧ s.big ≤ j ∧ s.last ≤ j) (fun _ i _ => k0 - (intOf i).toNat)
  case atStart => exact ⟨0, X1, M1, _, _, PSt.new, vs1, _, by omega, by omega, rfl, rfl, HT1.out, GInv.new, Made.new, by simp [PSt.new, PSt.big], by simp [PSt.new]⟩
  case round =>
    obtain ⟨j, X, M, R, N, s, vs, vals, hj, hj80, rfl, rfl, hti, hG, hMd, hbig, hlast⟩ := hrel
    have HT := Lib.hid hti
    have HG := Lib.hid hG
    have HMd := Lib.hid hMd
    have Hbig : Hid (s.big ≤ j ∧ s.last ≤ j) := ⟨hbig, hlast⟩
    clear hti hG hMd hbig hlast HT1
    by_cases hgo : j < k0 ∧ j < 80
    · obtain ⟨g1, g2⟩ := hgo
      obtain ⟨c, hc⟩ : ∃ c, l0[j]? = some c := ⟨l0[j]'(by have := Hk0.out; omega), List.getElem?_eq_getElem _⟩
      obtain ⟨b, o, rfl, hok, a0, a1, a2, a3⟩ := HL0.out.at_ HT.out.live.below rfl hc
      have d1 : decide ((j : Int) < (k0 : Int)) = true := decide_eq_true (by omega)
      have d2 : decide ((j : Int) < 80) = true := decide_eq_true (by omega)
      have Hok := Lib.hid hok
      have hsz := Lib.hid (show c.name.size ≤ maxLen ∧ c.to.size ≤ maxLen from ⟨hok.1, hok.2⟩)
      obtain ⟨wa, hwa⟩ : ∃ wa, wa = wr.alloc (.cells #[.int .i64 c.what, .string c.name, .string c.to, .int .i64 c.keep] 28) := ⟨_, rfl⟩
      have hba : Below wr.heap.size wr wa := by rw [hwa]; exact (Below.refl _ _).alloc (Nat.le_refl _) _
      obtain ⟨P, hP⟩ : ∃ P, P = wr.heap.size := ⟨_, rfl⟩
      have hsa : wa.heap.size = P + 1 := by rw [hwa, hP]; simp
      have p0 : wa.cell? ⟨P, 0, none⟩ = some (.int .i64 c.what) := by rw [hwa, hP]; simp
      have p1 : wa.cell? ⟨P, 1, none⟩ = some (.string c.name) := by rw [hwa, hP]; simp
      have p2 : wa.cell? ⟨P, 2, none⟩ = some (.string c.to) := by rw [hwa, hP]; simp
      have p3 : wa.cell? ⟨P, 3, none⟩ = some (.int .i64 c.keep) := by rw [hwa, hP]; simp
      have HPa : Hid (PC wa P c) := ⟨p0, p1, p2, p3⟩
      have HTa := Lib.hid (HT.out.on hba)
      have HPM : Hid (P < wa.heap.size ∧ (∀ i, M i → i ≠ P) ∧ ∀ i, DB Y N vs i → i ≠ P) := Lib.hid ⟨by omega, fun i hi e => by have := HT.out.live.ltM i (.inl hi); omega, fun i hi e => by have := HT.out.lt i hi; omega⟩
      clear hok hc hba hsa
      go_upto_region 8 with fail
      rw [← hwa, ← hP]
      clear hwa hP
      obtain ⟨B, hB⟩ : ∃ B, B = decide (c.what = 7 ∨ c.what = 8) := ⟨_, rfl⟩
      have HBd := Lib.hid hB
      clear hB
      go_cut [47] from 26 to 179 (fun s47 wx => s47 = .bool B ∧ wx = wa)
      case first =>
        by_cases q1 : c.what = 7
        · have d3 : (c.what == 7) = true := by rw [q1]; rfl
          obtain rfl : B = true := HBd.out.trans (decide_eq_true (.inl q1))
          clear q1
          go_wp2_with fail
          go_meet
          exact ⟨rfl, rfl⟩
        · by_cases q2 : c.what = 8
          · have d3 : (c.what == 7) = false := by simpa using q1
            have d4 : (c.what == 8) = true := by rw [q2]; rfl
            obtain rfl : B = true := HBd.out.trans (decide_eq_true (.inr q2))
            clear q1 q2
            go_wp2_with fail
            go_meet
            exact ⟨rfl, rfl⟩
          · have d3 : (c.what == 7) = false := by simpa using q1
            have d4 : (c.what == 8) = false := by simpa using q2
            obtain rfl : B = false := HBd.out.trans (decide_eq_false fun h => h.elim q1 q2)
            clear q1 q2
            go_wp2_with fail
            go_meet
            exact ⟨rfl, rfl⟩
      case rest =>
        obtain ⟨rfl, rfl⟩ := hcut
        go_upto_if 47 with fail
        go_cut [3, 7] from 26 to 179 (fun f _ wx => ∃ (X2 : Nat) (M2 : Nat → Prop), f = .pointer (some ⟨X2, 0, none⟩) ∧ TI w wx X2 M2 R s Y N vs vals s.states s.last ∧ (∀ i, M2 i → i ≠ P) ∧ PC wx P c)
        case first =>
          as_aux_lemma =>
            cases B
            · go_wp2_with fail
              go_meet
              case rel => exact ⟨X, M, rfl, HTa.out, HPM.out.2.1, HPa.out⟩
            · go_upto_region 10 with fail
              by_cases q1 : c.what = 7
              · have d3 : (c.what == 7) = true := by rw [q1]; rfl
                clear q1
                go_wp2_with fail
                refine (hcopy HTa.out.live.fol).mono ?_
                rintro e w3 ⟨X7, M7, rfl, h7, hb7, hM7⟩
                obtain ⟨ht3, ha3⟩ := HTa.out.swap h7 hb7 hM7
                have HT3 := Lib.hid ht3
                have HA3 := Lib.hid ha3
                have Hmf := Lib.hid (show ∀ i, M7 i → i ≠ P from fun i hi e => by have h7 := hM7 i hi; have := HPM.out.1; omega)
                have Hmo := Lib.hid (HPM.out.2.1)
                have HP3 := Lib.hid (HPa.out.on hb7)
                clear ht3 ha3 h7 hb7 hM7 p0 p1 p2 p3
                go_wp2_with fail
                refine (hcreate HA3.out.fol (by have h9 := Hbig.out; unfold PSt.big at h9; omega) (by have h9 := Hbig.out; omega) { data := #[120] } (by decide)).mono ?_
                rintro e w4 ⟨rfl, hm⟩
                obtain ⟨Mo4, Ro4, ha4, ht4, hc4, ho4⟩ := HA3.out.mut HT3.out hm
                have Hbc := Lib.hid (big_create s { data := #[120] })
                obtain ⟨so4, hso4⟩ : ∃ so4, so4 = (createP s { data := #[120] }).2.2 := ⟨_, rfl⟩
                rw [← hso4] at ha4 Hbc
                have HT4 := Lib.hid ht4
                have HA4 := Lib.hid ha4
                have Hmo4 : Hid (∀ i, Mo4 i → i ≠ P) := Lib.hid (fun i hi e => (ho4 i hi).elim (fun e2 => Hmo.out i e2 e) (fun e2 => by have := HP3.out.lt; omega))
                have HP4 := Lib.hid (HP3.out.chg hc4 (fun e => Hmo.out P e rfl))
                generalize (((createP s { data := #[120] }).1 : Nat) : Int) = x1
                generalize (((createP s { data := #[120] }).2.1 : Nat) : Int) = x2
                obtain ⟨p0, p1, p2, p3⟩ := HP4.out
                clear hm ha4 ht4 hc4 ho4 hso4 HT3 HA3 HP3 Hmo
                go_wp2_with fail
                clear p0 p1 p2 p3
                refine (hremove HA4.out.fol (by have h8 := Hbc.out; have h9 := Hbig.out; unfold PSt.big at h8 h9; omega) c.name Hok.out.1).mono ?_
                rintro e w5 ⟨rfl, hm⟩
                obtain ⟨Mo5, Ro5, ha5, ht5, hc5, ho5⟩ := HA4.out.mut HT4.out hm
                have HT5 := Lib.hid ht5
                have HA5 := Lib.hid ha5
                have Hmo5 : Hid (∀ i, Mo5 i → i ≠ P) := Lib.hid (fun i hi e => (ho5 i hi).elim (fun e2 => Hmo4.out i e2 e) (fun e2 => by have := HP4.out.lt; omega))
                have HP5 := Lib.hid (HP4.out.chg hc5 (fun e => Hmo4.out P e rfl))
                generalize (((removeP so4 c.name).1 : Nat) : Int) = x3
                clear hm ha5 ht5 hc5 ho5 HT4 HA4 HP4 Hmo4
                go_wp2_with fail
                refine (hcrash HA5.out.fol 1).mono ?_
                rintro e w6 ⟨rfl, hm⟩
                obtain ⟨Mo6, Ro6, ha6, ht6, hc6, ho6⟩ := HA5.out.mut HT5.out hm
                have HT6 := Lib.hid ht6
                have HP6 := Lib.hid (HP5.out.chg hc6 (fun e => Hmo5.out P e rfl))
                clear hm ha6 ht6 hc6 ho6 HT5 HA5 HP5 Hmo5
                go_wp2_with fail
                go_meet
                case rel => exact ⟨X7, M7, rfl, HT6.out, Hmf.out, HP6.out⟩
              · have d3 : (c.what == 7) = false := by simpa using q1
                clear q1
                go_wp2_with fail
                refine (hcopy HTa.out.live.fol).mono ?_
                rintro e w3 ⟨X7, M7, rfl, h7, hb7, hM7⟩
                obtain ⟨ht3, ha3⟩ := HTa.out.beside h7 hb7 hM7
                have HT3 := Lib.hid ht3
                have HA3 := Lib.hid ha3
                have Hmf := Lib.hid (HPM.out.2.1)
                have Hmo := Lib.hid (show ∀ i, M7 i → i ≠ P from fun i hi e => by have h7 := hM7 i hi; have := HPM.out.1; omega)
                have HP3 := Lib.hid (HPa.out.on hb7)
                clear ht3 ha3 h7 hb7 hM7 p0 p1 p2 p3
                go_wp2_with fail
                refine (hcreate HA3.out.fol (by have h9 := Hbig.out; unfold PSt.big at h9; omega) (by have h9 := Hbig.out; omega) { data := #[120] } (by decide)).mono ?_
                rintro e w4 ⟨rfl, hm⟩
                obtain ⟨Mo4, Ro4, ha4, ht4, hc4, ho4⟩ := HA3.out.mut HT3.out hm
                have Hbc := Lib.hid (big_create s { data := #[120] })
                obtain ⟨so4, hso4⟩ : ∃ so4, so4 = (createP s { data := #[120] }).2.2 := ⟨_, rfl⟩
                rw [← hso4] at ha4 Hbc
                have HT4 := Lib.hid ht4
                have HA4 := Lib.hid ha4
                have Hmo4 : Hid (∀ i, Mo4 i → i ≠ P) := Lib.hid (fun i hi e => (ho4 i hi).elim (fun e2 => Hmo.out i e2 e) (fun e2 => by have := HP3.out.lt; omega))
                have HP4 := Lib.hid (HP3.out.chg hc4 (fun e => Hmo.out P e rfl))
                generalize (((createP s { data := #[120] }).1 : Nat) : Int) = x1
                generalize (((createP s { data := #[120] }).2.1 : Nat) : Int) = x2
                obtain ⟨p0, p1, p2, p3⟩ := HP4.out
                clear hm ha4 ht4 hc4 ho4 hso4 HT3 HA3 HP3 Hmo
                go_wp2_with fail
                clear p0 p1 p2 p3
                refine (hremove HA4.out.fol (by have h8 := Hbc.out; have h9 := Hbig.out; unfold PSt.big at h8 h9; omega) c.name Hok.out.1).mono ?_
                rintro e w5 ⟨rfl, hm⟩
                obtain ⟨Mo5, Ro5, ha5, ht5, hc5, ho5⟩ := HA4.out.mut HT4.out hm
                have HT5 := Lib.hid ht5
                have HA5 := Lib.hid ha5
                have Hmo5 : Hid (∀ i, Mo5 i → i ≠ P) := Lib.hid (fun i hi e => (ho5 i hi).elim (fun e2 => Hmo4.out i e2 e) (fun e2 => by have := HP4.out.lt; omega))
                have HP5 := Lib.hid (HP4.out.chg hc5 (fun e => Hmo4.out P e rfl))
                generalize (((removeP so4 c.name).1 : Nat) : Int) = x3
                clear hm ha5 ht5 hc5 ho5 HT4 HA4 HP4 Hmo4
                go_wp2_with fail
                refine (hcrash HA5.out.fol 1).mono ?_
                rintro e w6 ⟨rfl, hm⟩
                obtain ⟨Mo6, Ro6, ha6, ht6, hc6, ho6⟩ := HA5.out.mut HT5.out hm
                have HT6 := Lib.hid ht6
                have HP6 := Lib.hid (HP5.out.chg hc6 (fun e => Hmo5.out P e rfl))
                clear hm ha6 ht6 hc6 ho6 HT5 HA5 HP5 Hmo5
                go_wp2_with fail
                go_meet
                case rel => exact ⟨X, M, rfl, HT6.out, Hmf.out, HP6.out⟩
        case rest =>
          obtain ⟨X2, M2, rfl, ht2, hm2, hp2⟩ := hcut
          have HT2 := Lib.hid ht2
          have HP2 := Lib.hid hp2
          have Hm2 := Lib.hid hm2
          obtain ⟨p0, p1, p2, p3⟩ := hp2
          clear ht2 hm2 HTa HPa HT HBd
          go_wp2_with fail
          clear p0 p1 p2 p3
          refine (hdoes HT2.out.live.fol (by have h9 := Hbig.out; unfold PSt.big at h9; omega) (by have h9 := Hbig.out; omega) c Hok.out).mono ?_
          rintro e w3 ⟨rfl, hmu⟩
          obtain ⟨M3, R3, ht3, hc3, hM3, hR3⟩ := HT2.out.mutP hmu
          have HP3 := Lib.hid (HP2.out.chg hc3 (fun e => Hm2.out P e rfl))
          have hG3 := HG.out.doP HT2.out.live.ok c
          have hD3 := HMd.out.doP c
          have hb3 := doP_big s c
          have kw := rwants_s ht3.ref HT2.out.live.ok (by have h9 := Hbig.out; unfold PSt.big at h9; omega) (by have h9 := Hbig.out; omega) c Hok.out
          obtain ⟨s3, hs3⟩ : ∃ s3, s3 = (doP s c).2.2 := ⟨_, rfl⟩
          obtain ⟨N1, hN1⟩ : ∃ N1, N1 = (doP s c).1 := ⟨_, rfl⟩
          obtain ⟨E1, hE1⟩ : ∃ E1, E1 = (doP s c).2.1 := ⟨_, rfl⟩
          rw [← hs3] at ht3 hG3 hD3 hb3 kw
          rw [← hN1, ← hE1] at kw ⊢
          have HT3 := Lib.hid ht3
          have HW := Lib.hid kw
          have HG3 := Lib.hid hG3
          have HD3 := Lib.hid hD3
          have HB3 : Hid (s3.big ≤ j + 1 ∧ s3.last ≤ j + 1) := by have h9 := Hbig.out; exact ⟨by omega, by omega⟩
          have Hln : Hid (s3.deeds.length ≤ 100 ∧ s3.safe.length ≤ 100 ∧ s3.last ≤ 100 ∧ s3.now.length ≤ 100) := by
            have h9 := HB3.out
            have h8 := doAll_length s3.deeds s3.safe
            unfold PSt.big at h9
            refine ⟨by omega, by omega, by omega, ?_⟩
            unfold PSt.now
            omega
          obtain ⟨p0, p1, p2, p3⟩ := HP3.out
          clear hmu ht3 hc3 hM3 hR3 hG3 hD3 hb3 kw hs3 hN1 hE1 HT2 HP2 Hm2
          go_wp2_with fail
          clear p0 p1 p2 p3
          refine Calls.mono HW.out ?_
          rintro e w4 ⟨rfl, hmr⟩
          obtain ⟨vs4, vals4, N4, ht4, hc4⟩ := HT3.out.mutR hmr
          have HP4 := Lib.hid (HP3.out.chg hc4 (fun e => HPM.out.2.2 P (e.elim .inl (fun e => .inr (.inl e))) rfl))
          have HT4 := Lib.hid ht4
          have kf := hfind_m ht4.live.fol hsz.out.1
          have kr := rfind_s ht4.ref ht4.live.ok (by have := Hln.out.1; omega) c.name
          obtain ⟨fi, hfi⟩ : ∃ fi, fi = (findL s3.now c.name).getD 0 := ⟨_, rfl⟩
          obtain ⟨fb, hfb⟩ : ∃ fb, fb = (findL s3.now c.name).isSome := ⟨_, rfl⟩
          rw [← hfi, ← hfb] at kf kr
          have Hkf := Lib.hid kf
          have Hkr := Lib.hid kr
          obtain ⟨p0, p1, p2, p3⟩ := HP4.out
          clear hmr ht4 hc4 kf kr hfi hfb HT3 HP3 HW
          go_wp2_with fail
          refine Calls.mono Hkf.out ?_
          rintro e w' ⟨rfl, rfl⟩
          go_wp2_with fail
          clear p0 p1 p2 p3
          refine Calls.mono Hkr.out ?_
          rintro e w5 ⟨rfl, hb5⟩
          have HT5 := Lib.hid (HT4.out.on hb5)
          have HP5 := Lib.hid (HP4.out.on hb5)
          clear hb5 Hkf Hkr HT4 HP4
          go_wp2_with fail
          refine (hlist_m HT5.out.live.fol).mono ?_
          rintro e w6 ⟨v16, rfl, hes, hb6⟩
          have HE6 := Lib.hid hes
          have HT6 := Lib.hid (HT5.out.on hb6)
          have HP6 := Lib.hid (HP5.out.on hb6)
          obtain ⟨nn, hnn⟩ : ∃ nn, nn = s3.now.length := ⟨_, rfl⟩
          obtain ⟨q, hq⟩ : ∃ q, q = s3.live.length := ⟨_, rfl⟩
          have hnn2 : nn ≤ 100 := by rw [hnn]; exact Hln.out.2.2.2
          have hq2 : q ≤ 300 := by rw [hq, live_length]; have := Hln.out; omega
          have Hnn := Lib.hid hnn
          have Hq := Lib.hid hq
          obtain ⟨A16, c16, rfl, h161, h162, _⟩ := hes
          rw [← hnn] at HE6 h161 ⊢
          clear hb6 HT5 HP5 hnn hq
          go_wp2_with fail
          refine (hlive_m HT6.out.live.fol (by have := Hln.out; omega) (by have := Hln.out; omega)).mono ?_
          rintro e w7 ⟨v17, rfl, hus, hb7⟩
          have HU7 := Lib.hid hus
          have HT7 := Lib.hid (HT6.out.on hb7)
          have HP7 := Lib.hid (HP6.out.on hb7)
          have HE7 := Lib.hid (HE6.out.on hb7)
          obtain ⟨A17, c17, rfl, h171, h172, _⟩ := hus
          rw [← Hq.out] at HU7 h171 ⊢
          obtain ⟨v18, hei, kl⟩ := rlist_s HT7.out.ref (by have := Hln.out.1; omega)
          have HI7 := Lib.hid hei
          have Hkl := Lib.hid kl
          obtain ⟨A18, c18, rfl, h181, _⟩ := hei
          rw [← Hnn.out] at HI7 h181 Hkl
          clear hb7 HT6 HP6 HE6 kl
          go_wp2_with fail
          refine Calls.mono Hkl.out ?_
          rintro e w8 ⟨rfl, hb8⟩
          have HT8 := Lib.hid (HT7.out.on hb8)
          have HP8 := Lib.hid (HP7.out.on hb8)
          have HE8 := Lib.hid (HE7.out.on hb8)
          have HU8 := Lib.hid (HU7.out.on hb8)
          have HI8 := Lib.hid (HI7.out.on hb8)
          clear hb8 HT7 HP7 HE7 HU7 HI7 Hkl
          go_wp2_with fail
          refine (rlive_s HT8.out.ref HT8.out.live.ok HG3.out HD3.out (by have := Hln.out; omega) (by have := Hln.out; omega)).mono ?_
          rintro e w9 ⟨v19, rfl, hus, hb9⟩
          have hb9d : Below w8.heap.size w8 w9.drew := hb9.trans ((Below.refl w9.heap.size w9).drew.mono hb9.size)
          have HV9 := Lib.hid (hus.on (Below.refl w9.heap.size w9).drew)
          have HT9 := Lib.hid (HT8.out.on hb9d)
          have HP9 := Lib.hid (HP8.out.on hb9d)
          have HE9 := Lib.hid (HE8.out.on hb9d)
          have HU9 := Lib.hid (HU8.out.on hb9d)
          have HI9 := Lib.hid (HI8.out.on hb9d)
          obtain ⟨A19, c19, rfl, h191, h192, _⟩ := hus
          rw [← Hq.out] at HV9 h191 ⊢
          obtain ⟨Av, cv, hvs, _⟩ := own_slice HT9.out.ref.own
          obtain ⟨nd, hnd⟩ : ∃ nd, nd = s3.deeds.length := ⟨_, rfl⟩
          rw [states_length, ← hnd] at hvs
          have Hvs := Lib.hid hvs
          have Hc0 : Hid (w9.drew.cell? ⟨Y, 0, none⟩ = some (.slice Av (nd + 1) cv)) := Lib.hid (by rw [← hvs]; exact HT9.out.ref.c0)
          have klo := hloose_m HT9.out.live.fol
          rw [← hnd] at klo
          have hnd2 : nd ≤ 100 := by rw [hnd]; exact Hln.out.1
          have hw1 : IntKind.i64.wrap (nd : Int) = (nd : Int) := IntWalk.i64_in _ (by omega)
          have hw2 : IntKind.i64.wrap ((nd : Int) + 1 - 1) = (nd : Int) := by rw [IntWalk.i64_in _ (by omega)]; omega
          have Hlo := Lib.hid klo
          have hmy := fun W => hmay c.to W Hok.out.2
          have hmr := fun W => rmay_any c.to W Hok.out.2
          obtain ⟨mb, hmb⟩ : ∃ mb, mb = mayN c.to := ⟨_, rfl⟩
          rw [← hmb] at hmy hmr
          have Hmy := Lib.hid hmy
          have Hmr := Lib.hid hmr
          clear hb9 hb9d HT8 HP8 HE8 HU8 HI8 hnd hvs klo hmy hmr hmb
          go_wp2_with fail
          refine wp_region_noPanic ?_
          refine wp_region_held_drew (S := fun w' => w'.cell? ⟨Y, 0, none⟩ = some (.slice Av (nd + 1) cv) ∧ w'.cell? ⟨P, 2, none⟩ = some (.string c.to)) (by kernel_rfl) ⟨Hc0.out, HP9.out.2.2.1⟩ (fun hHeld => ?_)
          generalize World.drew _ = W at *
          refine wpAnyH_take (i := 0) (v := ?_) opAt_0 (by kernel_rfl) (by kernel_rfl) (by kernel_rfl) (fun _ _ _ h => h) (Or.inl ⟨by rfl, ?_⟩) hHeld ?_
          rotate_left
          · (intro w' hSw; obtain ⟨p8, p9⟩ := hSw; go_simp; try with_reducible rfl)
          try simp only [Act.put, List.setIfInBounds_toArray, List.set_cons_zero, List.set_cons_succ]
          refine wpAnyH_take (i := 1) (v := ?_) opAt_1 (by kernel_rfl) (by kernel_rfl) (by kernel_rfl) (fun _ _ _ h => h) (Or.inl ⟨by rfl, ?_⟩) hHeld ?_
          rotate_left
          · (intro w' hSw; obtain ⟨p8, p9⟩ := hSw; go_simp; try with_reducible rfl)
          try simp only [Act.put, List.setIfInBounds_toArray, List.set_cons_zero, List.set_cons_succ]
          refine wpAnyH_take (i := 2) (v := ?_) opAt_2 (by kernel_rfl) (by kernel_rfl) (by kernel_rfl) (fun _ _ _ h => h) (Or.inl ⟨by rfl, ?_⟩) hHeld ?_
          rotate_left
          · (intro w' hSw; obtain ⟨p8, p9⟩ := hSw; go_simp; try with_reducible rfl)
          try simp only [Act.put, List.setIfInBounds_toArray, List.set_cons_zero, List.set_cons_succ]
          refine wpAnyH_take (i := 3) (v := ?_) opAt_3 (by kernel_rfl) (by kernel_rfl) (by kernel_rfl) (fun _ _ _ h => h) (Or.inl ⟨by rfl, ?_⟩) hHeld ?_
          rotate_left
          · (intro w' hSw; obtain ⟨p8, p9⟩ := hSw; go_simp; try with_reducible rfl)
          try simp only [Act.put, List.setIfInBounds_toArray, List.set_cons_zero, List.set_cons_succ]
          refine wpAnyH_take (i := 4) (v := ?_) opAt_4 (by kernel_rfl) (by kernel_rfl) (by kernel_rfl) (fun _ _ _ h => h) (Or.inl ⟨by rfl, ?_⟩) hHeld ?_
          rotate_left
          · (intro w' hSw; obtain ⟨p8, p9⟩ := hSw; go_simp; try with_reducible rfl)
          try simp only [Act.put, List.setIfInBounds_toArray, List.set_cons_zero, List.set_cons_succ]
          refine wpAnyH_take (i := 5) (v := ?_) opAt_5 (by kernel_rfl) (by kernel_rfl) (by kernel_rfl) (fun _ _ _ h => h) (Or.inl ⟨by rfl, ?_⟩) hHeld ?_
          rotate_left
          · (intro w' hSw; obtain ⟨p8, p9⟩ := hSw; go_simp; try with_reducible rfl)
          try simp only [Act.put, List.setIfInBounds_toArray, List.set_cons_zero, List.set_cons_succ]
          refine wpAnyH_take (i := 6) (v := ?_) opAt_6 (by kernel_rfl) (by kernel_rfl) (by kernel_rfl) (fun _ _ _ h => h) (Or.inl ⟨by rfl, ?_⟩) hHeld ?_
          rotate_left
          · (intro w' hSw; obtain ⟨p8, p9⟩ := hSw; go_simp; try with_reducible rfl)
          try simp only [Act.put, List.setIfInBounds_toArray, List.set_cons_zero, List.set_cons_succ]
          refine wpAnyH_take (i := 7) (v := ?_) opAt_7 (by kernel_rfl) (by kernel_rfl) (by kernel_rfl) (fun _ _ _ h => h) (Or.inl ⟨by rfl, ?_⟩) hHeld ?_
          rotate_left
          · (intro w' hSw; obtain ⟨p8, p9⟩ := hSw; go_simp; try with_reducible rfl)
          try simp only [Act.put, List.setIfInBounds_toArray, List.set_cons_zero, List.set_cons_succ]
          refine wpAnyH_take (i := 8) (v := ?_) opAt_8 (by kernel_rfl) (by kernel_rfl) (by kernel_rfl) (fun _ _ _ h => h) (Or.inl ⟨by rfl, ?_⟩) hHeld ?_
          rotate_left
          · (intro w' hSw; obtain ⟨p8, p9⟩ := hSw; go_simp; try with_reducible rfl)
          try simp only [Act.put, List.setIfInBounds_toArray, List.set_cons_zero, List.set_cons_succ]
          refine wpAnyH_take (i := 9) (v := ?_) opAt_9 (by kernel_rfl) (by kernel_rfl) (by kernel_rfl) (fun _ _ _ h => h) (Or.inl ⟨by rfl, ?_⟩) hHeld ?_
          rotate_left
          · (intro w' hSw; obtain ⟨p8, p9⟩ := hSw; go_simp; try with_reducible rfl)
          try simp only [Act.put, List.setIfInBounds_toArray, List.set_cons_zero, List.set_cons_succ]
          refine wpAnyH_take (i := 10) (v := ?_) opAt_10 (by kernel_rfl) (by kernel_rfl) (by kernel_rfl) (fun _ _ _ h => h) (Or.inl ⟨by rfl, ?_⟩) hHeld ?_
          rotate_left
          · (intro w' hSw; obtain ⟨p8, p9⟩ := hSw; go_simp; try with_reducible rfl)
          try simp only [Act.put, List.setIfInBounds_toArray, List.set_cons_zero, List.set_cons_succ]
          refine wpAnyH_take (i := 11) (v := ?_) opAt_11 (by kernel_rfl) (by kernel_rfl) (by kernel_rfl) (fun _ _ _ h => h) (Or.inl ⟨by rfl, ?_⟩) hHeld ?_
          rotate_left
          · (intro w' hSw; obtain ⟨p8, p9⟩ := hSw; go_simp; try with_reducible rfl)
          try simp only [Act.put, List.setIfInBounds_toArray, List.set_cons_zero, List.set_cons_succ]
          refine wpAnyH_take (i := 12) (v := ?_) opAt_12 (by kernel_rfl) (by kernel_rfl) (by kernel_rfl) (fun _ _ _ h => h) (Or.inl ⟨by rfl, ?_⟩) hHeld ?_
          rotate_left
          · (intro w' hSw; obtain ⟨p8, p9⟩ := hSw; go_simp; try with_reducible rfl)
          try simp only [Act.put, List.setIfInBounds_toArray, List.set_cons_zero, List.set_cons_succ]
          refine wpAnyH_take (i := 13) (v := ?_) opAt_13 (by kernel_rfl) (by kernel_rfl) (by kernel_rfl) (fun _ _ _ h => h) (Or.inl ⟨by rfl, ?_⟩) hHeld ?_
          rotate_left
          · (intro w' hSw; obtain ⟨p8, p9⟩ := hSw; go_simp; try with_reducible rfl)
          try simp only [Act.put, List.setIfInBounds_toArray, List.set_cons_zero, List.set_cons_succ]
          refine wpAnyH_take (i := 14) (v := ?_) opAt_14 (by kernel_rfl) (by kernel_rfl) (by kernel_rfl) (fun _ _ _ h => h) (Or.inl ⟨by rfl, ?_⟩) hHeld ?_
          rotate_left
          · (intro w' hSw; obtain ⟨p8, p9⟩ := hSw; go_simp; try with_reducible rfl)
          try simp only [Act.put, List.setIfInBounds_toArray, List.set_cons_zero, List.set_cons_succ]
          refine wpAnyH_take (i := 15) (v := ?_) opAt_15 (by kernel_rfl) (by kernel_rfl) (by kernel_rfl) (fun _ _ _ h => h) (Or.inl ⟨by rfl, ?_⟩) hHeld ?_
          rotate_left
          · (intro w' hSw; obtain ⟨p8, p9⟩ := hSw; go_simp; try with_reducible rfl)
          try simp only [Act.put, List.setIfInBounds_toArray, List.set_cons_zero, List.set_cons_succ]
          refine wpAnyH_take (i := 16) (v := ?_) opAt_16 (by kernel_rfl) (by kernel_rfl) (by kernel_rfl) (fun _ _ _ h => h) (Or.inl ⟨by rfl, ?_⟩) hHeld ?_
          rotate_left
          · (intro w' hSw; obtain ⟨p8, p9⟩ := hSw; go_simp; try with_reducible rfl)
          try simp only [Act.put, List.setIfInBounds_toArray, List.set_cons_zero, List.set_cons_succ]
          refine wpAnyH_take (i := 17) (v := ?_) opAt_17 (by kernel_rfl) (by kernel_rfl) (by kernel_rfl) (fun _ _ _ h => h) (Or.inl ⟨by rfl, ?_⟩) hHeld ?_
          rotate_left
          · (intro w' hSw; obtain ⟨p8, p9⟩ := hSw; go_simp; try with_reducible rfl)
          try simp only [Act.put, List.setIfInBounds_toArray, List.set_cons_zero, List.set_cons_succ]
          refine wpAnyH_take (i := 18) (v := ?_) opAt_18 (by kernel_rfl) (by kernel_rfl) (by kernel_rfl) (fun _ _ _ h => h) (Or.inl ⟨by rfl, ?_⟩) hHeld ?_
          rotate_left
          · (intro w' hSw; obtain ⟨p8, p9⟩ := hSw; go_simp; try with_reducible rfl)
          try simp only [Act.put, List.setIfInBounds_toArray, List.set_cons_zero, List.set_cons_succ]
          refine wpAnyH_take (i := 19) (v := ?_) opAt_19 (by kernel_rfl) (by kernel_rfl) (by kernel_rfl) (fun _ _ _ h => h) (Or.inl ⟨by rfl, ?_⟩) hHeld ?_
          rotate_left
          · (intro w' hSw; obtain ⟨p8, p9⟩ := hSw; go_simp; try with_reducible rfl)
          try simp only [Act.put, List.setIfInBounds_toArray, List.set_cons_zero, List.set_cons_succ]
          refine wpAnyH_take (i := 21) (v := ?_) opAt_21 (by kernel_rfl) (by kernel_rfl) (by kernel_rfl) (fun _ _ _ h => h) (Or.inl ⟨by rfl, ?_⟩) hHeld ?_
          rotate_left
          · (intro w' hSw; obtain ⟨p8, p9⟩ := hSw; go_simp; try with_reducible rfl)
          try simp only [Act.put, List.setIfInBounds_toArray, List.set_cons_zero, List.set_cons_succ]
          refine wpAnyH_take (i := 22) (v := ?_) opAt_22 (by kernel_rfl) (by kernel_rfl) (by kernel_rfl) (fun _ _ _ h => h) (Or.inl ⟨by rfl, ?_⟩) hHeld ?_
          rotate_left
          · (intro w' hSw; obtain ⟨p8, p9⟩ := hSw; go_simp; try with_reducible rfl)
          try simp only [Act.put, List.setIfInBounds_toArray, List.set_cons_zero, List.set_cons_succ]
          refine wpAnyH_take (i := 23) (v := ?_) opAt_23 (by kernel_rfl) (by kernel_rfl) (by kernel_rfl) (fun _ _ _ h => h) (Or.inl ⟨by rfl, ?_⟩) hHeld ?_
          rotate_left
          · (intro w' hSw; obtain ⟨p8, p9⟩ := hSw; go_simp; try with_reducible rfl)
          try simp only [Act.put, List.setIfInBounds_toArray, List.set_cons_zero, List.set_cons_succ]
          refine wpAnyH_take (i := 24) (v := ?_) opAt_24 (by kernel_rfl) (by kernel_rfl) (by kernel_rfl) (fun _ _ _ h => h) (Or.inl ⟨by rfl, ?_⟩) hHeld ?_
          rotate_left
          · (intro w' hSw; obtain ⟨p8, p9⟩ := hSw; go_simp; try with_reducible rfl)
          try simp only [Act.put, List.setIfInBounds_toArray, List.set_cons_zero, List.set_cons_succ]
          refine wpAnyH_take (i := 25) (v := ?_) opAt_25 (by kernel_rfl) (by kernel_rfl) (by kernel_rfl) (fun _ _ _ h => h) (Or.inl ⟨by rfl, ?_⟩) hHeld ?_
          rotate_left
          · (intro w' hSw; obtain ⟨p8, p9⟩ := hSw; go_simp; try with_reducible rfl)
          try simp only [Act.put, List.setIfInBounds_toArray, List.set_cons_zero, List.set_cons_succ]
          refine wpAnyH_take (i := 26) (v := ?_) opAt_26 (by kernel_rfl) (by kernel_rfl) (by kernel_rfl) (fun _ _ _ h => h) (Or.inl ⟨by rfl, ?_⟩) hHeld ?_
          rotate_left
          · (intro w' hSw; obtain ⟨p8, p9⟩ := hSw; go_simp; try with_reducible rfl)
          try simp only [Act.put, List.setIfInBounds_toArray, List.set_cons_zero, List.set_cons_succ]
          refine wpAnyH_ready (rs := [20]) (by kernel_rfl) (by simp) ?_
          refine AllReadyH.cons rfl (fun K hK => ?_) AllReadyH.nil
          go_simp
          refine Calls.mono Hlo.out ?_
          rintro e w' ⟨rfl, rfl⟩
          go_wp2_with fail
          refine hK.out _ _ hHeld (fun hHeld => ?_)
          clear hK K
          try simp only [Act.put, List.setIfInBounds_toArray, List.set_cons_zero, List.set_cons_succ]
          refine wpAnyH_take (i := 27) (v := ?_) opAt_27 (by kernel_rfl) (by kernel_rfl) (by kernel_rfl) (fun _ _ _ h => h) (Or.inl ⟨by rfl, ?_⟩) hHeld ?_
          rotate_left
          · (intro w' hSw; obtain ⟨p8, p9⟩ := hSw; go_simp; try with_reducible rfl)
          try simp only [Act.put, List.setIfInBounds_toArray, List.set_cons_zero, List.set_cons_succ]
          refine wpAnyH_take (i := 28) (v := ?_) opAt_28 (by kernel_rfl) (by kernel_rfl) (by kernel_rfl) (fun _ _ _ h => h) (Or.inl ⟨by rfl, ?_⟩) hHeld ?_
          rotate_left
          · (intro w' hSw; obtain ⟨p8, p9⟩ := hSw; go_simp; try with_reducible rfl)
          try simp only [Act.put, List.setIfInBounds_toArray, List.set_cons_zero, List.set_cons_succ]
          refine wpAnyH_take (i := 29) (v := ?_) opAt_29 (by kernel_rfl) (by kernel_rfl) (by kernel_rfl) (fun _ _ _ h => h) (Or.inl ⟨by rfl, ?_⟩) hHeld ?_
          rotate_left
          · (intro w' hSw; obtain ⟨p8, p9⟩ := hSw; go_simp; try with_reducible rfl)
          try simp only [Act.put, List.setIfInBounds_toArray, List.set_cons_zero, List.set_cons_succ]
          refine wpAnyH_take (i := 30) (v := ?_) opAt_30 (by kernel_rfl) (by kernel_rfl) (by kernel_rfl) (fun _ _ _ h => h) (Or.inl ⟨by rfl, ?_⟩) hHeld ?_
          rotate_left
          · (intro w' hSw; obtain ⟨p8, p9⟩ := hSw; go_simp; try with_reducible rfl)
          try simp only [Act.put, List.setIfInBounds_toArray, List.set_cons_zero, List.set_cons_succ]
          refine wpAnyH_take (i := 31) (v := ?_) opAt_31 (by kernel_rfl) (by kernel_rfl) (by kernel_rfl) (fun _ _ _ h => h) (Or.inl ⟨by rfl, ?_⟩) hHeld ?_
          rotate_left
          · (intro w' hSw; obtain ⟨p8, p9⟩ := hSw; go_simp; try with_reducible rfl)
          try simp only [Act.put, List.setIfInBounds_toArray, List.set_cons_zero, List.set_cons_succ]
          refine wpAnyH_take (i := 32) (v := ?_) opAt_32 (by kernel_rfl) (by kernel_rfl) (by kernel_rfl) (fun _ _ _ h => h) (Or.inl ⟨by rfl, ?_⟩) hHeld ?_
          rotate_left
          · (intro w' hSw; obtain ⟨p8, p9⟩ := hSw; go_simp; try with_reducible rfl)
          try simp only [Act.put, List.setIfInBounds_toArray, List.set_cons_zero, List.set_cons_succ]
          refine wpAnyH_take (i := 33) (v := ?_) opAt_33 (by kernel_rfl) (by kernel_rfl) (by kernel_rfl) (fun _ _ _ h => h) (Or.inl ⟨by rfl, ?_⟩) hHeld ?_
          rotate_left
          · (intro w' hSw; obtain ⟨p8, p9⟩ := hSw; go_simp; try with_reducible rfl)
          try simp only [Act.put, List.setIfInBounds_toArray, List.set_cons_zero, List.set_cons_succ]
          refine wpAnyH_take (i := 34) (v := ?_) opAt_34 (by kernel_rfl) (by kernel_rfl) (by kernel_rfl) (fun _ _ _ h => h) (Or.inl ⟨by rfl, ?_⟩) hHeld ?_
          rotate_left
          · (intro w' hSw; obtain ⟨p8, p9⟩ := hSw; go_simp; try with_reducible rfl)
          try simp only [Act.put, List.setIfInBounds_toArray, List.set_cons_zero, List.set_cons_succ]
          refine wpAnyH_take (i := 35) (v := ?_) opAt_35 (by kernel_rfl) (by kernel_rfl) (by kernel_rfl) (fun _ _ _ h => h) (Or.inl ⟨by rfl, ?_⟩) hHeld ?_
          rotate_left
          · (intro w' hSw; obtain ⟨p8, p9⟩ := hSw; go_simp; try with_reducible rfl)
          try simp only [Act.put, List.setIfInBounds_toArray, List.set_cons_zero, List.set_cons_succ]
          refine wpAnyH_take (i := 36) (v := ?_) opAt_36 (by kernel_rfl) (by kernel_rfl) (by kernel_rfl) (fun _ _ _ h => h) (Or.inl ⟨by rfl, ?_⟩) hHeld ?_
          rotate_left
          · (intro w' hSw; obtain ⟨p8, p9⟩ := hSw; go_simp; try with_reducible rfl)
          try simp only [Act.put, List.setIfInBounds_toArray, List.set_cons_zero, List.set_cons_succ]
          refine wpAnyH_take (i := 37) (v := ?_) opAt_37 (by kernel_rfl) (by kernel_rfl) (by kernel_rfl) (fun _ _ _ h => h) (Or.inl ⟨by rfl, ?_⟩) hHeld ?_
          rotate_left
          · (intro w' hSw; obtain ⟨p8, p9⟩ := hSw; go_simp; try with_reducible rfl)
          try simp only [Act.put, List.setIfInBounds_toArray, List.set_cons_zero, List.set_cons_succ]
          refine wpAnyH_take (i := 38) (v := ?_) opAt_38 (by kernel_rfl) (by kernel_rfl) (by kernel_rfl) (fun _ _ _ h => h) (Or.inl ⟨by rfl, ?_⟩) hHeld ?_
          rotate_left
          · (intro w' hSw; obtain ⟨p8, p9⟩ := hSw; go_simp; try with_reducible rfl)
          try simp only [Act.put, List.setIfInBounds_toArray, List.set_cons_zero, List.set_cons_succ]
          refine wpAnyH_take (i := 39) (v := ?_) opAt_39 (by kernel_rfl) (by kernel_rfl) (by kernel_rfl) (fun _ _ _ h => h) (Or.inl ⟨by rfl, ?_⟩) hHeld ?_
          rotate_left
          · (intro w' hSw; obtain ⟨p8, p9⟩ := hSw; go_simp; try with_reducible rfl)
          try simp only [Act.put, List.setIfInBounds_toArray, List.set_cons_zero, List.set_cons_succ]
          refine wpAnyH_take (i := 40) (v := ?_) opAt_40 (by kernel_rfl) (by kernel_rfl) (by kernel_rfl) (fun _ _ _ h => h) (Or.inl ⟨by rfl, ?_⟩) hHeld ?_
          rotate_left
          · (intro w' hSw; obtain ⟨p8, p9⟩ := hSw; go_simp; try with_reducible rfl)
          try simp only [Act.put, List.setIfInBounds_toArray, List.set_cons_zero, List.set_cons_succ]
          refine wpAnyH_take (i := 41) (v := ?_) opAt_41 (by kernel_rfl) (by kernel_rfl) (by kernel_rfl) (fun _ _ _ h => h) (Or.inl ⟨by rfl, ?_⟩) hHeld ?_
          rotate_left
          · (intro w' hSw; obtain ⟨p8, p9⟩ := hSw; go_simp; try with_reducible rfl)
          try simp only [Act.put, List.setIfInBounds_toArray, List.set_cons_zero, List.set_cons_succ]
          refine wpAnyH_take (i := 42) (v := ?_) opAt_42 (by kernel_rfl) (by kernel_rfl) (by kernel_rfl) (fun _ _ _ h => h) (Or.inl ⟨by rfl, ?_⟩) hHeld ?_
          rotate_left
          · (intro w' hSw; obtain ⟨p8, p9⟩ := hSw; go_simp; try with_reducible rfl)
          try simp only [Act.put, List.setIfInBounds_toArray, List.set_cons_zero, List.set_cons_succ]
          refine wpAnyH_take (i := 43) (v := ?_) opAt_43 (by kernel_rfl) (by kernel_rfl) (by kernel_rfl) (fun _ _ _ h => h) (Or.inl ⟨by rfl, ?_⟩) hHeld ?_
          rotate_left
          · (intro w' hSw; obtain ⟨p8, p9⟩ := hSw; go_simp; try with_reducible rfl)
          try simp only [Act.put, List.setIfInBounds_toArray, List.set_cons_zero, List.set_cons_succ]
          refine wpAnyH_take (i := 44) (v := ?_) opAt_44 (by kernel_rfl) (by kernel_rfl) (by kernel_rfl) (fun _ _ _ h => h) (Or.inl ⟨by rfl, ?_⟩) hHeld ?_
          rotate_left
          · (intro w' hSw; obtain ⟨p8, p9⟩ := hSw; go_simp; try with_reducible rfl)
          try simp only [Act.put, List.setIfInBounds_toArray, List.set_cons_zero, List.set_cons_succ]
          refine wpAnyH_take (i := 45) (v := ?_) opAt_45 (by kernel_rfl) (by kernel_rfl) (by kernel_rfl) (fun _ _ _ h => h) (Or.inl ⟨by rfl, ?_⟩) hHeld ?_
          rotate_left
          · (intro w' hSw; obtain ⟨p8, p9⟩ := hSw; go_simp; try with_reducible rfl)
          try simp only [Act.put, List.setIfInBounds_toArray, List.set_cons_zero, List.set_cons_succ]
          refine wpAnyH_take (i := 47) (v := ?_) opAt_47 (by kernel_rfl) (by kernel_rfl) (by kernel_rfl) (fun _ _ _ h => h) (Or.inl ⟨by rfl, ?_⟩) hHeld ?_
          rotate_left
          · (intro w' hSw; obtain ⟨p8, p9⟩ := hSw; go_simp; try with_reducible rfl)
          try simp only [Act.put, List.setIfInBounds_toArray, List.set_cons_zero, List.set_cons_succ]
          refine wpAnyH_take (i := 48) (v := ?_) opAt_48 (by kernel_rfl) (by kernel_rfl) (by kernel_rfl) (fun _ _ _ h => h) (Or.inl ⟨by rfl, ?_⟩) hHeld ?_
          rotate_left
          · (intro w' hSw; obtain ⟨p8, p9⟩ := hSw; go_simp; try with_reducible rfl)
          try simp only [Act.put, List.setIfInBounds_toArray, List.set_cons_zero, List.set_cons_succ]
          refine wpAnyH_ready (rs := [46]) (by kernel_rfl) (by simp) ?_
          refine AllReadyH.cons rfl (fun K hK => ?_) AllReadyH.nil
          go_simp
          refine (Hmy.out W).mono ?_
          rintro e w10 ⟨rfl, hb10⟩
          have HB10 := Lib.hid hb10
          clear hHeld hb10
          have hHeld := And.intro ((HB10.out.cell (p := ⟨Y, 0, none⟩) (fblock_of_cell Hc0.out)).trans Hc0.out) ((HB10.out.cell (p := ⟨P, 2, none⟩) (fblock_of_cell HP9.out.2.2.1)).trans HP9.out.2.2.1)
          go_wp2_with fail
          refine hK.out _ _ hHeld (fun hHeld => ?_)
          clear hK K
          try simp only [Act.put, List.setIfInBounds_toArray, List.set_cons_zero, List.set_cons_succ]
          refine wpAnyH_ready (rs := [49]) (by kernel_rfl) (by simp) ?_
          refine AllReadyH.cons rfl (fun K hK => ?_) AllReadyH.nil
          go_simp
          refine (Hmr.out w10).mono ?_
          rintro e w11 ⟨rfl, hb11⟩
          have HB11 := Lib.hid (HB10.out.trans (hb11.mono HB10.out.size))
          clear hHeld hb11
          have hHeld := And.intro ((HB11.out.cell (p := ⟨Y, 0, none⟩) (fblock_of_cell Hc0.out)).trans Hc0.out) ((HB11.out.cell (p := ⟨P, 2, none⟩) (fblock_of_cell HP9.out.2.2.1)).trans HP9.out.2.2.1)
          go_wp2_with fail
          refine hK.out _ _ hHeld (fun hHeld => ?_)
          clear hK K
          try simp only [Act.put, List.setIfInBounds_toArray, List.set_cons_zero, List.set_cons_succ]
          refine wpAnyH_take (i := 50) (v := ?_) opAt_50 (by kernel_rfl) (by kernel_rfl) (by kernel_rfl) (fun _ _ _ h => h) (Or.inl ⟨by rfl, ?_⟩) hHeld ?_
          rotate_left
          · (intro w' hSw; obtain ⟨p8, p9⟩ := hSw; go_simp; try with_reducible rfl)
          try simp only [Act.put, List.setIfInBounds_toArray, List.set_cons_zero, List.set_cons_succ]
          refine wpAnyH_take (i := 51) (v := ?_) opAt_51 (by kernel_rfl) (by kernel_rfl) (by kernel_rfl) (fun _ _ _ h => h) (Or.inl ⟨by rfl, ?_⟩) hHeld ?_
          rotate_left
          · (intro w' hSw; obtain ⟨p8, p9⟩ := hSw; go_simp; try with_reducible rfl)
          try simp only [Act.put, List.setIfInBounds_toArray, List.set_cons_zero, List.set_cons_succ]
          refine wpAnyH_done (by kernel_rfl) ?_ _
          refine NoPanic.normal ?_

          go_wp2_with fail
          have HT11 := Lib.hid (HT9.out.on HB11.out)
          have HE11 := Lib.hid (HE9.out.on HB11.out)
          have HU11 := Lib.hid (HU9.out.on HB11.out)
          have HI11 := Lib.hid (HI9.out.on HB11.out)
          have HV11 := Lib.hid (HV9.out.on HB11.out)
          clear HT9 HE9 HU9 HI9 HV9 HP9 Hc0 Hlo Hmy Hmr
          go_loopw [20] (fun i wr2 => ∃ k : Nat, k ≤ nn ∧ i = .int .i64 k ∧ Below w11.heap.size w11 wr2) (fun i _ => nn - (intOf i).toNat)
          case atStart => exact ⟨0, by omega, rfl, Below.refl _ _⟩
          case round =>
            obtain ⟨k, hk, rfl, hbw⟩ := hrel
            have HBW := Lib.hid hbw
            clear hbw
            by_cases hkn : k < nn
            · have hdk : decide ((k : Int) < (nn : Int)) = true := decide_eq_true (by omega)
              have hdk3 : (k : Int) < (nn : Int) := by omega
              obtain ⟨x, hx⟩ : ∃ x, s3.now[k]? = some x := ⟨s3.now[k]'(by have := Hnn.out; omega), List.getElem?_eq_getElem _⟩
              obtain ⟨b1, o1, rfl, _, e0, e1⟩ := (HE11.out.on HBW.out).at_ rfl hx
              obtain ⟨b2, o2, rfl, _, f0, f1⟩ := (HI11.out.on HBW.out).at_ rfl hx
              obtain ⟨xn, xi⟩ := x
              simp only at e0 e1 f0 f1
              have hS : Hid (wr.drew.cell? ⟨b1, o1 + k * 2, none⟩ = some (.string xn) ∧ wr.drew.cell? ⟨b1, o1 + k * 2 + 1, none⟩ = some (.int .u64 (xi : Int)) ∧ wr.drew.cell? ⟨b2, o2 + k * 2, none⟩ = some (.string xn) ∧ wr.drew.cell? ⟨b2, o2 + k * 2 + 1, none⟩ = some (.int .u64 (xi : Int))) := Lib.hid ⟨e0, e1, f0, f1⟩
              have hne := fun w => neq_ent xn xn (xi : Int) (xi : Int) w
              simp only [beq_self_eq_true, Bool.and_self, Bool.not_true] at hne
              have HBd := Lib.hid (HBW.out.trans ((Below.refl wr.heap.size wr).drew.mono HBW.out.size))
              clear e0 e1 f0 f1 hx
              go_wp2_with fail
              refine wp_region_noPanic ?_
              refine wp_region_held_drew (S := fun w' => w'.cell? ⟨b1, o1 + k * 2, none⟩ = some (.string xn) ∧ w'.cell? ⟨b1, o1 + k * 2 + 1, none⟩ = some (.int .u64 (xi : Int)) ∧ w'.cell? ⟨b2, o2 + k * 2, none⟩ = some (.string xn) ∧ w'.cell? ⟨b2, o2 + k * 2 + 1, none⟩ = some (.int .u64 (xi : Int))) (by kernel_rfl) hS.out (fun hHeld => ?_)
              generalize World.drew _ = W2 at *
              refine wpAnyH_take (i := 0) (v := ?_) opAt_0 (by kernel_rfl) (by kernel_rfl) (by kernel_rfl) (fun _ _ _ h => h) (Or.inl ⟨by rfl, ?_⟩) hHeld ?_
              rotate_left
              · (intro w' hSw; obtain ⟨p0, p1, p2, p3⟩ := hSw; go_simp; try with_reducible rfl)
              try simp only [Act.put, List.setIfInBounds_toArray, List.set_cons_zero, List.set_cons_succ]
              refine wpAnyH_take (i := 1) (v := ?_) opAt_1 (by kernel_rfl) (by kernel_rfl) (by kernel_rfl) (fun _ _ _ h => h) (Or.inl ⟨by rfl, ?_⟩) hHeld ?_
              rotate_left
              · (intro w' hSw; obtain ⟨p0, p1, p2, p3⟩ := hSw; go_simp; try with_reducible rfl)
              try simp only [Act.put, List.setIfInBounds_toArray, List.set_cons_zero, List.set_cons_succ]
              refine wpAnyH_take (i := 2) (v := ?_) opAt_2 (by kernel_rfl) (by kernel_rfl) (by kernel_rfl) (fun _ _ _ h => h) (Or.inl ⟨by rfl, ?_⟩) hHeld ?_
              rotate_left
              · (intro w' hSw; obtain ⟨p0, p1, p2, p3⟩ := hSw; go_simp; try with_reducible rfl)
              try simp only [Act.put, List.setIfInBounds_toArray, List.set_cons_zero, List.set_cons_succ]
              refine wpAnyH_take (i := 3) (v := ?_) opAt_3 (by kernel_rfl) (by kernel_rfl) (by kernel_rfl) (fun _ _ _ h => h) (Or.inl ⟨by rfl, ?_⟩) hHeld ?_
              rotate_left
              · (intro w' hSw; obtain ⟨p0, p1, p2, p3⟩ := hSw; go_simp; try with_reducible rfl)
              try simp only [Act.put, List.setIfInBounds_toArray, List.set_cons_zero, List.set_cons_succ]
              refine wpAnyH_take (i := 4) (v := ?_) opAt_4 (by kernel_rfl) (by kernel_rfl) (by kernel_rfl) (fun _ _ _ h => h) (Or.inl ⟨by rfl, ?_⟩) hHeld ?_
              rotate_left
              · (intro w' hSw; obtain ⟨p0, p1, p2, p3⟩ := hSw; go_simp; try with_reducible rfl)
              try simp only [Act.put, List.setIfInBounds_toArray, List.set_cons_zero, List.set_cons_succ]
              refine wpAnyH_take (i := 5) (v := ?_) opAt_5 (by kernel_rfl) (by kernel_rfl) (by kernel_rfl) (fun _ _ _ h => h) (Or.inl ⟨by rfl, ?_⟩) hHeld ?_
              rotate_left
              · (intro w' hSw; obtain ⟨p0, p1, p2, p3⟩ := hSw; go_simp; try with_reducible rfl)
              try simp only [Act.put, List.setIfInBounds_toArray, List.set_cons_zero, List.set_cons_succ]
              refine wpAnyH_take (i := 6) (v := ?_) opAt_6 (by kernel_rfl) (by kernel_rfl) (by kernel_rfl) (fun _ _ _ h => h) (Or.inl ⟨by rfl, ?_⟩) hHeld ?_
              rotate_left
              · (intro w' hSw; obtain ⟨p0, p1, p2, p3⟩ := hSw; go_simp; try with_reducible rfl)
              try simp only [Act.put, List.setIfInBounds_toArray, List.set_cons_zero, List.set_cons_succ]
              refine wpAnyH_take (i := 7) (v := ?_) opAt_7 (by kernel_rfl) (by kernel_rfl) (by kernel_rfl) (fun _ _ _ h => h) (Or.inl ⟨by rfl, ?_⟩) hHeld ?_
              rotate_left
              · (intro w' hSw; obtain ⟨p0, p1, p2, p3⟩ := hSw; go_simp; try with_reducible rfl)
              try simp only [Act.put, List.setIfInBounds_toArray, List.set_cons_zero, List.set_cons_succ]
              refine wpAnyH_take (i := 8) (v := ?_) opAt_8 (by kernel_rfl) (by kernel_rfl) (by kernel_rfl) (fun _ _ _ h => h) (Or.inl ⟨by rfl, ?_⟩) hHeld ?_
              rotate_left
              · (intro w' hSw; obtain ⟨p0, p1, p2, p3⟩ := hSw; go_simp; try with_reducible rfl)
              try simp only [Act.put, List.setIfInBounds_toArray, List.set_cons_zero, List.set_cons_succ]
              refine wpAnyH_done (by kernel_rfl) ?_ _
              refine NoPanic.normal ?_

              go_wp2_with fail
              go_roundw
              case rel => exact ⟨k + 1, by omega, by go_num, HBd.out⟩
              case measure => simp [intOf]; omega
            · have hdk : decide ((k : Int) < (nn : Int)) = false := decide_eq_false (by omega)
              go_wp2_with fail
              go_loopw [21] (fun i wr2 => ∃ k2 : Nat, k2 ≤ q ∧ i = .int .i64 k2 ∧ Below w11.heap.size w11 wr2) (fun i _ => q - (intOf i).toNat)
              case atStart => exact ⟨0, by omega, rfl, HBW.out⟩
              case round =>
                obtain ⟨k2, hk2, rfl, hbw⟩ := hrel
                have HBX := Lib.hid hbw
                clear hbw
                by_cases hkq : k2 < q
                · have hdq : decide ((k2 : Int) < (q : Int)) = true := decide_eq_true (by omega)
                  have hdq3 : (k2 : Int) < (q : Int) := by omega
                  obtain ⟨xi, hx⟩ : ∃ x, s3.live[k2]? = some x := ⟨s3.live[k2]'(by have := Hq.out; omega), List.getElem?_eq_getElem _⟩
                  obtain ⟨b1, o1, rfl, _, e0⟩ := (HU11.out.on HBX.out).at_ rfl hx
                  obtain ⟨b2, o2, rfl, _, f0⟩ := (HV11.out.on HBX.out).at_ rfl hx
                  have hS : Hid (wr.drew.cell? ⟨b1, o1 + k2, none⟩ = some (.int .u64 (xi : Int)) ∧ wr.drew.cell? ⟨b2, o2 + k2, none⟩ = some (.int .u64 (xi : Int))) := Lib.hid ⟨e0, f0⟩
                  have HBd := Lib.hid (HBX.out.trans ((Below.refl wr.heap.size wr).drew.mono HBX.out.size))
                  clear e0 f0 hx
                  go_wp2_with fail
                  refine wp_region_noPanic ?_
                  refine wp_region_held_drew (S := fun w' => w'.cell? ⟨b1, o1 + k2, none⟩ = some (.int .u64 (xi : Int)) ∧ w'.cell? ⟨b2, o2 + k2, none⟩ = some (.int .u64 (xi : Int))) (by kernel_rfl) hS.out (fun hHeld => ?_)
                  generalize World.drew _ = W2 at *
                  refine wpAnyH_take (i := 0) (v := ?_) opAt_0 (by kernel_rfl) (by kernel_rfl) (by kernel_rfl) (fun _ _ _ h => h) (Or.inl ⟨by rfl, ?_⟩) hHeld ?_
                  rotate_left
                  · (intro w' hSw; obtain ⟨p0, p1⟩ := hSw; go_simp; try with_reducible rfl)
                  try simp only [Act.put, List.setIfInBounds_toArray, List.set_cons_zero, List.set_cons_succ]
                  refine wpAnyH_take (i := 1) (v := ?_) opAt_1 (by kernel_rfl) (by kernel_rfl) (by kernel_rfl) (fun _ _ _ h => h) (Or.inl ⟨by rfl, ?_⟩) hHeld ?_
                  rotate_left
                  · (intro w' hSw; obtain ⟨p0, p1⟩ := hSw; go_simp; try with_reducible rfl)
                  try simp only [Act.put, List.setIfInBounds_toArray, List.set_cons_zero, List.set_cons_succ]
                  refine wpAnyH_take (i := 2) (v := ?_) opAt_2 (by kernel_rfl) (by kernel_rfl) (by kernel_rfl) (fun _ _ _ h => h) (Or.inl ⟨by rfl, ?_⟩) hHeld ?_
                  rotate_left
                  · (intro w' hSw; obtain ⟨p0, p1⟩ := hSw; go_simp; try with_reducible rfl)
                  try simp only [Act.put, List.setIfInBounds_toArray, List.set_cons_zero, List.set_cons_succ]
                  refine wpAnyH_take (i := 3) (v := ?_) opAt_3 (by kernel_rfl) (by kernel_rfl) (by kernel_rfl) (fun _ _ _ h => h) (Or.inl ⟨by rfl, ?_⟩) hHeld ?_
                  rotate_left
                  · (intro w' hSw; obtain ⟨p0, p1⟩ := hSw; go_simp; try with_reducible rfl)
                  try simp only [Act.put, List.setIfInBounds_toArray, List.set_cons_zero, List.set_cons_succ]
                  refine wpAnyH_take (i := 4) (v := ?_) opAt_4 (by kernel_rfl) (by kernel_rfl) (by kernel_rfl) (fun _ _ _ h => h) (Or.inl ⟨by rfl, ?_⟩) hHeld ?_
                  rotate_left
                  · (intro w' hSw; obtain ⟨p0, p1⟩ := hSw; go_simp; try with_reducible rfl)
                  try simp only [Act.put, List.setIfInBounds_toArray, List.set_cons_zero, List.set_cons_succ]
                  refine wpAnyH_take (i := 5) (v := ?_) opAt_5 (by kernel_rfl) (by kernel_rfl) (by kernel_rfl) (fun _ _ _ h => h) (Or.inl ⟨by rfl, ?_⟩) hHeld ?_
                  rotate_left
                  · (intro w' hSw; obtain ⟨p0, p1⟩ := hSw; go_simp; try with_reducible rfl)
                  try simp only [Act.put, List.setIfInBounds_toArray, List.set_cons_zero, List.set_cons_succ]
                  refine wpAnyH_take (i := 6) (v := ?_) opAt_6 (by kernel_rfl) (by kernel_rfl) (by kernel_rfl) (fun _ _ _ h => h) (Or.inl ⟨by rfl, ?_⟩) hHeld ?_
                  rotate_left
                  · (intro w' hSw; obtain ⟨p0, p1⟩ := hSw; go_simp; try with_reducible rfl)
                  try simp only [Act.put, List.setIfInBounds_toArray, List.set_cons_zero, List.set_cons_succ]
                  refine wpAnyH_take (i := 7) (v := ?_) opAt_7 (by kernel_rfl) (by kernel_rfl) (by kernel_rfl) (fun _ _ _ h => h) (Or.inl ⟨by rfl, ?_⟩) hHeld ?_
                  rotate_left
                  · (intro w' hSw; obtain ⟨p0, p1⟩ := hSw; go_simp; try with_reducible rfl)
                  try simp only [Act.put, List.setIfInBounds_toArray, List.set_cons_zero, List.set_cons_succ]
                  refine wpAnyH_take (i := 8) (v := ?_) opAt_8 (by kernel_rfl) (by kernel_rfl) (by kernel_rfl) (fun _ _ _ h => h) (Or.inl ⟨by rfl, ?_⟩) hHeld ?_
                  rotate_left
                  · (intro w' hSw; obtain ⟨p0, p1⟩ := hSw; go_simp; try with_reducible rfl)
                  try simp only [Act.put, List.setIfInBounds_toArray, List.set_cons_zero, List.set_cons_succ]
                  refine wpAnyH_done (by kernel_rfl) ?_ _
                  refine NoPanic.normal ?_

                  go_wp2_with fail
                  go_roundw
                  case rel => exact ⟨k2 + 1, by omega, by go_num, HBd.out⟩
                  case measure => simp [intOf]; omega
                · have hdq : decide ((k2 : Int) < (q : Int)) = false := decide_eq_false (by omega)
                  go_wp2_with fail
                  go_roundw
                  case rel => exact ⟨j + 1, X2, M3, R3, N4, s3, vs4, vals4, by omega, by omega, rfl, by go_num, HT11.out.on HBX.out, HG3.out, HD3.out, HB3.out.1, HB3.out.2⟩
                  case measure => simp [intOf]; omega
    · have hd : ¬ j < k0 ∨ (j < k0 ∧ ¬ ((j : Int) < 80)) := by omega
      clear hgo hj hj80
      rcases hd with hd | ⟨hd, hd2⟩ <;> go_wp2_with fail
      all_goals
        refine (hknows _).mono ?_
        rintro e w9 ⟨rfl, hb9⟩
        have HB9 := Lib.hid (HT.out.live.below.trans (hb9.mono HT.out.live.below.size))
        clear hb9
        go_wp2_with fail
        go_ret
        exact ⟨rfl, HB9.out⟩
end folderTells
end Go.Proofs.Ytpjmjcjikaekiaa
