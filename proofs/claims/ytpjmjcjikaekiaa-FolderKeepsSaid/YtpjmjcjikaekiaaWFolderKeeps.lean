
/-
  FolderKeeps' walk.
-/
import Derived.Test.YtpjmjcjikaekiaaHxInv
set_option linter.unusedVariables false
set_option linter.unusedSimpArgs false
namespace Go.Proofs.Ytpjmjcjikaekiaa
open Go.RowKit Go.Maps
namespace folderKeeps

def nK : ByteArray := { data := #[107, 101, 101, 112] }
theorem nK_list : nK.toList = [107, 101, 101, 112] := by rw [ByteArray.toList_eq]; rfl
theorem mayK : mayN nK = true := by decide
set_option maxRecDepth 100000 in
set_option maxHeartbeats 8000000 in
theorem walk (v0 : Value) (l0 : List Call6) (v1 : Value) (l1 : List Call6) (w : World) (hl0 : Calls6 w w.heap.size v0 l0) (hl1 : Calls6 w w.heap.size v1 l1) :
    Calls Try.prog 6 #[v0, v1] w fun e w' => e = .returned (.bool true) ∧ Below w.heap.size w w' := by
  have HL0 := Lib.hid hl0
  have HL1 := Lib.hid hl1
  obtain ⟨A0, c0, rfl, hc0, hm0, hx0, hy0⟩ := hl0
  obtain ⟨A1, c1, rfl, hc1, hm1, hx1, hy1⟩ := hl1
  obtain ⟨k0, hk0⟩ : ∃ k, k = l0.length := ⟨_, rfl⟩
  obtain ⟨k1, hk1⟩ : ∃ k, k = l1.length := ⟨_, rfl⟩
  have hm0' : k0 ≤ 9223372036854775807 := by unfold maxLen at hm0; omega
  have hm1' : k1 ≤ 9223372036854775807 := by unfold maxLen at hm1; omega
  rw [← hk0, ← hk1]
  have Hk0 := Lib.hid hk0
  have Hk1 := Lib.hid hk1
  clear hc0 hm0 hc1 hm1 hk0 hk1 hx0 hx1 hy0 hy1
  go_enter Try.func6, Try.ntmps6
  go_wp2_with fail
  refine (hnew _).mono ?_
  rintro e w1 ⟨X, M1, rfl, h1, hb1, hM1⟩
  have H1 := Lib.hid (⟨h1, hb1, hM1⟩ : HLive w w1 X M1 (fun _ => False) PSt.new)
  clear h1 hb1 hM1
  go_wp2_with fail
  go_loopw [6] (fun i wr => ∃ (j : Nat) (M R : Nat → Prop) (s : PSt), j ≤ k0 ∧ j ≤ 60 ∧ i = .int .i64 j ∧ HLive w wr X M R s ∧ KInv nK none s ∧ s.big ≤ j ∧ s.last ≤ j) (fun i _ => k0 - (intOf i).toNat)
  case atStart => exact ⟨0, M1, _, PSt.new, by omega, by omega, rfl, H1.out, ⟨rfl, by simp [PSt.new]⟩, by simp [PSt.new, PSt.big], by simp [PSt.new]⟩
  case round =>
    obtain ⟨j, M, R, s, hj, hj60, rfl, hlive, hK, hbig, hlast⟩ := hrel
    have HLv := Lib.hid hlive
    have HK := Lib.hid hK
    have Hbig : Hid (s.big ≤ j ∧ s.last ≤ j) := ⟨hbig, hlast⟩
    clear hlive hK hbig hlast
    by_cases hgo : j < k0 ∧ j < 60
    · obtain ⟨g1, g2⟩ := hgo
      obtain ⟨c, hc⟩ : ∃ c, l0[j]? = some c := ⟨l0[j]'(by have := Hk0.out; omega), List.getElem?_eq_getElem _⟩
      obtain ⟨b, o, rfl, hok, a0, a1, a2, a3⟩ := HL0.out.at_ HLv.out.below rfl hc
      have d1 : decide ((j : Int) < (k0 : Int)) = true := decide_eq_true (by omega)
      have d2 : decide ((j : Int) < 60) = true := decide_eq_true (by omega)
      have Hok := Lib.hid hok
      have Hc := Lib.hid hc
      clear hok hc
      have hnx : ∀ (w' : World) (M' R' : Nat → Prop) (s' : PSt), HLive w w' X M' R' s' → KInv nK none s' → s'.big ≤ j + 1 → s'.last ≤ j + 1 → ∃ (j' : Nat) (M R : Nat → Prop) (s : PSt), j' ≤ k0 ∧ j' ≤ 60 ∧ Value.int .i64 ((j + 1 : Nat) : Int) = .int .i64 j' ∧ HLive w w' X M R s ∧ KInv nK none s ∧ s.big ≤ j' ∧ s.last ≤ j' :=
        fun w' M' R' s' a b c d => ⟨j + 1, M', R', s', by omega, by omega, rfl, a, b, c, d⟩
      have Hnx := Lib.hid hnx
      clear hnx
      by_cases q1 : c.name = nK
      · have e1 : (c.name.toList == [107, 101, 101, 112]) = true := by rw [q1, nK_list]; rfl
        have e1' : (c.name.toList != [107, 101, 101, 112]) = false := by rw [q1, nK_list]; rfl
        have Q1 := Lib.hid q1
        clear q1
        go_wp2_with fail
        go_roundw
        case rel => exact ⟨j + 1, M, R, s, by omega, by omega, by go_num, HLv.out, HK.out, by have := Hbig.out; omega, by have := Hbig.out; omega⟩
        case measure => simp [intOf]; omega
      · have e1 : (c.name.toList == [107, 101, 101, 112]) = false := by rw [← nK_list]; simpa using toList_ne q1
        have e1' : (c.name.toList != [107, 101, 101, 112]) = true := by rw [← nK_list]; simpa using toList_ne q1
        have Q1 := Lib.hid q1
        clear q1
        by_cases q2 : c.to = nK
        · have e2 : (c.to.toList == [107, 101, 101, 112]) = true := by rw [q2, nK_list]; rfl
          have e2' : (c.to.toList != [107, 101, 101, 112]) = false := by rw [q2, nK_list]; rfl
          have Q2 := Lib.hid q2
          clear q2
          go_wp2_with fail
          go_roundw
          case rel => exact ⟨j + 1, M, R, s, by omega, by omega, by go_num, HLv.out, HK.out, by have := Hbig.out; omega, by have := Hbig.out; omega⟩
          case measure => simp [intOf]; omega
        · have e2 : (c.to.toList == [107, 101, 101, 112]) = false := by rw [← nK_list]; simpa using toList_ne q2
          have e2' : (c.to.toList != [107, 101, 101, 112]) = true := by rw [← nK_list]; simpa using toList_ne q2
          have Q2 := Lib.hid q2
          clear q2
          go_wp2_with fail
          refine (hdoes HLv.out.fol (by have h9 := Hbig.out; unfold PSt.big at h9; omega) (by have h9 := Hbig.out; omega) c Hok.out).mono ?_
          rintro e w2 ⟨rfl, hm⟩
          obtain ⟨M', R', hl2, _⟩ := HLv.out.mut hm
          have hK2 := HK.out.doP HLv.out.ok (c := c) (fun e => Q1.out e.symm) (fun e => Q2.out e.symm)
          have hb2 := doP_big s c
          have HL2 := Lib.hid hl2
          have HK2 := Lib.hid hK2
          have HB2 := Lib.hid hb2
          clear hm hl2 hK2 hb2
          go_wp2_with fail
          go_roundw
          case rel => exact ⟨j + 1, M', R', _, by omega, by omega, by go_num, HL2.out, HK2.out, by have h8 := HB2.out; have := Hbig.out; omega, by have h8 := HB2.out; have := Hbig.out; omega⟩
          case measure => simp [intOf]; omega
    · have hd : ¬ j < k0 ∨ (j < k0 ∧ ¬ ((j : Int) < 60)) := by omega
      have Hj := Lib.hid hj60
      clear hgo hj hj60
      have hcr : createP s nK = (s.last + 1, 0, s.made nK) := by
        have h7 := HK.out.now HLv.out.ok
        have h8 : s.now.length ≤ 60 := by have h9 := doAll_length s.deeds s.safe; have := Hbig.out; have := Hj.out; unfold PSt.big at *; unfold PSt.now; omega
        unfold createP
        rw [if_neg (by simp [mayK]), h7, if_neg (by simp), if_neg (by omega)]
      obtain ⟨L, hL⟩ : ∃ L, L = s.last + 1 := ⟨_, rfl⟩
      obtain ⟨s2, hs2⟩ : ∃ s2, s2 = s.made nK := ⟨_, rfl⟩
      have kc := hcreate HLv.out.fol (by have h9 := Hbig.out; have := Hj.out; unfold PSt.big at h9; omega) (by have h9 := Hbig.out; have := Hj.out; omega) nK (by decide)
      rw [hcr, ← hL, ← hs2] at kc
      have hK2 : KInv nK (some L) (s2.settle s2.deeds.length) := by
        refine ⟨?_, by simp [PSt.settle]⟩
        have h9 : (s2.settle s2.deeds.length).safe = withL s.now nK (s.last + 1) := by
          show doAll s2.safe (s2.deeds.take s2.deeds.length) = _
          rw [List.take_of_length_le (Nat.le_refl _), hs2]
          exact PSt.push_now _ _
        rw [h9, findL_with_same HLv.out.ok.now.1, hL]
      have hbig2 : (s2.settle s2.deeds.length).big ≤ 61 ∧ (s2.settle s2.deeds.length).last ≤ 61 := by
        have h7 := settle_big s2 s2.deeds.length
        have h8 : s2.big = s.big + 1 := by rw [hs2]; unfold PSt.made; rw [push_big]; rfl
        have h9 := Hbig.out
        have := Hj.out
        refine ⟨by omega, ?_⟩
        show s2.last ≤ 61
        rw [hs2]
        show s.last + 1 ≤ 61
        omega
      have HKc := Lib.hid kc
      have HK2 := Lib.hid hK2
      have HBig2 := Lib.hid hbig2
      clear hcr hL hs2 kc hK2 hbig2
      rcases hd with hd | ⟨hd, hd2⟩ <;> go_wp2_with fail
      all_goals
        refine Calls.mono HKc.out ?_
        rintro e w2 ⟨rfl, hm⟩
        obtain ⟨M2, R2, hl2, _⟩ := HLv.out.mut hm
        have HL2 := Lib.hid hl2
        clear hm hl2
        go_wp2_with fail
        refine (hsync HL2.out.fol).mono ?_
        rintro e w3 ⟨rfl, hm⟩
        obtain ⟨M3, R3, hl3, _⟩ := HL2.out.mut hm
        obtain ⟨s3, hs3⟩ : ∃ s3, s3 = s2.settle s2.deeds.length := ⟨_, rfl⟩
        rw [← hs3] at hl3
        have HK3 : Hid (KInv nK (some L) s3) := by rw [hs3]; exact HK2.out
        have HB3 : Hid (s3.big ≤ 61 ∧ s3.last ≤ 61) := by rw [hs3]; exact HBig2.out
        have HL3 := Lib.hid hl3
        clear hm hl3 hs3
        go_wp2_with fail
        go_loopw [9] (fun i wr => ∃ (j : Nat) (M R : Nat → Prop) (s : PSt), j ≤ k1 ∧ j ≤ 60 ∧ i = .int .i64 j ∧ HLive w wr X M R s ∧ KInv nK (some L) s ∧ s.big ≤ 61 + j ∧ s.last ≤ 61 + j) (fun i _ => k1 - (intOf i).toNat)
        case atStart => exact ⟨0, M3, R3, s3, by omega, by omega, rfl, HL3.out, HK3.out, HB3.out.1, HB3.out.2⟩
        case round =>
          obtain ⟨j2, M4, R4, s4, hj2, hj260, rfl, hlive4, hK4, hbig4, hlast4⟩ := hrel
          have HLv4 := Lib.hid hlive4
          have HK4 := Lib.hid hK4
          have Hbig4 : Hid (s4.big ≤ 61 + j2 ∧ s4.last ≤ 61 + j2) := ⟨hbig4, hlast4⟩
          clear hlive4 hK4 hbig4 hlast4
          by_cases hgo : j2 < k1 ∧ j2 < 60
          · obtain ⟨g1, g2⟩ := hgo
            obtain ⟨c, hc⟩ : ∃ c, l1[j2]? = some c := ⟨l1[j2]'(by have := Hk1.out; omega), List.getElem?_eq_getElem _⟩
            obtain ⟨b, o, rfl, hok, a0, a1, a2, a3⟩ := HL1.out.at_ HLv4.out.below rfl hc
            have d1 : decide ((j2 : Int) < (k1 : Int)) = true := decide_eq_true (by omega)
            have d2 : decide ((j2 : Int) < 60) = true := decide_eq_true (by omega)
            have Hok := Lib.hid hok
            clear hok hc
            by_cases q1 : c.name = nK
            · have e1 : (c.name.toList == [107, 101, 101, 112]) = true := by rw [q1, nK_list]; rfl
              clear q1
              go_wp2_with fail
              go_roundw
              case rel => exact ⟨j2 + 1, M4, R4, s4, by omega, by omega, by go_num, HLv4.out.on ((Below.refl _ _).alloc (Nat.le_refl _) _), HK4.out, by have := Hbig4.out; omega, by have := Hbig4.out; omega⟩
              case measure => simp [intOf]; omega
            · have e1 : (c.name.toList == [107, 101, 101, 112]) = false := by rw [← nK_list]; simpa using toList_ne q1
              have Q1 := Lib.hid q1
              clear q1
              by_cases q2 : c.to = nK
              · have e2 : (c.to.toList == [107, 101, 101, 112]) = true := by rw [q2, nK_list]; rfl
                clear q2
                go_wp2_with fail
                go_roundw
                case rel => exact ⟨j2 + 1, M4, R4, s4, by omega, by omega, by go_num, HLv4.out.on ((Below.refl _ _).alloc (Nat.le_refl _) _), HK4.out, by have := Hbig4.out; omega, by have := Hbig4.out; omega⟩
                case measure => simp [intOf]; omega
              · have e2 : (c.to.toList == [107, 101, 101, 112]) = false := by rw [← nK_list]; simpa using toList_ne q2
                have Q2 := Lib.hid q2
                clear q2
                go_wp2_with fail
                have HLa := Lib.hid (HLv4.out.on (w' := wr.alloc (.cells #[.int .i64 c.what, .string c.name, .string c.to, .int .i64 c.keep] 28)) ((Below.refl _ _).alloc (Nat.le_refl _) _))
                refine (hdoes HLa.out.fol (by have h9 := Hbig4.out; unfold PSt.big at h9; omega) (by have h9 := Hbig4.out; omega) c Hok.out).mono ?_
                rintro e w5 ⟨rfl, hm⟩
                obtain ⟨M5, R5, hl5, _⟩ := HLa.out.mut hm
                have hK5 := HK4.out.doP HLa.out.ok (c := c) (fun e => Q1.out e.symm) (fun e => Q2.out e.symm)
                have hb5 := doP_big s4 c
                obtain ⟨s5, hs5⟩ : ∃ s5, s5 = (doP s4 c).2.2 := ⟨_, rfl⟩
                rw [← hs5] at hl5 hK5 hb5
                have HL5 := Lib.hid hl5
                have HK5 := Lib.hid hK5
                have HB5 : Hid (s5.big ≤ 61 + (j2 + 1) ∧ s5.last ≤ 61 + (j2 + 1)) := by have h9 := Hbig4.out; exact ⟨by omega, by omega⟩
                clear hm hl5 hK5 hb5 hs5 a0 a1 a2 a3 e1 e2
                generalize (((doP s4 c).1 : Nat) : Int) = x1
                generalize (((doP s4 c).2.1 : Nat) : Int) = x2
                go_wp2_with fail
                obtain ⟨bs5, bn5, Ad5, cd5, hc5, hsf5, hn5⟩ := HL5.out.fol.cells
                have HC5 := Lib.hid hc5
                have kf := hfind hc5 hn5 (n := nK) (by decide)
                rw [HK5.out.now HL5.out.ok] at kf
                have Hkf := Lib.hid kf
                clear hc5 hsf5 hn5 kf
                refine Calls.mono Hkf.out ?_
                rintro e w' ⟨rfl, rfl⟩
                go_wp2_with fail
                obtain ⟨nd, hnd⟩ : ∃ nd, nd = s5.deeds.length := ⟨_, rfl⟩
                have hnd2 : nd ≤ 1000 := by have h9 := HB5.out; unfold PSt.big at h9; omega
                have Hnd := Lib.hid hnd
                clear hnd
                go_loopw [13] (fun i wr => ∃ k : Nat, k ≤ nd + 1 ∧ i = .int .i64 k ∧ HLive w wr X M5 R5 s5) (fun i _ => nd + 1 - (intOf i).toNat)
                case atStart => exact ⟨0, by omega, rfl, HL5.out⟩
                case round =>
                  obtain ⟨k, hk, rfl, hlv⟩ := hrel
                  have HLv := Lib.hid hlv
                  obtain ⟨bs6, bn6, Ad6, cd6, hc6, hsf6, hn6⟩ := hlv.fol.cells
                  rw [← Hnd.out] at hc6
                  have HC6 := Lib.hid hc6
                  clear hc6 hsf6 hn6 hlv
                  go_wp2_with fail
                  refine (hloose HC6.out).mono ?_
                  rintro e w' ⟨rfl, rfl⟩
                  by_cases hkn : k ≤ nd
                  · have hdk : decide ((k : Int) ≤ (nd : Int)) = true := decide_eq_true (by omega)
                    go_wp2_with fail
                    refine (hcopy HLv.out.fol).mono ?_
                    rintro e w7 ⟨X', M7, rfl, h7, hb7, hM7⟩
                    have H7 := Lib.hid h7
                    have HB7 := Lib.hid hb7
                    have HM7 := Lib.hid hM7
                    clear h7 hb7 hM7
                    go_wp2_with fail
                    refine (hcrash H7.out (k : Int)).mono ?_
                    rintro e w8 ⟨rfl, hm8⟩
                    obtain ⟨M8, R8, h8, hc8, _, _⟩ := hm8
                    have H8 := Lib.hid h8
                    have hb78 := HB7.out.trans (hc8.below HB7.out.size HM7.out)
                    have HL8 := Lib.hid (HLv.out.on hb78)
                    have hK8 := HK5.out.settle HLv.out.ok (keepN (k : Int) s5.deeds.length)
                    obtain ⟨bs8, bn8, Ad8, cd8, hcc8, hsf8, hn8⟩ := h8.cells
                    have kf := hfind hcc8 hn8 (n := nK) (by decide)
                    rw [hK8.now (PSt.settle_ok HLv.out.ok _)] at kf
                    have Hkf8 := Lib.hid kf
                    clear h8 hc8 hb78 hK8 hcc8 hsf8 hn8 kf
                    go_wp2_with fail
                    refine Calls.mono Hkf8.out ?_
                    rintro e w' ⟨rfl, rfl⟩
                    go_wp2_with fail
                    go_roundw
                    case rel => exact ⟨k + 1, by omega, by go_num, HL8.out⟩
                    case measure => simp [intOf]; omega
                  · have hdk : decide ((k : Int) ≤ (nd : Int)) = false := decide_eq_false (by omega)
                    go_wp2_with fail
                    go_roundw
                    case rel => exact ⟨j2 + 1, M5, R5, s5, by omega, by omega, by go_num, HLv.out, HK5.out, by have h9 := HB5.out; omega, by have h9 := HB5.out; omega⟩
                    case measure => simp [intOf]; omega
          · have hd3 : ¬ j2 < k1 ∨ (j2 < k1 ∧ ¬ ((j2 : Int) < 60)) := by omega
            clear hgo hj2 hj260
            rcases hd3 with hd3 | ⟨hd3, hd4⟩ <;> go_wp2_with fail
            all_goals
              refine (hknows _).mono ?_
              rintro e w9 ⟨rfl, hb9⟩
              have HB9 := Lib.hid (HLv4.out.below.trans (hb9.mono HLv4.out.below.size))
              clear hb9
              go_wp2_with fail
              go_ret
              exact ⟨rfl, HB9.out⟩
end folderKeeps
end Go.Proofs.Ytpjmjcjikaekiaa
