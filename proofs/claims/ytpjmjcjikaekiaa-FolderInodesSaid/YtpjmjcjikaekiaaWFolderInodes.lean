
/-
  FolderInodes' walk.
-/
import Derived.Test.YtpjmjcjikaekiaaHxWalk
import Derived.Deep.CutBlock
import Derived.Deep.CutRange
import Derived.Deep.LoopGhost
import Derived.BigGuard
import Derived.BigCall
import Derived.CellFam
import Derived.Deep.Draws
import Derived.Deep.QuietTactic
import Derived.BigQuiet
set_option linter.unusedVariables false
set_option linter.unusedSimpArgs false
namespace Go.Proofs.Ytpjmjcjikaekiaa
open Go.RowKit Go.Maps
namespace folderInodes

set_option maxRecDepth 100000 in
set_option maxHeartbeats 8000000 in
theorem walk (v0 : Value) (l0 : List Call6) (w : World) (hl0 : Calls6 w w.heap.size v0 l0) :
    Calls Try.prog 5 #[v0] w fun e w' => e = .returned (.bool true) ∧ Below w.heap.size w w' := by
  have HL0 := Lib.hid hl0
  obtain ⟨A0, c0, rfl, hc0, hm0, hx0, hy0⟩ := hl0
  obtain ⟨k0, hk0⟩ : ∃ k, k = l0.length := ⟨_, rfl⟩
  have hm0' : k0 ≤ 9223372036854775807 := by unfold maxLen at hm0; omega
  rw [← hk0]
  have Hk0 := Lib.hid hk0
  clear hc0 hm0 hk0 hx0 hy0
  go_enter Try.func5, Try.ntmps5
  go_wp2_with fail
  refine (hnew _).mono ?_
  rintro e w1 ⟨X, M1, rfl, h1, hb1, hM1⟩
  have H1 := Lib.hid (⟨h1, hb1, hM1⟩ : HLive w w1 X M1 (fun _ => False) PSt.new)
  clear h1 hb1 hM1
  go_wp2_with fail
  go_loopw [4, 5] (fun la i wr => ∃ (j : Nat) (M R : Nat → Prop) (s : PSt), j ≤ k0 ∧ j ≤ 80 ∧ la = .int .u64 (s.last : Int) ∧ i = .int .i64 j ∧ HLive w wr X M R s ∧ GInv s ∧ s.big ≤ j ∧ s.last ≤ j) (fun _ i _ => k0 - (intOf i).toNat)
  case atStart => exact ⟨0, M1, _, PSt.new, by omega, by omega, rfl, rfl, H1.out, GInv.new, by simp [PSt.new, PSt.big], by simp [PSt.new]⟩
  case round =>
    obtain ⟨j, M, R, s, hj, hj80, rfl, rfl, hlive, hG, hbig, hlast⟩ := hrel
    have HLv := Lib.hid hlive
    have HG := Lib.hid hG
    have Hbig : Hid (s.big ≤ j ∧ s.last ≤ j) := ⟨hbig, hlast⟩
    have hlast80 : s.last ≤ 80 := by omega
    clear hlive hG hbig hlast
    by_cases hgo : j < k0 ∧ j < 80
    · obtain ⟨g1, g2⟩ := hgo
      obtain ⟨c, hc⟩ : ∃ c, l0[j]? = some c := ⟨l0[j]'(by have := Hk0.out; omega), List.getElem?_eq_getElem _⟩
      obtain ⟨b, o, rfl, hok, a0, a1, a2, a3⟩ := HL0.out.at_ HLv.out.below rfl hc
      have d1 : decide ((j : Int) < (k0 : Int)) = true := decide_eq_true (by omega)
      have d2 : decide ((j : Int) < 80) = true := decide_eq_true (by omega)
      have Hok := Lib.hid hok
      have hsz := Lib.hid (show c.name.size ≤ maxLen ∧ c.to.size ≤ maxLen from ⟨hok.1, hok.2⟩)
      clear hok hc
      go_wp2_with fail
      have HLa := Lib.hid (HLv.out.on (w' := wr.alloc (.cells #[.int .i64 c.what, .string c.name, .string c.to, .int .i64 c.keep] 28)) ((Below.refl _ _).alloc (Nat.le_refl _) _))
      have kf := hfind_m HLa.out.fol hsz.out.1
      obtain ⟨fi, hfi⟩ : ∃ fi, fi = (findL s.now c.name).getD 0 := ⟨_, rfl⟩
      obtain ⟨fb, hfb⟩ : ∃ fb, fb = (findL s.now c.name).isSome := ⟨_, rfl⟩
      rw [← hfi, ← hfb] at kf
      have Hfi := Lib.hid hfi
      have Hfb := Lib.hid hfb
      have Hkf := Lib.hid kf
      clear hfi hfb kf
      refine Calls.mono Hkf.out ?_
      rintro e w' ⟨rfl, rfl⟩
      clear Hkf
      go_wp2_with fail
      refine (hdoes HLa.out.fol (by have h9 := Hbig.out; unfold PSt.big at h9; omega) (by have h9 := Hbig.out; omega) c Hok.out).mono ?_
      rintro e w2 ⟨rfl, hm⟩
      obtain ⟨M2, R2, hl2, hch, hM2, hR2⟩ := HLa.out.mut hm
      obtain ⟨P, hP⟩ : ∃ P, P = wr.heap.size := ⟨_, rfl⟩
      have hPM : ¬ M P := fun e => by have := HLv.out.fol.2.2.1 P e; omega
      have qa : ∀ k u, (wr.alloc (.cells #[.int .i64 c.what, .string c.name, .string c.to, .int .i64 c.keep] 28)).cell? ⟨P, k, none⟩ = some u → w2.cell? ⟨P, k, none⟩ = some u := fun k u hu =>
        (hch.cell (p := ⟨P, k, none⟩) (by rw [hP]; simp) hPM).trans hu
      have b0 : w2.cell? ⟨P, 0, none⟩ = some (.int .i64 c.what) := qa _ _ (by rw [hP]; simp)
      have b1 : w2.cell? ⟨P, 1, none⟩ = some (.string c.name) := qa _ _ (by rw [hP]; simp)
      have b2 : w2.cell? ⟨P, 2, none⟩ = some (.string c.to) := qa _ _ (by rw [hP]; simp)
      have hG2 := HG.out.doP HLa.out.ok c
      have hb2 := doP_big s c
      have htm := fun hw => told_make (s := s) (c := c) hw
      have htv := fun hw => told_mv HLa.out.ok (c := c) hw
      have htr := fun hw => told_rm HLa.out.ok (c := c) hw
      have hte := fun hw => told_else (s := s) (c := c) hw
      obtain ⟨s2, hs2⟩ : ∃ s2, s2 = (doP s c).2.2 := ⟨_, rfl⟩
      obtain ⟨N, hN⟩ : ∃ N, N = (doP s c).1 := ⟨_, rfl⟩
      obtain ⟨E, hE⟩ : ∃ E, E = (doP s c).2.1 := ⟨_, rfl⟩
      rw [← hs2] at hl2 hG2 hb2
      rw [← hs2, ← hN, ← hE] at htm
      rw [← hs2, ← hE] at htv htr
      rw [← hs2] at hte
      rw [← hN, ← hE]
      have HL2 := Lib.hid hl2
      have HG2 := Lib.hid hG2
      have HB2 : Hid (s2.big ≤ j + 1 ∧ s2.last ≤ j + 1) := by have h9 := Hbig.out; exact ⟨by omega, by omega⟩
      have Htm := Lib.hid htm
      have Htv := Lib.hid htv
      have Htr := Lib.hid htr
      have Hte := Lib.hid hte
      rw [← hP]
      clear hm hl2 hch hM2 hR2 hPM qa hG2 hb2 htm htv htr hte hs2 hN hE a0 a1 a2 a3 hP
      go_upto_block 2 with fail
      go_cut [4, 11, 12, 13, 14, 15, 16] from 25 to 203 (fun s4 _ _ _ _ _ _ wx => s4 = .int .u64 (s2.last : Int) ∧ wx = w2)
      case first =>
        as_aux_lemma =>
          go_upto_region 11 with fail
          obtain ⟨B, hB⟩ : ∃ B, B = decide (0 ≤ c.what ∧ c.what ≤ 2) := ⟨_, rfl⟩
          have HBd := Lib.hid hB
          clear hB
          go_cut [52] from 25 to 203 (fun s52 wx => s52 = .bool B ∧ wx = w2)
          case first =>
            by_cases q1 : 0 ≤ c.what
            · by_cases q2 : c.what ≤ 2
              · have d3 : decide (c.what ≥ 0) = true := decide_eq_true q1
                have d4 : decide (c.what ≤ 2) = true := decide_eq_true q2
                obtain rfl : B = true := HBd.out.trans (decide_eq_true ⟨q1, q2⟩)
                go_wp2_with fail
                go_meet
                exact ⟨rfl, rfl⟩
              · have d3 : decide (c.what ≥ 0) = true := decide_eq_true q1
                have d4 : decide (c.what ≤ 2) = false := decide_eq_false q2
                obtain rfl : B = false := HBd.out.trans (decide_eq_false fun h => q2 h.2)
                go_wp2_with fail
                go_meet
                exact ⟨rfl, rfl⟩
            · have d3 : decide (c.what ≥ 0) = false := decide_eq_false q1
              obtain rfl : B = false := HBd.out.trans (decide_eq_false fun h => q1 h.1)
              go_wp2_with fail
              go_meet
              exact ⟨rfl, rfl⟩
          case rest =>
            obtain ⟨rfl, rfl⟩ := hcut
            go_upto_if 52 with fail
            cases B
            · have hnb : ¬ (0 ≤ c.what ∧ c.what ≤ 2) := of_decide_eq_false HBd.out.symm
              by_cases q3 : c.what = 3
              · have d3 : (c.what == 3) = true := by rw [q3]; rfl
                have d4 : (c.what == 4) = false := by rw [q3]; rfl
                obtain ⟨_, e3, htv⟩ := Htv.out q3
                have E3 := Lib.hid e3
                clear e3
                by_cases qE : E = 0
                · have dE : ((E : Int) == 0) = true := by rw [qE]; rfl
                  obtain ⟨t1, t2, t3⟩ := htv qE
                  clear qE
                  have hfb1 : fb = true := Hfb.out.trans t1
                  have kf1 := hfind_m HL2.out.fol hsz.out.2
                  have kf2 := hfind_m HL2.out.fol hsz.out.1
                  rw [t2, ← Hfi.out, ← Hfb.out, hfb1] at kf1
                  rw [t3] at kf2
                  have Hkf1 := Lib.hid kf1
                  have Hkf2 := Lib.hid kf2
                  subst hfb1
                  clear kf1 kf2 t1 t2 t3 htv
                  go_wp2_with fail
                  refine Calls.mono Hkf1.out ?_
                  rintro e w' ⟨rfl, rfl⟩
                  go_wp2_with fail
                  refine Calls.mono Hkf2.out ?_
                  rintro e w' ⟨rfl, rfl⟩
                  obtain ⟨sb, hsb⟩ : ∃ sb : Bool, sb = (c.name.toList == c.to.toList) := ⟨_, rfl⟩
                  rw [← hsb]
                  generalize (findL s2.now c.name).getD 0 = sn
                  have hsb1 : (c.name.toList == c.to.toList) = sb := hsb.symm
                  clear hsb
                  have hsb2 : (sb != sb) = false := by simp
                  go_wp2_with fail
                  all_goals
                    go_meet
                    exact ⟨by rw [E3.out], rfl⟩
                · have dE : ((E : Int) == 0) = false := by simp; exact qE
                  clear htv
                  go_wp2_with fail
                  go_meet
                  exact ⟨by rw [E3.out], rfl⟩
              · have d3 : (c.what == 3) = false := by simpa using q3
                by_cases q4 : c.what = 4
                · have d4 : (c.what == 4) = true := by rw [q4]; rfl
                  obtain ⟨_, e3, htr⟩ := Htr.out q4
                  have E3 := Lib.hid e3
                  clear e3
                  by_cases qE : E = 0
                  · have dE : ((E : Int) == 0) = true := by rw [qE]; rfl
                    obtain ⟨t1, t2⟩ := htr qE
                    clear qE
                    have hfb1 : fb = true := Hfb.out.trans t1
                    have kf2 := hfind_m HL2.out.fol hsz.out.1
                    rw [t2] at kf2
                    have Hkf2 := Lib.hid kf2
                    subst hfb1
                    clear kf2 t1 t2 htr
                    go_wp2_with fail
                    refine Calls.mono Hkf2.out ?_
                    rintro e w' ⟨rfl, rfl⟩
                    generalize (findL s2.now c.name).getD 0 = sn
                    go_wp2_with fail
                    go_meet
                    exact ⟨by rw [E3.out], rfl⟩
                  · have dE : ((E : Int) == 0) = false := by simp; exact qE
                    clear htr
                    go_wp2_with fail
                    go_meet
                    exact ⟨by rw [E3.out], rfl⟩
                · have d4 : (c.what == 4) = false := by simpa using q4
                  have E3 := Lib.hid (Hte.out (by omega))
                  go_wp2_with fail
                  go_meet
                  exact ⟨by rw [E3.out], rfl⟩
            · have hnb : 0 ≤ c.what ∧ c.what ≤ 2 := of_decide_eq_true HBd.out.symm
              rcases Htm.out hnb with ⟨e1, e2, e3⟩ | ⟨e1, e2, e3⟩
              · have dE : ((E : Int) == 0) = true := by rw [e1]; rfl
                have hw4 : IntKind.u64.wrap ((s.last : Int) + 1) = ((s2.last : Nat) : Int) := by
                  rw [e3, show ((s.last : Int) + 1) = ((s.last + 1 : Nat) : Int) by omega]
                  exact IntWalk.u64_in _ (by omega)
                have dN : ((N : Int) != ((s2.last : Nat) : Int)) = false := by rw [e2, e3]; simp
                clear e1 e2 e3
                go_wp2_with fail
                go_meet
                exact ⟨rfl, rfl⟩
              · have dE : ((E : Int) == 0) = false := by simp; exact e1
                have dN : ((N : Int) != 0) = false := by rw [e2]; rfl
                have E3 := Lib.hid e3
                clear e1 e2 e3
                go_wp2_with fail
                go_meet
                exact ⟨by rw [E3.out], rfl⟩
      case rest =>
        obtain ⟨rfl, rfl⟩ := hcut
        have hmm := hmkU
        have Hl2 : Hid (s2.now.length ≤ 81 ∧ s2.safe.length ≤ 81 ∧ s2.last ≤ 81 ∧ s2.settled ≤ s2.last) := by
          have h9 := HB2.out
          have h8 := doAll_length s2.deeds s2.safe
          refine ⟨?_, ?_, by omega, HL2.out.ok.settled⟩
          · unfold PSt.now; unfold PSt.big at h9; omega
          · unfold PSt.big at h9; omega
        clear b0 b1 b2 Htm Htv Htr Hte HLa Hfi Hfb
        go_wp2_with fail
        obtain ⟨m, hm⟩ : ∃ m, m = wc.heap.size := ⟨_, rfl⟩
        have HLw := Lib.hid (HL2.out.on (w' := wc.alloc (.map #[] 0)) ((Below.refl _ _).alloc (Nat.le_refl _) _))
        have hU0 : MapU (wc.alloc (.map #[] 0)) m 0 [] := by rw [hm]; exact MapU.new wc
        have HmN : Hid (∀ i, i = m → ¬ M2 i ∧ ¬ R2 i ∧ w.heap.size ≤ i) := Lib.hid (fun i hi => ⟨fun e => by have := HL2.out.ltM i (.inl e); omega, fun e => by have := HL2.out.ltM i (.inr e); omega, by have := HL2.out.below.size; omega⟩)
        refine (hlist_m HLw.out.fol).mono ?_
        rintro e w4 ⟨v, rfl, hes, hb4⟩
        have hm4 : (wc.alloc (.map #[] 0)).heap.size = m + 1 := by simp [hm]
        have HU0 := Lib.hid (hU0.on hb4)
        have HL4 := Lib.hid (HLw.out.on hb4)
        have HE4 := Lib.hid (hes.mono (R' := fun i => m < i) (fun i hi => by have := hi.1; omega))
        obtain ⟨A4, c4, rfl, h41, h42, _⟩ := hes
        rw [← hm]
        obtain ⟨nn, hnn⟩ : ∃ nn, nn = s2.now.length := ⟨_, rfl⟩
        rw [← hnn] at h41 ⊢
        have Hnn := Lib.hid hnn
        have hnn2 : nn ≤ 81 := by have := Hl2.out.1; omega
        clear hnn hU0 hb4 hm4 hm HLw
        go_wp2_with fail
        go_loopw [136] (fun i wr => ∃ (k n : Nat) (lU : List Nat), k ≤ nn ∧ i = .int .i64 k ∧ HLive w wr X M2 R2 s2 ∧ EsR wr (fun i => m < i) (.slice A4 nn c4) s2.now ∧ MapU wr m n lU ∧ n ≤ k ∧ ∀ i, i ∈ lU ↔ ∃ x ∈ s2.now.take k, x.2 = i) (fun i _ => nn - (intOf i).toNat)
        case atStart => exact ⟨0, 0, [], by omega, rfl, HL4.out, by rw [Hnn.out]; exact HE4.out, HU0.out, by omega, by simp⟩
        case round =>
          obtain ⟨k, n, lU, hk, rfl, hlv, hes, hmu, hn, hmem⟩ := hrel
          have HLk := Lib.hid hlv
          have HEk := Lib.hid hes
          have HMk := Lib.hid hmu
          have Hmem := Lib.hid hmem
          clear hlv hes hmu hmem
          by_cases hkn : k < nn
          · have hdk : decide ((k : Int) < (nn : Int)) = true := decide_eq_true (by omega)
            obtain ⟨x, hx⟩ : ∃ x, s2.now[k]? = some x := ⟨s2.now[k]'(by have := Hnn.out; omega), List.getElem?_eq_getElem _⟩
            obtain ⟨b4, o4, rfl, hb4, e0, e1⟩ := HEk.out.at_ rfl hx
            have hxm : x ∈ s2.now := List.mem_of_getElem? hx
            obtain ⟨hxa, hxb, hxc⟩ := HG2.out.now.1 x hxm
            have hxn : x.2 ∉ lU := fun e => by
              obtain ⟨y, hy, e2⟩ := (Hmem.out x.2).1 e
              have hy2 := HG2.out.now.2 y (List.mem_of_mem_take hy) x hxm e2
              subst hy2
              obtain ⟨i, hi, hi2⟩ := List.getElem_of_mem hy
              rw [List.getElem_take] at hi2
              have h1 : s2.now[i]? = s2.now[k]? := by rw [hx, ← hi2]; exact List.getElem?_eq_getElem _
              have h3 : i < k := by rw [List.length_take] at hi; omega
              exact absurd ((List.getElem?_inj (by have := Hnn.out; omega) HL2.out.ok.now.1.nodup).1 h1) (by omega)
            have hmemN : ∀ i, i ∈ x.2 :: lU ↔ ∃ y ∈ s2.now.take (k + 1), y.2 = i := fun i => by
              rw [take_next6 hx, List.mem_cons, Hmem.out i]
              constructor
              · rintro (rfl | ⟨y, hy, e⟩)
                · exact ⟨x, by simp, rfl⟩
                · exact ⟨y, by simp [hy], e⟩
              · rintro ⟨y, hy, e⟩
                rcases List.mem_append.1 hy with h1 | h1
                · exact .inr ⟨y, h1, e⟩
                · simp at h1; subst h1; exact .inl e.symm
            have HmemN := Lib.hid hmemN
            have hxs : x.1.size ≤ 9223372036854775807 := by have := (HL2.out.ok.now.2 x hxm).1; omega
            have Hxa := Lib.hid hxa
            have hx9 : x.2 < 1000000000 := by have := Hl2.out.2.2.1; omega
            obtain ⟨xn, xi⟩ := x
            simp only at e0 e1 hxb hxc hxn hxs hx9 HmemN
            have hxz : ((xi : Int) == 0) = false := by simp; omega
            have hxl : decide ((xi : Int) > (s2.last : Int)) = false := decide_eq_false (by omega)
            have hbx : Below wr.heap.size wr (wr.alloc (.cells #[.string xn, .int .u64 (xi : Int)] 52)) := (Below.refl _ _).alloc (Nat.le_refl _) _
            have hlk := (HMk.out.on hbx).look hx9
            rw [if_neg hxn] at hlk
            have Hbx := Lib.hid hbx
            have Hhx := Lib.hid hx
            clear hmemN hxa hxn hx hbx hxm hb4
            go_wp2_with fail
            refine (hmay xn _ hxs).mono ?_
            rintro e w5 ⟨rfl, hb5⟩
            have hma : mayN xn = true := Hxa.out
            rw [hma]
            obtain ⟨P4, hP4⟩ : ∃ P4, P4 = wr.heap.size := ⟨_, rfl⟩
            have f1 : w5.cell? ⟨P4, 1, none⟩ = some (.int .u64 (xi : Int)) := (hb5.cell (p := ⟨P4, 1, none⟩) (by rw [hP4]; simp)).trans (by rw [hP4]; simp)
            have hb05 : Below wr.heap.size wr w5 := Hbx.out.trans (hb5.mono (by simp))
            obtain ⟨w6, hrun, hmu6, ht6⟩ := (HMk.out.on hb05).store (by omega) hx9
            have HL6 := Lib.hid ((HLk.out.on hb05).chg (chg_turned ht6) HmN.out)
            have HE6 := Lib.hid ((HEk.out.on hb05).chg (chg_turned ht6) (fun i hi e => by omega))
            have HM6 := Lib.hid hmu6
            rw [← hP4]
            clear hb5 hb05 hmu6 ht6 hma hP4 hlk
            go_wp2_with fail
            go_roundw
            case rel => exact ⟨k + 1, n + 1, xi :: lU, by omega, by go_num, HL6.out, HE6.out, HM6.out, by omega, HmemN.out⟩
            case measure => simp [intOf]; omega
          · have hdk : decide ((k : Int) < (nn : Int)) = false := decide_eq_false (by omega)
            have hkk : k = nn := by omega
            have hmem2 : ∀ i, i ∈ lU ↔ ∃ x ∈ s2.now, x.2 = i := fun i => by
              have := Hmem.out i
              rw [hkk, Hnn.out, List.take_length] at this
              exact this
            have Hmem2 := Lib.hid hmem2
            clear hmem2 hkk
            go_wp2_with fail
            refine (hlive_m HLk.out.fol (by have := Hl2.out; omega) (by have := Hl2.out; omega)).mono ?_
            rintro e w5 ⟨v, rfl, hus, hb5⟩
            have HL5 := Lib.hid (HLk.out.on hb5)
            have HM5 := Lib.hid (HMk.out.on hb5)
            have hmw : m < wr.heap.size := HMk.out.lt
            have HV5 := Lib.hid (hus.mono (R' := fun i => m < i) (fun i hi => by have := hi.1; omega))
            obtain ⟨A5, c5, rfl, h51, h52, _⟩ := hus
            obtain ⟨q, hq⟩ : ∃ q, q = s2.live.length := ⟨_, rfl⟩
            rw [← hq] at h51 ⊢
            have hq2 : q ≤ 300 := by rw [hq, live_length]; have := Hl2.out; omega
            have Hq := Lib.hid hq
            clear hq hb5 hmw
            go_wp2_with fail
            go_loopw [21] (fun i wr2 => ∃ (k n : Nat) (lU : List Nat), k ≤ q ∧ i = .int .i64 k ∧ HLive w wr2 X M2 R2 s2 ∧ UsR wr2 (fun i => m < i) (.slice A5 q c5) s2.live ∧ MapU wr2 m n lU ∧ ∀ i, i ∈ lU ↔ (∃ x ∈ s2.now, x.2 = i) ∧ i ∉ s2.live.take k) (fun i _ => q - (intOf i).toNat)
            case atStart => exact ⟨0, n, lU, by omega, rfl, HL5.out, by rw [Hq.out]; exact HV5.out, HM5.out, fun i => by rw [Hmem2.out i]; simp⟩
            case round =>
              obtain ⟨k2, n2, lV, hk2, rfl, hlv, hus, hmu, hmem⟩ := hrel
              have HLr := Lib.hid hlv
              have HVr := Lib.hid hus
              have HMr := Lib.hid hmu
              have HmV := Lib.hid hmem
              clear hlv hus hmu hmem
              by_cases hkq : k2 < q
              · have hdq : decide ((k2 : Int) < (q : Int)) = true := decide_eq_true (by omega)
                obtain ⟨xi, hx⟩ : ∃ x, s2.live[k2]? = some x := ⟨s2.live[k2]'(by have := Hq.out; omega), List.getElem?_eq_getElem _⟩
                obtain ⟨b5, o5, rfl, hb5, e0⟩ := HVr.out.at_ rfl hx
                have hxl := (HG2.out.live_le Hl2.out.2.2.2 xi (List.mem_of_getElem? hx)).2
                have hx9 : xi < 1000000000 := by have := Hl2.out.2.2.1; omega
                have hd4 : decide ((xi : Int) > (s2.last : Int)) = false := decide_eq_false (by omega)
                have Hx := Lib.hid hx
                have E0 := Lib.hid e0
                have Hb5 := Lib.hid hb5
                clear hxl hx hb5
                obtain ⟨G, hG⟩ : ∃ G : Nat → Int, ∀ (t y : Nat), s2.live[t]? = some y → G t = (y : Int) := ⟨fun t => ((s2.live[t]?.getD 0 : Nat) : Int), fun t y h => by simp [h]⟩
                have hcw : ∀ t, t < q → wr.cell? ⟨b5, o5 + t, none⟩ = some (.int .u64 (G t)) := fun t ht => by
                  obtain ⟨y, hy⟩ : ∃ x, s2.live[t]? = some x := ⟨s2.live[t]'(by have := Hq.out; omega), List.getElem?_eq_getElem _⟩
                  obtain ⟨b6, o6, e6, _, f0⟩ := HVr.out.at_ rfl hy
                  injection e6 with e6
                  injection e6 with e6 e7
                  subst e6 e7
                  rw [hG t y hy]
                  exact f0
                have hGk : G k2 = (xi : Int) := hG k2 xi Hx.out
                have hGl : ∀ k3, k2 = k3 + 1 → decide (G k3 ≥ G k2) = false := fun k3 ek => by
                  obtain ⟨yi, hy⟩ : ∃ x, s2.live[k3]? = some x := ⟨s2.live[k3]'(by have := Hq.out; omega), List.getElem?_eq_getElem _⟩
                  have hlt : yi < xi := by
                    have h1 := List.pairwise_iff_getElem.1 (HG2.out.live_lt HL2.out.ok) k3 k2 (by have := Hq.out; omega) (by have := Hq.out; omega) (by omega)
                    obtain ⟨_, h2⟩ := List.getElem?_eq_some_iff.1 hy
                    obtain ⟨_, h3⟩ := List.getElem?_eq_some_iff.1 Hx.out
                    rw [h2, h3] at h1
                    exact h1
                  rw [hG k3 yi hy, hGk]
                  exact decide_eq_false (by omega)
                have hd4 : decide (G k2 > (s2.last : Int)) = false := by rw [hGk]; exact hd4
                have HGl := Lib.hid hGl
                clear hG hGk hGl e0
                go_upto_region 39 with fail
                go_cut [195] from 168 to 200 (fun s195 wx => s195 = .bool false ∧ Below wr.heap.size wr wx)
                case first =>
                  rcases Nat.eq_zero_or_pos k2 with hk0 | hk0
                  · have hd5 : decide ((k2 : Int) > 0) = false := decide_eq_false (by omega)
                    have hd4' := hd4
                    rw [hk0] at hd4'
                    go_big_quiet (fail)
                    go_wp2_with fail
                    go_meet
                    exact ⟨rfl, below_drewN (Below.refl _ _) nq⟩
                  · have hd5 : (k2 : Int) > 0 := by omega
                    have hd6 : decide (G (k2 - 1) ≥ G k2) = false := HGl.out (k2 - 1) (by omega)
                    go_big_quiet (fail)
                    go_wp2_with fail
                    go_meet
                    exact ⟨rfl, below_drewN (Below.refl _ _) nq⟩
                case rest =>
                  obtain ⟨rfl, hbx⟩ := hcut
                  have e1 := (hbx.cell (p := ⟨b5, o5 + k2, none⟩) (fblock_of_cell E0.out)).trans E0.out
                  obtain ⟨w6, hrun, hmu6, ht6⟩ := (HMr.out.on hbx).drop hx9 0
                  have HL6 := Lib.hid ((HLr.out.on hbx).chg (chg_turned ht6) HmN.out)
                  have HV6 := Lib.hid ((HVr.out.on hbx).chg (chg_turned ht6) (fun i hi e => by omega))
                  have HM6 := Lib.hid hmu6
                  clear hmu6 ht6 hbx hcw
                  go_wp2_with fail
                  go_roundw
                  case rel =>
                    refine ⟨k2 + 1, n2, _, by omega, by go_num, HL6.out, HV6.out, HM6.out, fun i => ?_⟩
                    rw [List.mem_filter, HmV.out i, take_next6 Hx.out, List.mem_append]
                    simp only [List.mem_singleton, decide_eq_true_eq, not_or, ne_eq, and_assoc]
                  case measure => simp [intOf]; omega
              · have hdq : decide ((k2 : Int) < (q : Int)) = false := decide_eq_false (by omega)
                have hk3 : k2 = q := by omega
                have hml := (HMr.out.congr (l' := []) (fun i => by
                  rw [HmV.out i, hk3, Hq.out, List.take_length]
                  constructor
                  · rintro ⟨⟨x, hx, rfl⟩, h1⟩
                    exact absurd (HG2.out.live_now Hl2.out.2.2.2 x hx) h1
                  · intro h; exact absurd h (by simp))).len0
                have Hj : Hid (j < 80 ∧ j < k0) := ⟨by omega, by omega⟩
                clear hk3
                go_wp2_with fail
                go_roundw
                case rel => exact ⟨j + 1, M2, R2, s2, by omega, by omega, rfl, by go_num, HLr.out, HG2.out, HB2.out.1, HB2.out.2⟩
                case measure => simp [intOf]; omega
    · have hd : ¬ j < k0 ∨ (j < k0 ∧ ¬ ((j : Int) < 80)) := by omega
      clear hgo hj hj80
      rcases hd with hd | ⟨hd, hd2⟩ <;> go_wp2_with fail
      all_goals
        refine (hknows _).mono ?_
        rintro e w9 ⟨rfl, hb9⟩
        have HB9 := Lib.hid (HLv.out.below.trans (hb9.mono HLv.out.below.size))
        clear hb9
        go_wp2_with fail
        go_ret
        exact ⟨rfl, HB9.out⟩
end folderInodes
end Go.Proofs.Ytpjmjcjikaekiaa
