
/-
  FolderBegins' walk.
-/
import Derived.Test.YtpjmjcjikaekiaaHxSince
import Derived.Deep.CutBlock
import Derived.Deep.CutRange
import Derived.Deep.LoopGhost
import Derived.BigGuard
import Derived.BigCall
import Derived.CellFam
import Derived.Deep.Draws
import Derived.Deep.QuietTactic
import Derived.BigQuiet
set_option linter.unusedVariables false
set_option linter.unusedSimpArgs false
namespace Go.Proofs.Ytpjmjcjikaekiaa
open Go.RowKit Go.Maps
namespace folderBegins

set_option maxRecDepth 100000 in
set_option maxHeartbeats 8000000 in
theorem walk (v0 : Value) (l0 : List Call6) (w : World) (hl0 : Calls6 w w.heap.size v0 l0) :
    Calls Try.prog 4 #[v0] w fun e w' => e = .returned (.bool true) ∧ Below w.heap.size w w' := by
  have HL0 := Lib.hid hl0
  obtain ⟨A0, c0, rfl, hc0, hm0, hx0, hy0⟩ := hl0
  obtain ⟨k0, hk0⟩ : ∃ k, k = l0.length := ⟨_, rfl⟩
  have hm0' : k0 ≤ 9223372036854775807 := by unfold maxLen at hm0; omega
  rw [← hk0]
  have Hk0 := Lib.hid hk0
  clear hc0 hm0 hk0 hx0 hy0
  go_enter Try.func4, Try.ntmps4
  go_wp2_with fail
  refine (hnew _).mono ?_
  rintro e w1 ⟨X, M1, rfl, h1, hb1, hM1⟩
  have H1 := Lib.hid (⟨h1, hb1, hM1⟩ : HLive w w1 X M1 (fun _ => False) PSt.new)
  have hsv := SV.single (w := w) (wk := w1) (N := fun _ => False) (u := .slice none 0 0) (l := []) ⟨none, 0, rfl, Nat.le_refl _, Nat.zero_le _, fun h => absurd rfl h⟩ hb1.size (fun i h => h.elim)
  have HS1 := Lib.hid hsv
  have HA1 : Hid (∀ i, SVB (.slice (some ⟨w1.heap.size, 0, none⟩) 1 1) (fun _ => False) i → ¬ M1 i ∧ ¬ (fun _ => False) i) := Lib.hid (fun i hi => ⟨fun e => by
    rcases hi with hi | hi
    · exact hi
    · injection hi with hi
      subst hi
      exact absurd (h1.2.2.1 _ e) (by simp), fun e => e⟩)
  have H2 := Lib.hid (H1.out.on (w' := w1.alloc (.cells #[.slice none 0 0] 40)) ((Below.refl _ _).alloc (Nat.le_refl _) _))
  clear h1 hb1 hM1 hsv H1
  go_wp2_with fail
  go_loopw [4, 5] (fun v i wr => ∃ (j : Nat) (M R N : Nat → Prop) (s : PSt) (vals : List Value), j ≤ k0 ∧ j ≤ 60 ∧ i = .int .i64 j ∧ HLive w wr X M R s ∧ GInv s ∧ SV w wr N v vals s.states ∧ (∀ i, SVB v N i → ¬ M i ∧ ¬ R i) ∧ s.big ≤ j ∧ s.last ≤ j) (fun _ i _ => k0 - (intOf i).toNat)
  case atStart => exact ⟨0, M1, _, _, PSt.new, _, by omega, by omega, rfl, H2.out, GInv.new, HS1.out, HA1.out, by simp [PSt.new, PSt.big], by simp [PSt.new]⟩
  case round =>
    obtain ⟨j, M, R, N, s, vals, hj, hj60, rfl, hlive, hG, hsv, hap, hbig, hlast⟩ := hrel
    have HLv := Lib.hid hlive
    have HG := Lib.hid hG
    have HSv := Lib.hid hsv
    have HAp := Lib.hid hap
    have Hbig : Hid (s.big ≤ j ∧ s.last ≤ j) := ⟨hbig, hlast⟩
    clear hlive hG hsv hap hbig hlast H2 HS1 HA1
    by_cases hgo : j < k0 ∧ j < 60
    · obtain ⟨g1, g2⟩ := hgo
      obtain ⟨c, hc⟩ : ∃ c, l0[j]? = some c := ⟨l0[j]'(by have := Hk0.out; omega), List.getElem?_eq_getElem _⟩
      obtain ⟨b, o, rfl, hok, a0, a1, a2, a3⟩ := HL0.out.at_ HLv.out.below rfl hc
      have d1 : decide ((j : Int) < (k0 : Int)) = true := decide_eq_true (by omega)
      have d2 : decide ((j : Int) < 60) = true := decide_eq_true (by omega)
      have Hok := Lib.hid hok
      obtain ⟨wa, hwa⟩ : ∃ wa, wa = wr.alloc (.cells #[.int .i64 c.what, .string c.name, .string c.to, .int .i64 c.keep] 28) := ⟨_, rfl⟩
      have hba : Below wr.heap.size wr wa := by rw [hwa]; exact (Below.refl _ _).alloc (Nat.le_refl _) _
      obtain ⟨P, hP⟩ : ∃ P, P = wr.heap.size := ⟨_, rfl⟩
      have hsa : wa.heap.size = P + 1 := by rw [hwa, hP]; simp
      have HPa : Hid (wa.cell? ⟨P, 0, none⟩ = some (.int .i64 c.what) ∧ wa.cell? ⟨P, 1, none⟩ = some (.string c.name) ∧ wa.cell? ⟨P, 2, none⟩ = some (.string c.to) ∧ wa.cell? ⟨P, 3, none⟩ = some (.int .i64 c.keep)) := by
        rw [hwa, hP]; exact ⟨by simp, by simp, by simp, by simp⟩
      have HLa := Lib.hid (HLv.out.on hba)
      have HSa := Lib.hid (HSv.out.on hba)
      have HPM : Hid (P < wa.heap.size ∧ (∀ i, (M i ∨ R i ∨ N i ∨ Value.ownBlock u4 = some i) → i < P) ∧ w.heap.size ≤ P) := Lib.hid ⟨by omega, fun i hi => by
        rw [hP]
        rcases hi with hi | hi | hi | hi
        · exact HLv.out.ltM i (.inl hi)
        · exact HLv.out.ltM i (.inr hi)
        · exact HSv.out.lt i (.inl hi)
        · exact HSv.out.lt i (.inr hi), by rw [hP]; exact HLv.out.below.size⟩
      clear hok hc hba hsa
      go_wp2_with fail
      rw [← hwa, ← hP]
      obtain ⟨nd, hnd⟩ : ∃ nd, nd = s.deeds.length := ⟨_, rfl⟩
      have hnd2 : nd ≤ 60 := by have h9 := Hbig.out; unfold PSt.big at h9; omega
      have Hl1 : Hid (s.safe.length ≤ 60 ∧ s.last ≤ 60) := by have h9 := Hbig.out; unfold PSt.big at h9; exact ⟨by omega, by omega⟩
      have hvn : vals.length = nd + 1 := by rw [HSv.out.len, states_length, hnd]
      have Hnd := Lib.hid hnd
      have klo := hloose_m HLa.out.fol
      rw [← hnd] at klo
      have Hklo := Lib.hid klo
      have hmm := hmkU
      obtain ⟨A4, c4, hu4, h41, h42, _⟩ := own_slice HSa.out.own
      rw [hvn] at hu4 h41
      have Hvn := Lib.hid hvn
      subst hu4
      clear hnd klo hwa hvn hP
      refine Calls.mono Hklo.out ?_
      rintro e w' ⟨rfl, rfl⟩
      clear Hklo
      go_wp2_with fail
      obtain ⟨m, hm⟩ : ∃ m, m = wa.heap.size := ⟨_, rfl⟩
      obtain ⟨wb, hwb⟩ : ∃ wb, wb = wa.alloc (.map #[] 0) := ⟨_, rfl⟩
      have hbb : Below wa.heap.size wa wb := by rw [hwb]; exact (Below.refl _ _).alloc (Nat.le_refl _) _
      have hsb : wb.heap.size = m + 1 := by rw [hwb, hm]; simp
      have hU0 : MapU wb m 0 [] := by rw [hwb, hm]; exact MapU.new wa
      have HLb := Lib.hid (HLa.out.on hbb)
      have HBb := Lib.hid hbb
      have HPm : Hid (P < m) := by have := HPM.out.1; rw [hm]; exact this
      rw [← hwb, ← hm]
      have Hm := Lib.hid hm
      clear hm
      refine (hlive_m HLb.out.fol (by have := Hl1.out; omega) (by have := Hl1.out; omega)).mono ?_
      rintro e w5 ⟨v, rfl, hus, hb5⟩
      have HB5 := Lib.hid (hbb.trans (hb5.mono hbb.size))
      have HU5 := Lib.hid (hU0.on hb5)
      have HV5 := Lib.hid (hus.mono (R' := fun i => m < i) (fun i hi => by have := hi.1; omega))
      obtain ⟨A5, c5, rfl, h51, h52, _⟩ := hus
      obtain ⟨q, hq⟩ : ∃ q, q = s.live.length := ⟨_, rfl⟩
      rw [← hq] at h51 HV5 ⊢
      have hq2 : q ≤ 200 := by rw [hq, live_length]; have := Hl1.out; omega
      have Hq := Lib.hid hq
      clear hbb hsb hU0 hb5 hq hwb
      go_wp2_with fail
      go_loopw [39] (fun i wr2 => ∃ (k n : Nat) (lU : List Nat), k ≤ q ∧ i = .int .i64 k ∧ Chg (fun i => i = m) w5 wr2 ∧ MapU wr2 m n lU ∧ n ≤ k ∧ ∀ i, i ∈ lU ↔ i ∈ s.live.take k) (fun i _ => q - (intOf i).toNat)
      case atStart => exact ⟨0, 0, [], by omega, rfl, Chg.refl, HU5.out, by omega, by simp⟩
      case round =>
        obtain ⟨k, n, lU, hk, rfl, hch, hmu, hn, hmem⟩ := hrel
        have HCk := Lib.hid hch
        have HMk := Lib.hid hmu
        have Hmem := Lib.hid hmem
        clear hch hmu hmem
        by_cases hkq : k < q
        · have hdq : decide ((k : Int) < (q : Int)) = true := decide_eq_true (by omega)
          obtain ⟨xi, hx⟩ : ∃ x, s.live[k]? = some x := ⟨s.live[k]'(by have := Hq.out; omega), List.getElem?_eq_getElem _⟩
          obtain ⟨b5, o5, rfl, hb5, e0⟩ := (HV5.out.chg HCk.out (fun i hi e => by omega)).at_ rfl hx
          have hxl := (HG.out.live_le HLv.out.ok.settled xi (List.mem_of_getElem? hx)).2
          have hx9 : xi < 1000000000 := by have := Hl1.out.2; omega
          obtain ⟨w6, hrun, hmu6, ht6⟩ := HMk.out.store (by omega) hx9
          have HM6 := Lib.hid hmu6
          have HC6 := Lib.hid (HCk.out.trans (chg_turned ht6) (fun i hi => .inl hi))
          have Hm6 : Hid (∀ i, i ∈ xi :: lU ↔ i ∈ s.live.take (k + 1)) := Lib.hid (fun i => by
            rw [take_next6 hx, List.mem_cons, List.mem_append, Hmem.out i, List.mem_singleton]
            exact Or.comm)
          clear hxl hx hb5 hmu6 ht6
          go_wp2_with fail
          go_roundw
          case rel => exact ⟨k + 1, n + 1, _, by omega, by go_num, HC6.out, HM6.out, by omega, Hm6.out⟩
          case measure => simp [intOf]; omega
        · have hdq : decide ((k : Int) < (q : Int)) = false := decide_eq_false (by omega)
          have hkk : k = q := by omega
          have HUl : Hid (MapU wr m n s.live) := Lib.hid (HMk.out.congr (fun i => by rw [Hmem.out i, hkk, Hq.out, List.take_length]))
          have HCm : Hid (∀ i, i = m → ¬ M i ∧ ¬ R i ∧ w.heap.size ≤ i) := Lib.hid (fun i hi => ⟨fun e => by have := HPM.out.2.1 i (.inl e); have := HPm.out; omega, fun e => by have := HPM.out.2.1 i (.inr (.inl e)); have := HPm.out; omega, by have := HPM.out.2.2; have := HPm.out; omega⟩)
          have HLr := Lib.hid ((HLa.out.on HB5.out).chg HCk.out HCm.out)
          have HSr := Lib.hid ((HSa.out.on HB5.out).chg HCk.out (fun i hi e => by have := HPM.out.2.1 i (e.elim (fun e => .inr (.inr (.inl e))) (fun e => .inr (.inr (.inr e)))); have := HPm.out; omega))
          have hP9 : ∀ t u, wa.cell? ⟨P, t, none⟩ = some u → wr.cell? ⟨P, t, none⟩ = some u := fun t u hu =>
            (HCk.out.cell (p := ⟨P, t, none⟩) (by have := HPM.out.1; have := HB5.out.size; show P < _; omega) (fun e => by have e2 : P = m := e; have := HPm.out; omega)).trans ((HB5.out.cell (p := ⟨P, t, none⟩) HPM.out.1).trans hu)
          have p0 : wr.cell? ⟨P, 0, none⟩ = some (.int .i64 c.what) := hP9 _ _ HPa.out.1
          have p1 : wr.cell? ⟨P, 1, none⟩ = some (.string c.name) := hP9 _ _ HPa.out.2.1
          have p2 : wr.cell? ⟨P, 2, none⟩ = some (.string c.to) := hP9 _ _ HPa.out.2.2.1
          have p3 : wr.cell? ⟨P, 3, none⟩ = some (.int .i64 c.keep) := hP9 _ _ HPa.out.2.2.2
          have Hmr : Hid (m < wr.heap.size) := HUl.out.lt
          clear hkk hP9 HU5 HV5 HLb HB5 HBb HCk Hmem HMk
          go_wp2_with fail
          refine (hdoes HLr.out.fol (by have h9 := Hbig.out; unfold PSt.big at h9; omega) (by have h9 := Hbig.out; omega) c Hok.out).mono ?_
          rintro e w2 ⟨rfl, hmu⟩
          obtain ⟨M2, R2, hl2, hch, hM2, hR2⟩ := HLr.out.mut hmu
          have hMP : ∀ i, i = P ∨ i = m → ¬ M i := fun i hi e => by have := HPM.out.2.1 i (.inl e); have := HPm.out; omega
          have hP9 : ∀ t u, wr.cell? ⟨P, t, none⟩ = some u → w2.cell? ⟨P, t, none⟩ = some u := fun t u hu => (hch.cell (p := ⟨P, t, none⟩) (fblock_of_cell hu) (hMP P (.inl rfl))).trans hu
          have P2 : Hid (w2.cell? ⟨P, 0, none⟩ = some (.int .i64 c.what) ∧ w2.cell? ⟨P, 3, none⟩ = some (.int .i64 c.keep)) := Lib.hid ⟨hP9 _ _ p0, hP9 _ _ p3⟩
          have HU2 := Lib.hid (HUl.out.chg hch (hMP m (.inr rfl)))
          have HS2 := Lib.hid (HSr.out.chg hch (fun i hi e => (HAp.out i e).1 hi))
          have HA2 : Hid (∀ i, SVB (.slice A4 (nd + 1) c4) N i → ¬ M2 i ∧ ¬ R2 i) := Lib.hid (fun i hi => ⟨fun e => (hM2 i e).elim (HAp.out i hi).1 (fun e => by have := HSr.out.lt i hi; omega), fun e => (hR2 i e).elim (HAp.out i hi).2 (fun e => by have := HSr.out.lt i hi; omega)⟩)
          have hG2 := HG.out.doP HLr.out.ok c
          have hb2 := doP_big s c
          have hbg := begins s c
          have h6 : c.what = 6 → ∀ x ∈ (doP s c).2.2.now, x.2 ∈ s.live := fun hw x hx => by
            rcases hbg with ⟨h5, _⟩ | ⟨_, h⟩ | ⟨_, h, _⟩
            · omega
            · rw [h, settle_now] at hx
              have hk : keepN c.keep s.deeds.length ≤ s.deeds.length := by unfold keepN; omega
              rcases HG.out.old _ hk x hx with h1 | h1
              · exact (mem_live HLr.out.ok.settled).2 (.inl h1)
              · exact (mem_live HLr.out.ok.settled).2 (.inr ⟨h1, ((HG.out.pre _ hk).1 x hx).2.2⟩)
            · exact absurd hw h
          obtain ⟨s2, hs2⟩ : ∃ s2, s2 = (doP s c).2.2 := ⟨_, rfl⟩
          rw [← hs2] at hl2 hG2 hb2 hbg h6
          have HL2 := Lib.hid hl2
          have HG2 := Lib.hid hG2
          have HB2 : Hid (s2.big ≤ j + 1 ∧ s2.last ≤ j + 1) := by have h9 := Hbig.out; exact ⟨by omega, by omega⟩
          have Hbg := Lib.hid hbg
          have H6 := Lib.hid h6
          clear hmu hl2 hch hM2 hR2 hMP hP9 hG2 hb2 hbg h6 hs2 p0 p1 p2 p3 HLr HSr HUl HLa HSa HPa
          generalize (((doP s c).1 : Nat) : Int) = x1
          generalize (((doP s c).2.1 : Nat) : Int) = x2
          go_wp2_with fail
          refine (hlist_m HL2.out.fol).mono ?_
          rintro e w4 ⟨v, rfl, hes, hb4⟩
          have HE4 := Lib.hid hes
          obtain ⟨A6, c6, rfl, h61, h62, _⟩ := hes
          obtain ⟨nn, hnn⟩ : ∃ nn, nn = s2.now.length := ⟨_, rfl⟩
          rw [← hnn] at h61 HE4 ⊢
          have Hnn := Lib.hid hnn
          have hnn2 : nn ≤ 61 := by
            have h9 := HB2.out
            have h8 := doAll_length s2.deeds s2.safe
            rw [hnn]
            unfold PSt.now
            unfold PSt.big at h9
            omega
          have HL4 := Lib.hid (HL2.out.on hb4)
          have HS4 := Lib.hid (HS2.out.on hb4)
          have HU4 := Lib.hid (HU2.out.on hb4)
          have p0 : w4.cell? ⟨P, 0, none⟩ = some (.int .i64 c.what) := (hb4.cell (p := ⟨P, 0, none⟩) (fblock_of_cell P2.out.1)).trans P2.out.1
          have p3 : w4.cell? ⟨P, 3, none⟩ = some (.int .i64 c.keep) := (hb4.cell (p := ⟨P, 3, none⟩) (fblock_of_cell P2.out.2)).trans P2.out.2
          have HP4 : Hid (w4.cell? ⟨P, 0, none⟩ = some (.int .i64 c.what) ∧ w4.cell? ⟨P, 3, none⟩ = some (.int .i64 c.keep)) := ⟨p0, p3⟩
          have HN4 : Hid (∀ i, newB w2 w4 i → ¬ M2 i ∧ ¬ R2 i ∧ ¬ SVB (.slice A4 (nd + 1) c4) N i) := Lib.hid (fun i hi => ⟨fun e => by have := HL2.out.ltM i (.inl e); have := hi.1; omega, fun e => by have := HL2.out.ltM i (.inr e); have := hi.1; omega, fun e => by have := HS2.out.lt i e; have := hi.1; omega⟩)
          clear hnn hb4 HL2 HS2 HU2 P2 p0 p3
          go_wp2_with fail
          go_loopw [12] (fun i wr2 => ∃ k : Nat, k ≤ nn ∧ i = .int .i64 k ∧ Below w4.heap.size w4 wr2) (fun i _ => nn - (intOf i).toNat)
          case atStart => exact ⟨0, by omega, rfl, Below.refl _ _⟩
          case round =>
            obtain ⟨k, hk, rfl, hbw⟩ := hrel
            have HBW := Lib.hid hbw
            clear hbw
            by_cases hkn : k < nn
            · have hdk : decide ((k : Int) < (nn : Int)) = true := decide_eq_true (by omega)
              obtain ⟨x, hx⟩ : ∃ x, s2.now[k]? = some x := ⟨s2.now[k]'(by have := Hnn.out; omega), List.getElem?_eq_getElem _⟩
              obtain ⟨b6, o6, rfl, hb6, e0, e1⟩ := (HE4.out.on HBW.out).at_ rfl hx
              have hxm : x ∈ s2.now := List.mem_of_getElem? hx
              obtain ⟨hxa, hxb, hxc⟩ := HG2.out.now.1 x hxm
              have hx9 : x.2 < 1000000000 := by have := HB2.out.2; omega
              have Hlk : Hid (c.what = 6 → ∀ nq, (Instr.lookup 57 (.map (some m)) (.int .u64 (x.2 : Int)) false).run Try.prog (wr.drewN nq) = .ok (.int .i64 1) (wr.drewN nq)) := Lib.hid (fun hw nq => by
                have h8 := (HU4.out.on (HBW.out.trans ((below_drewN (Below.refl wr.heap.size wr) nq).mono HBW.out.size))).look hx9
                rw [if_pos (H6.out hw x hxm)] at h8
                exact h8)
              have q0 : wr.cell? ⟨P, 0, none⟩ = some (.int .i64 c.what) := (HBW.out.cell (p := ⟨P, 0, none⟩) (fblock_of_cell HP4.out.1)).trans HP4.out.1
              obtain ⟨xn, xi⟩ := x
              simp only at e0 e1 hx9 Hlk
              have Hx := Lib.hid hx
              clear hxm hxa hxb hxc hb6 hx
              go_upto_region 21 with fail
              go_cut [87] from 51 to 87 (fun s87 wx => s87 = .bool false ∧ Below wr.heap.size wr wx)
              case first =>
                as_aux_lemma =>
                  rcases Nat.eq_zero_or_pos k with hk0 | hk0
                  · have hd5 : decide ((k : Int) > 0) = false := decide_eq_false (by omega)
                    subst hk0
                    by_cases h6 : c.what = 6
                    · have d6 : (c.what == 6) = true := by rw [h6]; rfl
                      have hlk := Hlk.out h6
                      clear h6
                      go_big_quiet (fail)
                      go_wp2_with fail
                      go_meet
                      exact ⟨rfl, below_drewN (Below.refl _ _) nq⟩
                    · have d6 : (c.what == 6) = false := by simpa using h6
                      clear h6
                      go_big_quiet (fail)
                      go_wp2_with fail
                      go_meet
                      exact ⟨rfl, below_drewN (Below.refl _ _) nq⟩
                  · have hd5 : (k : Int) > 0 := by omega
                    obtain ⟨y, hy⟩ : ∃ y, s2.now[k - 1]? = some y := ⟨s2.now[k - 1]'(by have := Hnn.out; omega), List.getElem?_eq_getElem _⟩
                    obtain ⟨b7, o7, e7, _, f0, f1⟩ := (HE4.out.on HBW.out).at_ rfl hy
                    injection e7 with e7
                    injection e7 with e7 e8
                    subst e7 e8
                    have hlt : Op.bytesLess y.1.toList xn.toList = true := by
                      have h1 := List.pairwise_iff_getElem.1 HL4.out.ok.now.1 (k - 1) k (by have := Hnn.out; omega) (by have := Hnn.out; omega) (by omega)
                      obtain ⟨_, h2⟩ := List.getElem?_eq_some_iff.1 hy
                      obtain ⟨_, h3⟩ := List.getElem?_eq_some_iff.1 Hx.out
                      rw [h2, h3] at h1
                      exact h1
                    obtain ⟨yn, yi⟩ := y
                    simp only at f0 f1 hlt
                    have hge := fun w => geqS yn xn w
                    simp only [hlt, Bool.not_true] at hge
                    clear hy f1 hlt
                    by_cases h6 : c.what = 6
                    · have d6 : (c.what == 6) = true := by rw [h6]; rfl
                      have hlk := Hlk.out h6
                      clear h6
                      go_big_quiet (fail)
                      go_wp2_with fail
                      go_meet
                      exact ⟨rfl, below_drewN (Below.refl _ _) nq⟩
                    · have d6 : (c.what == 6) = false := by simpa using h6
                      clear h6
                      go_big_quiet (fail)
                      go_wp2_with fail
                      go_meet
                      exact ⟨rfl, below_drewN (Below.refl _ _) nq⟩
              case rest =>
                obtain ⟨rfl, hbx⟩ := hcut
                have HBx := Lib.hid (HBW.out.trans (hbx.mono HBW.out.size))
                clear hbx e0 e1 q0 Hlk
                go_wp2_with fail
                go_roundw
                case rel => exact ⟨k + 1, by omega, by go_num, HBx.out⟩
                case measure => simp [intOf]; omega
            · have hdk : decide ((k : Int) < (nn : Int)) = false := decide_eq_false (by omega)
              have HLw := Lib.hid (HL4.out.on HBW.out)
              have HSw := Lib.hid (HS4.out.on HBW.out)
              have HEw := Lib.hid (HE4.out.on HBW.out)
              have HNw : Hid (∀ i, newB w2 w4 i → i < wr.heap.size) := Lib.hid (fun i hi => by have := hi.2; have := HBW.out.size; omega)
              have p0 : wr.cell? ⟨P, 0, none⟩ = some (.int .i64 c.what) := (HBW.out.cell (p := ⟨P, 0, none⟩) (fblock_of_cell HP4.out.1)).trans HP4.out.1
              have p3 : wr.cell? ⟨P, 3, none⟩ = some (.int .i64 c.keep) := (HBW.out.cell (p := ⟨P, 3, none⟩) (fblock_of_cell HP4.out.2)).trans HP4.out.2
              clear HL4 HS4 HE4 HU4 HP4 hdk
              have HfS : Hid (∀ wl, Below wr.heap.size wr wl → HLive w (wl.alloc (.cells #[.slice A6 nn c6] 40)) X M2 R2 s2 ∧ (s2.states = [s2.now] → SV w (wl.alloc (.cells #[.slice A6 nn c6] 40)) (newB w2 w4) (.slice (some ⟨wl.heap.size, 0, none⟩) 1 1) [.slice A6 nn c6] s2.states) ∧ ∀ i, SVB (.slice (some ⟨wl.heap.size, 0, none⟩) 1 1) (newB w2 w4) i → ¬ M2 i ∧ ¬ R2 i) := Lib.hid (fun wl hbl => by
                refine ⟨(HLw.out.on hbl).on ((Below.refl _ _).alloc (Nat.le_refl _) _), fun hst => ?_, fun i hi => ?_⟩
                · rw [hst]
                  exact SV.single (HEw.out.on hbl) (Nat.le_trans HLw.out.below.size hbl.size) (fun i hi => Nat.lt_of_lt_of_le (HNw.out i hi) hbl.size)
                · rcases hi with hi | hi
                  · exact ⟨(HN4.out i hi).1, (HN4.out i hi).2.1⟩
                  · injection hi with hi
                    subst hi
                    have := hbl.size
                    exact ⟨fun e => by have h7 : wl.heap.size < wr.heap.size := HLw.out.ltM _ (.inl e); omega, fun e => by have h7 : wl.heap.size < wr.heap.size := HLw.out.ltM _ (.inr e); omega⟩)
              obtain ⟨i0, hi0, hz0, hz1, hz2⟩ := info_parts ents_info
              go_upto_block 6 with fail
              go_cut [4] from 19 to 191 (fun s4 wx => ∃ (N' : Nat → Prop) (vals' : List Value), HLive w wx X M2 R2 s2 ∧ SV w wx N' s4 vals' s2.states ∧ ∀ i, SVB s4 N' i → ¬ M2 i ∧ ¬ R2 i)
              case first =>
                as_aux_lemma =>
                  rcases Hbg.out with ⟨h5, hs⟩ | ⟨h6, hs⟩ | ⟨h5, h6, hs⟩
                  · have d5 : (c.what == 5) = true := by rw [h5]; rfl
                    rw [← Hnd.out] at hs
                    obtain ⟨b4, u, rfl, hcu, heu⟩ := HSw.out.get rfl (states_get (s := s) (k := nd) (by rw [Hnd.out]; exact Nat.le_refl _))
                    rw [show s.at_ nd = s2.now by rw [hs, settle_now]] at heu
                    have Hst : Hid (s2.states = [s2.now]) := by rw [hs]; exact states_settle s nd
                    have Hlk := Lib.hid (hlike_eq HEw.out heu (by rw [← Hnn.out]; omega))
                    clear hs heu h5
                    go_wp2_with fail
                    refine Calls.mono Hlk.out ?_
                    rintro e wl ⟨rfl, hbl⟩
                    obtain ⟨f1, f2, f3⟩ := HfS.out wl hbl
                    have F1 := Lib.hid f1
                    have F2 := Lib.hid (f2 Hst.out)
                    have F3 := Lib.hid f3
                    clear f1 f2 f3 hbl
                    go_wp2_with fail
                    go_meet
                    case rel => exact ⟨_, _, F1.out, F2.out, F3.out⟩
                  · have d5 : (c.what == 5) = false := by rw [h6]; rfl
                    have d6 : (c.what == 6) = true := by rw [h6]; rfl
                    obtain ⟨kk, hkk⟩ : ∃ kk, kk = keepN c.keep nd := ⟨_, rfl⟩
                    have hmin : min (max c.keep 0) (nd : Int) = (kk : Int) := by rw [hkk]; unfold keepN; omega
                    have hkn2 : kk ≤ nd := by rw [hkk]; unfold keepN; omega
                    rw [← Hnd.out, ← hkk] at hs
                    obtain ⟨b4, u, rfl, hcu, heu⟩ := HSw.out.get rfl (states_get (s := s) (k := kk) (by have := Hnd.out; omega))
                    rw [show s.at_ kk = s2.now by rw [hs, settle_now]] at heu
                    have Hst : Hid (s2.states = [s2.now]) := by rw [hs]; exact states_settle s kk
                    have Hlk := Lib.hid (hlike_eq HEw.out heu (by rw [← Hnn.out]; omega))
                    clear hs heu h6 hkk
                    go_wp2_with fail
                    refine Calls.mono Hlk.out ?_
                    rintro e wl ⟨rfl, hbl⟩
                    obtain ⟨f1, f2, f3⟩ := HfS.out wl hbl
                    have F1 := Lib.hid f1
                    have F2 := Lib.hid (f2 Hst.out)
                    have F3 := Lib.hid f3
                    clear f1 f2 f3 hbl
                    go_wp2_with fail
                    go_meet
                    case rel => exact ⟨_, _, F1.out, F2.out, F3.out⟩
                  · have d5 : (c.what == 5) = false := by simpa using h5
                    have d6 : (c.what == 6) = false := by simpa using h6
                    have klo := hloose_m HLw.out.fol
                    obtain ⟨n2, hn2⟩ : ∃ n2, n2 = s2.deeds.length := ⟨_, rfl⟩
                    rw [← hn2] at klo
                    have Hlo := Lib.hid klo
                    clear klo h5 h6
                    rcases hs with hs | ⟨hs1, hs2⟩
                    · have hn3 : n2 = nd := by rw [hn2, hs, Hnd.out]
                      subst hn3
                      obtain ⟨b4, u, rfl, hcu, heu⟩ := HSw.out.get rfl (states_get (s := s) (k := n2) (by rw [Hnd.out]; exact Nat.le_refl _))
                      rw [show s.at_ n2 = s2.now by rw [hs, Hnd.out, PSt.at_all]] at heu
                      have Hst : Hid (s.states = s2.states) := by rw [hs]; exact Lib.hid rfl
                      have Hlk := Lib.hid (hlike_eq HEw.out heu (by rw [← Hnn.out]; omega))
                      clear hs heu hn2
                      go_wp2_with fail
                      refine Calls.mono Hlo.out ?_
                      rintro e w' ⟨rfl, rfl⟩
                      go_wp2_with fail
                      refine Calls.mono Hlk.out ?_
                      rintro e wl ⟨rfl, hbl⟩
                      have HBl := Lib.hid hbl
                      clear hbl
                      go_wp2_with fail
                      go_meet
                      case rel => exact ⟨N, vals, HLw.out.on HBl.out, by rw [← Hst.out]; exact HSw.out.on HBl.out, HA2.out⟩
                    · have hn3 : n2 = nd + 1 := by rw [hn2, hs1, Hnd.out]
                      have dgt : (n2 : Int) > (nd : Int) := by omega
                      have dgt2 : (nd : Int) < (n2 : Int) := by omega
                      have Hs2 := Lib.hid hs2
                      have HSx := Lib.hid (HSw.out.on (w' := wr.alloc (.cells #[.slice A6 nn c6] 40)) ((Below.refl _ _).alloc (Nat.le_refl _) _))
                      have HLx := Lib.hid (HLw.out.on (w' := wr.alloc (.cells #[.slice A6 nn c6] 40)) ((Below.refl _ _).alloc (Nat.le_refl _) _))
                      have HEx := Lib.hid (HEw.out.on (w' := wr.alloc (.cells #[.slice A6 nn c6] 40)) ((Below.refl _ _).alloc (Nat.le_refl _) _))
                      have HOx : Hid ((wr.alloc (.cells #[.slice A6 nn c6] 40)).ownsRow w.heap.size 40 1 (.slice A4 (nd + 1) c4) (nd + 1) vals) := by have := HSx.out.own; rw [Hvn.out] at this; exact this
                      have hwsz : w.heap.size ≤ wr.heap.size := HLw.out.below.size
                      clear hs1 hs2 hn2 hn3
                      go_wp2_with fail
                      refine Calls.mono Hlo.out ?_
                      rintro e w' ⟨rfl, rfl⟩
                      go_wp2_with (at_builtin; (refine wpList_append_1 _ rfl _ _ 56 rfl w.heap.size 40 i0 (.slice none 0 0) 24 Try.underlying56 hi0 hz0 hz1 hz2 rfl (.slice A4 (nd + 1) c4) (nd + 1) vals rfl HOx.out ⟨wr.heap.size, 0, none⟩ 1 (.slice A6 nn c6) rfl (cell_new1 _ _ _) rfl (by unfold maxLen; omega) (by omega) (by simp; omega) ?_); intro v3 w3 hown3 hb3 hg3 hv3; (have HO3 := Lib.hid hown3); (have HG3 := Lib.hid hg3); (have HV3 := Lib.hid hv3); clear hown3 hb3 hg3 hv3)
                      go_meet
                      case rel =>
                        have hsv := HSx.out.add (K := newB w2 w4) HEx.out (fun i hi => ⟨fun e => (HN4.out i hi).2.2 (.inr e), Nat.lt_of_lt_of_le (HNw.out i hi) (by simp)⟩) HG3.out (by rw [Hvn.out]; exact HO3.out) HV3.out
                        rw [← Hs2.out] at hsv
                        refine ⟨_, _, HLx.out.chg (Chg.of_grown (M := fun i => (Value.slice A4 (nd + 1) c4).ownBlock = some i) HG3.out (fun g hg => hg)) (fun i hi => ⟨(HA2.out i (.inr hi)).1, (HA2.out i (.inr hi)).2, (HSx.out.own.lt i hi).1⟩), hsv, fun i hi => ?_⟩
                        rcases hi with (hi | hi) | hi
                        · exact HA2.out i (.inl hi)
                        · exact ⟨(HN4.out i hi).1, (HN4.out i hi).2.1⟩
                        · rcases HV3.out with e | e
                          · exact HA2.out i (.inr (by rw [← e]; exact hi))
                          · rw [e] at hi
                            injection hi with hi
                            subst hi
                            exact ⟨fun e => by have := HLx.out.ltM _ (.inl e); omega, fun e => by have := HLx.out.ltM _ (.inr e); omega⟩
              case rest =>
                obtain ⟨N5, vals5, hl5, hs5, ha5⟩ := hcut
                have HL5 := Lib.hid hl5
                have HS5 := Lib.hid hs5
                have HA5 := Lib.hid ha5
                obtain ⟨n2, hn2⟩ : ∃ n2, n2 = s2.deeds.length := ⟨_, rfl⟩
                have hle : n2 ≤ nd + 1 := by
                  have h7 := Hnd.out
                  rcases Hbg.out with ⟨_, hs⟩ | ⟨_, hs⟩ | ⟨_, _, hs | ⟨hs, _⟩⟩
                  · rw [hn2, hs]; simp [PSt.settle]
                  · rw [hn2, hs]; simp [PSt.settle]
                  · rw [hn2, hs]; omega
                  · rw [hn2, hs]; omega
                obtain ⟨A7, c7, hu7, h71, h72, _⟩ := own_slice hs5.own
                rw [hs5.len, states_length, ← hn2] at hu7 h71
                have Hn2 := Lib.hid hn2
                subst hu7
                have Hlo := Lib.hid (hloose_m hl5.fol)
                rw [← hn2] at Hlo
                clear hl5 hs5 ha5 hn2 HLw HSw HEw HNw HN4 HfS Hbg H6 HA2 HSv HAp HLv
                have dle : decide ((n2 : Int) > (nd : Int) + 1) = false := decide_eq_false (by omega)
                have dne : ((n2 : Int) != (n2 : Int)) = false := by simp
                go_wp2_with fail
                refine Calls.mono Hlo.out ?_
                rintro e w' ⟨rfl, rfl⟩
                go_wp2_with fail
                refine Calls.mono Hlo.out ?_
                rintro e w' ⟨rfl, rfl⟩
                go_wp2_with fail
                go_loopw [13] (fun i wr2 => ∃ k : Nat, k ≤ n2 + 1 ∧ i = .int .i64 k ∧ Below wc.heap.size wc wr2) (fun i _ => n2 + 1 - (intOf i).toNat)
                case atStart => exact ⟨0, by omega, rfl, Below.refl _ _⟩
                case round =>
                  obtain ⟨k, hk, rfl, hbw⟩ := hrel
                  have HBW := Lib.hid hbw
                  clear hbw
                  by_cases hkn : k ≤ n2
                  · have hdk : decide ((k : Int) < (n2 : Int) + 1) = true := decide_eq_true (by omega)
                    have hdk2 : decide ((k : Int) < ((n2 + 1 : Nat) : Int)) = true := decide_eq_true (by omega)
                    as_aux_lemma =>
                      have HLc := Lib.hid (HL5.out.on HBW.out)
                      obtain ⟨b4, u, rfl, hcu, heu⟩ := (HS5.out.on HBW.out).get rfl (states_get (s := s2) (k := k) (by rw [← Hn2.out]; exact hkn))
                      have HCU := Lib.hid hcu
                      have HEU := Lib.hid heu
                      have hlen9 : (s2.at_ k).length ≤ 1000000 := by
                        have h8 := doAll_length (s2.deeds.take k) s2.safe
                        have h9 := HB2.out
                        have h10 : (s2.deeds.take k).length ≤ s2.deeds.length := by rw [List.length_take]; omega
                        unfold PSt.big at h9
                        unfold PSt.at_
                        omega
                      have hdk3 : (k : Int) < (n2 : Int) + 1 := by omega
                      have hkeep : keepN (k : Int) n2 = k := by unfold keepN; omega
                      have hkeep0 : keepN 0 (s2.settle k).deeds.length = 0 := by unfold keepN; simp
                      clear hcu heu
                      go_wp2_with fail
                      refine (hcopy HLc.out.fol).mono ?_
                      rintro e w7 ⟨X', M7, rfl, h7, hb7, hM7⟩
                      have H7 := Lib.hid (h7.drew)
                      have HB7 := Lib.hid (hb7.trans ((Below.refl w7.heap.size w7).drew.mono hb7.size))
                      have HM7 := Lib.hid hM7
                      clear h7 hb7 hM7
                      go_wp2_with fail
                      have hHeld0 := (HB7.out.cell (p := ⟨b4, k, none⟩) (fblock_of_cell HCU.out)).trans HCU.out
                      refine wp_region_noPanic ?_
                      refine wp_region_held_drew (S := fun w' => w'.cell? ⟨b4, k, none⟩ = some u) (by kernel_rfl) hHeld0 (fun hHeld => ?_)
                      clear hHeld0
                      generalize World.drew _ = W at *
                      refine wpAnyH_take (i := 0) (v := ?_) opAt_0 (by kernel_rfl) (by kernel_rfl) (by kernel_rfl) (fun _ _ _ h => h) (Or.inl ⟨by rfl, ?_⟩) hHeld ?_
                      rotate_left
                      · (intro w' hSw; have p9 := hSw; go_simp; try with_reducible rfl)
                      try simp only [Act.put, List.setIfInBounds_toArray, List.set_cons_zero, List.set_cons_succ]
                      refine wpAnyH_take (i := 1) (v := ?_) opAt_1 (by kernel_rfl) (by kernel_rfl) (by kernel_rfl) (fun _ _ _ h => h) (Or.inl ⟨by rfl, ?_⟩) hHeld ?_
                      rotate_left
                      · (intro w' hSw; have p9 := hSw; go_simp; try with_reducible rfl)
                      try simp only [Act.put, List.setIfInBounds_toArray, List.set_cons_zero, List.set_cons_succ]
                      refine wpAnyH_ready (rs := [2]) (by kernel_rfl) (by simp) ?_
                      refine AllReadyH.cons rfl (fun K hK => ?_) AllReadyH.nil
                      go_simp
                      refine (hcrash H7.out (k : Int)).mono ?_
                      rintro e w8 ⟨rfl, hm8⟩
                      rw [← Hn2.out, hkeep] at hm8
                      obtain ⟨M8, R8, h8, hc8, hM8, hR8⟩ := hm8
                      have HB8 := Lib.hid (HB7.out.trans (hc8.below HB7.out.size HM7.out))
                      have H8 := Lib.hid h8
                      have HM8 : Hid (∀ i, M8 i → wr.heap.size ≤ i) := Lib.hid (fun i hi => (hM8 i hi).elim (HM7.out i) (fun e => Nat.le_trans HB7.out.size e))
                      clear h8 hc8 hM8 hR8 hHeld
                      have hHeld := (HB8.out.cell (p := ⟨b4, k, none⟩) (fblock_of_cell HCU.out)).trans HCU.out
                      go_wp2_with fail
                      refine hK.out _ _ hHeld (fun hHeld => ?_)
                      clear hK K
                      try simp only [Act.put, List.setIfInBounds_toArray, List.set_cons_zero, List.set_cons_succ]
                      refine wpAnyH_take (i := 3) (v := ?_) opAt_3 (by kernel_rfl) (by kernel_rfl) (by kernel_rfl) (fun _ _ _ h => h) (Or.inl ⟨by rfl, ?_⟩) hHeld ?_
                      rotate_left
                      · (intro w' hSw; have p9 := hSw; go_simp; try with_reducible rfl)
                      try simp only [Act.put, List.setIfInBounds_toArray, List.set_cons_zero, List.set_cons_succ]
                      refine wpAnyH_take (i := 4) (v := ?_) opAt_4 (by kernel_rfl) (by kernel_rfl) (by kernel_rfl) (fun _ _ _ h => h) (Or.inl ⟨by rfl, ?_⟩) hHeld ?_
                      rotate_left
                      · (intro w' hSw; have p9 := hSw; go_simp; try with_reducible rfl)
                      try simp only [Act.put, List.setIfInBounds_toArray, List.set_cons_zero, List.set_cons_succ]
                      refine wpAnyH_take (i := 5) (v := ?_) opAt_5 (by kernel_rfl) (by kernel_rfl) (by kernel_rfl) (fun _ _ _ h => h) (Or.inl ⟨by rfl, ?_⟩) hHeld ?_
                      rotate_left
                      · (intro w' hSw; have p9 := hSw; go_simp; try with_reducible rfl)
                      try simp only [Act.put, List.setIfInBounds_toArray, List.set_cons_zero, List.set_cons_succ]
                      refine wpAnyH_take (i := 7) (v := ?_) opAt_7 (by kernel_rfl) (by kernel_rfl) (by kernel_rfl) (fun _ _ _ h => h) (Or.inl ⟨by rfl, ?_⟩) hHeld ?_
                      rotate_left
                      · (intro w' hSw; have p9 := hSw; go_simp; try with_reducible rfl)
                      try simp only [Act.put, List.setIfInBounds_toArray, List.set_cons_zero, List.set_cons_succ]
                      refine wpAnyH_take (i := 8) (v := ?_) opAt_8 (by kernel_rfl) (by kernel_rfl) (by kernel_rfl) (fun _ _ _ h => h) (Or.inl ⟨by rfl, ?_⟩) hHeld ?_
                      rotate_left
                      · (intro w' hSw; have p9 := hSw; go_simp; try with_reducible rfl)
                      try simp only [Act.put, List.setIfInBounds_toArray, List.set_cons_zero, List.set_cons_succ]
                      refine wpAnyH_take (i := 9) (v := ?_) opAt_9 (by kernel_rfl) (by kernel_rfl) (by kernel_rfl) (fun _ _ _ h => h) (Or.inl ⟨by rfl, ?_⟩) hHeld ?_
                      rotate_left
                      · (intro w' hSw; have p9 := hSw; go_simp; try with_reducible rfl)
                      try simp only [Act.put, List.setIfInBounds_toArray, List.set_cons_zero, List.set_cons_succ]
                      refine wpAnyH_take (i := 10) (v := ?_) opAt_10 (by kernel_rfl) (by kernel_rfl) (by kernel_rfl) (fun _ _ _ h => h) (Or.inl ⟨by rfl, ?_⟩) hHeld ?_
                      rotate_left
                      · (intro w' hSw; have p9 := hSw; go_simp; try with_reducible rfl)
                      try simp only [Act.put, List.setIfInBounds_toArray, List.set_cons_zero, List.set_cons_succ]
                      refine wpAnyH_ready (rs := [6]) (by kernel_rfl) (by simp) ?_
                      refine AllReadyH.cons rfl (fun K hK => ?_) AllReadyH.nil
                      go_simp
                      refine (hlist_m H8.out).mono ?_
                      rintro e w9 ⟨v9, rfl, hes9, hb9⟩
                      have HB9 := Lib.hid (HB8.out.trans (hb9.mono HB8.out.size))
                      have H9 := Lib.hid (H8.out.on hb9)
                      have HE9 := Lib.hid hes9
                      clear hes9 hb9 hHeld
                      have hHeld := (HB9.out.cell (p := ⟨b4, k, none⟩) (fblock_of_cell HCU.out)).trans HCU.out
                      go_wp2_with fail
                      refine hK.out _ _ hHeld (fun hHeld => ?_)
                      clear hK K
                      try simp only [Act.put, List.setIfInBounds_toArray, List.set_cons_zero, List.set_cons_succ]
                      refine wpAnyH_ready (rs := [11]) (by kernel_rfl) (by simp) ?_
                      refine AllReadyH.cons rfl (fun K hK => ?_) AllReadyH.nil
                      go_simp
                      refine (hlike_eq HE9.out (HEU.out.on HB9.out) hlen9).mono ?_
                      rintro e w10 ⟨rfl, hb10⟩
                      have HB10 := Lib.hid (HB9.out.trans (hb10.mono HB9.out.size))
                      have H10 := Lib.hid (H9.out.on hb10)
                      clear hb10 hHeld
                      have hHeld := (HB10.out.cell (p := ⟨b4, k, none⟩) (fblock_of_cell HCU.out)).trans HCU.out
                      go_wp2_with fail
                      refine hK.out _ _ hHeld (fun hHeld => ?_)
                      clear hK K
                      try simp only [Act.put, List.setIfInBounds_toArray, List.set_cons_zero, List.set_cons_succ]
                      refine wpAnyH_take (i := 12) (v := ?_) opAt_12 (by kernel_rfl) (by kernel_rfl) (by kernel_rfl) (fun _ _ _ h => h) (Or.inl ⟨by rfl, ?_⟩) hHeld ?_
                      rotate_left
                      · (intro w' hSw; have p9 := hSw; go_simp; try with_reducible rfl)
                      try simp only [Act.put, List.setIfInBounds_toArray, List.set_cons_zero, List.set_cons_succ]
                      refine wpAnyH_take (i := 13) (v := ?_) opAt_13 (by kernel_rfl) (by kernel_rfl) (by kernel_rfl) (fun _ _ _ h => h) (Or.inl ⟨by rfl, ?_⟩) hHeld ?_
                      rotate_left
                      · (intro w' hSw; have p9 := hSw; go_simp; try with_reducible rfl)
                      try simp only [Act.put, List.setIfInBounds_toArray, List.set_cons_zero, List.set_cons_succ]
                      refine wpAnyH_take (i := 14) (v := ?_) opAt_14 (by kernel_rfl) (by kernel_rfl) (by kernel_rfl) (fun _ _ _ h => h) (Or.inl ⟨by rfl, ?_⟩) hHeld ?_
                      rotate_left
                      · (intro w' hSw; have p9 := hSw; go_simp; try with_reducible rfl)
                      try simp only [Act.put, List.setIfInBounds_toArray, List.set_cons_zero, List.set_cons_succ]
                      refine wpAnyH_take (i := 15) (v := ?_) opAt_15 (by kernel_rfl) (by kernel_rfl) (by kernel_rfl) (fun _ _ _ h => h) (Or.inl ⟨by rfl, ?_⟩) hHeld ?_
                      rotate_left
                      · (intro w' hSw; have p9 := hSw; go_simp; try with_reducible rfl)
                      try simp only [Act.put, List.setIfInBounds_toArray, List.set_cons_zero, List.set_cons_succ]
                      refine wpAnyH_ready (rs := [16]) (by kernel_rfl) (by simp) ?_
                      refine AllReadyH.cons rfl (fun K hK => ?_) AllReadyH.nil
                      go_simp
                      refine (show Calls _ _ _ _ (fun e w' => e = .returned (.int .i64 0) ∧ w10 = w') from hloose_m H10.out).mono ?_
                      rintro e w' ⟨rfl, rfl⟩
                      go_wp2_with fail
                      refine hK.out _ _ hHeld (fun hHeld => ?_)
                      clear hK K
                      try simp only [Act.put, List.setIfInBounds_toArray, List.set_cons_zero, List.set_cons_succ]
                      refine wpAnyH_take (i := 17) (v := ?_) opAt_17 (by kernel_rfl) (by kernel_rfl) (by kernel_rfl) (fun _ _ _ h => h) (Or.inl ⟨by rfl, ?_⟩) hHeld ?_
                      rotate_left
                      · (intro w' hSw; have p9 := hSw; go_simp; try with_reducible rfl)
                      try simp only [Act.put, List.setIfInBounds_toArray, List.set_cons_zero, List.set_cons_succ]
                      refine wpAnyH_take (i := 18) (v := ?_) opAt_18 (by kernel_rfl) (by kernel_rfl) (by kernel_rfl) (fun _ _ _ h => h) (Or.inl ⟨by rfl, ?_⟩) hHeld ?_
                      rotate_left
                      · (intro w' hSw; have p9 := hSw; go_simp; try with_reducible rfl)
                      try simp only [Act.put, List.setIfInBounds_toArray, List.set_cons_zero, List.set_cons_succ]
                      refine wpAnyH_take (i := 19) (v := ?_) opAt_19 (by kernel_rfl) (by kernel_rfl) (by kernel_rfl) (fun _ _ _ h => h) (Or.inl ⟨by rfl, ?_⟩) hHeld ?_
                      rotate_left
                      · (intro w' hSw; have p9 := hSw; go_simp; try with_reducible rfl)
                      try simp only [Act.put, List.setIfInBounds_toArray, List.set_cons_zero, List.set_cons_succ]
                      refine wpAnyH_take (i := 20) (v := ?_) opAt_20 (by kernel_rfl) (by kernel_rfl) (by kernel_rfl) (fun _ _ _ h => h) (Or.inl ⟨by rfl, ?_⟩) hHeld ?_
                      rotate_left
                      · (intro w' hSw; have p9 := hSw; go_simp; try with_reducible rfl)
                      try simp only [Act.put, List.setIfInBounds_toArray, List.set_cons_zero, List.set_cons_succ]
                      refine wpAnyH_ready (rs := [21]) (by kernel_rfl) (by simp) ?_
                      refine AllReadyH.cons rfl (fun K hK => ?_) AllReadyH.nil
                      go_simp
                      refine (hcrash H10.out 0).mono ?_
                      rintro e w11 ⟨rfl, hm8⟩
                      rw [hkeep0] at hm8
                      obtain ⟨M9, R9, h8, hc8, hM9, hR9⟩ := hm8
                      have HB11 := Lib.hid (HB10.out.trans (hc8.below HB10.out.size HM8.out))
                      have H11 := Lib.hid h8
                      clear h8 hc8 hM9 hR9 hHeld
                      have hHeld := (HB11.out.cell (p := ⟨b4, k, none⟩) (fblock_of_cell HCU.out)).trans HCU.out
                      go_wp2_with fail
                      refine hK.out _ _ hHeld (fun hHeld => ?_)
                      clear hK K
                      try simp only [Act.put, List.setIfInBounds_toArray, List.set_cons_zero, List.set_cons_succ]
                      refine wpAnyH_take (i := 22) (v := ?_) opAt_22 (by kernel_rfl) (by kernel_rfl) (by kernel_rfl) (fun _ _ _ h => h) (Or.inl ⟨by rfl, ?_⟩) hHeld ?_
                      rotate_left
                      · (intro w' hSw; have p9 := hSw; go_simp; try with_reducible rfl)
                      try simp only [Act.put, List.setIfInBounds_toArray, List.set_cons_zero, List.set_cons_succ]
                      refine wpAnyH_take (i := 23) (v := ?_) opAt_23 (by kernel_rfl) (by kernel_rfl) (by kernel_rfl) (fun _ _ _ h => h) (Or.inl ⟨by rfl, ?_⟩) hHeld ?_
                      rotate_left
                      · (intro w' hSw; have p9 := hSw; go_simp; try with_reducible rfl)
                      try simp only [Act.put, List.setIfInBounds_toArray, List.set_cons_zero, List.set_cons_succ]
                      refine wpAnyH_take (i := 24) (v := ?_) opAt_24 (by kernel_rfl) (by kernel_rfl) (by kernel_rfl) (fun _ _ _ h => h) (Or.inl ⟨by rfl, ?_⟩) hHeld ?_
                      rotate_left
                      · (intro w' hSw; have p9 := hSw; go_simp; try with_reducible rfl)
                      try simp only [Act.put, List.setIfInBounds_toArray, List.set_cons_zero, List.set_cons_succ]
                      refine wpAnyH_take (i := 25) (v := ?_) opAt_25 (by kernel_rfl) (by kernel_rfl) (by kernel_rfl) (fun _ _ _ h => h) (Or.inl ⟨by rfl, ?_⟩) hHeld ?_
                      rotate_left
                      · (intro w' hSw; have p9 := hSw; go_simp; try with_reducible rfl)
                      try simp only [Act.put, List.setIfInBounds_toArray, List.set_cons_zero, List.set_cons_succ]
                      refine wpAnyH_take (i := 27) (v := ?_) opAt_27 (by kernel_rfl) (by kernel_rfl) (by kernel_rfl) (fun _ _ _ h => h) (Or.inl ⟨by rfl, ?_⟩) hHeld ?_
                      rotate_left
                      · (intro w' hSw; have p9 := hSw; go_simp; try with_reducible rfl)
                      try simp only [Act.put, List.setIfInBounds_toArray, List.set_cons_zero, List.set_cons_succ]
                      refine wpAnyH_take (i := 28) (v := ?_) opAt_28 (by kernel_rfl) (by kernel_rfl) (by kernel_rfl) (fun _ _ _ h => h) (Or.inl ⟨by rfl, ?_⟩) hHeld ?_
                      rotate_left
                      · (intro w' hSw; have p9 := hSw; go_simp; try with_reducible rfl)
                      try simp only [Act.put, List.setIfInBounds_toArray, List.set_cons_zero, List.set_cons_succ]
                      refine wpAnyH_take (i := 29) (v := ?_) opAt_29 (by kernel_rfl) (by kernel_rfl) (by kernel_rfl) (fun _ _ _ h => h) (Or.inl ⟨by rfl, ?_⟩) hHeld ?_
                      rotate_left
                      · (intro w' hSw; have p9 := hSw; go_simp; try with_reducible rfl)
                      try simp only [Act.put, List.setIfInBounds_toArray, List.set_cons_zero, List.set_cons_succ]
                      refine wpAnyH_take (i := 30) (v := ?_) opAt_30 (by kernel_rfl) (by kernel_rfl) (by kernel_rfl) (fun _ _ _ h => h) (Or.inl ⟨by rfl, ?_⟩) hHeld ?_
                      rotate_left
                      · (intro w' hSw; have p9 := hSw; go_simp; try with_reducible rfl)
                      try simp only [Act.put, List.setIfInBounds_toArray, List.set_cons_zero, List.set_cons_succ]
                      refine wpAnyH_ready (rs := [26]) (by kernel_rfl) (by simp) ?_
                      refine AllReadyH.cons rfl (fun K hK => ?_) AllReadyH.nil
                      go_simp
                      refine (hlist_m H11.out).mono ?_
                      rintro e w12 ⟨v12, rfl, hes9, hb9⟩
                      have HB12 := Lib.hid (HB11.out.trans (hb9.mono HB11.out.size))
                      have HE12 := Lib.hid hes9
                      clear hes9 hb9 hHeld
                      have hHeld := (HB12.out.cell (p := ⟨b4, k, none⟩) (fblock_of_cell HCU.out)).trans HCU.out
                      go_wp2_with fail
                      refine hK.out _ _ hHeld (fun hHeld => ?_)
                      clear hK K
                      try simp only [Act.put, List.setIfInBounds_toArray, List.set_cons_zero, List.set_cons_succ]
                      refine wpAnyH_ready (rs := [31]) (by kernel_rfl) (by simp) ?_
                      refine AllReadyH.cons rfl (fun K hK => ?_) AllReadyH.nil
                      go_simp
                      refine (hlike_eq HE12.out (HEU.out.on HB12.out) hlen9).mono ?_
                      rintro e w13 ⟨rfl, hb13⟩
                      have HB13 := Lib.hid (HB12.out.trans (hb13.mono HB12.out.size))
                      clear hb13 hHeld
                      have hHeld := (HB13.out.cell (p := ⟨b4, k, none⟩) (fblock_of_cell HCU.out)).trans HCU.out
                      go_wp2_with fail
                      refine hK.out _ _ hHeld (fun hHeld => ?_)
                      clear hK K
                      try simp only [Act.put, List.setIfInBounds_toArray, List.set_cons_zero, List.set_cons_succ]
                      refine wpAnyH_take (i := 32) (v := ?_) opAt_32 (by kernel_rfl) (by kernel_rfl) (by kernel_rfl) (fun _ _ _ h => h) (Or.inl ⟨by rfl, ?_⟩) hHeld ?_
                      rotate_left
                      · (intro w' hSw; have p9 := hSw; go_simp; try with_reducible rfl)
                      try simp only [Act.put, List.setIfInBounds_toArray, List.set_cons_zero, List.set_cons_succ]
                      refine wpAnyH_take (i := 33) (v := ?_) opAt_33 (by kernel_rfl) (by kernel_rfl) (by kernel_rfl) (fun _ _ _ h => h) (Or.inl ⟨by rfl, ?_⟩) hHeld ?_
                      rotate_left
                      · (intro w' hSw; have p9 := hSw; go_simp; try with_reducible rfl)
                      try simp only [Act.put, List.setIfInBounds_toArray, List.set_cons_zero, List.set_cons_succ]
                      refine wpAnyH_done (by kernel_rfl) ?_ _
                      refine NoPanic.normal ?_

                      go_wp2_with fail
                      have HBf := Lib.hid (HBW.out.trans (HB13.out.mono HBW.out.size))
                      go_roundw
                      case rel => exact ⟨k + 1, by omega, by go_num, HBf.out⟩
                      case measure => simp [intOf]; omega
                  · have hdk : decide ((k : Int) < (n2 : Int) + 1) = false := decide_eq_false (by omega)
                    have hdk2 : decide ((k : Int) < ((n2 + 1 : Nat) : Int)) = false := decide_eq_false (by omega)
                    go_wp2_with fail
                    go_roundw
                    case rel => exact ⟨j + 1, M2, R2, N5, s2, vals5, by omega, by omega, by go_num, HL5.out.on HBW.out, HG2.out, HS5.out.on HBW.out, HA5.out, HB2.out.1, HB2.out.2⟩
                    case measure => simp [intOf]; omega
    · have hd : ¬ j < k0 ∨ (j < k0 ∧ ¬ ((j : Int) < 60)) := by omega
      clear hgo hj hj60
      rcases hd with hd | ⟨hd, hd2⟩ <;> go_wp2_with fail
      all_goals
        refine (hknows _).mono ?_
        rintro e w9 ⟨rfl, hb9⟩
        have HB9 := Lib.hid (HLv.out.below.trans (hb9.mono HLv.out.below.size))
        clear hb9
        go_wp2_with fail
        go_ret
        exact ⟨rfl, HB9.out⟩
end folderBegins
end Go.Proofs.Ytpjmjcjikaekiaa
