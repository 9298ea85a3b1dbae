
/-
  FsRefused: the walk.
-/
import Derived.Test.YtboeiadfmknidaaGreatJgRef
import Derived.Test.YtboeiadfmknidaaGreatJgCopy
set_option linter.unusedVariables false
set_option linter.unusedSimpArgs false
namespace Go.Proofs.YtboeiadfmknidaaGreat
open Go.RowKit Go.Maps
theorem byte_of_wf {a : Int} (h : (Lit.int .u8 a).wf = true) : ∃ n : Nat, a = n ∧ n ≤ 255 := by
  have e1 : IntKind.u8.min = 0 := by decide
  have e2 : IntKind.u8.max = 255 := by decide
  simp only [Lit.wf, e1, e2, Bool.and_eq_true, decide_eq_true_eq] at h
  exact ⟨a.toNat, by omega, by omega⟩
theorem isR_none (w : World) (N : Nat → Prop) : IsR w N (.slice none 0 0) [] := ⟨none, 0, rfl, Nat.le_refl _, by decide, fun h => absurd rfl h⟩
theorem fuse_used (s : FsP) (z : Int) : (fuseF s z).2.used = s.used := by unfold fuseF; split <;> rfl
theorem below_cell {w w' : World} (hb : Below w.heap.size w w') {b k : Nat} {v : Value} (h : w.cell? ⟨b, k, none⟩ = some v) : w'.cell? ⟨b, k, none⟩ = some v := (hb.cell (p := ⟨b, k, none⟩) (fblock_of_cell h)).trans h
theorem now_few {s : FsP} {q T : Nat} (h : FInv s q T) : (stN s.file s.dir.now).length ≤ 2 * q := by
  have h8 := h.few
  have h6 : s.dir.now.length ≤ s.dir.safe.length + s.dir.deeds.length := doAll_length s.dir.deeds s.dir.safe
  unfold PSt.big at h8
  rw [stN_length]
  omega
def nNew : ByteArray := { data := #[110, 101, 119] }
namespace fsRefused

set_option maxRecDepth 100000 in
set_option maxHeartbeats 16000000 in
theorem walk (v0 : Value) (l0 : List Act7) (a1 : Int) (w : World) (hl0 : Acts7 w w.heap.size v0 l0) (w1 : (Lit.int .u8 a1).wf = true) :
    Calls Tryz.prog 5 #[v0, .int .u8 a1] w fun e w' => e = .returned (.bool true) ∧ Below w.heap.size w w' := by
  have HL0 := Lib.hid hl0
  obtain ⟨A0, c0, rfl, hc0, hm0, hx0⟩ := hl0
  obtain ⟨k0, hk0⟩ : ∃ n, n = l0.length := ⟨_, rfl⟩
  rw [← hk0] at hc0 HL0 ⊢
  have Hk0 := Lib.hid hk0
  have hm0' : k0 ≤ 9223372036854775807 := by unfold maxLen at hm0; omega
  obtain ⟨n, rfl, hn⟩ := byte_of_wf w1
  clear hk0 hm0 hx0 w1
  go_enter Tryz.func5, Tryz.ntmps5
  go_wp2_with fail
  refine (knew w 100 (by decide)).mono ?_
  rintro e wa ⟨A, M0, rfl, hm, hb, hM⟩
  have HL := Lib.hid (show FLive w wa A M0 (fun _ => False) (FsP.new 100) from ⟨hm, hb, hM, fun i e => e.elim⟩)
  clear hm hb hM
  go_wp2_with fail
  refine (kwakes wa).mono ?_
  rintro e wb ⟨rfl, hb⟩
  have HLb := Lib.hid (HL.out.on hb)
  clear hb HL
  go_wp2_with fail
  go_loopw [28] (fun i wr => ∃ (j : Nat) (M R : Nat → Prop) (s : FsP), j ≤ k0 ∧ j ≤ 60 ∧ i = .int .i64 j ∧ FLive w wr A M R s ∧ FInv s j (60 * j) ∧ OnF s ∧ s.steps ≤ j) (fun i _ => k0 - (intOf i).toNat)
  case atStart => exact ⟨0, M0, _, _, by omega, by omega, rfl, HLb.out, FInv.new _, ⟨rfl, rfl⟩, Nat.le_refl _⟩
  case round =>
    obtain ⟨j, M, R, s, hj, hj60, rfl, hlive, hinv, hon, hst⟩ := hrel
    have HLv := Lib.hid hlive
    have HI := Lib.hid hinv
    have HOn := Lib.hid hon
    have HSt := Lib.hid hst
    clear hlive hinv hon hst HLb
    by_cases hlt : j < k0
    · have d1 : decide ((j : Int) < (k0 : Int)) = true := decide_eq_true (by omega)
      obtain ⟨c, hc⟩ : ∃ c, l0[j]? = some c := ⟨l0[j]'(by have := Hk0.out; omega), List.getElem?_eq_getElem _⟩
      obtain ⟨bb, oo, Ab, cb, Ap, cpp, rfl, hok, hbB, a0, a1, a2, a3, a4, a5, a6⟩ := HL0.out.at_ HLv.out.below rfl hc
      have Hok := Lib.hid hok
      obtain ⟨wc, hwc⟩ : ∃ wc, wc = wr.alloc (.cells #[.int .i64 c.what, .string c.name, .string c.dst, .int .i64 c.n, .int .i64 c.m, .slice Ab c.b.length cb, .slice Ap c.picks.length cpp] 31) := ⟨_, rfl⟩
      obtain ⟨P, hP⟩ : ∃ P, P = wr.heap.size := ⟨_, rfl⟩
      have hbc : Below wr.heap.size wr wc := by rw [hwc]; exact (Below.refl _ _).alloc (Nat.le_refl _) _
      have hLc := HLv.out.on hbc
      have HLc := Lib.hid hLc
      by_cases h60 : j < 60
      · have d2 : decide ((j : Int) = 60) = false := decide_eq_false (by omega)
        have d2' : ¬ (j : Int) = 60 := by omega
        have hcc : wc.cell? ⟨P, 0, none⟩ = some (.int .i64 c.what) ∧ wc.cell? ⟨P, 1, none⟩ = some (.string c.name) ∧ wc.cell? ⟨P, 2, none⟩ = some (.string c.dst) ∧ wc.cell? ⟨P, 3, none⟩ = some (.int .i64 c.n) ∧ wc.cell? ⟨P, 4, none⟩ = some (.int .i64 c.m) ∧ wc.cell? ⟨P, 5, none⟩ = some (.slice Ab c.b.length cb) ∧ wc.cell? ⟨P, 6, none⟩ = some (.slice Ap c.picks.length cpp) := by
          rw [hwc, hP]
          simp
        have Hcc := Lib.hid hcc
        have hst := kstate hLc.fs HI.out (by omega) HOn.out.1
        have HStt := Lib.hid hst
        have Hok1 := Lib.hid (Hok.out.on hbc)
        clear hok hc hbB hcc hst hbc hLc Hok
        go_wp2_with fail
        rw [← hwc]
        try rw [← hP]
        clear hwc hP
        clear a0 a1 a2 a3 a4 a5 a6
        refine HStt.out.mono ?_
        rintro e wd ⟨vw, rfl, how, hbd⟩
        have HRW := Lib.hid (sos_of_own how rfl)
        have Hsd := Lib.hid hbd.size
        have HLd := Lib.hid (HLc.out.on hbd)
        have Hok2 := Lib.hid (Hok1.out.on hbd)
        obtain ⟨Avw, cvw, rfl, _, _, _⟩ := own_slice how
        have hp0 := below_cell hbd Hcc.out.1
        have hp1 := below_cell hbd Hcc.out.2.1
        have hp2 := below_cell hbd Hcc.out.2.2.1
        have hp3 := below_cell hbd Hcc.out.2.2.2.1
        have hp4 := below_cell hbd Hcc.out.2.2.2.2.1
        have hp5 := below_cell hbd Hcc.out.2.2.2.2.2.1
        have hp6 := below_cell hbd Hcc.out.2.2.2.2.2.2
        have HCw := Lib.hid (HLc.out.fs.ml)
        have HCr := Lib.hid (HLc.out.fs.rl)
        clear how hbd HStt HLc Hok1 Hcc
        by_cases q1 : c.what = 9 ∨ c.what = 10 ∨ c.what = 12 ∨ c.what = 13
        · rcases q1 with q1 | q1 | q1 | q1
          · have e9 : decide (c.what = 9) = true := decide_eq_true q1
            have e9' : (c.what == 9) = true := by simp [q1]
            clear q1
            go_wp2_with fail
            go_roundw
            case rel => exact ⟨j + 1, M, R, s, by omega, by omega, by go_num, HLd.out, HI.out.mono (by omega) (by omega), HOn.out, by have := HSt.out; omega⟩
            case measure => simp [intOf]; omega
          · have n9 : ¬ c.what = 9 := by omega
            have e9 : decide (c.what = 9) = false := decide_eq_false n9
            have e9' : (c.what == 9) = false := by simp [n9]
            have e10 : decide (c.what = 10) = true := decide_eq_true q1
            have e10' : (c.what == 10) = true := by simp [q1]
            clear q1
            go_wp2_with fail
            go_roundw
            case rel => exact ⟨j + 1, M, R, s, by omega, by omega, by go_num, HLd.out, HI.out.mono (by omega) (by omega), HOn.out, by have := HSt.out; omega⟩
            case measure => simp [intOf]; omega
          · have n9 : ¬ c.what = 9 := by omega
            have e9 : decide (c.what = 9) = false := decide_eq_false n9
            have e9' : (c.what == 9) = false := by simp [n9]
            have n10 : ¬ c.what = 10 := by omega
            have e10 : decide (c.what = 10) = false := decide_eq_false n10
            have e10' : (c.what == 10) = false := by simp [n10]
            have e12 : decide (c.what = 12) = true := decide_eq_true q1
            have e12' : (c.what == 12) = true := by simp [q1]
            clear q1
            go_wp2_with fail
            go_roundw
            case rel => exact ⟨j + 1, M, R, s, by omega, by omega, by go_num, HLd.out, HI.out.mono (by omega) (by omega), HOn.out, by have := HSt.out; omega⟩
            case measure => simp [intOf]; omega
          · have n9 : ¬ c.what = 9 := by omega
            have e9 : decide (c.what = 9) = false := decide_eq_false n9
            have e9' : (c.what == 9) = false := by simp [n9]
            have n10 : ¬ c.what = 10 := by omega
            have e10 : decide (c.what = 10) = false := decide_eq_false n10
            have e10' : (c.what == 10) = false := by simp [n10]
            have n12 : ¬ c.what = 12 := by omega
            have e12 : decide (c.what = 12) = false := decide_eq_false n12
            have e12' : (c.what == 12) = false := by simp [n12]
            have e13 : decide (c.what = 13) = true := decide_eq_true q1
            have e13' : (c.what == 13) = true := by simp [q1]
            clear q1
            go_wp2_with fail
            go_roundw
            case rel => exact ⟨j + 1, M, R, s, by omega, by omega, by go_num, HLd.out, HI.out.mono (by omega) (by omega), HOn.out, by have := HSt.out; omega⟩
            case measure => simp [intOf]; omega
        · have q9 : ¬ c.what = 9 := fun e => q1 (.inl e)
          have q10 : ¬ c.what = 10 := fun e => q1 (.inr (.inl e))
          have q12 : ¬ c.what = 12 := fun e => q1 (.inr (.inr (.inl e)))
          have q13 : ¬ c.what = 13 := fun e => q1 (.inr (.inr (.inr e)))
          have Q9 := Lib.hid q9
          have e9 : decide (c.what = 9) = false := decide_eq_false q9
          have e9' : (c.what == 9) = false := by simp [q9]
          have e10 : decide (c.what = 10) = false := decide_eq_false q10
          have e10' : (c.what == 10) = false := by simp [q10]
          have e12 : decide (c.what = 12) = false := decide_eq_false q12
          have e12' : (c.what == 12) = false := by simp [q12]
          have e13 : decide (c.what = 13) = false := decide_eq_false q13
          have e13' : (c.what == 13) = false := by simp [q13]
          have hLd := HLd.out
          have hcon := kdoes (a := c) hLd.fs HI.out (by omega) (by omega) (by have := HSt.out; omega) Hok2.out (fun i hi e => by have := hLd.newM i hi; omega) (fun i e => Nat.lt_of_lt_of_le e hLd.below.size)
          unfold act7V at hcon
          have HCon := Lib.hid hcon
          have hrs := refused_state s c
          have HRs := Lib.hid hrs
          have HI9 := Lib.hid ((HI.out.doF_ (by omega) c).mono (Nat.le_refl _) (show 60 * j + 60 ≤ 60 * (j + 1) by omega))
          have HOn9 := Lib.hid (HOn.out.doF Q9.out)
          have HSt9 := Lib.hid (Nat.le_trans (doF_steps s c) (Nat.add_le_add_right HSt.out 1))
          obtain ⟨g, hg⟩ : ∃ g, g = (doF s c).1 := ⟨_, rfl⟩
          obtain ⟨s9, hs9⟩ : ∃ s9, s9 = (doF s c).2 := ⟨_, rfl⟩
          rw [← hg, ← hs9] at HCon HRs
          rw [← hs9] at HI9 HOn9 HSt9
          clear hg hs9 hrs hcon hLd q9 q10 q12 q13 q1
          go_wp2_with fail
          refine HCon.out.mono ?_
          rintro e w9 ⟨rfl, hmut⟩
          obtain ⟨M9, R9, h9, hg9, h91, h92⟩ := HLd.out.step hmut
          have H9 := Lib.hid h9
          have HRW9 := Lib.hid (HRW.out.chg hg9 (fun i hi e => by have h8 := e.1; have := HCw.out i hi; omega))
          clear hmut h9 hg9 h91 h92 HCon hp0 hp1 hp2 hp3 hp4 hp5 hp6
          by_cases hz : g = 0
          · have hz1 : decide ((g : Int) = 0) = true := decide_eq_true (by omega)
            have hz2 : (g : Int) = 0 := by omega
            have hz3 : ((g : Int) != 0) = false := by simp [hz2]
            go_wp2_with fail
            go_roundw
            case rel => exact ⟨j + 1, M9, R9, s9, by omega, by omega, by go_num, H9.out, HI9.out, HOn9.out, HSt9.out⟩
            case measure => simp [intOf]; omega
          · have hz1 : decide ((g : Int) = 0) = false := decide_eq_false (by omega)
            have hz2 : ¬ (g : Int) = 0 := by omega
            have hz3 : ((g : Int) != 0) = true := by simp; omega
            have hst := kstate H9.out.fs HI9.out (by omega) HOn9.out.1
            have HEqs : Hid (stN s9.file s9.dir.now = stN s.file s.dir.now) := stN_state (HRs.out hz)
            rw [HEqs.out] at hst
            have HStt := Lib.hid hst
            clear hst
            go_wp2_with fail
            refine HStt.out.mono ?_
            rintro e wl ⟨vl, rfl, hol, hbl⟩
            have hEq := hequalS (sos_of_own hol rfl) (HRW9.out.on hbl) (by have := now_few HI.out; omega)
            have HEq := Lib.hid hEq
            have HLl := Lib.hid (H9.out.on hbl)
            obtain ⟨Avl, cvl, rfl, _, _, _⟩ := own_slice hol
            clear hol hbl hEq HStt
            go_wp2_with fail
            refine HEq.out.mono ?_
            rintro e wm ⟨rfl, hbm⟩
            have HLm := Lib.hid (HLl.out.on hbm)
            clear hbm HEq
            go_wp2_with fail
            go_roundw
            case rel => exact ⟨j + 1, M9, R9, s9, by omega, by omega, by go_num, HLm.out, HI9.out, HOn9.out, HSt9.out⟩
            case measure => simp [intOf]; omega
      · have h61 : j = 60 := by omega
        have d2 : decide ((j : Int) = 60) = true := decide_eq_true (by omega)
        have d2' : ((j : Int) == 60) = true := by simp [h61]
        have H61 := Lib.hid h61
        clear h61
        have HLq := Lib.hid hLc
        clear hok hc hbB hbc hLc HLc
        have HIq : Hid (FInv s 60 3600) := HI.out.mono (by omega) (by omega)
        have HStq : Hid (s.steps ≤ 60) := by have := HSt.out; show s.steps ≤ 60; omega
        go_wp2_with fail
        rw [← hwc]
        clear hwc hP a0 a1 a2 a3 a4 a5 a6
        generalize wc = wq at *
        refine (ksteps HLq.out.fs HOn.out.1).mono ?_
        rintro e w' ⟨rfl, rfl⟩
        obtain ⟨S0, hS0⟩ : ∃ S0, S0 = s.steps := ⟨_, rfl⟩
        rw [← hS0]
        have HS0 := Lib.hid hS0
        have hSb : S0 ≤ 60 := by have := HStq.out; omega
        have hfu := kfuseset (z := (n : Int)) (by omega) HLq.out.fs
        obtain ⟨y1, y2, y3, y4⟩ := Fuse7.start HOn.out.1 n
        rw [y1, ← fuse_used s (n : Int)] at hfu
        have hIF := HIq.out.same y3 y4
        obtain ⟨sF, hsF⟩ : ∃ sF, sF = (fuseF s (n : Int)).2 := ⟨_, rfl⟩
        rw [← hsF] at hfu y2 hIF
        have HFu := Lib.hid hfu
        have HF7 := Lib.hid y2
        have HIF := Lib.hid hIF
        clear hS0 hfu y1 y2 y3 y4 hIF hsF
        go_wp2_with fail
        refine HFu.out.mono ?_
        rintro e wf ⟨rfl, hmut⟩
        obtain ⟨MF, RF, hf1, _, _, _⟩ := HLq.out.step hmut
        have HLF := Lib.hid hf1
        clear hmut hf1 HFu
        go_wp2_with fail
        go_loopw [77] (fun i wr2 => ∃ (k : Nat) (Mk Rk : Nat → Prop) (st : FsP), k ≤ n ∧ i = .int .i64 k ∧ FLive w wr2 A Mk Rk st ∧ FInv st 60 3600 ∧ Fuse7 s st n k) (fun i _ => n - (intOf i).toNat)
        case atStart => exact ⟨0, MF, RF, sF, by omega, rfl, HLF.out, HIF.out, HF7.out⟩
        case round =>
          obtain ⟨k, Mk, Rk, st, hk, rfl, hlk, hik, hfk⟩ := hrel
          have HLk := Lib.hid hlk
          have HIk := Lib.hid hik
          have HFk := Lib.hid hfk
          clear hlk hik hfk HLF HIF HF7
          by_cases hkn : k < n
          · have dk : decide ((k : Int) < (n : Int)) = true := decide_eq_true (by omega)
            have hcon := ksyncdir HLk.out.fs HIk.out (by omega) (by omega) (by have h8 := HFk.out.steps; have h7 := HS0.out; omega)
            obtain ⟨z1, z2⟩ := HFk.out.next hkn
            rw [z1] at hcon
            have hi2 := HIk.out.step0
            obtain ⟨st2, hst2⟩ : ∃ st2, st2 = (stepF st syncDirK).2 := ⟨_, rfl⟩
            rw [← hst2] at hcon z2 hi2
            have HCon := Lib.hid hcon
            have HF2 := Lib.hid z2
            have HI2 := Lib.hid hi2
            clear hcon z1 z2 hi2 hst2
            go_wp2_with fail
            refine HCon.out.mono ?_
            rintro e w9 ⟨rfl, hmut⟩
            obtain ⟨M9, R9, h9, _, _, _⟩ := HLk.out.step hmut
            have H9 := Lib.hid h9
            have hks := ksteps H9.out.fs HF2.out.off
            have e9 : (st2.steps : Int) = (S0 : Int) + (k : Int) + 1 := by have h8 := HF2.out.steps; have h7 := HS0.out; omega
            rw [e9] at hks
            have HKs := Lib.hid hks
            clear hmut h9 hks e9 HCon
            go_wp2_with fail
            refine HKs.out.mono ?_
            rintro e w10 ⟨rfl, rfl⟩
            go_wp2_with fail
            go_roundw
            case rel => exact ⟨k + 1, M9, R9, st2, by omega, by go_num, H9.out, HI2.out, HF2.out⟩
            case measure => simp [intOf]; omega
          · have dk : decide ((k : Int) < (n : Int)) = false := decide_eq_false (by omega)
            obtain rfl : k = n := by omega
            obtain ⟨wt, hwt⟩ : ∃ wt, wt = wr := ⟨_, rfl⟩
            rw [← hwt] at HLk ⊢
            clear hwt
            have hcp := kcopy HLk.out.fs HIk.out (by omega)
            have HCp := Lib.hid hcp
            clear hcp
            go_wp2_with fail
            refine HCp.out.mono ?_
            rintro e wh ⟨A2, M2, rfl, hcm, hbh, hM2⟩
            have HC0 := Lib.hid (show FLive w wh A2 M2 Rk st from ⟨hcm, HLk.out.below.trans (hbh.mono HLk.out.below.size), fun i hi => by have := hM2 i hi; have := HLk.out.below.size; omega, HLk.out.newR⟩)
            have HL0' := Lib.hid (HLk.out.on hbh)
            have HMk := Lib.hid (show ∀ i, Mk i → i < wt.heap.size from HLk.out.fs.ml)
            have HRk := Lib.hid (show ∀ i, Rk i → i < wt.heap.size from HLk.out.fs.rl)
            have HM2 := Lib.hid (show ∀ i, M2 i → wt.heap.size ≤ i ∧ i < wh.heap.size from fun i hi => ⟨hM2 i hi, HC0.out.fs.ml i hi⟩)
            have Hth : Hid (wt.heap.size ≤ wh.heap.size) := hbh.size
            have Hmr := Lib.hid (show ∀ i, Mk i → ¬ Rk i from HLk.out.fs.mr)
            have HAp := Lib.hid (show ∀ (M' : Nat → Prop), (∀ i, M' i → Mk i ∨ wh.heap.size ≤ i) → ∀ i, M' i → ¬ M2 i ∧ ¬ Rk i from fun M' hM' i hi => ⟨fun e => by
                have h8 := HM2.out i e
                rcases hM' i hi with h7 | h7
                · have := HMk.out i h7; omega
                · omega, fun e => by
                have h8 := HRk.out i e
                rcases hM' i hi with h7 | h7
                · exact Hmr.out i h7 e
                · have := Hth.out; omega⟩)
            have hcon := kcreate (nm := nNew) (nm7 (by decide)) HL0'.out.fs HIk.out (by omega) (by omega) (by have h8 := HFk.out.steps; have h7 := HS0.out; omega)
            rw [HFk.out.last] at hcon
            obtain ⟨st1, hst1⟩ : ∃ st1 : FsP, st1 = { st with off := true, steps := st.steps + 1 } := ⟨_, rfl⟩
            simp only [← hst1] at hcon
            have hof1 : st1.off = true := by rw [hst1]
            have hi1 : FInv st1 60 3600 := HIk.out.same (by rw [hst1]) (by rw [hst1])
            have hsp1 : st1.steps = st.steps + 1 := by rw [hst1]
            have hd1 : st1.dir = st.dir := by rw [hst1]
            have hf1 : st1.file = st.file := by rw [hst1]
            unfold nNew at hcon
            have HCon := Lib.hid hcon
            have Hof1 := Lib.hid hof1
            have Hi1 := Lib.hid hi1
            have Hsp1 := Lib.hid hsp1
            have Hdf1 := Lib.hid (show st1.dir = st.dir ∧ st1.file = st.file from ⟨hd1, hf1⟩)
            clear hcm hbh hM2 HCp hcon hof1 hi1 hsp1 hd1 hf1 hst1
            go_wp2_with fail
            refine HCon.out.mono ?_
            rintro e x1 ⟨rfl, hmut⟩
            obtain ⟨Ma, Ra, ha1, ha2, ha3, ha4⟩ := HL0'.out.step hmut
            have HLa := Lib.hid ha1
            have HMa := Lib.hid ha3
            have HRa := Lib.hid ha4
            have HCa := Lib.hid (HC0.out.chg ha2 (fun i hi => ⟨(HAp.out Mk (fun i => .inl) i hi).1, (HAp.out Mk (fun i => .inl) i hi).2, HL0'.out.newM i hi⟩))
            have Hsa := Lib.hid ha2.size
            have hon1 := kon_same HLa.out.fs
            rw [Hof1.out] at hon1
            simp only [Bool.not_true] at hon1
            have HOn1 := Lib.hid hon1
            clear hmut ha1 ha2 ha3 ha4 hon1 HCon
            go_wp2_with fail
            refine HOn1.out.mono ?_
            rintro e w' ⟨rfl, rfl⟩
            have hcon := ksyncdir HLa.out.fs Hi1.out (by omega) (by omega) (by have h8 := HFk.out.steps; have h7 := HS0.out; have h6 := Hsp1.out; omega)
            rw [stepF_off Hof1.out] at hcon
            have HCon := Lib.hid hcon
            clear hcon HOn1
            go_wp2_with fail
            refine HCon.out.mono ?_
            rintro e x2 ⟨rfl, hmut⟩
            obtain ⟨Mb, Rb, hb1, hb2, hb3, hb4⟩ := HLa.out.step hmut
            have HLb := Lib.hid hb1
            have HMb := Lib.hid (show ∀ i, Mb i → Mk i ∨ wh.heap.size ≤ i from fun i hi => (hb3 i hi).elim (HMa.out i) (fun e => .inr (by have := Hsa.out; omega)))
            have HRb := Lib.hid (show ∀ i, Rb i → Rk i ∨ wh.heap.size ≤ i from fun i hi => (hb4 i hi).elim (HRa.out i) (fun e => .inr (by have := Hsa.out; omega)))
            have HCb := Lib.hid (HCa.out.chg hb2 (fun i hi => ⟨(HAp.out Ma HMa.out i hi).1, (HAp.out Ma HMa.out i hi).2, HLa.out.newM i hi⟩))
            have Hsb := Lib.hid (Nat.le_trans Hsa.out hb2.size)
            have hli := klist_off HLb.out.fs Hof1.out
            have HLi := Lib.hid hli
            clear hmut hb1 hb2 hb3 hb4 hli HCon HLa HCa
            go_wp2_with fail
            refine HLi.out.mono ?_
            rintro e w' ⟨rfl, rfl⟩
            have hfu := kfuseset (z := 5) (by omega) HLb.out.fs
            rw [fuseF_off Hof1.out] at hfu
            have HFu := Lib.hid hfu
            clear hfu HLi
            go_wp2_with fail
            refine HFu.out.mono ?_
            rintro e x3 ⟨rfl, hmut⟩
            obtain ⟨Mc, Rc, hc1, hc2, hc3, hc4⟩ := HLb.out.step hmut
            have HLc := Lib.hid hc1
            have HMc := Lib.hid (show ∀ i, Mc i → Mk i ∨ wh.heap.size ≤ i from fun i hi => (hc3 i hi).elim (HMb.out i) (fun e => .inr (by have := Hsb.out; omega)))
            have HRc := Lib.hid (show ∀ i, Rc i → Rk i ∨ wh.heap.size ≤ i from fun i hi => (hc4 i hi).elim (HRb.out i) (fun e => .inr (by have := Hsb.out; omega)))
            have HCc := Lib.hid (HCb.out.chg hc2 (fun i hi => ⟨(HAp.out Mb HMb.out i hi).1, (HAp.out Mb HMb.out i hi).2, HLb.out.newM i hi⟩))
            have Hsc := Lib.hid (Nat.le_trans Hsb.out hc2.size)
            have hsi := ksize_off (nm := { data := #[97] }) HLc.out.fs Hof1.out
            have HSi := Lib.hid hsi
            clear hmut hc1 hc2 hc3 hc4 hsi HFu HLb HCb
            go_wp2_with fail
            refine HSi.out.mono ?_
            rintro e w' ⟨rfl, rfl⟩
            have hcon := kcrash HCc.out.fs HIk.out (by omega) (by omega) (isR_none x3 (fun _ => False)) (fun i _ e => e) (fun i e => e.elim) rfl
            have hiC := HIk.out.crashK_ []
            have hoC : (crashK st []).2.off = false := by unfold crashK; rw [if_neg (by simp)]
            obtain ⟨sC, hsC⟩ : ∃ sC, sC = (crashK st []).2 := ⟨_, rfl⟩
            have hcs := crash_same (s := st) (t := st1) Hdf1.out.1 Hdf1.out.2 [] rfl
            rw [← hsC] at hcon hiC hoC hcs
            have HCon := Lib.hid hcon
            have HiC := Lib.hid hiC
            have HoC := Lib.hid hoC
            have hiD := Hi1.out.crashK_ []
            have hoD : (crashK st1 []).2.off = false := by unfold crashK; rw [if_neg (by simp)]
            have HKD : Hid (∀ (w5 : World) (M5 R5 : Nat → Prop), FsM w5 A st1.used M5 R5 st1 → Calls Tryz.prog 14 #[.pointer (some ⟨A, 0, none⟩), .slice none 0 0] w5 fun e w' => e = .returned (.int .i64 0) ∧ FsMut w5 w' A (crashK st1 []).2.used M5 R5 (crashK st1 []).2) := fun w5 M5 R5 h5 => kcrash h5 Hi1.out (by omega) (by omega) (isR_none w5 (fun _ => False)) (fun i _ e => e) (fun i e => e.elim) rfl
            obtain ⟨sD, hsD⟩ : ∃ sD, sD = (crashK st1 []).2 := ⟨_, rfl⟩
            rw [← hsD] at hcs hiD hoD HKD
            have HiD := Lib.hid hiD
            have HoD := Lib.hid hoD
            have HSame : Hid (stN sD.file sD.dir.now = stN sC.file sC.dir.now) := stN_state hcs.1
            have HSp : Hid ((sD.steps : Int) = (S0 : Int) + (k : Int) + 1) := by have h8 := HFk.out.steps; have h7 := HS0.out; have h6 := Hsp1.out; have h5 := hcs.2; show (sD.steps : Int) = (S0 : Int) + (k : Int) + 1; omega
            clear hcon hiC hoC hsC hcs hiD hoD hsD HSi
            go_wp2_with fail
            refine HCon.out.mono ?_
            rintro e x4 ⟨rfl, hmut⟩
            obtain ⟨Md, Rd, hd1, hd2, hd3, hd4⟩ := HCc.out.step hmut
            have HCd := Lib.hid hd1
            have Hs34 := Lib.hid hd2.size
            have HMcl := Lib.hid (show ∀ i, Mc i → i < x3.heap.size from HLc.out.fs.ml)
            have HLd := Lib.hid (HLc.out.chg hd2 (fun i hi => by
              have h8 := HM2.out i hi
              refine ⟨fun e => ?_, fun e => ?_, HCc.out.newM i hi⟩
              · rcases HMc.out i e with h7 | h7
                · have := HMk.out i h7; omega
                · omega
              · rcases HRc.out i e with h7 | h7
                · have := HRk.out i h7; omega
                · omega))
            have HMd := Lib.hid hd3
            have HRd := Lib.hid hd4
            have HK5 := Lib.hid (HKD.out x4 Mc Rc HLd.out.fs)
            clear hmut hd1 hd2 hd3 hd4 HCon HKD HLc HCc
            go_wp2_with fail
            refine HK5.out.mono ?_
            rintro e x5 ⟨rfl, hmut⟩
            obtain ⟨Me, Re, he1, he2, he3, he4⟩ := HLd.out.step hmut
            have HLe := Lib.hid he1
            have HCe := Lib.hid (HCd.out.chg he2 (fun i hi => by
              have h8 := HMcl.out i hi
              have h7 := HAp.out Mc HMc.out i hi
              refine ⟨fun e => ?_, fun e => ?_, HLd.out.newM i hi⟩
              · rcases HMd.out i e with h6 | h6
                · exact h7.1 h6
                · omega
              · rcases HRd.out i e with h6 | h6
                · exact h7.2 h6
                · omega))
            have hon1 := kon_same HLe.out.fs
            rw [HoD.out] at hon1
            simp only [Bool.not_false] at hon1
            have HOn1 := Lib.hid hon1
            clear hmut he1 he2 he3 he4 hon1 HK5 HLd HCd
            go_wp2_with fail
            refine HOn1.out.mono ?_
            rintro e w' ⟨rfl, rfl⟩
            have hst := kstate HLe.out.fs HiD.out (by omega) HoD.out
            rw [HSame.out] at hst
            have HStt := Lib.hid hst
            clear hst HOn1
            go_wp2_with fail
            refine HStt.out.mono ?_
            rintro e x6 ⟨vl, rfl, hol, hbl⟩
            have HR6 := Lib.hid (sos_of_own hol rfl)
            have HL6 := Lib.hid (HLe.out.on hbl)
            have hst := kstate (HCe.out.on hbl).fs HiC.out (by omega) HoC.out
            obtain ⟨Avl, cvl, rfl, _, _, _⟩ := own_slice hol
            have HSt2 := Lib.hid hst
            clear hol hbl hst HStt
            go_wp2_with fail
            refine HSt2.out.mono ?_
            rintro e x7 ⟨vm, rfl, hom, hbm⟩
            have hEq := hequalS (HR6.out.on hbm) (sos_of_own hom rfl) (by have := now_few HiC.out; omega)
            have HEq := Lib.hid hEq
            have HL7 := Lib.hid (HL6.out.on hbm)
            obtain ⟨Avm, cvm, rfl, _, _, _⟩ := own_slice hom
            clear hom hbm hEq HSt2 HL6
            go_wp2_with fail
            refine HEq.out.mono ?_
            rintro e x8 ⟨rfl, hb8⟩
            have HL8 := Lib.hid (HL7.out.on hb8)
            have hks := ksteps HL8.out.fs HoD.out
            rw [HSp.out] at hks
            have HKs := Lib.hid hks
            clear hb8 hks HEq HL7
            go_wp2_with fail
            refine HKs.out.mono ?_
            rintro e w' ⟨rfl, rfl⟩
            go_wp2_with fail
            go_ret
            exact ⟨by go_num, HL8.out.below⟩
    · have d1 : decide ((j : Int) < (k0 : Int)) = false := decide_eq_false (by omega)
      obtain ⟨wq, hwq⟩ : ∃ wq, wq = wr := ⟨_, rfl⟩
      rw [← hwq] at HLv ⊢
      clear hwq
      have HLq := Lib.hid HLv.out
      have HIq : Hid (FInv s 60 3600) := HI.out.mono (by omega) (by omega)
      have HStq : Hid (s.steps ≤ 60) := by have := HSt.out; show s.steps ≤ 60; omega
      go_wp2_with fail
      refine (ksteps HLq.out.fs HOn.out.1).mono ?_
      rintro e w' ⟨rfl, rfl⟩
      obtain ⟨S0, hS0⟩ : ∃ S0, S0 = s.steps := ⟨_, rfl⟩
      rw [← hS0]
      have HS0 := Lib.hid hS0
      have hSb : S0 ≤ 60 := by have := HStq.out; omega
      have hfu := kfuseset (z := (n : Int)) (by omega) HLq.out.fs
      obtain ⟨y1, y2, y3, y4⟩ := Fuse7.start HOn.out.1 n
      rw [y1, ← fuse_used s (n : Int)] at hfu
      have hIF := HIq.out.same y3 y4
      obtain ⟨sF, hsF⟩ : ∃ sF, sF = (fuseF s (n : Int)).2 := ⟨_, rfl⟩
      rw [← hsF] at hfu y2 hIF
      have HFu := Lib.hid hfu
      have HF7 := Lib.hid y2
      have HIF := Lib.hid hIF
      clear hS0 hfu y1 y2 y3 y4 hIF hsF
      go_wp2_with fail
      refine HFu.out.mono ?_
      rintro e wf ⟨rfl, hmut⟩
      obtain ⟨MF, RF, hf1, _, _, _⟩ := HLq.out.step hmut
      have HLF := Lib.hid hf1
      clear hmut hf1 HFu
      go_wp2_with fail
      go_loopw [77] (fun i wr2 => ∃ (k : Nat) (Mk Rk : Nat → Prop) (st : FsP), k ≤ n ∧ i = .int .i64 k ∧ FLive w wr2 A Mk Rk st ∧ FInv st 60 3600 ∧ Fuse7 s st n k) (fun i _ => n - (intOf i).toNat)
      case atStart => exact ⟨0, MF, RF, sF, by omega, rfl, HLF.out, HIF.out, HF7.out⟩
      case round =>
        obtain ⟨k, Mk, Rk, st, hk, rfl, hlk, hik, hfk⟩ := hrel
        have HLk := Lib.hid hlk
        have HIk := Lib.hid hik
        have HFk := Lib.hid hfk
        clear hlk hik hfk HLF HIF HF7
        by_cases hkn : k < n
        · have dk : decide ((k : Int) < (n : Int)) = true := decide_eq_true (by omega)
          have hcon := ksyncdir HLk.out.fs HIk.out (by omega) (by omega) (by have h8 := HFk.out.steps; have h7 := HS0.out; omega)
          obtain ⟨z1, z2⟩ := HFk.out.next hkn
          rw [z1] at hcon
          have hi2 := HIk.out.step0
          obtain ⟨st2, hst2⟩ : ∃ st2, st2 = (stepF st syncDirK).2 := ⟨_, rfl⟩
          rw [← hst2] at hcon z2 hi2
          have HCon := Lib.hid hcon
          have HF2 := Lib.hid z2
          have HI2 := Lib.hid hi2
          clear hcon z1 z2 hi2 hst2
          go_wp2_with fail
          refine HCon.out.mono ?_
          rintro e w9 ⟨rfl, hmut⟩
          obtain ⟨M9, R9, h9, _, _, _⟩ := HLk.out.step hmut
          have H9 := Lib.hid h9
          have hks := ksteps H9.out.fs HF2.out.off
          have e9 : (st2.steps : Int) = (S0 : Int) + (k : Int) + 1 := by have h8 := HF2.out.steps; have h7 := HS0.out; omega
          rw [e9] at hks
          have HKs := Lib.hid hks
          clear hmut h9 hks e9 HCon
          go_wp2_with fail
          refine HKs.out.mono ?_
          rintro e w10 ⟨rfl, rfl⟩
          go_wp2_with fail
          go_roundw
          case rel => exact ⟨k + 1, M9, R9, st2, by omega, by go_num, H9.out, HI2.out, HF2.out⟩
          case measure => simp [intOf]; omega
        · have dk : decide ((k : Int) < (n : Int)) = false := decide_eq_false (by omega)
          obtain rfl : k = n := by omega
          obtain ⟨wt, hwt⟩ : ∃ wt, wt = wr := ⟨_, rfl⟩
          rw [← hwt] at HLk ⊢
          clear hwt
          have hcp := kcopy HLk.out.fs HIk.out (by omega)
          have HCp := Lib.hid hcp
          clear hcp
          go_wp2_with fail
          refine HCp.out.mono ?_
          rintro e wh ⟨A2, M2, rfl, hcm, hbh, hM2⟩
          have HC0 := Lib.hid (show FLive w wh A2 M2 Rk st from ⟨hcm, HLk.out.below.trans (hbh.mono HLk.out.below.size), fun i hi => by have := hM2 i hi; have := HLk.out.below.size; omega, HLk.out.newR⟩)
          have HL0' := Lib.hid (HLk.out.on hbh)
          have HMk := Lib.hid (show ∀ i, Mk i → i < wt.heap.size from HLk.out.fs.ml)
          have HRk := Lib.hid (show ∀ i, Rk i → i < wt.heap.size from HLk.out.fs.rl)
          have HM2 := Lib.hid (show ∀ i, M2 i → wt.heap.size ≤ i ∧ i < wh.heap.size from fun i hi => ⟨hM2 i hi, HC0.out.fs.ml i hi⟩)
          have Hth : Hid (wt.heap.size ≤ wh.heap.size) := hbh.size
          have Hmr := Lib.hid (show ∀ i, Mk i → ¬ Rk i from HLk.out.fs.mr)
          have HAp := Lib.hid (show ∀ (M' : Nat → Prop), (∀ i, M' i → Mk i ∨ wh.heap.size ≤ i) → ∀ i, M' i → ¬ M2 i ∧ ¬ Rk i from fun M' hM' i hi => ⟨fun e => by
              have h8 := HM2.out i e
              rcases hM' i hi with h7 | h7
              · have := HMk.out i h7; omega
              · omega, fun e => by
              have h8 := HRk.out i e
              rcases hM' i hi with h7 | h7
              · exact Hmr.out i h7 e
              · have := Hth.out; omega⟩)
          have hcon := kcreate (nm := nNew) (nm7 (by decide)) HL0'.out.fs HIk.out (by omega) (by omega) (by have h8 := HFk.out.steps; have h7 := HS0.out; omega)
          rw [HFk.out.last] at hcon
          obtain ⟨st1, hst1⟩ : ∃ st1 : FsP, st1 = { st with off := true, steps := st.steps + 1 } := ⟨_, rfl⟩
          simp only [← hst1] at hcon
          have hof1 : st1.off = true := by rw [hst1]
          have hi1 : FInv st1 60 3600 := HIk.out.same (by rw [hst1]) (by rw [hst1])
          have hsp1 : st1.steps = st.steps + 1 := by rw [hst1]
          have hd1 : st1.dir = st.dir := by rw [hst1]
          have hf1 : st1.file = st.file := by rw [hst1]
          unfold nNew at hcon
          have HCon := Lib.hid hcon
          have Hof1 := Lib.hid hof1
          have Hi1 := Lib.hid hi1
          have Hsp1 := Lib.hid hsp1
          have Hdf1 := Lib.hid (show st1.dir = st.dir ∧ st1.file = st.file from ⟨hd1, hf1⟩)
          clear hcm hbh hM2 HCp hcon hof1 hi1 hsp1 hd1 hf1 hst1
          go_wp2_with fail
          refine HCon.out.mono ?_
          rintro e x1 ⟨rfl, hmut⟩
          obtain ⟨Ma, Ra, ha1, ha2, ha3, ha4⟩ := HL0'.out.step hmut
          have HLa := Lib.hid ha1
          have HMa := Lib.hid ha3
          have HRa := Lib.hid ha4
          have HCa := Lib.hid (HC0.out.chg ha2 (fun i hi => ⟨(HAp.out Mk (fun i => .inl) i hi).1, (HAp.out Mk (fun i => .inl) i hi).2, HL0'.out.newM i hi⟩))
          have Hsa := Lib.hid ha2.size
          have hon1 := kon_same HLa.out.fs
          rw [Hof1.out] at hon1
          simp only [Bool.not_true] at hon1
          have HOn1 := Lib.hid hon1
          clear hmut ha1 ha2 ha3 ha4 hon1 HCon
          go_wp2_with fail
          refine HOn1.out.mono ?_
          rintro e w' ⟨rfl, rfl⟩
          have hcon := ksyncdir HLa.out.fs Hi1.out (by omega) (by omega) (by have h8 := HFk.out.steps; have h7 := HS0.out; have h6 := Hsp1.out; omega)
          rw [stepF_off Hof1.out] at hcon
          have HCon := Lib.hid hcon
          clear hcon HOn1
          go_wp2_with fail
          refine HCon.out.mono ?_
          rintro e x2 ⟨rfl, hmut⟩
          obtain ⟨Mb, Rb, hb1, hb2, hb3, hb4⟩ := HLa.out.step hmut
          have HLb := Lib.hid hb1
          have HMb := Lib.hid (show ∀ i, Mb i → Mk i ∨ wh.heap.size ≤ i from fun i hi => (hb3 i hi).elim (HMa.out i) (fun e => .inr (by have := Hsa.out; omega)))
          have HRb := Lib.hid (show ∀ i, Rb i → Rk i ∨ wh.heap.size ≤ i from fun i hi => (hb4 i hi).elim (HRa.out i) (fun e => .inr (by have := Hsa.out; omega)))
          have HCb := Lib.hid (HCa.out.chg hb2 (fun i hi => ⟨(HAp.out Ma HMa.out i hi).1, (HAp.out Ma HMa.out i hi).2, HLa.out.newM i hi⟩))
          have Hsb := Lib.hid (Nat.le_trans Hsa.out hb2.size)
          have hli := klist_off HLb.out.fs Hof1.out
          have HLi := Lib.hid hli
          clear hmut hb1 hb2 hb3 hb4 hli HCon HLa HCa
          go_wp2_with fail
          refine HLi.out.mono ?_
          rintro e w' ⟨rfl, rfl⟩
          have hfu := kfuseset (z := 5) (by omega) HLb.out.fs
          rw [fuseF_off Hof1.out] at hfu
          have HFu := Lib.hid hfu
          clear hfu HLi
          go_wp2_with fail
          refine HFu.out.mono ?_
          rintro e x3 ⟨rfl, hmut⟩
          obtain ⟨Mc, Rc, hc1, hc2, hc3, hc4⟩ := HLb.out.step hmut
          have HLc := Lib.hid hc1
          have HMc := Lib.hid (show ∀ i, Mc i → Mk i ∨ wh.heap.size ≤ i from fun i hi => (hc3 i hi).elim (HMb.out i) (fun e => .inr (by have := Hsb.out; omega)))
          have HRc := Lib.hid (show ∀ i, Rc i → Rk i ∨ wh.heap.size ≤ i from fun i hi => (hc4 i hi).elim (HRb.out i) (fun e => .inr (by have := Hsb.out; omega)))
          have HCc := Lib.hid (HCb.out.chg hc2 (fun i hi => ⟨(HAp.out Mb HMb.out i hi).1, (HAp.out Mb HMb.out i hi).2, HLb.out.newM i hi⟩))
          have Hsc := Lib.hid (Nat.le_trans Hsb.out hc2.size)
          have hsi := ksize_off (nm := { data := #[97] }) HLc.out.fs Hof1.out
          have HSi := Lib.hid hsi
          clear hmut hc1 hc2 hc3 hc4 hsi HFu HLb HCb
          go_wp2_with fail
          refine HSi.out.mono ?_
          rintro e w' ⟨rfl, rfl⟩
          have hcon := kcrash HCc.out.fs HIk.out (by omega) (by omega) (isR_none x3 (fun _ => False)) (fun i _ e => e) (fun i e => e.elim) rfl
          have hiC := HIk.out.crashK_ []
          have hoC : (crashK st []).2.off = false := by unfold crashK; rw [if_neg (by simp)]
          obtain ⟨sC, hsC⟩ : ∃ sC, sC = (crashK st []).2 := ⟨_, rfl⟩
          have hcs := crash_same (s := st) (t := st1) Hdf1.out.1 Hdf1.out.2 [] rfl
          rw [← hsC] at hcon hiC hoC hcs
          have HCon := Lib.hid hcon
          have HiC := Lib.hid hiC
          have HoC := Lib.hid hoC
          have hiD := Hi1.out.crashK_ []
          have hoD : (crashK st1 []).2.off = false := by unfold crashK; rw [if_neg (by simp)]
          have HKD : Hid (∀ (w5 : World) (M5 R5 : Nat → Prop), FsM w5 A st1.used M5 R5 st1 → Calls Tryz.prog 14 #[.pointer (some ⟨A, 0, none⟩), .slice none 0 0] w5 fun e w' => e = .returned (.int .i64 0) ∧ FsMut w5 w' A (crashK st1 []).2.used M5 R5 (crashK st1 []).2) := fun w5 M5 R5 h5 => kcrash h5 Hi1.out (by omega) (by omega) (isR_none w5 (fun _ => False)) (fun i _ e => e) (fun i e => e.elim) rfl
          obtain ⟨sD, hsD⟩ : ∃ sD, sD = (crashK st1 []).2 := ⟨_, rfl⟩
          rw [← hsD] at hcs hiD hoD HKD
          have HiD := Lib.hid hiD
          have HoD := Lib.hid hoD
          have HSame : Hid (stN sD.file sD.dir.now = stN sC.file sC.dir.now) := stN_state hcs.1
          have HSp : Hid ((sD.steps : Int) = (S0 : Int) + (k : Int) + 1) := by have h8 := HFk.out.steps; have h7 := HS0.out; have h6 := Hsp1.out; have h5 := hcs.2; show (sD.steps : Int) = (S0 : Int) + (k : Int) + 1; omega
          clear hcon hiC hoC hsC hcs hiD hoD hsD HSi
          go_wp2_with fail
          refine HCon.out.mono ?_
          rintro e x4 ⟨rfl, hmut⟩
          obtain ⟨Md, Rd, hd1, hd2, hd3, hd4⟩ := HCc.out.step hmut
          have HCd := Lib.hid hd1
          have Hs34 := Lib.hid hd2.size
          have HMcl := Lib.hid (show ∀ i, Mc i → i < x3.heap.size from HLc.out.fs.ml)
          have HLd := Lib.hid (HLc.out.chg hd2 (fun i hi => by
            have h8 := HM2.out i hi
            refine ⟨fun e => ?_, fun e => ?_, HCc.out.newM i hi⟩
            · rcases HMc.out i e with h7 | h7
              · have := HMk.out i h7; omega
              · omega
            · rcases HRc.out i e with h7 | h7
              · have := HRk.out i h7; omega
              · omega))
          have HMd := Lib.hid hd3
          have HRd := Lib.hid hd4
          have HK5 := Lib.hid (HKD.out x4 Mc Rc HLd.out.fs)
          clear hmut hd1 hd2 hd3 hd4 HCon HKD HLc HCc
          go_wp2_with fail
          refine HK5.out.mono ?_
          rintro e x5 ⟨rfl, hmut⟩
          obtain ⟨Me, Re, he1, he2, he3, he4⟩ := HLd.out.step hmut
          have HLe := Lib.hid he1
          have HCe := Lib.hid (HCd.out.chg he2 (fun i hi => by
            have h8 := HMcl.out i hi
            have h7 := HAp.out Mc HMc.out i hi
            refine ⟨fun e => ?_, fun e => ?_, HLd.out.newM i hi⟩
            · rcases HMd.out i e with h6 | h6
              · exact h7.1 h6
              · omega
            · rcases HRd.out i e with h6 | h6
              · exact h7.2 h6
              · omega))
          have hon1 := kon_same HLe.out.fs
          rw [HoD.out] at hon1
          simp only [Bool.not_false] at hon1
          have HOn1 := Lib.hid hon1
          clear hmut he1 he2 he3 he4 hon1 HK5 HLd HCd
          go_wp2_with fail
          refine HOn1.out.mono ?_
          rintro e w' ⟨rfl, rfl⟩
          have hst := kstate HLe.out.fs HiD.out (by omega) HoD.out
          rw [HSame.out] at hst
          have HStt := Lib.hid hst
          clear hst HOn1
          go_wp2_with fail
          refine HStt.out.mono ?_
          rintro e x6 ⟨vl, rfl, hol, hbl⟩
          have HR6 := Lib.hid (sos_of_own hol rfl)
          have HL6 := Lib.hid (HLe.out.on hbl)
          have hst := kstate (HCe.out.on hbl).fs HiC.out (by omega) HoC.out
          obtain ⟨Avl, cvl, rfl, _, _, _⟩ := own_slice hol
          have HSt2 := Lib.hid hst
          clear hol hbl hst HStt
          go_wp2_with fail
          refine HSt2.out.mono ?_
          rintro e x7 ⟨vm, rfl, hom, hbm⟩
          have hEq := hequalS (HR6.out.on hbm) (sos_of_own hom rfl) (by have := now_few HiC.out; omega)
          have HEq := Lib.hid hEq
          have HL7 := Lib.hid (HL6.out.on hbm)
          obtain ⟨Avm, cvm, rfl, _, _, _⟩ := own_slice hom
          clear hom hbm hEq HSt2 HL6
          go_wp2_with fail
          refine HEq.out.mono ?_
          rintro e x8 ⟨rfl, hb8⟩
          have HL8 := Lib.hid (HL7.out.on hb8)
          have hks := ksteps HL8.out.fs HoD.out
          rw [HSp.out] at hks
          have HKs := Lib.hid hks
          clear hb8 hks HEq HL7
          go_wp2_with fail
          refine HKs.out.mono ?_
          rintro e w' ⟨rfl, rfl⟩
          go_wp2_with fail
          go_ret
          exact ⟨by go_num, HL8.out.below⟩
end fsRefused
end Go.Proofs.YtboeiadfmknidaaGreat
