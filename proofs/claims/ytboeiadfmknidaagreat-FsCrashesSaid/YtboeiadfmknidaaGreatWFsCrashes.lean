
/-
  FsCrashes: the walk.
-/
import Derived.Test.YtboeiadfmknidaaGreatJgState
import Derived.Test.YtboeiadfmknidaaGreatJgCopy
set_option linter.unusedVariables false
set_option linter.unusedSimpArgs false
namespace Go.Proofs.YtboeiadfmknidaaGreat
open Go.RowKit Go.Maps
theorem hmkS (w : World) : (Instr.makeMap 45 none).run Tryz.prog w = .ok (.map (some w.heap.size)) (w.alloc (.map #[] 0)) := by
  simp [Instr.makeMap, run_underlying Tryz.underlying45, go_sem, Result.andThen]
theorem mask_step2 {w : World} {base n g cap : Nat} {q : List Int} (h : w.ownsRow base 3 1 (.slice (some ⟨g, 0, none⟩) n cap) n (ivs q)) {k : Nat} {x : Int} (hx : q[k]? = some x) (O : Int) :
    w.cell? ⟨g, k, none⟩ = some (.int .i64 x) ∧ w.frozen? ⟨g, k, none⟩ = false ∧ (w.setCell ⟨g, k, none⟩ (.int .i64 O)).ownsRow base 3 1 (.slice (some ⟨g, 0, none⟩) n cap) n (ivs (q.set k O)) ∧ base ≤ g := by
  have g1 : (ivs q)[k]? = some (.int .i64 x) := by unfold ivs; rw [List.getElem?_map, hx]; rfl
  obtain ⟨b, o, e, _, hc⟩ := Rd.of_own h (by intro e; rw [e] at g1; simp at g1)
  injection e with e
  injection e with e1 e2
  subst e1 e2
  have h1 := hc k _ g1
  rw [Nat.zero_add] at h1
  have h2 := (h.stored k (.int .i64 O)).1
  refine ⟨h1, h.frozenAt k, ?_, (h.lt _ rfl).1⟩
  unfold ivs at h2 ⊢
  rw [List.map_set]
  exact h2
theorem any_set_take2 {q : List Int} {k : Nat} {O : Int} (hk : k < q.length) (hO : 0 ≤ O) (h : (q.take k).any (· < 0) = false) : ((q.set k O).take (k + 1)).any (· < 0) = false := by
  have h1 : (q.set k O)[k]? = some O := by rw [List.getElem?_set_self hk]
  rw [take_next6 h1, List.any_append, List.take_set_of_le (Nat.le_refl k), h]
  simp
  omega
namespace fsCrashes

set_option maxRecDepth 100000 in
set_option maxHeartbeats 16000000 in
theorem walk (v0 : Value) (l0 : List Act7) (v1 : Value) (z1 : List Int) (v2 : Value) (z2 : List Int) (w : World) (hl0 : Acts7 w w.heap.size v0 l0) (w1 : Ints w w.heap.size .i64 v1 z1) (g1 : ∀ n ∈ z1, (Lit.int .i64 n).wf = true) (s1 : z1.length * 8 ≤ 140737488351232) (w2 : Ints w w.heap.size .i64 v2 z2) (g2 : ∀ n ∈ z2, (Lit.int .i64 n).wf = true) (s2 : z2.length * 8 ≤ 140737488351232) :
    Calls Tryz.prog 4 #[v0, v1, v2] w fun e w' => e = .returned (.bool true) ∧ Below w.heap.size w w' := by
  have HL0 := Lib.hid hl0
  obtain ⟨A0, c0, rfl, hc0, hm0, hx0⟩ := hl0
  obtain ⟨k0, hk0⟩ : ∃ n, n = l0.length := ⟨_, rfl⟩
  rw [← hk0] at hc0 HL0 ⊢
  have Hk0 := Lib.hid hk0
  have hm0' : k0 ≤ 9223372036854775807 := by unfold maxLen at hm0; omega
  have W1 := Lib.hid w1
  have S1 := Lib.hid s1
  obtain ⟨A1, c1, rfl, hc1, _⟩ := w1
  obtain ⟨n1, hn1⟩ : ∃ n, n = z1.length := ⟨_, rfl⟩
  rw [← hn1] at W1 S1 hc1 ⊢
  have Hn1 := Lib.hid hn1
  have W2 := Lib.hid w2
  have S2 := Lib.hid s2
  obtain ⟨A2, c2, rfl, hc2, _⟩ := w2
  obtain ⟨n2, hn2⟩ : ∃ n, n = z2.length := ⟨_, rfl⟩
  rw [← hn2] at W2 S2 hc2 ⊢
  have Hn2 := Lib.hid hn2
  clear hk0 hm0 hx0 s1 s2 g1 g2 hn1 hn2
  go_enter Tryz.func4, Tryz.ntmps4
  go_wp2_with fail
  refine (knew w 1073741824 (by decide)).mono ?_
  rintro e wa ⟨A, M0, rfl, hm, hb, hM⟩
  have HL := Lib.hid (show FLive w wa A M0 (fun _ => False) (FsP.new 1073741824) from ⟨hm, hb, hM, fun i e => e.elim⟩)
  clear hm hb hM
  go_wp2_with fail
  refine (kwakes wa).mono ?_
  rintro e wb ⟨rfl, hb⟩
  have HLb := Lib.hid (HL.out.on hb)
  obtain ⟨wd, hwd⟩ : ∃ wd, wd = wb.alloc (.map #[] 0) := ⟨_, rfl⟩
  obtain ⟨mb, hmb⟩ : ∃ mb, mb = wb.heap.size := ⟨_, rfl⟩
  have hmk : (Instr.makeMap 45 none).run Tryz.prog wb = .ok (.map (some mb)) wd := by rw [hwd, hmb]; exact hmkS wb
  have hbd : Below wb.heap.size wb wd := by rw [hwd]; exact (Below.refl _ _).alloc (Nat.le_refl _) _
  have HLd := Lib.hid (HLb.out.on hbd)
  have HMd : Hid (MapS wd mb 0 []) := by rw [hwd, hmb]; exact MapS.new wb
  have HAd : Hid (¬ M0 mb) := fun e => by have := HLb.out.fs.ml mb e; omega
  have HmbW : Hid (w.heap.size ≤ mb) := by rw [hmb]; exact HLb.out.below.size
  clear hb HL HLb hwd hmb hbd
  go_wp2_with fail
  go_loopw [36] (fun i wr => ∃ (j : Nat) (M R : Nat → Prop) (s : FsP) (n' : Nat) (lN : List ByteArray), j ≤ k0 ∧ j ≤ 60 ∧ i = .int .i64 j ∧ FLive w wr A M R s ∧ FInv s j (60 * j) ∧ OnF s ∧ s.steps ≤ j ∧ MapS wr mb n' lN ∧ (¬ M mb ∧ ¬ R mb) ∧ NamesI s (fun x => x ∈ lN) ∧ n' ≤ 100 * j) (fun i _ => k0 - (intOf i).toNat)
  case atStart => exact ⟨0, M0, _, _, 0, [], by omega, by omega, rfl, HLd.out, FInv.new _, ⟨rfl, rfl⟩, Nat.le_refl _, HMd.out, ⟨HAd.out, fun e => e⟩, (NamesI.new _).mono (fun x e => e.elim), by omega⟩
  case round =>
    obtain ⟨j, M, R, s, n', lN, hj, hj60, rfl, hlive, hinv, hon, hst, hmp, hap, hnm, hnn⟩ := hrel
    have HLv := Lib.hid hlive
    have HI := Lib.hid hinv
    have HOn := Lib.hid hon
    have HSt := Lib.hid hst
    have HMp := Lib.hid hmp
    have HAp := Lib.hid hap
    have HNm := Lib.hid hnm
    have Hnn := Lib.hid hnn
    clear hlive hinv hon hst hmp hap hnm hnn HLd HMd HAd
    by_cases hlt : j < k0
    · have d1 : decide ((j : Int) < (k0 : Int)) = true := decide_eq_true (by omega)
      obtain ⟨c, hc⟩ : ∃ c, l0[j]? = some c := ⟨l0[j]'(by have := Hk0.out; omega), List.getElem?_eq_getElem _⟩
      obtain ⟨bb, oo, Ab, cb, Ap, cpp, rfl, hok, hbB, a0, a1, a2, a3, a4, a5, a6⟩ := HL0.out.at_ HLv.out.below rfl hc
      have Hok := Lib.hid hok
      obtain ⟨wc, hwc⟩ : ∃ wc, wc = wr.alloc (.cells #[.int .i64 c.what, .string c.name, .string c.dst, .int .i64 c.n, .int .i64 c.m, .slice Ab c.b.length cb, .slice Ap c.picks.length cpp] 31) := ⟨_, rfl⟩
      have hbc : Below wr.heap.size wr wc := by rw [hwc]; exact (Below.refl _ _).alloc (Nat.le_refl _) _
      have hLc := HLv.out.on hbc
      have HLc := Lib.hid hLc
      have HMc := Lib.hid (HMp.out.on hbc)
      by_cases h60 : j < 60
      · have d2 : decide ((j : Int) = 60) = false := decide_eq_false (by omega)
        have d2' : ¬ (j : Int) = 60 := by omega
        clear hok hc hbB
        by_cases q1 : c.what = 11 ∨ c.what = 9
        · rcases q1 with q1 | q1
          · have e11 : decide (c.what = 11) = true := decide_eq_true q1
            have e11' : (c.what == 11) = true := by simp [q1]
            clear q1
            clear hwc
            go_wp2_with fail
            go_roundw
            case rel => exact ⟨j + 1, M, R, s, n', lN, by omega, by omega, by go_num, HLv.out.on ((Below.refl _ _).alloc (Nat.le_refl _) _), HI.out.mono (by omega) (by omega), HOn.out, by have := HSt.out; omega, HMp.out.on ((Below.refl _ _).alloc (Nat.le_refl _) _), HAp.out, HNm.out, by have := Hnn.out; omega⟩
            case measure => simp [intOf]; omega
          · have n11 : ¬ c.what = 11 := by omega
            have e11 : decide (c.what = 11) = false := decide_eq_false n11
            have e11' : (c.what == 11) = false := by simp [n11]
            have e9 : decide (c.what = 9) = true := decide_eq_true q1
            have e9' : (c.what == 9) = true := by simp [q1]
            clear q1
            clear hwc
            go_wp2_with fail
            go_roundw
            case rel => exact ⟨j + 1, M, R, s, n', lN, by omega, by omega, by go_num, HLv.out.on ((Below.refl _ _).alloc (Nat.le_refl _) _), HI.out.mono (by omega) (by omega), HOn.out, by have := HSt.out; omega, HMp.out.on ((Below.refl _ _).alloc (Nat.le_refl _) _), HAp.out, HNm.out, by have := Hnn.out; omega⟩
            case measure => simp [intOf]; omega
        · have q11 : ¬ c.what = 11 := fun e => q1 (.inl e)
          have q9 : ¬ c.what = 9 := fun e => q1 (.inr e)
          have hcon := kdoes (a := c) hLc.fs HI.out (by omega) (by omega) (by have := HSt.out; omega) (Hok.out.on hbc) (fun i hi e => by have := hLc.newM i hi; omega) (fun i e => Nat.lt_of_lt_of_le e hLc.below.size)
          unfold act7V at hcon
          have HCon := Lib.hid hcon
          have hcw : wc.cell? ⟨wr.heap.size, 0, none⟩ = some (.int .i64 c.what) := by rw [hwc]; simp
          obtain ⟨P, hP⟩ : ∃ P, P = wr.heap.size := ⟨_, rfl⟩
          rw [← hP] at hcw
          have HPM : Hid (¬ M P) := fun e => by have := HLv.out.fs.ml P e; omega
          clear hbc hLc hcon q1
          have Q9 := Lib.hid q9
          have Q11 := Lib.hid q11
          have e11 : decide (c.what = 11) = false := decide_eq_false q11
          have e11' : (c.what == 11) = false := by simp [q11]
          have e9 : decide (c.what = 9) = false := decide_eq_false q9
          have e9' : (c.what == 9) = false := by simp [q9]
          clear q9 q11
          go_wp2_with fail
          rw [← hwc]
          try rw [← hP]
          clear hwc
          refine HCon.out.mono ?_
          rintro e w9 ⟨rfl, hmut⟩
          obtain ⟨M9, R9, h9, hg9, h91, h92⟩ := HLc.out.step hmut
          have H9 := Lib.hid h9
          have hp9 : w9.cell? ⟨P, 0, none⟩ = some (.int .i64 c.what) := cell_keep hg9 HPM.out hcw
          have HM9 := Lib.hid (HMc.out.chg hg9 HAp.out.1)
          have HI9 := Lib.hid ((HI.out.doF_ (by omega) c).mono (Nat.le_refl _) (show 60 * j + 60 ≤ 60 * (j + 1) by omega))
          have HOn9 := Lib.hid (HOn.out.doF Q9.out)
          have HSt9 := Lib.hid (Nat.le_trans (doF_steps s c) (Nat.add_le_add_right HSt.out 1))
          have hmlt := HMc.out.lt
          have HAp9 : Hid (¬ M9 mb ∧ ¬ R9 mb) := ⟨fun e => (h91 mb e).elim HAp.out.1 (fun e => by omega), fun e => (h92 mb e).elim HAp.out.2 (fun e => by omega)⟩
          have HNd := Lib.hid (fun (nm' : ByteArray → Prop) h1 h2 => HNm.out.doF (nm' := nm') HOn.out Q11.out h1 h2)
          obtain ⟨s9, hs9⟩ : ∃ s9, s9 = (doF s c).2 := ⟨_, rfl⟩
          rw [← hs9] at H9 HI9 HOn9 HSt9 HNd
          clear hmut h9 hg9 h91 h92 HCon hcw hmlt hs9 HLc HMc hP
          by_cases q5 : c.what = 5
          · have e5 : decide (c.what = 5) = true := decide_eq_true q5
            have e5' : (c.what == 5) = true := by simp [q5]
            have Q5 := Lib.hid q5
            clear q5
            obtain ⟨wX, hwp, hmX, hgX⟩ := HM9.out.wipe 0
            have HX := Lib.hid (H9.out.chg hgX (fun i e => by rw [e]; exact ⟨HAp9.out.1, HAp9.out.2, HmbW.out⟩))
            have HMX := Lib.hid hmX
            clear hmX hgX
            have HKl := Lib.hid (klist HX.out.fs HOn9.out.1)
            go_wp2_with fail
            clear hp9
            refine HKl.out.mono ?_
            rintro e w10 ⟨v10, rfl, ho10, hb10⟩
            have H10 := Lib.hid (HX.out.on hb10)
            have HM10 := Lib.hid (HMX.out.on hb10)
            obtain ⟨m, hm⟩ : ∃ m, m = (namesL s9.dir.now).length := ⟨_, rfl⟩
            rw [← hm] at ho10
            have hE := sos_of_own ho10 hm
            obtain ⟨Av, cv, rfl, hcv, hcm, _⟩ := own_slice ho10
            have hmn : m ≤ 61 := by
              have h8 := HI9.out.few
              have h7 := doAll_length s9.dir.deeds s9.dir.safe
              rw [hm]
              unfold namesL
              rw [List.length_map]
              unfold PSt.big at h8
              have h6 : s9.dir.now.length ≤ s9.dir.safe.length + s9.dir.deeds.length := h7
              omega
            have HE := Lib.hid hE
            have Hm := Lib.hid hm
            have hmlt : mb < wX.heap.size := HMX.out.lt
            have HmX := Lib.hid hmlt
            clear ho10 hb10 hE hm HKl hmlt
            go_wp2_with fail
            go_loopw [61] (fun i wr2 => ∃ (k nk : Nat) (lk : List ByteArray), k ≤ m ∧ i = .int .i64 k ∧ Chg (fun i => i = mb) w10 wr2 ∧ MapS wr2 mb nk lk ∧ nk ≤ 0 + k ∧ ∀ x, x ∈ lk ↔ x ∈ ([] : List ByteArray) ∨ x ∈ (namesL s9.dir.now).take k) (fun i _ => m - (intOf i).toNat)
            case atStart => exact ⟨0, 0, ([] : List ByteArray), by omega, rfl, Chg.refl, HM10.out, by omega, by simp⟩
            case round =>
              obtain ⟨k, nk, lk, hk, rfl, hch, hmu, hnk, hmem⟩ := hrel
              have HCk := Lib.hid hch
              have HMk := Lib.hid hmu
              have Hmem := Lib.hid hmem
              clear hch hmu hmem
              by_cases hkq : k < m
              · have hdq : decide ((k : Int) < (m : Int)) = true := decide_eq_true (by omega)
                obtain ⟨x, hx⟩ : ∃ x, (namesL s9.dir.now)[k]? = some x := ⟨(namesL s9.dir.now)[k]'(by have := Hm.out; omega), List.getElem?_eq_getElem _⟩
                obtain ⟨b5, o5, rfl, hb5, e0⟩ := (HE.out.chg HCk.out (fun i hi e => by have := HmX.out; have h8 := e.1; omega)).at_ rfl hx
                have hxs : x.size ≤ maxLen := by
                  have hxm := List.mem_of_getElem? hx
                  unfold namesL at hxm
                  obtain ⟨y, hy, rfl⟩ := List.mem_map.1 hxm
                  exact nm7 (HI9.out.dir.now.2 y hy).1
                obtain ⟨w6, hrun, hmu6, ht6⟩ := HMk.out.store (by have := Hnn.out; omega) hxs
                have HM6 := Lib.hid hmu6
                have HC6 := Lib.hid (HCk.out.trans (Chg.of_turned ht6) (fun i hi => .inl hi))
                have Hm6 : Hid (∀ y, y ∈ x :: lk ↔ y ∈ ([] : List ByteArray) ∨ y ∈ (namesL s9.dir.now).take (k + 1)) := Lib.hid (fun y => by
                  rw [take_next6 hx, List.mem_cons, List.mem_append, Hmem.out y, List.mem_singleton]
                  constructor
                  · rintro (h | h | h)
                    · exact .inr (.inr h)
                    · exact .inl h
                    · exact .inr (.inl h)
                  · rintro (h | h | h)
                    · exact .inr (.inl h)
                    · exact .inr (.inr h)
                    · exact .inl h)
                clear hx hb5 hmu6 ht6 hxs
                go_wp2_with fail
                go_roundw
                case rel => exact ⟨k + 1, nk + 1, _, by omega, by go_num, HC6.out, HM6.out, by omega, Hm6.out⟩
                case measure => simp [intOf]; omega
              · have hdq : decide ((k : Int) < (m : Int)) = false := decide_eq_false (by omega)
                have hHk : Hid (FLive w wr A M9 R9 s9) := H10.out.chg HCk.out (fun i e => by rw [e]; exact ⟨HAp9.out.1, HAp9.out.2, HmbW.out⟩)
                have Hall : Hid (∀ x, x ∈ lk ↔ x ∈ ([] : List ByteArray) ∨ x ∈ namesL s9.dir.now) := fun x => by
                  have h8 := Hmem.out x
                  rw [List.take_of_length_le (by have := Hm.out; omega)] at h8
                  exact h8
                have HN9 : Hid (NamesI s9 (fun x => x ∈ lk)) := HNd.out _ (fun h => absurd Q5.out h) (fun x hx => (Hall.out _).2 (.inr (List.mem_map.2 ⟨x, hx, rfl⟩)))
                go_wp2_with fail
                go_roundw
                case rel => exact ⟨j + 1, M9, R9, s9, nk, lk, by omega, by omega, by go_num, hHk.out, HI9.out, HOn9.out, HSt9.out, HMk.out, HAp9.out, HN9.out, by have := Hnn.out; omega⟩
                case measure => simp [intOf]; omega
          · have e5 : decide (c.what = 5) = false := decide_eq_false q5
            have e5' : (c.what == 5) = false := by simp [q5]
            have Q5 := Lib.hid q5
            obtain ⟨wX, hwX⟩ : ∃ wX, wX = w9 := ⟨_, rfl⟩
            have HX := Lib.hid H9.out
            have HMX := Lib.hid HM9.out
            rw [← hwX] at HX HMX hp9 ⊢
            clear hwX
            have HKl := Lib.hid (klist HX.out.fs HOn9.out.1)
            go_wp2_with fail
            clear hp9
            refine HKl.out.mono ?_
            rintro e w10 ⟨v10, rfl, ho10, hb10⟩
            have H10 := Lib.hid (HX.out.on hb10)
            have HM10 := Lib.hid (HMX.out.on hb10)
            obtain ⟨m, hm⟩ : ∃ m, m = (namesL s9.dir.now).length := ⟨_, rfl⟩
            rw [← hm] at ho10
            have hE := sos_of_own ho10 hm
            obtain ⟨Av, cv, rfl, hcv, hcm, _⟩ := own_slice ho10
            have hmn : m ≤ 61 := by
              have h8 := HI9.out.few
              have h7 := doAll_length s9.dir.deeds s9.dir.safe
              rw [hm]
              unfold namesL
              rw [List.length_map]
              unfold PSt.big at h8
              have h6 : s9.dir.now.length ≤ s9.dir.safe.length + s9.dir.deeds.length := h7
              omega
            have HE := Lib.hid hE
            have Hm := Lib.hid hm
            have hmlt : mb < wX.heap.size := HMX.out.lt
            have HmX := Lib.hid hmlt
            clear ho10 hb10 hE hm HKl hmlt
            go_wp2_with fail
            go_loopw [61] (fun i wr2 => ∃ (k nk : Nat) (lk : List ByteArray), k ≤ m ∧ i = .int .i64 k ∧ Chg (fun i => i = mb) w10 wr2 ∧ MapS wr2 mb nk lk ∧ nk ≤ n' + k ∧ ∀ x, x ∈ lk ↔ x ∈ lN ∨ x ∈ (namesL s9.dir.now).take k) (fun i _ => m - (intOf i).toNat)
            case atStart => exact ⟨0, n', lN, by omega, rfl, Chg.refl, HM10.out, by omega, by simp⟩
            case round =>
              obtain ⟨k, nk, lk, hk, rfl, hch, hmu, hnk, hmem⟩ := hrel
              have HCk := Lib.hid hch
              have HMk := Lib.hid hmu
              have Hmem := Lib.hid hmem
              clear hch hmu hmem
              by_cases hkq : k < m
              · have hdq : decide ((k : Int) < (m : Int)) = true := decide_eq_true (by omega)
                obtain ⟨x, hx⟩ : ∃ x, (namesL s9.dir.now)[k]? = some x := ⟨(namesL s9.dir.now)[k]'(by have := Hm.out; omega), List.getElem?_eq_getElem _⟩
                obtain ⟨b5, o5, rfl, hb5, e0⟩ := (HE.out.chg HCk.out (fun i hi e => by have := HmX.out; have h8 := e.1; omega)).at_ rfl hx
                have hxs : x.size ≤ maxLen := by
                  have hxm := List.mem_of_getElem? hx
                  unfold namesL at hxm
                  obtain ⟨y, hy, rfl⟩ := List.mem_map.1 hxm
                  exact nm7 (HI9.out.dir.now.2 y hy).1
                obtain ⟨w6, hrun, hmu6, ht6⟩ := HMk.out.store (by have := Hnn.out; omega) hxs
                have HM6 := Lib.hid hmu6
                have HC6 := Lib.hid (HCk.out.trans (Chg.of_turned ht6) (fun i hi => .inl hi))
                have Hm6 : Hid (∀ y, y ∈ x :: lk ↔ y ∈ lN ∨ y ∈ (namesL s9.dir.now).take (k + 1)) := Lib.hid (fun y => by
                  rw [take_next6 hx, List.mem_cons, List.mem_append, Hmem.out y, List.mem_singleton]
                  constructor
                  · rintro (h | h | h)
                    · exact .inr (.inr h)
                    · exact .inl h
                    · exact .inr (.inl h)
                  · rintro (h | h | h)
                    · exact .inr (.inl h)
                    · exact .inr (.inr h)
                    · exact .inl h)
                clear hx hb5 hmu6 ht6 hxs
                go_wp2_with fail
                go_roundw
                case rel => exact ⟨k + 1, nk + 1, _, by omega, by go_num, HC6.out, HM6.out, by omega, Hm6.out⟩
                case measure => simp [intOf]; omega
              · have hdq : decide ((k : Int) < (m : Int)) = false := decide_eq_false (by omega)
                have hHk : Hid (FLive w wr A M9 R9 s9) := H10.out.chg HCk.out (fun i e => by rw [e]; exact ⟨HAp9.out.1, HAp9.out.2, HmbW.out⟩)
                have Hall : Hid (∀ x, x ∈ lk ↔ x ∈ lN ∨ x ∈ namesL s9.dir.now) := fun x => by
                  have h8 := Hmem.out x
                  rw [List.take_of_length_le (by have := Hm.out; omega)] at h8
                  exact h8
                have HN9 : Hid (NamesI s9 (fun x => x ∈ lk)) := HNd.out _ (fun _ x hx => (Hall.out x).2 (.inl hx)) (fun x hx => (Hall.out _).2 (.inr (List.mem_map.2 ⟨x, hx, rfl⟩)))
                go_wp2_with fail
                go_roundw
                case rel => exact ⟨j + 1, M9, R9, s9, nk, lk, by omega, by omega, by go_num, hHk.out, HI9.out, HOn9.out, HSt9.out, HMk.out, HAp9.out, HN9.out, by have := Hnn.out; omega⟩
                case measure => simp [intOf]; omega
      · have h61 : j = 60 := by omega
        have d2 : decide ((j : Int) = 60) = true := decide_eq_true (by omega)
        have d2' : ((j : Int) == 60) = true := by simp [h61]
        have H61 := Lib.hid h61
        clear h61
        have HLq := Lib.hid hLc
        have HMq := Lib.hid (HMp.out.on hbc)
        clear hok hc hbB hbc hLc HLc
        have HIq : Hid (FInv s 60 3600) := HI.out.mono (by omega) (by omega)
        go_wp2_with fail
        rw [← hwc]
        clear hwc
        generalize wc = wq at *
        have hn1b : n1 ≤ 9223372036854775807 := by have h7 := S1.out; have h8 := Hn1.out; omega
        have hn2b : n2 ≤ 9223372036854775807 := by have h7 := S2.out; have h8 := Hn2.out; omega
        refine (hcloneI (w := wq) (v := .slice A1 n1 c1) (l := z1) (W1.out.on HLq.out.below) (by have h7 := S1.out; have h8 := Hn1.out; omega)).mono ?_
        rintro e wx ⟨vp1, rfl, hop1, hbx⟩
        rw [← Hn1.out] at hop1
        have HO1 := Lib.hid hop1
        have HBx := Lib.hid hbx
        obtain ⟨Ap1, cp1, rfl, hcp1, _, _⟩ := own_slice hop1
        clear hop1 hbx
        go_wp2_with fail
        refine (hcloneI (w := wx) (v := .slice A2 n2 c2) (l := z2) (W2.out.on (HLq.out.below.trans (HBx.out.mono HLq.out.below.size))) (by have h7 := S2.out; have h8 := Hn2.out; omega)).mono ?_
        rintro e wy ⟨vp2, rfl, hop2, hby⟩
        rw [← Hn2.out] at hop2
        have HO2 := Lib.hid hop2
        have HBy := Lib.hid hby
        have HO1y : Hid (wy.ownsRow wq.heap.size 3 1 (.slice Ap1 n1 cp1) n1 (ivs z1)) := (Chg.of_below (M := fun _ => False) hby).own HO1.out (fun g hg e => e)
        obtain ⟨Ap2, cp2, rfl, hcp2, _, _⟩ := own_slice hop2
        clear hop2 hby
        go_wp2_with fail
        go_loopw [75] (fun i wr2 => ∃ (k : Nat) (q : List Int), k ≤ n1 ∧ i = .int .i64 k ∧ q.length = n1 ∧ (q.take k).any (· < 0) = false ∧ wr2.ownsRow wq.heap.size 3 1 (.slice Ap1 n1 cp1) n1 (ivs q) ∧ Chg (fun i => wq.heap.size ≤ i ∧ i < wx.heap.size) wy wr2) (fun i _ => n1 - (intOf i).toNat)
        case atStart => exact ⟨0, z1, by omega, rfl, Hn1.out.symm, by simp, HO1y.out, Chg.refl⟩
        case round =>
          obtain ⟨kpa, qpa, hk, rfl, hql, hqa, hqo, hqc⟩ := hrel
          have Hqlpa := Lib.hid hql
          have Hqapa := Lib.hid hqa
          have Hqopa := Lib.hid hqo
          have Hqcpa := Lib.hid hqc
          clear hql hqa hqo hqc
          by_cases hgo2 : kpa < n1
          · have d30 : decide ((kpa : Int) < (n1 : Int)) = true := decide_eq_true (by omega)
            obtain ⟨x, hx⟩ : ∃ x, qpa[kpa]? = some x := ⟨qpa[kpa]'(by have := Hqlpa.out; omega), List.getElem?_eq_getElem _⟩
            obtain ⟨gp, hgp⟩ : ∃ gp, Ap1 = some ⟨gp, 0, none⟩ := by
              rcases Hqopa.out.2 with ⟨_, h8⟩ | ⟨g8, _, _, h8, _⟩
              · omega
              · injection h8 with h8
                exact ⟨g8, h8⟩
            subst hgp
            obtain ⟨O, hO1, hO2⟩ := mask_nat x
            obtain ⟨m1, m2, m3, m4⟩ := mask_step2 Hqopa.out hx (O : Int)
            have M3 := Lib.hid m3
            have M4 : Hid (wq.heap.size ≤ gp ∧ gp < wx.heap.size) := ⟨m4, (HO1.out.lt gp rfl).2⟩
            have hkn3 : (kpa : Int) < (n1 : Int) := by omega
            have Hxl := Lib.hid (List.getElem?_eq_some_iff.1 hx).1
            clear m3 hx m4
            go_wp2_with fail
            go_roundw
            case rel => exact ⟨kpa + 1, _, by omega, by go_num, by rw [List.length_set]; exact Hqlpa.out, any_set_take2 Hxl.out (by omega) Hqapa.out, M3.out, Hqcpa.out.setCell (p := ⟨gp, kpa, none⟩) M4.out _⟩
            case measure => simp [intOf]; omega
          · have d30 : decide ((kpa : Int) < (n1 : Int)) = false := decide_eq_false (by omega)
            have Hanypa : Hid (qpa.any (· < 0) = false) := by
              have h8 := Hqapa.out
              rw [List.take_of_length_le (by have := Hqlpa.out; omega)] at h8
              exact h8
            obtain ⟨wpa, hwpa⟩ : ∃ wpa, wpa = wr := ⟨_, rfl⟩
            rw [← hwpa] at Hqopa Hqcpa ⊢
            clear hwpa
            have HO2a : Hid (wpa.ownsRow wx.heap.size 3 1 (.slice Ap2 n2 cp2) n2 (ivs z2)) := Hqcpa.out.own HO2.out (fun g hg e => by have := (HO2.out.lt g hg).1; have h8 := e.2; omega)
            go_wp2_with fail
            go_loopw [87] (fun i wr2 => ∃ (k : Nat) (q : List Int), k ≤ n2 ∧ i = .int .i64 k ∧ q.length = n2 ∧ (q.take k).any (· < 0) = false ∧ wr2.ownsRow wx.heap.size 3 1 (.slice Ap2 n2 cp2) n2 (ivs q) ∧ Chg (fun i => wx.heap.size ≤ i ∧ i < wy.heap.size) wpa wr2) (fun i _ => n2 - (intOf i).toNat)
            case atStart => exact ⟨0, z2, by omega, rfl, Hn2.out.symm, by simp, HO2a.out, Chg.refl⟩
            case round =>
              obtain ⟨kpb, qpb, hk, rfl, hql, hqa, hqo, hqc⟩ := hrel
              have Hqlpb := Lib.hid hql
              have Hqapb := Lib.hid hqa
              have Hqopb := Lib.hid hqo
              have Hqcpb := Lib.hid hqc
              clear hql hqa hqo hqc
              by_cases hgo2 : kpb < n2
              · have d30 : decide ((kpb : Int) < (n2 : Int)) = true := decide_eq_true (by omega)
                obtain ⟨x, hx⟩ : ∃ x, qpb[kpb]? = some x := ⟨qpb[kpb]'(by have := Hqlpb.out; omega), List.getElem?_eq_getElem _⟩
                obtain ⟨gp, hgp⟩ : ∃ gp, Ap2 = some ⟨gp, 0, none⟩ := by
                  rcases Hqopb.out.2 with ⟨_, h8⟩ | ⟨g8, _, _, h8, _⟩
                  · omega
                  · injection h8 with h8
                    exact ⟨g8, h8⟩
                subst hgp
                obtain ⟨O, hO1, hO2⟩ := mask_nat x
                obtain ⟨m1, m2, m3, m4⟩ := mask_step2 Hqopb.out hx (O : Int)
                have M3 := Lib.hid m3
                have M4 : Hid (wx.heap.size ≤ gp ∧ gp < wy.heap.size) := ⟨m4, (HO2.out.lt gp rfl).2⟩
                have hkn3 : (kpb : Int) < (n2 : Int) := by omega
                have Hxl := Lib.hid (List.getElem?_eq_some_iff.1 hx).1
                clear m3 hx m4
                go_wp2_with fail
                go_roundw
                case rel => exact ⟨kpb + 1, _, by omega, by go_num, by rw [List.length_set]; exact Hqlpb.out, any_set_take2 Hxl.out (by omega) Hqapb.out, M3.out, Hqcpb.out.setCell (p := ⟨gp, kpb, none⟩) M4.out _⟩
                case measure => simp [intOf]; omega
              · have d30 : decide ((kpb : Int) < (n2 : Int)) = false := decide_eq_false (by omega)
                have Hanypb : Hid (qpb.any (· < 0) = false) := by
                  have h8 := Hqapb.out
                  rw [List.take_of_length_le (by have := Hqlpb.out; omega)] at h8
                  exact h8
                obtain ⟨wpb, hwpb⟩ : ∃ wpb, wpb = wr := ⟨_, rfl⟩
                rw [← hwpb] at Hqopb Hqcpb ⊢
                clear hwpb
                go_wp2_with fail
                have hsq := HBx.out.size
                have hsx := HBy.out.size
                have hsa := Hqcpa.out.size
                have hsb := Hqcpb.out.size
                have hN0 : ∀ i, wq.heap.size ≤ i → ¬ M i ∧ ¬ R i ∧ w.heap.size ≤ i := fun i hi => ⟨fun e => by have := HLq.out.fs.ml i e; omega, fun e => by have := HLq.out.fs.rl i e; omega, by have := HLq.out.below.size; omega⟩
                have hcAll : Chg (fun i => wq.heap.size ≤ i) wq wpb := (((Chg.of_below (M := fun i => wq.heap.size ≤ i) HBx.out).trans (Chg.of_below (M := fun _ => False) HBy.out) (fun i e => e.elim)).trans Hqcpa.out (fun i e => .inl e.1)).trans Hqcpb.out (fun i e => .inl (by omega))
                have hmq : mb < wq.heap.size := HMq.out.lt
                have HLf := Lib.hid (HLq.out.chg hcAll hN0)
                have HMf := Lib.hid (HMq.out.chg hcAll (fun e => by omega))
                have Hmq := Lib.hid hmq
                have hp1b := Hqcpb.out.own Hqopa.out (fun g hg e => by have := (HO1.out.lt g hg).2; omega)
                have HP1 : Hid (IsR wpb (fun i => wq.heap.size ≤ i ∧ i < wpb.heap.size) (.slice Ap1 n1 cp1) qpa) := ⟨Ap1, cp1, by rw [Hqlpa.out], by rw [Hqlpa.out]; exact hcp1, by rw [Hqlpa.out]; exact hn1b, rdR_of_own hp1b⟩
                have HP2 : Hid (IsR wpb (fun i => wq.heap.size ≤ i ∧ i < wpb.heap.size) (.slice Ap2 n2 cp2) qpb) := ⟨Ap2, cp2, by rw [Hqlpb.out], by rw [Hqlpb.out]; exact hcp2, by rw [Hqlpb.out]; exact hn2b, (rdR_of_own Hqopb.out).mono (fun i hi => ⟨by omega, hi.2⟩)⟩
                have Hsqb : Hid (wq.heap.size ≤ wpb.heap.size) := by exact (by omega : wq.heap.size ≤ wpb.heap.size)
                have HMlq : Hid (∀ i, M i → i < wq.heap.size) := HLq.out.fs.ml
                have HRlq : Hid (∀ i, R i → i < wq.heap.size) := HLq.out.fs.rl
                have hst := kstate HLf.out.fs HIq.out (by omega) HOn.out.1
                have HStt := Lib.hid hst
                clear hcAll hN0 hmq hp1b hst hsq hsx hsa hsb
                refine HStt.out.mono ?_
                rintro e wg ⟨vw, rfl, how, hbg⟩
                have HRW := Lib.hid (sos_of_own how rfl)
                have HBg := Lib.hid hbg
                have HLg := Lib.hid (HLf.out.on hbg)
                obtain ⟨Avw, cvw, rfl, _, _, _⟩ := own_slice how
                have hcp := kcopy HLg.out.fs HIq.out (by omega)
                have HCp := Lib.hid hcp
                clear how hbg hcp HStt
                go_wp2_with fail
                refine HCp.out.mono ?_
                rintro e wh ⟨A2', M2, rfl, hcm, hbh, hM2⟩
                have HLc := Lib.hid (show FLive w wh A2' M2 R s from ⟨hcm, HLg.out.below.trans (hbh.mono HLg.out.below.size), fun i hi => by have := hM2 i hi; have := HLg.out.below.size; omega, HLg.out.newR⟩)
                have HBh := Lib.hid hbh
                have HM2 := Lib.hid hM2
                have HKl := Lib.hid (klist HLc.out.fs HOn.out.1)
                clear hcm hbh hM2 HCp
                go_wp2_with fail
                refine HKl.out.mono ?_
                rintro e wi ⟨vi, rfl, hoi, hbi⟩
                have HBi := Lib.hid hbi
                have HLi := Lib.hid (HLc.out.on hbi)
                obtain ⟨m, hm⟩ : ∃ m, m = (namesL s.dir.now).length := ⟨_, rfl⟩
                rw [← hm] at hoi
                have hE := sos_of_own hoi hm
                obtain ⟨Avi, cvi, rfl, hcvi, _, _⟩ := own_slice hoi
                have hmn : m = s.dir.now.length := by rw [hm]; simp [namesL]
                have hmb61 : m ≤ 61 := by
                  have h8 := HIq.out.few
                  have h6 : s.dir.now.length ≤ s.dir.safe.length + s.dir.deeds.length := doAll_length s.dir.deeds s.dir.safe
                  unfold PSt.big at h8
                  omega
                have HE := Lib.hid hE
                have Hm := Lib.hid hm
                have Hmn := Lib.hid hmn
                have HMl2 : Hid (∀ i, M2 i → wg.heap.size ≤ i ∧ i < wh.heap.size) := fun i e => ⟨HM2.out i e, HLc.out.fs.ml i e⟩
                clear hoi hbi hE hm hmn HKl
                go_wp2_with fail
                go_loopw [104] (fun i wr2 => ∃ (k : Nat) (M' R' : Nat → Prop) (sA : FsP), k ≤ m ∧ i = .int .i64 k ∧ FLive w wr2 A2' M' R' sA ∧ SyncI s sA k ∧ FInv sA 60 3600 ∧ sA.steps ≤ 60 + k ∧ Chg (fun i => (wg.heap.size ≤ i ∧ i < wh.heap.size) ∨ wi.heap.size ≤ i) wi wr2 ∧ ∀ i, M' i → (wg.heap.size ≤ i ∧ i < wh.heap.size) ∨ wi.heap.size ≤ i) (fun i _ => m - (intOf i).toNat)
                case atStart => exact ⟨0, M2, R, s, by omega, rfl, HLi.out, SyncI.start HOn.out, HIq.out, by have := HSt.out; omega, Chg.refl, fun i e => .inl (HMl2.out i e)⟩
                case round =>
                  obtain ⟨k, M', R', sA, hk, rfl, hla, hsy, hia, hsa, hca, hma⟩ := hrel
                  have HLa := Lib.hid hla
                  have HSy := Lib.hid hsy
                  have HIa := Lib.hid hia
                  have HSa := Lib.hid hsa
                  have HCa := Lib.hid hca
                  have HMa := Lib.hid hma
                  clear hla hsy hia hsa hca hma
                  by_cases hkm : k < m
                  · have dm : decide ((k : Int) < (m : Int)) = true := decide_eq_true (by omega)
                    obtain ⟨x, hx⟩ : ∃ x, s.dir.now[k]? = some x := ⟨s.dir.now[k]'(by have := Hmn.out; omega), List.getElem?_eq_getElem _⟩
                    have hxn : (namesL s.dir.now)[k]? = some x.1 := by unfold namesL; rw [List.getElem?_map, hx]; rfl
                    obtain ⟨b5, o5, rfl, hb5, e0⟩ := (HE.out.chg HCa.out (fun i hi e => by have h8 := e.1; have h7 := e.2; rcases hi with hi | hi <;> omega)).at_ rfl hxn
                    have hxm := List.mem_of_getElem? hx
                    obtain ⟨y1, y2, y3⟩ := HSy.out.next HIa.out hx HIq.out.dir.now.1 (HIq.out.ino.now.1 x hxm).1
                    have hcon := ksync (nm := x.1) (nm7 (HIq.out.dir.now.2 x hxm).1) HLa.out.fs HIa.out (by omega) (by have := HSa.out; omega)
                    rw [y1] at hcon
                    have HCon := Lib.hid hcon
                    have HY2 := Lib.hid y2
                    have HY3 := Lib.hid y3
                    have HY4 := Lib.hid (stepF_steps sA (syncK x.1) (fun _ => onF_steps _ _ _))
                    clear hx hxn hb5 hxm y1 y2 y3 hcon
                    go_wp2_with fail
                    refine HCon.out.mono ?_
                    rintro e w9 ⟨rfl, hmut⟩
                    obtain ⟨M9, R9, h9, hg9, h91, h92⟩ := HLa.out.step hmut
                    have H9 := Lib.hid h9
                    have hcs := HCa.out.size
                    have HC9 := Lib.hid (HCa.out.trans hg9 (fun i e => .inl (HMa.out i e)))
                    have HM9 : Hid (∀ i, M9 i → (wg.heap.size ≤ i ∧ i < wh.heap.size) ∨ wi.heap.size ≤ i) := fun i e => (h91 i e).elim (HMa.out i) (fun e => .inr (by omega))
                    clear hmut h9 hg9 h91 h92 hcs HCon
                    go_wp2_with fail
                    go_roundw
                    case rel => exact ⟨k + 1, M9, R9, _, by omega, by go_num, H9.out, HY2.out, HY3.out, by have := HY4.out; have := HSa.out; omega, HC9.out, HM9.out⟩
                    case measure => simp [intOf]; omega
                  · have dm : decide ((k : Int) < (m : Int)) = false := decide_eq_false (by omega)
                    have hkk : k = s.dir.now.length := by have := Hmn.out; omega
                    have hsy := HSy.out
                    rw [hkk] at hsy
                    obtain ⟨y1, y2, y3⟩ := hsy.done
                    have hcon := ksyncdir HLa.out.fs HIa.out (by omega) (by omega) (by have := HSa.out; omega)
                    rw [y1] at hcon
                    have HCon := Lib.hid hcon
                    have hIB := HIa.out.c_syncdir (by omega)
                    have hoB : (stepF sA syncDirK).2.off = false := by rw [HSy.out.on.step]; exact HSy.out.on.begin_on.1
                    obtain ⟨sB, hsB⟩ : ∃ sB, sB = (stepF sA syncDirK).2 := ⟨_, rfl⟩
                    rw [← hsB] at y2 y3 hIB hoB
                    have HCon2 : Hid (Calls Tryz.prog 12 #[.pointer (some ⟨A2', 0, none⟩)] wr fun e w' => e = .returned (.int .i64 0) ∧ FsMut wr w' A2' sB.used M' R' sB) := by rw [hsB]; exact hcon
                    have HStl := Lib.hid y2
                    have HSeq := Lib.hid y3
                    have HIB := Lib.hid hIB
                    have HOB := Lib.hid hoB
                    clear hkk hsy y1 y2 y3 hcon hIB hoB hsB HCon
                    go_wp2_with fail
                    refine HCon2.out.mono ?_
                    rintro e wj ⟨rfl, hmut⟩
                    obtain ⟨Mj, Rj, hj_, hgj, hj1, hj2⟩ := HLa.out.step hmut
                    have HLj := Lib.hid hj_
                    have hgs := HBg.out.size
                    have hhs := HBh.out.size
                    have his := HBi.out.size
                    have hcs := HCa.out.size
                    have HTj : Hid (Chg (fun i => wpb.heap.size ≤ i) wpb wj) := (((((Chg.of_below (M := fun i => wpb.heap.size ≤ i) HBg.out).trans (Chg.of_below (M := fun _ => False) HBh.out) (fun i e => e.elim)).trans (Chg.of_below (M := fun _ => False) HBi.out) (fun i e => e.elim)).trans HCa.out (fun i e => .inl (by rcases e with e | e <;> omega))).trans hgj (fun i e => .inl (by rcases HMa.out i e with e | e <;> omega)))
                    have HGj : Hid (Chg (fun i => wg.heap.size ≤ i) wg wj) := ((((Chg.of_below (M := fun i => wg.heap.size ≤ i) HBh.out).trans (Chg.of_below (M := fun _ => False) HBi.out) (fun i e => e.elim)).trans HCa.out (fun i e => .inl (by rcases e with e | e <;> omega))).trans hgj (fun i e => .inl (by rcases HMa.out i e with e | e <;> omega)))
                    have HMj : Hid (∀ i, Mj i → wg.heap.size ≤ i) := fun i e => (hj1 i e).elim (fun e => by rcases HMa.out i e with e | e <;> omega) (fun e => by omega)
                    have hP2j := HP2.out.chg HTj.out (fun i hi e => by have h8 := e.2; omega)
                    have hcon := kcrash HLj.out.fs HIB.out (by omega) (by omega) hP2j (fun i hi e => by have := HMj.out i hi; have h8 := e.2; omega) (fun i e => Nat.lt_of_lt_of_le e.2 HTj.out.size) Hanypb.out
                    have hst2 := crash_still HIB.out HStl.out qpb Hanypb.out
                    have hIC := HIB.out.crashK_ qpb
                    have hoC : (crashK sB qpb).2.off = false := by unfold crashK; rw [if_neg (by simp [Hanypb.out])]
                    obtain ⟨sC, hsC⟩ : ∃ sC, sC = (crashK sB qpb).2 := ⟨_, rfl⟩
                    rw [← hsC] at hst2 hIC hoC
                    have HCon3 : Hid (Calls Tryz.prog 14 #[.pointer (some ⟨A2', 0, none⟩), .slice Ap2 n2 cp2] wj fun e w' => e = .returned (.int .i64 0) ∧ FsMut wj w' A2' sC.used Mj Rj sC) := by rw [hsC]; exact hcon
                    have HSeq2 : Hid (stN sC.file sC.dir.now = stN s.file s.dir.now) := stN_state (hst2.trans HSeq.out)
                    have HIC := Lib.hid hIC
                    have HOC := Lib.hid hoC
                    have Hsz1 : Hid (wpb.heap.size ≤ wg.heap.size ∧ wg.heap.size ≤ wj.heap.size) := ⟨hgs, HGj.out.size⟩
                    clear hmut hj_ hgj hj1 hj2 hgs hhs his hcs hP2j hcon hst2 hIC hoC hsC HCon2
                    go_wp2_with fail
                    refine HCon3.out.mono ?_
                    rintro e wk ⟨rfl, hmut⟩
                    obtain ⟨Mk, Rk, hk_, hgk, hk1, hk2⟩ := HLj.out.step hmut
                    have HLk := Lib.hid hk_
                    have HTk := Lib.hid (HTj.out.trans hgk (fun i e => .inl (by have := HMj.out i e; have := Hsz1.out.1; omega)))
                    have HGk := Lib.hid (HGj.out.trans hgk (fun i e => .inl (HMj.out i e)))
                    have hst := kstate HLk.out.fs HIC.out (by omega) HOC.out
                    rw [HSeq2.out] at hst
                    have HStt := Lib.hid hst
                    clear hmut hk_ hgk hk1 hk2 hst HCon3
                    go_wp2_with fail
                    refine HStt.out.mono ?_
                    rintro e wl ⟨vl, rfl, hol, hbl⟩
                    have HTl := Lib.hid (HTk.out.trans (Chg.of_below (M := fun _ => False) hbl) (fun i e => e.elim))
                    have hRl := HRW.out.chg (HGk.out.trans (Chg.of_below (M := fun _ => False) hbl) (fun i e => e.elim)) (fun i hi e => by have h8 := e.2; omega)
                    have hslen : (stN s.file s.dir.now).length ≤ 1000000 := by rw [stN_length]; have := Hmn.out; omega
                    have hEq := hequalS (sos_of_own hol rfl) hRl hslen
                    have HEq := Lib.hid hEq
                    have Hslen := Lib.hid hslen
                    obtain ⟨Avl, cvl, rfl, _, _, _⟩ := own_slice hol
                    clear hol hbl hRl hslen hEq HStt
                    go_wp2_with fail
                    refine HEq.out.mono ?_
                    rintro e wm ⟨rfl, hbm⟩
                    have HTm := Lib.hid (HTl.out.trans (Chg.of_below (M := fun _ => False) hbm) (fun i e => e.elim))
                    have HLm := Lib.hid (HLf.out.chg HTm.out (fun i hi => ⟨fun e => by have := HMlq.out i e; have := Hsqb.out; omega, fun e => by have := HRlq.out i e; have := Hsqb.out; omega, by have := HLf.out.below.size; omega⟩))
                    have HMm := Lib.hid (HMf.out.chg HTm.out (fun e => by have := Hmq.out; have := Hsqb.out; omega))
                    have HP1m := Lib.hid (HP1.out.chg HTm.out (fun i hi e => by have h8 := e.2; omega))
                    have HP2m := Lib.hid (HP2.out.chg HTm.out (fun i hi e => by have h8 := e.2; omega))
                    have hcon := kcrash HLm.out.fs HIq.out (by omega) (by omega) HP1m.out (fun i hi e => by have := HMlq.out i hi; have h8 := e.1; omega) (fun i e => Nat.lt_of_lt_of_le e.2 HTm.out.size) Hanypa.out
                    have hID := HIq.out.crashK_ qpa
                    have hoD : (crashK s qpa).2.off = false := by unfold crashK; rw [if_neg (by simp [Hanypa.out])]
                    have hsD := crash_makes_still s qpa Hanypa.out
                    have hnD := crash_names HNm.out qpa Hanypa.out
                    obtain ⟨sD, hsDe⟩ : ∃ sD, sD = (crashK s qpa).2 := ⟨_, rfl⟩
                    rw [← hsDe] at hID hoD hsD hnD
                    have HCon4 : Hid (Calls Tryz.prog 14 #[.pointer (some ⟨A, 0, none⟩), .slice Ap1 n1 cp1] wm fun e w' => e = .returned (.int .i64 0) ∧ FsMut wm w' A sD.used M R sD) := by rw [hsDe]; exact hcon
                    have HID := Lib.hid hID
                    have HOD := Lib.hid hoD
                    have HSD := Lib.hid hsD
                    have HND := Lib.hid hnD
                    clear hbm hcon hID hoD hsD hnD hsDe HEq
                    go_wp2_with fail
                    refine HCon4.out.mono ?_
                    rintro e wn ⟨rfl, hmut⟩
                    obtain ⟨Mn, Rn, hn_, hgn, hn_1, hn_2⟩ := HLm.out.step hmut
                    have HLn := Lib.hid hn_
                    have HMn := Lib.hid (HMm.out.chg hgn HAp.out.1)
                    have HP2n := Lib.hid (HP2m.out.chg hgn (fun i hi e => by have := HMlq.out i hi; have h8 := e.1; omega))
                    have HMn1 : Hid (∀ i, Mn i → i < wq.heap.size ∨ wpb.heap.size ≤ i) := fun i e => (hn_1 i e).elim (fun e => .inl (HMlq.out i e)) (fun e => .inr (by have := HTm.out.size; omega))
                    have HMnl : Hid (∀ i, Mn i → i < wn.heap.size) := HLn.out.fs.ml
                    have hTs := HTm.out.size
                    have Hwn : Hid (wpb.heap.size ≤ wn.heap.size) := Nat.le_trans hTs hgn.size
                    have hst := kstate HLn.out.fs HID.out (by omega) HOD.out
                    have HStt := Lib.hid hst
                    clear hmut hn_ hgn hn_1 hn_2 hst hTs HCon4
                    go_wp2_with fail
                    refine HStt.out.mono ?_
                    rintro e wo ⟨vo, rfl, hoo, hbo⟩
                    have HRo := Lib.hid (sos_of_own hoo rfl)
                    have HLo := Lib.hid (HLn.out.on hbo)
                    have HMo := Lib.hid (HMn.out.on hbo)
                    have HP2o := Lib.hid (HP2n.out.on hbo)
                    obtain ⟨Avo, cvo, rfl, _, _, _⟩ := own_slice hoo
                    have Hso := Lib.hid hbo.size
                    have HKl := Lib.hid (klist HLo.out.fs HOD.out)
                    clear hoo hbo HStt
                    go_wp2_with fail
                    refine HKl.out.mono ?_
                    rintro e wp ⟨vp, rfl, hop, hbp⟩
                    have HLp := Lib.hid (HLo.out.on hbp)
                    have HMp2 := Lib.hid (HMo.out.on hbp)
                    have HP2p := Lib.hid (HP2o.out.on hbp)
                    have HRp := Lib.hid (HRo.out.on hbp)
                    have Hsp := Lib.hid hbp.size
                    obtain ⟨m2, hm2⟩ : ∃ m2, m2 = (namesL sD.dir.now).length := ⟨_, rfl⟩
                    rw [← hm2] at hop
                    have hE2 := sos_of_own hop hm2
                    obtain ⟨Avp, cvp, rfl, hcvp, _, _⟩ := own_slice hop
                    have hm2b : m2 ≤ 100 := by
                      have h8 := HID.out.few
                      have h6 : sD.dir.now.length ≤ sD.dir.safe.length + sD.dir.deeds.length := doAll_length sD.dir.deeds sD.dir.safe
                      unfold PSt.big at h8
                      rw [hm2]
                      unfold namesL
                      rw [List.length_map]
                      omega
                    have HE2 := Lib.hid hE2
                    have Hm2 := Lib.hid hm2
                    clear hop hbp hE2 hm2 HKl
                    go_wp2_with fail
                    go_loopw [138] (fun i wr2 => ∃ k : Nat, k ≤ m2 ∧ i = .int .i64 k ∧ wp = wr2) (fun i _ => m2 - (intOf i).toNat)
                    case atStart => exact ⟨0, by omega, rfl, rfl⟩
                    case round =>
                      obtain ⟨k2, hk2, rfl, rfl⟩ := hrel
                      by_cases hkm2 : k2 < m2
                      · have dm2 : decide ((k2 : Int) < (m2 : Int)) = true := decide_eq_true (by omega)
                        obtain ⟨x, hx⟩ : ∃ x, (namesL sD.dir.now)[k2]? = some x := ⟨(namesL sD.dir.now)[k2]'(by have := Hm2.out; omega), List.getElem?_eq_getElem _⟩
                        obtain ⟨b5, o5, rfl, hb5, e0⟩ := HE2.out.at_ rfl hx
                        obtain ⟨y, hy, hyx⟩ : ∃ y, y ∈ sD.dir.now ∧ y.1 = x := by
                          have hxm := List.mem_of_getElem? hx
                          unfold namesL at hxm
                          exact List.mem_map.1 hxm
                        subst hyx
                        have hlk := HMp2.out.look (nm7 (HID.out.dir.now.2 y hy).1) (HND.out y hy)
                        clear hx hb5 hy
                        go_wp2_with fail
                        go_roundw
                        case rel => exact ⟨k2 + 1, by omega, by go_num, by first | trivial | rfl⟩
                        case measure => simp [intOf]; omega
                      · have dm2 : decide ((k2 : Int) < (m2 : Int)) = false := decide_eq_false (by omega)
                        have hcon := kcrash HLp.out.fs HID.out (by omega) (by omega) HP2p.out (fun i hi e => by have h8 := e.1; have h7 := e.2; rcases HMn1.out i hi with h6 | h6 <;> omega) (fun i e => by have h7 := e.2; have := Hwn.out; have := Hso.out; have := Hsp.out; omega) Hanypb.out
                        have hst2 := crash_still HID.out HSD.out qpb Hanypb.out
                        have hIE := HID.out.crashK_ qpb
                        have hoE : (crashK sD qpb).2.off = false := by unfold crashK; rw [if_neg (by simp [Hanypb.out])]
                        obtain ⟨sE, hsE⟩ : ∃ sE, sE = (crashK sD qpb).2 := ⟨_, rfl⟩
                        rw [← hsE] at hst2 hIE hoE
                        have HCon5 : Hid (Calls Tryz.prog 14 #[.pointer (some ⟨A, 0, none⟩), .slice Ap2 n2 cp2] wp fun e w' => e = .returned (.int .i64 0) ∧ FsMut wp w' A sE.used Mn Rn sE) := by rw [hsE]; exact hcon
                        have HSeqE : Hid (stN sE.file sE.dir.now = stN sD.file sD.dir.now) := stN_state hst2
                        have HIE := Lib.hid hIE
                        have HOE := Lib.hid hoE
                        clear hcon hst2 hIE hoE hsE
                        go_wp2_with fail
                        refine HCon5.out.mono ?_
                        rintro e wz ⟨rfl, hmut⟩
                        obtain ⟨Mz, Rz, hz_, hgz, _, _⟩ := HLp.out.step hmut
                        have HLz := Lib.hid hz_
                        have HRz := Lib.hid (HRp.out.chg hgz (fun i hi e => by have h8 := e.1; have := HMnl.out i hi; omega))
                        have hst := kstate HLz.out.fs HIE.out (by omega) HOE.out
                        rw [HSeqE.out] at hst
                        have HStt := Lib.hid hst
                        clear hmut hz_ hgz hst HCon5
                        go_wp2_with fail
                        refine HStt.out.mono ?_
                        rintro e wy9 ⟨vy, rfl, hoy, hby⟩
                        have hlen9 : (stN sD.file sD.dir.now).length ≤ 1000000 := by rw [stN_length]; have h8 := Hm2.out; unfold namesL at h8; rw [List.length_map] at h8; omega
                        have hEq := hequalS (sos_of_own hoy rfl) (HRz.out.on hby) hlen9
                        have HEq := Lib.hid hEq
                        have HBz := Lib.hid (HLz.out.below.trans (hby.mono HLz.out.below.size))
                        obtain ⟨Avy, cvy, rfl, _, _, _⟩ := own_slice hoy
                        clear hoy hby hlen9 hEq HStt
                        go_wp2_with fail
                        refine HEq.out.mono ?_
                        rintro e wfin ⟨rfl, hbf⟩
                        have HBfin := Lib.hid (HBz.out.trans (hbf.mono HBz.out.size))
                        clear hbf
                        go_wp2_with fail
                        go_ret
                        exact ⟨rfl, HBfin.out⟩
    · have d1 : decide ((j : Int) < (k0 : Int)) = false := decide_eq_false (by omega)
      have HLq := HLv
      have HMq := HMp
      have HIq : Hid (FInv s 60 3600) := HI.out.mono (by omega) (by omega)
      go_wp2_with fail
      generalize wr = wq at *
      have hn1b : n1 ≤ 9223372036854775807 := by have h7 := S1.out; have h8 := Hn1.out; omega
      have hn2b : n2 ≤ 9223372036854775807 := by have h7 := S2.out; have h8 := Hn2.out; omega
      refine (hcloneI (w := wq) (v := .slice A1 n1 c1) (l := z1) (W1.out.on HLq.out.below) (by have h7 := S1.out; have h8 := Hn1.out; omega)).mono ?_
      rintro e wx ⟨vp1, rfl, hop1, hbx⟩
      rw [← Hn1.out] at hop1
      have HO1 := Lib.hid hop1
      have HBx := Lib.hid hbx
      obtain ⟨Ap1, cp1, rfl, hcp1, _, _⟩ := own_slice hop1
      clear hop1 hbx
      go_wp2_with fail
      refine (hcloneI (w := wx) (v := .slice A2 n2 c2) (l := z2) (W2.out.on (HLq.out.below.trans (HBx.out.mono HLq.out.below.size))) (by have h7 := S2.out; have h8 := Hn2.out; omega)).mono ?_
      rintro e wy ⟨vp2, rfl, hop2, hby⟩
      rw [← Hn2.out] at hop2
      have HO2 := Lib.hid hop2
      have HBy := Lib.hid hby
      have HO1y : Hid (wy.ownsRow wq.heap.size 3 1 (.slice Ap1 n1 cp1) n1 (ivs z1)) := (Chg.of_below (M := fun _ => False) hby).own HO1.out (fun g hg e => e)
      obtain ⟨Ap2, cp2, rfl, hcp2, _, _⟩ := own_slice hop2
      clear hop2 hby
      go_wp2_with fail
      go_loopw [75] (fun i wr2 => ∃ (k : Nat) (q : List Int), k ≤ n1 ∧ i = .int .i64 k ∧ q.length = n1 ∧ (q.take k).any (· < 0) = false ∧ wr2.ownsRow wq.heap.size 3 1 (.slice Ap1 n1 cp1) n1 (ivs q) ∧ Chg (fun i => wq.heap.size ≤ i ∧ i < wx.heap.size) wy wr2) (fun i _ => n1 - (intOf i).toNat)
      case atStart => exact ⟨0, z1, by omega, rfl, Hn1.out.symm, by simp, HO1y.out, Chg.refl⟩
      case round =>
        obtain ⟨kpa, qpa, hk, rfl, hql, hqa, hqo, hqc⟩ := hrel
        have Hqlpa := Lib.hid hql
        have Hqapa := Lib.hid hqa
        have Hqopa := Lib.hid hqo
        have Hqcpa := Lib.hid hqc
        clear hql hqa hqo hqc
        by_cases hgo2 : kpa < n1
        · have d30 : decide ((kpa : Int) < (n1 : Int)) = true := decide_eq_true (by omega)
          obtain ⟨x, hx⟩ : ∃ x, qpa[kpa]? = some x := ⟨qpa[kpa]'(by have := Hqlpa.out; omega), List.getElem?_eq_getElem _⟩
          obtain ⟨gp, hgp⟩ : ∃ gp, Ap1 = some ⟨gp, 0, none⟩ := by
            rcases Hqopa.out.2 with ⟨_, h8⟩ | ⟨g8, _, _, h8, _⟩
            · omega
            · injection h8 with h8
              exact ⟨g8, h8⟩
          subst hgp
          obtain ⟨O, hO1, hO2⟩ := mask_nat x
          obtain ⟨m1, m2, m3, m4⟩ := mask_step2 Hqopa.out hx (O : Int)
          have M3 := Lib.hid m3
          have M4 : Hid (wq.heap.size ≤ gp ∧ gp < wx.heap.size) := ⟨m4, (HO1.out.lt gp rfl).2⟩
          have hkn3 : (kpa : Int) < (n1 : Int) := by omega
          have Hxl := Lib.hid (List.getElem?_eq_some_iff.1 hx).1
          clear m3 hx m4
          go_wp2_with fail
          go_roundw
          case rel => exact ⟨kpa + 1, _, by omega, by go_num, by rw [List.length_set]; exact Hqlpa.out, any_set_take2 Hxl.out (by omega) Hqapa.out, M3.out, Hqcpa.out.setCell (p := ⟨gp, kpa, none⟩) M4.out _⟩
          case measure => simp [intOf]; omega
        · have d30 : decide ((kpa : Int) < (n1 : Int)) = false := decide_eq_false (by omega)
          have Hanypa : Hid (qpa.any (· < 0) = false) := by
            have h8 := Hqapa.out
            rw [List.take_of_length_le (by have := Hqlpa.out; omega)] at h8
            exact h8
          obtain ⟨wpa, hwpa⟩ : ∃ wpa, wpa = wr := ⟨_, rfl⟩
          rw [← hwpa] at Hqopa Hqcpa ⊢
          clear hwpa
          have HO2a : Hid (wpa.ownsRow wx.heap.size 3 1 (.slice Ap2 n2 cp2) n2 (ivs z2)) := Hqcpa.out.own HO2.out (fun g hg e => by have := (HO2.out.lt g hg).1; have h8 := e.2; omega)
          go_wp2_with fail
          go_loopw [87] (fun i wr2 => ∃ (k : Nat) (q : List Int), k ≤ n2 ∧ i = .int .i64 k ∧ q.length = n2 ∧ (q.take k).any (· < 0) = false ∧ wr2.ownsRow wx.heap.size 3 1 (.slice Ap2 n2 cp2) n2 (ivs q) ∧ Chg (fun i => wx.heap.size ≤ i ∧ i < wy.heap.size) wpa wr2) (fun i _ => n2 - (intOf i).toNat)
          case atStart => exact ⟨0, z2, by omega, rfl, Hn2.out.symm, by simp, HO2a.out, Chg.refl⟩
          case round =>
            obtain ⟨kpb, qpb, hk, rfl, hql, hqa, hqo, hqc⟩ := hrel
            have Hqlpb := Lib.hid hql
            have Hqapb := Lib.hid hqa
            have Hqopb := Lib.hid hqo
            have Hqcpb := Lib.hid hqc
            clear hql hqa hqo hqc
            by_cases hgo2 : kpb < n2
            · have d30 : decide ((kpb : Int) < (n2 : Int)) = true := decide_eq_true (by omega)
              obtain ⟨x, hx⟩ : ∃ x, qpb[kpb]? = some x := ⟨qpb[kpb]'(by have := Hqlpb.out; omega), List.getElem?_eq_getElem _⟩
              obtain ⟨gp, hgp⟩ : ∃ gp, Ap2 = some ⟨gp, 0, none⟩ := by
                rcases Hqopb.out.2 with ⟨_, h8⟩ | ⟨g8, _, _, h8, _⟩
                · omega
                · injection h8 with h8
                  exact ⟨g8, h8⟩
              subst hgp
              obtain ⟨O, hO1, hO2⟩ := mask_nat x
              obtain ⟨m1, m2, m3, m4⟩ := mask_step2 Hqopb.out hx (O : Int)
              have M3 := Lib.hid m3
              have M4 : Hid (wx.heap.size ≤ gp ∧ gp < wy.heap.size) := ⟨m4, (HO2.out.lt gp rfl).2⟩
              have hkn3 : (kpb : Int) < (n2 : Int) := by omega
              have Hxl := Lib.hid (List.getElem?_eq_some_iff.1 hx).1
              clear m3 hx m4
              go_wp2_with fail
              go_roundw
              case rel => exact ⟨kpb + 1, _, by omega, by go_num, by rw [List.length_set]; exact Hqlpb.out, any_set_take2 Hxl.out (by omega) Hqapb.out, M3.out, Hqcpb.out.setCell (p := ⟨gp, kpb, none⟩) M4.out _⟩
              case measure => simp [intOf]; omega
            · have d30 : decide ((kpb : Int) < (n2 : Int)) = false := decide_eq_false (by omega)
              have Hanypb : Hid (qpb.any (· < 0) = false) := by
                have h8 := Hqapb.out
                rw [List.take_of_length_le (by have := Hqlpb.out; omega)] at h8
                exact h8
              obtain ⟨wpb, hwpb⟩ : ∃ wpb, wpb = wr := ⟨_, rfl⟩
              rw [← hwpb] at Hqopb Hqcpb ⊢
              clear hwpb
              go_wp2_with fail
              have hsq := HBx.out.size
              have hsx := HBy.out.size
              have hsa := Hqcpa.out.size
              have hsb := Hqcpb.out.size
              have hN0 : ∀ i, wq.heap.size ≤ i → ¬ M i ∧ ¬ R i ∧ w.heap.size ≤ i := fun i hi => ⟨fun e => by have := HLq.out.fs.ml i e; omega, fun e => by have := HLq.out.fs.rl i e; omega, by have := HLq.out.below.size; omega⟩
              have hcAll : Chg (fun i => wq.heap.size ≤ i) wq wpb := (((Chg.of_below (M := fun i => wq.heap.size ≤ i) HBx.out).trans (Chg.of_below (M := fun _ => False) HBy.out) (fun i e => e.elim)).trans Hqcpa.out (fun i e => .inl e.1)).trans Hqcpb.out (fun i e => .inl (by omega))
              have hmq : mb < wq.heap.size := HMq.out.lt
              have HLf := Lib.hid (HLq.out.chg hcAll hN0)
              have HMf := Lib.hid (HMq.out.chg hcAll (fun e => by omega))
              have Hmq := Lib.hid hmq
              have hp1b := Hqcpb.out.own Hqopa.out (fun g hg e => by have := (HO1.out.lt g hg).2; omega)
              have HP1 : Hid (IsR wpb (fun i => wq.heap.size ≤ i ∧ i < wpb.heap.size) (.slice Ap1 n1 cp1) qpa) := ⟨Ap1, cp1, by rw [Hqlpa.out], by rw [Hqlpa.out]; exact hcp1, by rw [Hqlpa.out]; exact hn1b, rdR_of_own hp1b⟩
              have HP2 : Hid (IsR wpb (fun i => wq.heap.size ≤ i ∧ i < wpb.heap.size) (.slice Ap2 n2 cp2) qpb) := ⟨Ap2, cp2, by rw [Hqlpb.out], by rw [Hqlpb.out]; exact hcp2, by rw [Hqlpb.out]; exact hn2b, (rdR_of_own Hqopb.out).mono (fun i hi => ⟨by omega, hi.2⟩)⟩
              have Hsqb : Hid (wq.heap.size ≤ wpb.heap.size) := by exact (by omega : wq.heap.size ≤ wpb.heap.size)
              have HMlq : Hid (∀ i, M i → i < wq.heap.size) := HLq.out.fs.ml
              have HRlq : Hid (∀ i, R i → i < wq.heap.size) := HLq.out.fs.rl
              have hst := kstate HLf.out.fs HIq.out (by omega) HOn.out.1
              have HStt := Lib.hid hst
              clear hcAll hN0 hmq hp1b hst hsq hsx hsa hsb
              refine HStt.out.mono ?_
              rintro e wg ⟨vw, rfl, how, hbg⟩
              have HRW := Lib.hid (sos_of_own how rfl)
              have HBg := Lib.hid hbg
              have HLg := Lib.hid (HLf.out.on hbg)
              obtain ⟨Avw, cvw, rfl, _, _, _⟩ := own_slice how
              have hcp := kcopy HLg.out.fs HIq.out (by omega)
              have HCp := Lib.hid hcp
              clear how hbg hcp HStt
              go_wp2_with fail
              refine HCp.out.mono ?_
              rintro e wh ⟨A2', M2, rfl, hcm, hbh, hM2⟩
              have HLc := Lib.hid (show FLive w wh A2' M2 R s from ⟨hcm, HLg.out.below.trans (hbh.mono HLg.out.below.size), fun i hi => by have := hM2 i hi; have := HLg.out.below.size; omega, HLg.out.newR⟩)
              have HBh := Lib.hid hbh
              have HM2 := Lib.hid hM2
              have HKl := Lib.hid (klist HLc.out.fs HOn.out.1)
              clear hcm hbh hM2 HCp
              go_wp2_with fail
              refine HKl.out.mono ?_
              rintro e wi ⟨vi, rfl, hoi, hbi⟩
              have HBi := Lib.hid hbi
              have HLi := Lib.hid (HLc.out.on hbi)
              obtain ⟨m, hm⟩ : ∃ m, m = (namesL s.dir.now).length := ⟨_, rfl⟩
              rw [← hm] at hoi
              have hE := sos_of_own hoi hm
              obtain ⟨Avi, cvi, rfl, hcvi, _, _⟩ := own_slice hoi
              have hmn : m = s.dir.now.length := by rw [hm]; simp [namesL]
              have hmb61 : m ≤ 61 := by
                have h8 := HIq.out.few
                have h6 : s.dir.now.length ≤ s.dir.safe.length + s.dir.deeds.length := doAll_length s.dir.deeds s.dir.safe
                unfold PSt.big at h8
                omega
              have HE := Lib.hid hE
              have Hm := Lib.hid hm
              have Hmn := Lib.hid hmn
              have HMl2 : Hid (∀ i, M2 i → wg.heap.size ≤ i ∧ i < wh.heap.size) := fun i e => ⟨HM2.out i e, HLc.out.fs.ml i e⟩
              clear hoi hbi hE hm hmn HKl
              go_wp2_with fail
              go_loopw [104] (fun i wr2 => ∃ (k : Nat) (M' R' : Nat → Prop) (sA : FsP), k ≤ m ∧ i = .int .i64 k ∧ FLive w wr2 A2' M' R' sA ∧ SyncI s sA k ∧ FInv sA 60 3600 ∧ sA.steps ≤ 60 + k ∧ Chg (fun i => (wg.heap.size ≤ i ∧ i < wh.heap.size) ∨ wi.heap.size ≤ i) wi wr2 ∧ ∀ i, M' i → (wg.heap.size ≤ i ∧ i < wh.heap.size) ∨ wi.heap.size ≤ i) (fun i _ => m - (intOf i).toNat)
              case atStart => exact ⟨0, M2, R, s, by omega, rfl, HLi.out, SyncI.start HOn.out, HIq.out, by have := HSt.out; omega, Chg.refl, fun i e => .inl (HMl2.out i e)⟩
              case round =>
                obtain ⟨k, M', R', sA, hk, rfl, hla, hsy, hia, hsa, hca, hma⟩ := hrel
                have HLa := Lib.hid hla
                have HSy := Lib.hid hsy
                have HIa := Lib.hid hia
                have HSa := Lib.hid hsa
                have HCa := Lib.hid hca
                have HMa := Lib.hid hma
                clear hla hsy hia hsa hca hma
                by_cases hkm : k < m
                · have dm : decide ((k : Int) < (m : Int)) = true := decide_eq_true (by omega)
                  obtain ⟨x, hx⟩ : ∃ x, s.dir.now[k]? = some x := ⟨s.dir.now[k]'(by have := Hmn.out; omega), List.getElem?_eq_getElem _⟩
                  have hxn : (namesL s.dir.now)[k]? = some x.1 := by unfold namesL; rw [List.getElem?_map, hx]; rfl
                  obtain ⟨b5, o5, rfl, hb5, e0⟩ := (HE.out.chg HCa.out (fun i hi e => by have h8 := e.1; have h7 := e.2; rcases hi with hi | hi <;> omega)).at_ rfl hxn
                  have hxm := List.mem_of_getElem? hx
                  obtain ⟨y1, y2, y3⟩ := HSy.out.next HIa.out hx HIq.out.dir.now.1 (HIq.out.ino.now.1 x hxm).1
                  have hcon := ksync (nm := x.1) (nm7 (HIq.out.dir.now.2 x hxm).1) HLa.out.fs HIa.out (by omega) (by have := HSa.out; omega)
                  rw [y1] at hcon
                  have HCon := Lib.hid hcon
                  have HY2 := Lib.hid y2
                  have HY3 := Lib.hid y3
                  have HY4 := Lib.hid (stepF_steps sA (syncK x.1) (fun _ => onF_steps _ _ _))
                  clear hx hxn hb5 hxm y1 y2 y3 hcon
                  go_wp2_with fail
                  refine HCon.out.mono ?_
                  rintro e w9 ⟨rfl, hmut⟩
                  obtain ⟨M9, R9, h9, hg9, h91, h92⟩ := HLa.out.step hmut
                  have H9 := Lib.hid h9
                  have hcs := HCa.out.size
                  have HC9 := Lib.hid (HCa.out.trans hg9 (fun i e => .inl (HMa.out i e)))
                  have HM9 : Hid (∀ i, M9 i → (wg.heap.size ≤ i ∧ i < wh.heap.size) ∨ wi.heap.size ≤ i) := fun i e => (h91 i e).elim (HMa.out i) (fun e => .inr (by omega))
                  clear hmut h9 hg9 h91 h92 hcs HCon
                  go_wp2_with fail
                  go_roundw
                  case rel => exact ⟨k + 1, M9, R9, _, by omega, by go_num, H9.out, HY2.out, HY3.out, by have := HY4.out; have := HSa.out; omega, HC9.out, HM9.out⟩
                  case measure => simp [intOf]; omega
                · have dm : decide ((k : Int) < (m : Int)) = false := decide_eq_false (by omega)
                  have hkk : k = s.dir.now.length := by have := Hmn.out; omega
                  have hsy := HSy.out
                  rw [hkk] at hsy
                  obtain ⟨y1, y2, y3⟩ := hsy.done
                  have hcon := ksyncdir HLa.out.fs HIa.out (by omega) (by omega) (by have := HSa.out; omega)
                  rw [y1] at hcon
                  have HCon := Lib.hid hcon
                  have hIB := HIa.out.c_syncdir (by omega)
                  have hoB : (stepF sA syncDirK).2.off = false := by rw [HSy.out.on.step]; exact HSy.out.on.begin_on.1
                  obtain ⟨sB, hsB⟩ : ∃ sB, sB = (stepF sA syncDirK).2 := ⟨_, rfl⟩
                  rw [← hsB] at y2 y3 hIB hoB
                  have HCon2 : Hid (Calls Tryz.prog 12 #[.pointer (some ⟨A2', 0, none⟩)] wr fun e w' => e = .returned (.int .i64 0) ∧ FsMut wr w' A2' sB.used M' R' sB) := by rw [hsB]; exact hcon
                  have HStl := Lib.hid y2
                  have HSeq := Lib.hid y3
                  have HIB := Lib.hid hIB
                  have HOB := Lib.hid hoB
                  clear hkk hsy y1 y2 y3 hcon hIB hoB hsB HCon
                  go_wp2_with fail
                  refine HCon2.out.mono ?_
                  rintro e wj ⟨rfl, hmut⟩
                  obtain ⟨Mj, Rj, hj_, hgj, hj1, hj2⟩ := HLa.out.step hmut
                  have HLj := Lib.hid hj_
                  have hgs := HBg.out.size
                  have hhs := HBh.out.size
                  have his := HBi.out.size
                  have hcs := HCa.out.size
                  have HTj : Hid (Chg (fun i => wpb.heap.size ≤ i) wpb wj) := (((((Chg.of_below (M := fun i => wpb.heap.size ≤ i) HBg.out).trans (Chg.of_below (M := fun _ => False) HBh.out) (fun i e => e.elim)).trans (Chg.of_below (M := fun _ => False) HBi.out) (fun i e => e.elim)).trans HCa.out (fun i e => .inl (by rcases e with e | e <;> omega))).trans hgj (fun i e => .inl (by rcases HMa.out i e with e | e <;> omega)))
                  have HGj : Hid (Chg (fun i => wg.heap.size ≤ i) wg wj) := ((((Chg.of_below (M := fun i => wg.heap.size ≤ i) HBh.out).trans (Chg.of_below (M := fun _ => False) HBi.out) (fun i e => e.elim)).trans HCa.out (fun i e => .inl (by rcases e with e | e <;> omega))).trans hgj (fun i e => .inl (by rcases HMa.out i e with e | e <;> omega)))
                  have HMj : Hid (∀ i, Mj i → wg.heap.size ≤ i) := fun i e => (hj1 i e).elim (fun e => by rcases HMa.out i e with e | e <;> omega) (fun e => by omega)
                  have hP2j := HP2.out.chg HTj.out (fun i hi e => by have h8 := e.2; omega)
                  have hcon := kcrash HLj.out.fs HIB.out (by omega) (by omega) hP2j (fun i hi e => by have := HMj.out i hi; have h8 := e.2; omega) (fun i e => Nat.lt_of_lt_of_le e.2 HTj.out.size) Hanypb.out
                  have hst2 := crash_still HIB.out HStl.out qpb Hanypb.out
                  have hIC := HIB.out.crashK_ qpb
                  have hoC : (crashK sB qpb).2.off = false := by unfold crashK; rw [if_neg (by simp [Hanypb.out])]
                  obtain ⟨sC, hsC⟩ : ∃ sC, sC = (crashK sB qpb).2 := ⟨_, rfl⟩
                  rw [← hsC] at hst2 hIC hoC
                  have HCon3 : Hid (Calls Tryz.prog 14 #[.pointer (some ⟨A2', 0, none⟩), .slice Ap2 n2 cp2] wj fun e w' => e = .returned (.int .i64 0) ∧ FsMut wj w' A2' sC.used Mj Rj sC) := by rw [hsC]; exact hcon
                  have HSeq2 : Hid (stN sC.file sC.dir.now = stN s.file s.dir.now) := stN_state (hst2.trans HSeq.out)
                  have HIC := Lib.hid hIC
                  have HOC := Lib.hid hoC
                  have Hsz1 : Hid (wpb.heap.size ≤ wg.heap.size ∧ wg.heap.size ≤ wj.heap.size) := ⟨hgs, HGj.out.size⟩
                  clear hmut hj_ hgj hj1 hj2 hgs hhs his hcs hP2j hcon hst2 hIC hoC hsC HCon2
                  go_wp2_with fail
                  refine HCon3.out.mono ?_
                  rintro e wk ⟨rfl, hmut⟩
                  obtain ⟨Mk, Rk, hk_, hgk, hk1, hk2⟩ := HLj.out.step hmut
                  have HLk := Lib.hid hk_
                  have HTk := Lib.hid (HTj.out.trans hgk (fun i e => .inl (by have := HMj.out i e; have := Hsz1.out.1; omega)))
                  have HGk := Lib.hid (HGj.out.trans hgk (fun i e => .inl (HMj.out i e)))
                  have hst := kstate HLk.out.fs HIC.out (by omega) HOC.out
                  rw [HSeq2.out] at hst
                  have HStt := Lib.hid hst
                  clear hmut hk_ hgk hk1 hk2 hst HCon3
                  go_wp2_with fail
                  refine HStt.out.mono ?_
                  rintro e wl ⟨vl, rfl, hol, hbl⟩
                  have HTl := Lib.hid (HTk.out.trans (Chg.of_below (M := fun _ => False) hbl) (fun i e => e.elim))
                  have hRl := HRW.out.chg (HGk.out.trans (Chg.of_below (M := fun _ => False) hbl) (fun i e => e.elim)) (fun i hi e => by have h8 := e.2; omega)
                  have hslen : (stN s.file s.dir.now).length ≤ 1000000 := by rw [stN_length]; have := Hmn.out; omega
                  have hEq := hequalS (sos_of_own hol rfl) hRl hslen
                  have HEq := Lib.hid hEq
                  have Hslen := Lib.hid hslen
                  obtain ⟨Avl, cvl, rfl, _, _, _⟩ := own_slice hol
                  clear hol hbl hRl hslen hEq HStt
                  go_wp2_with fail
                  refine HEq.out.mono ?_
                  rintro e wm ⟨rfl, hbm⟩
                  have HTm := Lib.hid (HTl.out.trans (Chg.of_below (M := fun _ => False) hbm) (fun i e => e.elim))
                  have HLm := Lib.hid (HLf.out.chg HTm.out (fun i hi => ⟨fun e => by have := HMlq.out i e; have := Hsqb.out; omega, fun e => by have := HRlq.out i e; have := Hsqb.out; omega, by have := HLf.out.below.size; omega⟩))
                  have HMm := Lib.hid (HMf.out.chg HTm.out (fun e => by have := Hmq.out; have := Hsqb.out; omega))
                  have HP1m := Lib.hid (HP1.out.chg HTm.out (fun i hi e => by have h8 := e.2; omega))
                  have HP2m := Lib.hid (HP2.out.chg HTm.out (fun i hi e => by have h8 := e.2; omega))
                  have hcon := kcrash HLm.out.fs HIq.out (by omega) (by omega) HP1m.out (fun i hi e => by have := HMlq.out i hi; have h8 := e.1; omega) (fun i e => Nat.lt_of_lt_of_le e.2 HTm.out.size) Hanypa.out
                  have hID := HIq.out.crashK_ qpa
                  have hoD : (crashK s qpa).2.off = false := by unfold crashK; rw [if_neg (by simp [Hanypa.out])]
                  have hsD := crash_makes_still s qpa Hanypa.out
                  have hnD := crash_names HNm.out qpa Hanypa.out
                  obtain ⟨sD, hsDe⟩ : ∃ sD, sD = (crashK s qpa).2 := ⟨_, rfl⟩
                  rw [← hsDe] at hID hoD hsD hnD
                  have HCon4 : Hid (Calls Tryz.prog 14 #[.pointer (some ⟨A, 0, none⟩), .slice Ap1 n1 cp1] wm fun e w' => e = .returned (.int .i64 0) ∧ FsMut wm w' A sD.used M R sD) := by rw [hsDe]; exact hcon
                  have HID := Lib.hid hID
                  have HOD := Lib.hid hoD
                  have HSD := Lib.hid hsD
                  have HND := Lib.hid hnD
                  clear hbm hcon hID hoD hsD hnD hsDe HEq
                  go_wp2_with fail
                  refine HCon4.out.mono ?_
                  rintro e wn ⟨rfl, hmut⟩
                  obtain ⟨Mn, Rn, hn_, hgn, hn_1, hn_2⟩ := HLm.out.step hmut
                  have HLn := Lib.hid hn_
                  have HMn := Lib.hid (HMm.out.chg hgn HAp.out.1)
                  have HP2n := Lib.hid (HP2m.out.chg hgn (fun i hi e => by have := HMlq.out i hi; have h8 := e.1; omega))
                  have HMn1 : Hid (∀ i, Mn i → i < wq.heap.size ∨ wpb.heap.size ≤ i) := fun i e => (hn_1 i e).elim (fun e => .inl (HMlq.out i e)) (fun e => .inr (by have := HTm.out.size; omega))
                  have HMnl : Hid (∀ i, Mn i → i < wn.heap.size) := HLn.out.fs.ml
                  have hTs := HTm.out.size
                  have Hwn : Hid (wpb.heap.size ≤ wn.heap.size) := Nat.le_trans hTs hgn.size
                  have hst := kstate HLn.out.fs HID.out (by omega) HOD.out
                  have HStt := Lib.hid hst
                  clear hmut hn_ hgn hn_1 hn_2 hst hTs HCon4
                  go_wp2_with fail
                  refine HStt.out.mono ?_
                  rintro e wo ⟨vo, rfl, hoo, hbo⟩
                  have HRo := Lib.hid (sos_of_own hoo rfl)
                  have HLo := Lib.hid (HLn.out.on hbo)
                  have HMo := Lib.hid (HMn.out.on hbo)
                  have HP2o := Lib.hid (HP2n.out.on hbo)
                  obtain ⟨Avo, cvo, rfl, _, _, _⟩ := own_slice hoo
                  have Hso := Lib.hid hbo.size
                  have HKl := Lib.hid (klist HLo.out.fs HOD.out)
                  clear hoo hbo HStt
                  go_wp2_with fail
                  refine HKl.out.mono ?_
                  rintro e wp ⟨vp, rfl, hop, hbp⟩
                  have HLp := Lib.hid (HLo.out.on hbp)
                  have HMp2 := Lib.hid (HMo.out.on hbp)
                  have HP2p := Lib.hid (HP2o.out.on hbp)
                  have HRp := Lib.hid (HRo.out.on hbp)
                  have Hsp := Lib.hid hbp.size
                  obtain ⟨m2, hm2⟩ : ∃ m2, m2 = (namesL sD.dir.now).length := ⟨_, rfl⟩
                  rw [← hm2] at hop
                  have hE2 := sos_of_own hop hm2
                  obtain ⟨Avp, cvp, rfl, hcvp, _, _⟩ := own_slice hop
                  have hm2b : m2 ≤ 100 := by
                    have h8 := HID.out.few
                    have h6 : sD.dir.now.length ≤ sD.dir.safe.length + sD.dir.deeds.length := doAll_length sD.dir.deeds sD.dir.safe
                    unfold PSt.big at h8
                    rw [hm2]
                    unfold namesL
                    rw [List.length_map]
                    omega
                  have HE2 := Lib.hid hE2
                  have Hm2 := Lib.hid hm2
                  clear hop hbp hE2 hm2 HKl
                  go_wp2_with fail
                  go_loopw [138] (fun i wr2 => ∃ k : Nat, k ≤ m2 ∧ i = .int .i64 k ∧ wp = wr2) (fun i _ => m2 - (intOf i).toNat)
                  case atStart => exact ⟨0, by omega, rfl, rfl⟩
                  case round =>
                    obtain ⟨k2, hk2, rfl, rfl⟩ := hrel
                    by_cases hkm2 : k2 < m2
                    · have dm2 : decide ((k2 : Int) < (m2 : Int)) = true := decide_eq_true (by omega)
                      obtain ⟨x, hx⟩ : ∃ x, (namesL sD.dir.now)[k2]? = some x := ⟨(namesL sD.dir.now)[k2]'(by have := Hm2.out; omega), List.getElem?_eq_getElem _⟩
                      obtain ⟨b5, o5, rfl, hb5, e0⟩ := HE2.out.at_ rfl hx
                      obtain ⟨y, hy, hyx⟩ : ∃ y, y ∈ sD.dir.now ∧ y.1 = x := by
                        have hxm := List.mem_of_getElem? hx
                        unfold namesL at hxm
                        exact List.mem_map.1 hxm
                      subst hyx
                      have hlk := HMp2.out.look (nm7 (HID.out.dir.now.2 y hy).1) (HND.out y hy)
                      clear hx hb5 hy
                      go_wp2_with fail
                      go_roundw
                      case rel => exact ⟨k2 + 1, by omega, by go_num, by first | trivial | rfl⟩
                      case measure => simp [intOf]; omega
                    · have dm2 : decide ((k2 : Int) < (m2 : Int)) = false := decide_eq_false (by omega)
                      have hcon := kcrash HLp.out.fs HID.out (by omega) (by omega) HP2p.out (fun i hi e => by have h8 := e.1; have h7 := e.2; rcases HMn1.out i hi with h6 | h6 <;> omega) (fun i e => by have h7 := e.2; have := Hwn.out; have := Hso.out; have := Hsp.out; omega) Hanypb.out
                      have hst2 := crash_still HID.out HSD.out qpb Hanypb.out
                      have hIE := HID.out.crashK_ qpb
                      have hoE : (crashK sD qpb).2.off = false := by unfold crashK; rw [if_neg (by simp [Hanypb.out])]
                      obtain ⟨sE, hsE⟩ : ∃ sE, sE = (crashK sD qpb).2 := ⟨_, rfl⟩
                      rw [← hsE] at hst2 hIE hoE
                      have HCon5 : Hid (Calls Tryz.prog 14 #[.pointer (some ⟨A, 0, none⟩), .slice Ap2 n2 cp2] wp fun e w' => e = .returned (.int .i64 0) ∧ FsMut wp w' A sE.used Mn Rn sE) := by rw [hsE]; exact hcon
                      have HSeqE : Hid (stN sE.file sE.dir.now = stN sD.file sD.dir.now) := stN_state hst2
                      have HIE := Lib.hid hIE
                      have HOE := Lib.hid hoE
                      clear hcon hst2 hIE hoE hsE
                      go_wp2_with fail
                      refine HCon5.out.mono ?_
                      rintro e wz ⟨rfl, hmut⟩
                      obtain ⟨Mz, Rz, hz_, hgz, _, _⟩ := HLp.out.step hmut
                      have HLz := Lib.hid hz_
                      have HRz := Lib.hid (HRp.out.chg hgz (fun i hi e => by have h8 := e.1; have := HMnl.out i hi; omega))
                      have hst := kstate HLz.out.fs HIE.out (by omega) HOE.out
                      rw [HSeqE.out] at hst
                      have HStt := Lib.hid hst
                      clear hmut hz_ hgz hst HCon5
                      go_wp2_with fail
                      refine HStt.out.mono ?_
                      rintro e wy9 ⟨vy, rfl, hoy, hby⟩
                      have hlen9 : (stN sD.file sD.dir.now).length ≤ 1000000 := by rw [stN_length]; have h8 := Hm2.out; unfold namesL at h8; rw [List.length_map] at h8; omega
                      have hEq := hequalS (sos_of_own hoy rfl) (HRz.out.on hby) hlen9
                      have HEq := Lib.hid hEq
                      have HBz := Lib.hid (HLz.out.below.trans (hby.mono HLz.out.below.size))
                      obtain ⟨Avy, cvy, rfl, _, _, _⟩ := own_slice hoy
                      clear hoy hby hlen9 hEq HStt
                      go_wp2_with fail
                      refine HEq.out.mono ?_
                      rintro e wfin ⟨rfl, hbf⟩
                      have HBfin := Lib.hid (HBz.out.trans (hbf.mono HBz.out.size))
                      clear hbf
                      go_wp2_with fail
                      go_ret
                      exact ⟨rfl, HBfin.out⟩
end fsCrashes
end Go.Proofs.YtboeiadfmknidaaGreat
