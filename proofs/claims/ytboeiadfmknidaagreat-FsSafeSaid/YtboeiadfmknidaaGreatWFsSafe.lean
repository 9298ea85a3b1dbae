
/-
  FsSafe: the walk.
-/
import Derived.Test.YtboeiadfmknidaaGreatJfDoes
import Derived.Test.YtboeiadfmknidaaGreatFxDoes
set_option linter.unusedVariables false
set_option linter.unusedSimpArgs false
namespace Go.Proofs.YtboeiadfmknidaaGreat
open Go.RowKit Go.Maps
theorem Bs_of_in {w wk : World} {v : Value} {l : List UInt8} (h : BsIn w (fun i => i < w.heap.size) v l) (hb : Below w.heap.size w wk) : Bs wk w.heap.size v l := by
  obtain ⟨A, c, e, hc, hr⟩ := h.chg (Chg.of_below (M := fun _ => False) hb) (fun i e => e.elim)
  exact ⟨A, c, e, hc, fun hx => by
    obtain ⟨b, o, e2, hb, hcs⟩ := hr hx
    exact ⟨b, o, e2, hb, hcs⟩⟩
/-- a row of bytes apart from a file system -/
structure WholeAt (base : Nat) (wk : World) (M R : Nat → Prop) (v : Value) (l : List UInt8) : Prop where
  own : wk.ownsRow base 5 1 v l.length (bvs l)
  ap : ∀ g, v.ownBlock = some g → ¬ M g ∧ ¬ R g
theorem WholeAt.on {base : Nat} {wk w' : World} {M R : Nat → Prop} {v : Value} {l : List UInt8} (h : WholeAt base wk M R v l) (hb : Below wk.heap.size wk w') : WholeAt base w' M R v l :=
  ⟨(Chg.of_below (M := fun _ => False) hb).own h.own (fun g hg e => e), h.ap⟩
theorem WholeAt.step {base : Nat} {wk w' : World} {M R M' R' : Nat → Prop} {v : Value} {l : List UInt8} (h : WholeAt base wk M R v l) (hc : Chg M wk w') (h1 : ∀ i, M' i → M i ∨ wk.heap.size ≤ i) (h2 : ∀ i, R' i → R i ∨ wk.heap.size ≤ i) : WholeAt base w' M' R' v l :=
  ⟨hc.own h.own (fun g hg => (h.ap g hg).1), fun g hg => ⟨fun e => (h1 g e).elim (h.ap g hg).1 (fun e => by have := (h.own.lt g hg).2; omega), fun e => (h2 g e).elim (h.ap g hg).2 (fun e => by have := (h.own.lt g hg).2; omega)⟩⟩
theorem mask_step {w : World} {base n g cap : Nat} {q : List Int} (h : w.ownsRow base 3 1 (.slice (some ⟨g, 0, none⟩) n cap) n (ivs q)) {k : Nat} {x : Int} (hx : q[k]? = some x) (O : Int) :
    w.cell? ⟨g, k, none⟩ = some (.int .i64 x) ∧ w.frozen? ⟨g, k, none⟩ = false ∧ (w.setCell ⟨g, k, none⟩ (.int .i64 O)).ownsRow base 3 1 (.slice (some ⟨g, 0, none⟩) n cap) n (ivs (q.set k O)) ∧ base ≤ g := by
  have g1 : (ivs q)[k]? = some (.int .i64 x) := by unfold ivs; rw [List.getElem?_map, hx]; rfl
  obtain ⟨b, o, e, _, hc⟩ := Rd.of_own h (by intro e; rw [e] at g1; simp at g1)
  injection e with e
  injection e with e1 e2
  subst e1 e2
  have h1 := hc k _ g1
  rw [Nat.zero_add] at h1
  have h2 := (h.stored k (.int .i64 O)).1
  refine ⟨h1, h.frozenAt k, ?_, (h.lt _ rfl).1⟩
  unfold ivs at h2 ⊢
  rw [List.map_set]
  exact h2
theorem any_set_take {q : List Int} {k : Nat} {O : Int} (hk : k < q.length) (hO : 0 ≤ O) (h : (q.take k).any (· < 0) = false) : ((q.set k O).take (k + 1)).any (· < 0) = false := by
  have h1 : (q.set k O)[k]? = some O := by rw [List.getElem?_set_self hk]
  rw [take_next6 h1, List.any_append, List.take_set_of_le (Nat.le_refl k), h]
  simp
  omega
namespace fsSafe

set_option maxRecDepth 100000 in
set_option maxHeartbeats 16000000 in
theorem walk (v0 : Value) (l0 : List Act7) (v1 : Value) (z1 : List Int) (v2 : Value) (z2 : List Int) (w : World) (hl0 : Acts7 w w.heap.size v0 l0) (w1 : Ints w w.heap.size .u8 v1 z1) (g1 : ∀ n ∈ z1, (Lit.int .u8 n).wf = true) (s1 : z1.length * 1 ≤ 140737488351232) (w2 : Ints w w.heap.size .i64 v2 z2) (g2 : ∀ n ∈ z2, (Lit.int .i64 n).wf = true) (s2 : z2.length * 8 ≤ 140737488351232) :
    Calls Tryz.prog 3 #[v0, v1, v2] w fun e w' => e = .returned (.bool true) ∧ Below w.heap.size w w' := by
  have hbs := bs_of_ints w1 (fun z hz => bounds_u8 (g1 z hz))
  generalize hzb : z1.map _ = bl at hbs
  have hbl : bl.length = z1.length := by rw [← hzb, List.length_map]
  clear hzb w1 g1
  have hbi := hbs.inB
  obtain ⟨A1, c1, rfl, hc1, _⟩ := hbs
  obtain ⟨n1, hn1⟩ : ∃ n, n = bl.length := ⟨_, rfl⟩
  rw [← hn1] at hbi hc1 ⊢
  obtain ⟨k1, hk1⟩ : ∃ k, k = min n1 60 := ⟨_, rfl⟩
  have hmin1 : min (n1 : Int) 60 = (k1 : Int) := by omega
  have hcut1 := cut_h A1 n1 c1 k1 (by omega)
  have hb1 := BsIn.take hbi (k := k1) (by omega)
  obtain ⟨b, hb⟩ : ∃ b, b = bl.take k1 := ⟨_, rfl⟩
  have hbk : b.length = k1 := by rw [hb, List.length_take]; omega
  rw [← hb] at hb1
  have HBs := Lib.hid hb1
  have Hbk := Lib.hid hbk
  have hk160 : k1 ≤ 60 := by omega
  have HL0 := Lib.hid hl0
  obtain ⟨A0, c0, rfl, hc0, hm0, hx0⟩ := hl0
  obtain ⟨n0, hn0⟩ : ∃ n, n = l0.length := ⟨_, rfl⟩
  rw [← hn0] at hc0 HL0 ⊢
  have hm0' : n0 ≤ 9223372036854775807 := by unfold maxLen at hm0; omega
  obtain ⟨k0, hk0⟩ : ∃ k, k = min n0 60 := ⟨_, rfl⟩
  have hmin0 : min (n0 : Int) 60 = (k0 : Int) := by omega
  have hcut0 := run_cutA_h A0 n0 c0 k0 (by omega)
  obtain ⟨hf, hhf⟩ : ∃ h, h = k0 / 2 := ⟨_, rfl⟩
  have hq1 : (k0 : Int).tdiv 2 = (hf : Int) := by rw [Int.tdiv_eq_ediv_of_nonneg (by omega), hhf]; push_cast; rfl
  have hq2 : (k0 : Int) / 2 = (hf : Int) := by rw [hhf]; push_cast; rfl
  have hcut2 := run_cutA_h A0 k0 c0 hf (by omega)
  have hLk := HL0.out.take (k := k0) (by omega)
  obtain ⟨rr, hrr⟩ : ∃ r, k0 = hf + r := ⟨k0 - hf, by omega⟩
  obtain ⟨A3, c3, hcut3, hL3⟩ := hLk.drop hrr
  have hL2 := hLk.take (k := hf) (by omega)
  have HLk := Lib.hid hL2
  have HL3 := Lib.hid hL3
  obtain ⟨l2, hl2⟩ : ∃ l2, l2 = (l0.take k0).take hf := ⟨_, rfl⟩
  obtain ⟨l3, hl3⟩ : ∃ l3, l3 = (l0.take k0).drop hf := ⟨_, rfl⟩
  have hl2l : l2.length = hf := by rw [hl2, List.length_take, List.length_take]; omega
  have hl3l : l3.length = rr := by rw [hl3, List.length_drop, List.length_take]; omega
  rw [← hl2] at HLk
  rw [← hl3] at HL3
  have Hl2 := Lib.hid hl2l
  have Hl3 := Lib.hid hl3l
  have hkb : k0 ≤ 60 := by omega
  have hhb : hf ≤ 30 := by omega
  have hrb : rr ≤ 60 := by omega
  have Hk0 := Lib.hid hrr
  have W2 := Lib.hid w2
  have S2 := Lib.hid s2
  obtain ⟨A2, c2, rfl, hc2, _⟩ := w2
  obtain ⟨n2, hn2⟩ : ∃ n, n = z2.length := ⟨_, rfl⟩
  rw [← hn2] at W2 S2 hc2 ⊢
  have Hn2 := Lib.hid hn2
  clear hl2 hl3 hl2l hl3l hL2 hL3 hLk hhf hk0 hn0 hm0 hx0 hb hbk hb1 hbi hk1 hn1 hbl s1 s2 g2 hrr hn2
  go_enter Tryz.func3, Tryz.ntmps3
  go_wp2_with fail
  refine (knew w 1073741824 (by decide)).mono ?_
  rintro e wa ⟨A, M0, rfl, hm, hb, hM⟩
  have HL := Lib.hid (show FLive w wa A M0 (fun _ => False) (FsP.new 1073741824) from ⟨hm, hb, hM, fun i e => e.elim⟩)
  clear hm hb hM
  go_wp2_with fail
  refine (kwakes wa).mono ?_
  rintro e wb ⟨rfl, hb⟩
  have HLb := Lib.hid (HL.out.on hb)
  clear hb HL
  go_wp2_with fail
  go_loopw [48] (fun i wr => ∃ (j : Nat) (M R : Nat → Prop) (s : FsP), j ≤ hf ∧ i = .int .i64 j ∧ FLive w wr A M R s ∧ Ahead s j) (fun i _ => hf - (intOf i).toNat)
  case atStart => exact ⟨0, M0, _, _, by omega, rfl, HLb.out, Ahead.new⟩
  case round =>
    obtain ⟨j, M, R, s, hj, rfl, hlive, hah⟩ := hrel
    have HLv := Lib.hid hlive
    have HAh := Lib.hid hah
    clear hlive hah HLb
    by_cases hgo : j < hf
    · have d1 : decide ((j : Int) < (hf : Int)) = true := decide_eq_true (by omega)
      obtain ⟨c, hc⟩ : ∃ c, l2[j]? = some c := ⟨l2[j]'(by have := Hl2.out; omega), List.getElem?_eq_getElem _⟩
      obtain ⟨bb, oo, Ab, cb, Ap, cpp, rfl, hok, hbB, a0, a1, a2, a3, a4, a5, a6⟩ := HLk.out.at_ HLv.out.below rfl hc
      have Hok := Lib.hid hok
      clear hok hc hbB
      have hlen5 : ∃ nb, nb = c.b.length := ⟨_, rfl⟩
      have hlen6 : ∃ np, np = c.picks.length := ⟨_, rfl⟩
      by_cases q1 : c.name = nS
      · obtain ⟨e1, e1'⟩ := eqS q1
        clear q1
        go_wp2_with fail
        go_roundw
        case rel => exact ⟨j + 1, M, R, s, by omega, by go_num, HLv.out.on ((Below.refl _ _).alloc (Nat.le_refl _) _), HAh.out.mono (by omega)⟩
        case measure => simp [intOf]; omega
      · obtain ⟨e1, e1'⟩ := neS q1
        have Q1 := Lib.hid q1
        clear q1
        by_cases q2 : c.dst = nS
        · obtain ⟨e2, e2'⟩ := eqS q2
          clear q2
          go_wp2_with fail
          go_roundw
          case rel => exact ⟨j + 1, M, R, s, by omega, by go_num, HLv.out.on ((Below.refl _ _).alloc (Nat.le_refl _) _), HAh.out.mono (by omega)⟩
          case measure => simp [intOf]; omega
        · obtain ⟨e2, e2'⟩ := neS q2
          have Q2 := Lib.hid q2
          clear q2
          by_cases q3 : c.what = 9
          · have d9 : decide (c.what = 9) = true := decide_eq_true q3
            have d9' : (c.what != 9) = false := by simp [q3]
            go_wp2_with fail
            go_roundw
            case rel => exact ⟨j + 1, M, R, s, by omega, by go_num, HLv.out.on ((Below.refl _ _).alloc (Nat.le_refl _) _), HAh.out.mono (by omega)⟩
            case measure => simp [intOf]; omega
          · have d9 : decide (c.what = 9) = false := decide_eq_false q3
            have d9' : (c.what != 9) = true := by simp [q3]
            have Q3 := Lib.hid q3
            obtain ⟨wc, hwc⟩ : ∃ wc, wc = wr.alloc (.cells #[.int .i64 c.what, .string c.name, .string c.dst, .int .i64 c.n, .int .i64 c.m, .slice Ab c.b.length cb, .slice Ap c.picks.length cpp] 31) := ⟨_, rfl⟩
            have hbc : Below wr.heap.size wr wc := by rw [hwc]; exact (Below.refl _ _).alloc (Nat.le_refl _) _
            have hLc := HLv.out.on hbc
            have HLc := Lib.hid hLc
            have hcon := kdoes (a := c) hLc.fs HAh.out.inv (by omega) (by omega) (by have := HAh.out.steps; omega) (Hok.out.on hbc) (fun i hi e => by have := hLc.newM i hi; omega) (fun i e => Nat.lt_of_lt_of_le e hLc.below.size)
            unfold act7V at hcon
            have HCon := Lib.hid hcon
            clear hbc hLc hcon q3
            go_wp2_with fail
            rw [← hwc]
            clear hwc
            refine HCon.out.mono ?_
            rintro e w9 ⟨rfl, hmut⟩
            obtain ⟨M9, R9, h9⟩ := HLc.out.step_ hmut
            have H9 := Lib.hid h9
            have hA9 := HAh.out.doF (by omega) Q1.out Q2.out Q3.out
            have HA9 := Lib.hid hA9
            clear hmut h9 hA9 HCon
            go_wp2_with fail
            go_roundw
            case rel => exact ⟨j + 1, M9, R9, _, by omega, by go_num, H9.out, HA9.out⟩
            case measure => simp [intOf]; omega
    · have d1 : decide ((j : Int) < (hf : Int)) = false := decide_eq_false (by omega)
      have hAhm := HAh.out.mono (show j ≤ 30 by omega)
      have HAm := Lib.hid hAhm
      have hcre := hAhm.create (by omega)
      have hcon := kcreate (nm := nS) (nm7 (by decide)) HLv.out.fs hAhm.inv (by omega) (by omega) (by have := hAhm.steps; omega)
      rcases hcre with h7 | ⟨h0, hlit, hinv, hst, hdir, hfile⟩
      · rw [h7] at hcon
        have HCon := Lib.hid hcon
        clear hcon h7 hAhm
        go_wp2_with fail
        refine HCon.out.mono ?_
        rintro e w9 ⟨rfl, hmut⟩
        obtain ⟨M9, R9, h9⟩ := HLv.out.step_ hmut
        have HB := Lib.hid h9.below
        clear hmut h9 HCon
        go_wp2_with fail
        go_ret
        exact ⟨rfl, HB.out⟩
      · rw [h0] at hcon
        have HCon := Lib.hid hcon
        clear hcon
        have hk : findL (stepF s (createK nS)).2.dir.now nS = some (s.dir.last + 1) := by
          rw [hdir]
          unfold PSt.made
          rw [PSt.push_now]
          exact findL_with_same hAhm.inv.dir.now.1 nS _
        obtain ⟨i0, hi0⟩ : ∃ i0, i0 = s.dir.last + 1 := ⟨_, rfl⟩
        rw [← hi0] at hk hfile
        obtain ⟨sa, hsa⟩ : ∃ sa, sa = (stepF s (createK nS)).2 := ⟨_, rfl⟩
        rw [← hsa] at hk hfile hlit hinv hst HCon
        obtain ⟨b2, b3, b4, b5, b6, b7, b8, b9⟩ := begun (b := b) hlit hinv hst (by omega) hk hfile (by rw [Hbk.out]; exact hk160)
        have Hinv := Lib.hid (show FInv sa (30 + 1) (60 * (30 + 1)) ∧ sa.steps ≤ 31 from ⟨hinv, hst⟩)
        have HB2 := Lib.hid b2
        have HB3 := Lib.hid b3
        have HB4 := Lib.hid b4
        have HB5 := Lib.hid (show FInv (stepF sa (appendK nS b)).2 (30 + 1 + 1) (60 * (30 + 1 + 1)) ∧ (stepF sa (appendK nS b)).2.steps ≤ 30 + 1 + 1 from ⟨b5, b6⟩)
        have HB7 := Lib.hid (show FInv (stepF (stepF sa (appendK nS b)).2 (syncK nS)).2 (30 + 1 + 2) (60 * (30 + 1 + 2)) ∧ (stepF (stepF sa (appendK nS b)).2 (syncK nS)).2.steps ≤ 30 + 1 + 2 from ⟨b7, b8⟩)
        have HB9 := Lib.hid b9
        clear h0 hlit hinv hst hdir hfile hk hi0 hsa b2 b3 b4 b5 b6 b7 b8 b9 hAhm HAm
        go_wp2_with fail
        refine HCon.out.mono ?_
        rintro e w9 ⟨rfl, hmut⟩
        obtain ⟨M9, R9, h9⟩ := HLv.out.step_ hmut
        have H9 := Lib.hid h9
        have hcon := kappend (nm := nS) (nm7 (by decide)) h9.fs Hinv.out.1 (by omega) (by have := Hinv.out.2; omega) (HBs.out.chg (Chg.of_below (M := fun _ => False) h9.below) (fun i e => e.elim)) (fun i hi e => by have := h9.newM i hi; omega) (by rw [Hbk.out]; omega)
        rw [HB2.out] at hcon
        have HCon := Lib.hid hcon
        clear hmut h9 hcon
        go_wp2_with fail
        refine HCon.out.mono ?_
        rintro e w10 ⟨rfl, hmut⟩
        obtain ⟨Ma, Ra, h10⟩ := H9.out.step_ hmut
        have H10 := Lib.hid h10
        have hcon := ksync (nm := nS) (nm7 (by decide)) h10.fs HB5.out.1 (by omega) (by have := HB5.out.2; omega)
        rw [HB3.out] at hcon
        have HCon := Lib.hid hcon
        clear hmut h10 hcon H9
        go_wp2_with fail
        refine HCon.out.mono ?_
        rintro e w11 ⟨rfl, hmut⟩
        obtain ⟨Mb, Rb, h11⟩ := H10.out.step_ hmut
        have H11 := Lib.hid h11
        have hcon := ksyncdir h11.fs HB7.out.1 (by omega) (by omega) (by have := HB7.out.2; omega)
        rw [HB4.out] at hcon
        have HCon := Lib.hid hcon
        clear hmut h11 hcon H10
        go_wp2_with fail
        refine HCon.out.mono ?_
        rintro e w12 ⟨rfl, hmut⟩
        obtain ⟨Mc, Rc, h12⟩ := H11.out.step_ hmut
        obtain ⟨s4, hs4⟩ : ∃ s4, s4 = (stepF (stepF (stepF sa (appendK nS b)).2 (syncK nS)).2 syncDirK).2 := ⟨_, rfl⟩
        rw [← hs4] at h12
        have HBe : Hid (Behind s4 i0 (30 + 1 + 3) b b) := by have := HB9.out; rw [← hs4] at this; exact this
        have H12 := Lib.hid h12
        clear hmut h12 hs4 HB2 HB3 HB4 HB5 HB7 HB9 Hinv H11 HCon
        go_wp2_with fail
        refine (fclone _ b w.heap.size w12 (Bs_of_in HBs.out H12.out.below) H12.out.below.size (by rw [Hbk.out]; omega)).mono ?_
        rintro e w13 ⟨vw, rfl, how, hb13⟩
        have H13 := Lib.hid (H12.out.on hb13)
        have HW13 : Hid (WholeAt w12.heap.size w13 Mc Rc vw b) := ⟨how, fun g hg => ⟨fun e => by have h8 := (how.lt g hg).1; have := H12.out.fs.ml g e; omega, fun e => by have h8 := (how.lt g hg).1; have := H12.out.fs.rl g e; omega⟩⟩
        have HS12 : Hid (w.heap.size ≤ w12.heap.size) := H12.out.below.size
        have Hs13 := Lib.hid hb13.size
        obtain ⟨i0b, hi0, hz0, hz1, hz2⟩ := info_parts fbyte_info
        clear how hb13 H12
        go_wp2_with fail
        clear hmin1 hcut1 hmin0 hcut0 hq1 hq2 hcut2
        go_loopw [13, 97] (fun wv i wr => ∃ (j : Nat) (M R : Nat → Prop) (s : FsP) (whole : List UInt8), j ≤ rr ∧ i = .int .i64 j ∧ FLive w wr A M R s ∧ Behind s i0 (34 + j) b whole ∧ WholeAt w12.heap.size wr M R wv whole ∧ whole.length ≤ 60 + 60 * j ∧ w12.heap.size ≤ wr.heap.size) (fun _ i _ => rr - (intOf i).toNat)
        case atStart => exact ⟨0, Mc, Rc, s4, b, by omega, rfl, H13.out, HBe.out, HW13.out, by rw [Hbk.out]; omega, Hs13.out⟩
        case round =>
          obtain ⟨j, M, R, s, whole, hj, rfl, hlive, hbh, hwh, hwl, hws⟩ := hrel
          have HLv := Lib.hid hlive
          have HBh := Lib.hid hbh
          have HWh := Lib.hid hwh
          have Hwl := Lib.hid hwl
          have HSr := Lib.hid hws
          clear hlive hbh hwh hwl hws H13 HW13 HBe
          by_cases hgo : j < rr
          · have d1 : decide ((j : Int) < (rr : Int)) = true := decide_eq_true (by omega)
            obtain ⟨c, hc⟩ : ∃ c, l3[j]? = some c := ⟨l3[j]'(by have := Hl3.out; omega), List.getElem?_eq_getElem _⟩
            obtain ⟨bb, oo, Ab, cb, Ap, cpp, rfl, hok, hbB, a0, a1, a2, a3, a4, a5, a6⟩ := HL3.out.at_ HLv.out.below rfl hc
            have hcbn := hok.b
            obtain ⟨nb, hnb⟩ : ∃ nb, nb = c.b.length := ⟨_, rfl⟩
            rw [← hnb] at a5 hok hcbn
            have hncb : nb ≤ cb := by
              obtain ⟨A8, c8, e8, h8, _⟩ := hcbn
              injection e8 with _ e82 e83
              omega
            have Hok := Lib.hid hok
            have Hnb := Lib.hid hnb
            clear hok hc hbB hcbn hnb
            by_cases q1 : c.what = 1
            · have d21 : decide (c.what = 1) = true := decide_eq_true q1
              have d21' : (c.what == 1) = true := by simp [q1]
              clear q1
              obtain ⟨kb, hkb⟩ : ∃ k, k = min nb 60 := ⟨_, rfl⟩
              have hminb : min (nb : Int) 60 = (kb : Int) := by omega
              have hcutb := cut_h Ab nb cb kb (by omega)
              have hkb60 : kb ≤ 60 := by omega
              obtain ⟨wc, hwc⟩ : ∃ wc, wc = wr.alloc (.cells #[.int .i64 c.what, .string c.name, .string c.dst, .int .i64 c.n, .int .i64 c.m, .slice Ab nb cb, .slice Ap c.picks.length cpp] 31) := ⟨_, rfl⟩
              have hbc : Below wr.heap.size wr wc := by rw [hwc]; exact (Below.refl _ _).alloc (Nat.le_refl _) _
              obtain ⟨P, hP⟩ : ∃ P, P = wr.heap.size := ⟨_, rfl⟩
              have hP5 : wc.cell? ⟨P, 5, none⟩ = some (.slice Ab nb cb) := by rw [hwc, hP]; simp
              have Hsc := Lib.hid hbc.size
              have hLc := HLv.out.on hbc
              have HLc := Lib.hid hLc
              have HWc := Lib.hid (HWh.out.on hbc)
              have hrB := BsIn.take (Hok.out.on hbc).b (k := kb) (by omega)
              have hrl : (c.b.take kb).length = kb := by rw [List.length_take, ← Hnb.out]; omega
              have HrB := Lib.hid hrB
              have Hrl := Lib.hid hrl
              have hcon := kappend (nm := nS) (nm7 (by decide)) hLc.fs HBh.out.inv (by omega) (by have := HBh.out.steps; omega) hrB (fun i hi e => by have := hLc.newM i hi; omega) (by rw [hrl]; omega)
              have hbe := HBh.out.append (by omega) (c.b.take kb) (by rw [hrl]; exact hkb60)
              obtain ⟨sn, hsn⟩ : ∃ sn, sn = stepF s (appendK nS (c.b.take kb)) := ⟨_, rfl⟩
              rw [← hsn] at hcon hbe
              have HCon := Lib.hid hcon
              have HBe := Lib.hid hbe
              have HPM : Hid (¬ M P) := fun e => by have := HLv.out.fs.ml P e; omega
              clear hbc hLc hrB hrl hcon hbe hsn hkb
              go_wp2_with fail
              rw [← hwc]
              try rw [← hP]
              clear hwc hP
              refine HCon.out.mono ?_
              rintro e w9 ⟨rfl, hmut⟩
              obtain ⟨M9, R9, h9, hg9, h91, h92⟩ := HLc.out.step hmut
              have hp9 : w9.cell? ⟨P, 5, none⟩ = some (.slice Ab nb cb) := cell_keep hg9 HPM.out hP5
              have hwh9 := HWc.out.step hg9 h91 h92
              have HSb : Hid (w12.heap.size ≤ w9.heap.size) := by have := HSr.out; have := Hsc.out; have := hg9.size; exact (by omega : w12.heap.size ≤ w9.heap.size)
              have hr9 : BsIn w9 (fun i => i < w.heap.size) (.slice Ab kb cb) (c.b.take kb) := HrB.out.chg hg9 (fun i hi e => by have := HLc.out.newM i hi; omega)
              have H9 := Lib.hid h9
              have HW9 := Lib.hid hwh9
              obtain ⟨Ar9, cr9, er9, _, hrd9⟩ := hr9
              injection er9 with e91 e92 e93
              subst e91 e93
              have HR9 := Lib.hid hrd9.rd
              obtain ⟨cd, hcd⟩ : ∃ cd, cd = sn.1 := ⟨_, rfl⟩
              rw [← hcd] at HBe
              simp only [← hcd]
              clear hmut h9 hg9 h91 h92 hwh9 hrd9 hP5 HCon hcd e92
              rcases Nat.eq_zero_or_pos cd with h0 | h0
              · subst h0
                have HBe2 := Lib.hid HBe.out
                rw [if_pos rfl] at HBe2
                clear HBe
                obtain ⟨Aw, cw, rfl, _, _, _⟩ := own_slice HW9.out.own
                obtain ⟨nw, hnw⟩ : ∃ nw, nw = whole.length := ⟨_, rfl⟩
                have hwo := HW9.out.own
                rw [← hnw] at hwo ⊢
                have HWO := Lib.hid hwo
                have Hnw := Lib.hid hnw
                have hnwb : nw ≤ 100000 := by rw [hnw]; have := Hwl.out; omega
                have hsb := HSb.out
                clear hwo hnw
                go_wp2_with (at_builtin; (refine wpList_append_rd _ rfl _ _ 23 rfl w12.heap.size 5 i0b (.int .u8 0) 1 1 Tryz.underlying23 hi0 hz0 hz1 hz2 rfl (by omega) (.slice Aw nw cw) nw (bvs whole) rfl HWO.out w9.heap.size Ab kb cb (bvs (c.b.take kb)) rfl (by rw [bvs_length, Hrl.out]; omega) HR9.out (bvs_one _) (by unfold maxLen; omega) (by omega) hsb ?_); intro v3 wA hown3 hb3 hg3 hv3; have HO3 := Lib.hid hown3; have HG3 := Lib.hid hg3; have HV3 := Lib.hid hv3; clear hown3 hb3 hg3 hv3)
                have hlA := H9.out.chg (Chg.of_grown (M := fun i => (Value.slice Aw nw cw).ownBlock = some i) HG3.out (fun g hg => hg)) (fun i hi => ⟨(HW9.out.ap i (by rw [← Hnw.out]; exact hi)).1, (HW9.out.ap i (by rw [← Hnw.out]; exact hi)).2, Nat.le_trans HS12.out (HWO.out.lt i hi).1⟩)
                have HlA := Lib.hid hlA
                have HWA : Hid (WholeAt w12.heap.size wA M9 R9 v3 (whole ++ c.b.take kb)) := ⟨by
                    have h8 := HO3.out
                    rw [List.length_append, Hrl.out, ← Hnw.out, bvs_append]
                    exact h8, fun g hg => by
                    rcases HV3.out with h8 | h8
                    · rw [h8] at hg
                      exact HW9.out.ap g (by rw [← Hnw.out]; exact hg)
                    · rw [h8] at hg
                      injection hg with hg
                      subst hg
                      exact ⟨fun e => by have := H9.out.fs.ml _ e; omega, fun e => by have := H9.out.fs.rl _ e; omega⟩⟩
                have Hwl2 : Hid ((whole ++ c.b.take kb).length ≤ 60 + 60 * (j + 1)) := Lib.hid (by rw [List.length_append, Hrl.out]; have := Hwl.out; omega)
                clear hlA
                go_wp2_with fail
                go_roundw
                case rel => exact ⟨j + 1, M9, R9, _, _, by omega, by go_num, HlA.out, HBe2.out, HWA.out, Hwl2.out, by have := HSb.out; have := HG3.out.size; omega⟩
                case measure => simp [intOf]; omega
              · have hcd2 : decide ((cd : Int) = 0) = false := decide_eq_false (by omega)
                have hcd3 : ¬ (cd : Int) = 0 := by omega
                have HBe2 := Lib.hid HBe.out
                rw [if_neg (by omega)] at HBe2
                clear HBe hp9
                go_wp2_with fail
                go_roundw
                case rel => exact ⟨j + 1, M9, R9, _, whole, by omega, by go_num, H9.out, HBe2.out, HW9.out, by have := Hwl.out; omega, HSb.out⟩
                case measure => simp [intOf]; omega
            · by_cases q2 : c.what = 2
              · have d21 : decide (c.what = 1) = false := decide_eq_false q1
                have d21' : (c.what == 1) = false := by simp [q1]
                have d22 : decide (c.what = 2) = true := decide_eq_true q2
                have d22' : (c.what == 2) = true := by simp [q2]
                clear q2
                obtain ⟨kb, hkb⟩ : ∃ k, k = min nb 60 := ⟨_, rfl⟩
                have hminb : min (nb : Int) 60 = (kb : Int) := by omega
                have hcutb := cut_h Ab nb cb kb (by omega)
                have hkb60 : kb ≤ 60 := by omega
                obtain ⟨wc, hwc⟩ : ∃ wc, wc = wr.alloc (.cells #[.int .i64 c.what, .string c.name, .string c.dst, .int .i64 c.n, .int .i64 c.m, .slice Ab nb cb, .slice Ap c.picks.length cpp] 31) := ⟨_, rfl⟩
                have hbc : Below wr.heap.size wr wc := by rw [hwc]; exact (Below.refl _ _).alloc (Nat.le_refl _) _
                obtain ⟨P, hP⟩ : ∃ P, P = wr.heap.size := ⟨_, rfl⟩
                have hP5 : wc.cell? ⟨P, 5, none⟩ = some (.slice Ab nb cb) := by rw [hwc, hP]; simp
                have Hsc := Lib.hid hbc.size
                have hLc := HLv.out.on hbc
                have HLc := Lib.hid hLc
                have HWc := Lib.hid (HWh.out.on hbc)
                have hrB := BsIn.take (Hok.out.on hbc).b (k := kb) (by omega)
                have hrl : (c.b.take kb).length = kb := by rw [List.length_take, ← Hnb.out]; omega
                have HrB := Lib.hid hrB
                have Hrl := Lib.hid hrl
                have hcon := kappend (nm := nS) (nm7 (by decide)) hLc.fs HBh.out.inv (by omega) (by have := HBh.out.steps; omega) hrB (fun i hi e => by have := hLc.newM i hi; omega) (by rw [hrl]; omega)
                have hbe := HBh.out.append (by omega) (c.b.take kb) (by rw [hrl]; exact hkb60)
                obtain ⟨sn, hsn⟩ : ∃ sn, sn = stepF s (appendK nS (c.b.take kb)) := ⟨_, rfl⟩
                rw [← hsn] at hcon hbe
                have HCon := Lib.hid hcon
                have HBe := Lib.hid hbe
                have HPM : Hid (¬ M P) := fun e => by have := HLv.out.fs.ml P e; omega
                clear hbc hLc hrB hrl hcon hbe hsn hkb
                go_wp2_with fail
                rw [← hwc]
                try rw [← hP]
                clear hwc hP
                refine HCon.out.mono ?_
                rintro e w9 ⟨rfl, hmut⟩
                obtain ⟨M9, R9, h9, hg9, h91, h92⟩ := HLc.out.step hmut
                have hp9 : w9.cell? ⟨P, 5, none⟩ = some (.slice Ab nb cb) := cell_keep hg9 HPM.out hP5
                have hwh9 := HWc.out.step hg9 h91 h92
                have HSb : Hid (w12.heap.size ≤ w9.heap.size) := by have := HSr.out; have := Hsc.out; have := hg9.size; exact (by omega : w12.heap.size ≤ w9.heap.size)
                have hr9 : BsIn w9 (fun i => i < w.heap.size) (.slice Ab kb cb) (c.b.take kb) := HrB.out.chg hg9 (fun i hi e => by have := HLc.out.newM i hi; omega)
                have H9 := Lib.hid h9
                have HW9 := Lib.hid hwh9
                obtain ⟨Ar9, cr9, er9, _, hrd9⟩ := hr9
                injection er9 with e91 e92 e93
                subst e91 e93
                have HR9 := Lib.hid hrd9.rd
                obtain ⟨cd, hcd⟩ : ∃ cd, cd = sn.1 := ⟨_, rfl⟩
                rw [← hcd] at HBe
                simp only [← hcd]
                clear hmut h9 hg9 h91 h92 hwh9 hrd9 hP5 HCon hcd e92
                rcases Nat.eq_zero_or_pos cd with h0 | h0
                · subst h0
                  have HBe2 := Lib.hid HBe.out
                  rw [if_pos rfl] at HBe2
                  clear HBe
                  obtain ⟨Aw, cw, rfl, _, _, _⟩ := own_slice HW9.out.own
                  obtain ⟨nw, hnw⟩ : ∃ nw, nw = whole.length := ⟨_, rfl⟩
                  have hwo := HW9.out.own
                  rw [← hnw] at hwo ⊢
                  have HWO := Lib.hid hwo
                  have Hnw := Lib.hid hnw
                  have hnwb : nw ≤ 100000 := by rw [hnw]; have := Hwl.out; omega
                  have hsb := HSb.out
                  clear hwo hnw
                  go_wp2_with (at_builtin; (refine wpList_append_rd _ rfl _ _ 23 rfl w12.heap.size 5 i0b (.int .u8 0) 1 1 Tryz.underlying23 hi0 hz0 hz1 hz2 rfl (by omega) (.slice Aw nw cw) nw (bvs whole) rfl HWO.out w9.heap.size Ab kb cb (bvs (c.b.take kb)) rfl (by rw [bvs_length, Hrl.out]; omega) HR9.out (bvs_one _) (by unfold maxLen; omega) (by omega) hsb ?_); intro v3 wA hown3 hb3 hg3 hv3; have HO3 := Lib.hid hown3; have HG3 := Lib.hid hg3; have HV3 := Lib.hid hv3; clear hown3 hb3 hg3 hv3)
                  have hlA := H9.out.chg (Chg.of_grown (M := fun i => (Value.slice Aw nw cw).ownBlock = some i) HG3.out (fun g hg => hg)) (fun i hi => ⟨(HW9.out.ap i (by rw [← Hnw.out]; exact hi)).1, (HW9.out.ap i (by rw [← Hnw.out]; exact hi)).2, Nat.le_trans HS12.out (HWO.out.lt i hi).1⟩)
                  have HlA := Lib.hid hlA
                  have HWA : Hid (WholeAt w12.heap.size wA M9 R9 v3 (whole ++ c.b.take kb)) := ⟨by
                      have h8 := HO3.out
                      rw [List.length_append, Hrl.out, ← Hnw.out, bvs_append]
                      exact h8, fun g hg => by
                      rcases HV3.out with h8 | h8
                      · rw [h8] at hg
                        exact HW9.out.ap g (by rw [← Hnw.out]; exact hg)
                      · rw [h8] at hg
                        injection hg with hg
                        subst hg
                        exact ⟨fun e => by have := H9.out.fs.ml _ e; omega, fun e => by have := H9.out.fs.rl _ e; omega⟩⟩
                  have Hwl2 : Hid ((whole ++ c.b.take kb).length ≤ 60 + 60 * (j + 1)) := Lib.hid (by rw [List.length_append, Hrl.out]; have := Hwl.out; omega)
                  clear hlA
                  go_wp2_with fail
                  go_roundw
                  case rel => exact ⟨j + 1, M9, R9, _, _, by omega, by go_num, HlA.out, HBe2.out, HWA.out, Hwl2.out, by have := HSb.out; have := HG3.out.size; omega⟩
                  case measure => simp [intOf]; omega
                · have hcd2 : decide ((cd : Int) = 0) = false := decide_eq_false (by omega)
                  have hcd3 : ¬ (cd : Int) = 0 := by omega
                  have HBe2 := Lib.hid HBe.out
                  rw [if_neg (by omega)] at HBe2
                  clear HBe hp9
                  go_wp2_with fail
                  go_roundw
                  case rel => exact ⟨j + 1, M9, R9, _, whole, by omega, by go_num, H9.out, HBe2.out, HW9.out, by have := Hwl.out; omega, HSb.out⟩
                  case measure => simp [intOf]; omega
              · have d21 : decide (c.what = 1) = false := decide_eq_false q1
                have d21' : (c.what == 1) = false := by simp [q1]
                have d22 : decide (c.what = 2) = false := decide_eq_false q2
                have d22' : (c.what == 2) = false := by simp [q2]
                by_cases q3 : c.name = nS
                · obtain ⟨e1, e1'⟩ := eqS q3
                  clear q3
                  go_wp2_with fail
                  go_roundw
                  case rel => exact ⟨j + 1, M, R, s, whole, by omega, by go_num, HLv.out.on ((Below.refl _ _).alloc (Nat.le_refl _) _), HBh.out.mono (by omega), HWh.out.on ((Below.refl _ _).alloc (Nat.le_refl _) _), by have := Hwl.out; omega, by have := HSr.out; simp; omega⟩
                  case measure => simp [intOf]; omega
                · obtain ⟨e1, e1'⟩ := neS q3
                  have Q3 := Lib.hid q3
                  clear q3
                  by_cases q4 : c.dst = nS
                  · obtain ⟨e2, e2'⟩ := eqS q4
                    clear q4
                    go_wp2_with fail
                    go_roundw
                    case rel => exact ⟨j + 1, M, R, s, whole, by omega, by go_num, HLv.out.on ((Below.refl _ _).alloc (Nat.le_refl _) _), HBh.out.mono (by omega), HWh.out.on ((Below.refl _ _).alloc (Nat.le_refl _) _), by have := Hwl.out; omega, by have := HSr.out; simp; omega⟩
                    case measure => simp [intOf]; omega
                  · obtain ⟨e2, e2'⟩ := neS q4
                    have Q4 := Lib.hid q4
                    clear q4
                    by_cases q5 : c.what = 11
                    · have d9 : decide (c.what = 11) = true := decide_eq_true q5
                      have d9' : (c.what != 11) = false := by simp [q5]
                      go_wp2_with fail
                      go_roundw
                      case rel => exact ⟨j + 1, M, R, s, whole, by omega, by go_num, HLv.out.on ((Below.refl _ _).alloc (Nat.le_refl _) _), HBh.out.mono (by omega), HWh.out.on ((Below.refl _ _).alloc (Nat.le_refl _) _), by have := Hwl.out; omega, by have := HSr.out; simp; omega⟩
                      case measure => simp [intOf]; omega
                    · have d9 : decide (c.what = 11) = false := decide_eq_false q5
                      have d9' : (c.what != 11) = true := by simp [q5]
                      have Q5 := Lib.hid q5
                      obtain ⟨wc, hwc⟩ : ∃ wc, wc = wr.alloc (.cells #[.int .i64 c.what, .string c.name, .string c.dst, .int .i64 c.n, .int .i64 c.m, .slice Ab nb cb, .slice Ap c.picks.length cpp] 31) := ⟨_, rfl⟩
                      have hbc : Below wr.heap.size wr wc := by rw [hwc]; exact (Below.refl _ _).alloc (Nat.le_refl _) _
                      have hLc := HLv.out.on hbc
                      have HLc := Lib.hid hLc
                      have HWc := Lib.hid (HWh.out.on hbc)
                      have hcon := kdoes (a := c) hLc.fs HBh.out.inv (by omega) (by omega) (by have := HBh.out.steps; omega) (Hok.out.on hbc) (fun i hi e => by have := hLc.newM i hi; omega) (fun i e => Nat.lt_of_lt_of_le e hLc.below.size)
                      unfold act7V at hcon
                      have HCon := Lib.hid hcon
                      have Hsc := Lib.hid hbc.size
                      clear hbc hLc hcon q5
                      go_wp2_with fail
                      rw [← hwc]
                      clear hwc
                      refine HCon.out.mono ?_
                      rintro e w9 ⟨rfl, hmut⟩
                      obtain ⟨M9, R9, h9, hg9, h91, h92⟩ := HLc.out.step hmut
                      have H9 := Lib.hid h9
                      have HW9 := Lib.hid (HWc.out.step hg9 h91 h92)
                      have HB9 := Lib.hid (HBh.out.doF (by omega) Q3.out Q4.out Q5.out)
                      have HS9 := Lib.hid hg9.size
                      clear hmut h9 hg9 h91 h92 HCon
                      go_wp2_with fail
                      go_roundw
                      case rel => exact ⟨j + 1, M9, R9, _, whole, by omega, by go_num, H9.out, HB9.out, HW9.out, by have := Hwl.out; omega, by have := HSr.out; have := Hsc.out; have := HS9.out; omega⟩
                      case measure => simp [intOf]; omega
          · have d1 : decide ((j : Int) < (rr : Int)) = false := decide_eq_false (by omega)
            have hbh := HBh.out.mono (show 34 + j ≤ 94 by omega)
            have HBf := Lib.hid hbh
            have HS1 : Hid (Below wr.heap.size wr (wr.alloc (.cells #[.int .i64 (-1)] 3))) := (Below.refl _ _).alloc (Nat.le_refl _) _
            have HL1 := Lib.hid (HLv.out.on HS1.out)
            have HW1 := Lib.hid (HWh.out.on HS1.out)
            have hcon := kcrash_arg HL1.out.fs (isR_lit wr [-1] 1 rfl _ rfl 3 (by decide)) (by decide)
            have HCon := Lib.hid hcon
            clear hbh hcon HBh
            go_wp2_with fail
            refine HCon.out.mono ?_
            rintro e w20 ⟨rfl, hmut⟩
            obtain ⟨M20, R20, h20, hg20, h201, h202⟩ := HL1.out.step hmut
            have H20 := Lib.hid h20
            have HW20 := Lib.hid (HW1.out.step hg20 h201 h202)
            clear hmut h20 hg20 h201 h202 HCon HL1 HW1 HS1 HLv HWh
            go_wp2_with fail
            refine (hcloneI (w := w20) (v := .slice A2 n2 c2) (l := z2) (W2.out.on H20.out.below) (by have h7 := S2.out; have h8 := Hn2.out; omega)).mono ?_
            rintro e w21 ⟨vp, rfl, hop, hb21⟩
            rw [← Hn2.out] at hop
            have HP21 := Lib.hid hop
            obtain ⟨Ap2, cp2, rfl, hcp2, _, _⟩ := own_slice hop
            have HB21 := Lib.hid hb21
            have Hn2b : n2 ≤ 9223372036854775807 := by have := S2.out; have := Hn2.out; omega
            clear hop hb21
            go_wp2_with fail
            go_loopw [155] (fun i wr2 => ∃ (k : Nat) (q : List Int), k ≤ n2 ∧ i = .int .i64 k ∧ q.length = n2 ∧ (q.take k).any (· < 0) = false ∧ wr2.ownsRow w20.heap.size 3 1 (.slice Ap2 n2 cp2) n2 (ivs q) ∧ Chg (fun i => w20.heap.size ≤ i) w20 wr2) (fun i _ => n2 - (intOf i).toNat)
            case atStart => exact ⟨0, z2, by omega, rfl, Hn2.out.symm, by simp, HP21.out, Chg.of_below HB21.out⟩
            case round =>
              obtain ⟨k, q, hk, rfl, hql, hqa, hqo, hqc⟩ := hrel
              have Hql := Lib.hid hql
              have Hqa := Lib.hid hqa
              have Hqo := Lib.hid hqo
              have Hqc := Lib.hid hqc
              clear hql hqa hqo hqc
              by_cases hgo2 : k < n2
              · have d30 : decide ((k : Int) < (n2 : Int)) = true := decide_eq_true (by omega)
                obtain ⟨x, hx⟩ : ∃ x, q[k]? = some x := ⟨q[k]'(by have := Hql.out; omega), List.getElem?_eq_getElem _⟩
                obtain ⟨gp, hgp⟩ : ∃ gp, Ap2 = some ⟨gp, 0, none⟩ := by
                  rcases Hqo.out.2 with ⟨_, h8⟩ | ⟨g8, _, _, h8, _⟩
                  · omega
                  · injection h8 with h8
                    exact ⟨g8, h8⟩
                subst hgp
                obtain ⟨O, hO1, hO2⟩ := mask_nat x
                obtain ⟨m1, m2, m3, m4⟩ := mask_step Hqo.out hx (O : Int)
                have M3 := Lib.hid m3
                have HX := Lib.hid hx
                have M4 : Hid (w20.heap.size ≤ gp) := m4
                have hkn3 : (k : Int) < (n2 : Int) := by omega
                clear m3 hx m4
                go_wp2_with fail
                go_roundw
                case rel => exact ⟨k + 1, _, by omega, by go_num, by rw [List.length_set]; exact Hql.out, any_set_take (by have := Hql.out; omega) (by omega) Hqa.out, M3.out, Hqc.out.setCell (p := ⟨gp, k, none⟩) M4.out _⟩
                case measure => simp [intOf]; omega
              · have d30 : decide ((k : Int) < (n2 : Int)) = false := decide_eq_false (by omega)
                have hqall : q.any (· < 0) = false := by
                  have h8 := Hqa.out
                  rw [List.take_of_length_le (by have := Hql.out; omega)] at h8
                  exact h8
                have HQall := Lib.hid hqall
                have hN20 : ∀ i, w20.heap.size ≤ i → ¬ M20 i ∧ ¬ R20 i ∧ w.heap.size ≤ i := fun i hi => ⟨fun e => by have := H20.out.fs.ml i e; omega, fun e => by have := H20.out.fs.rl i e; omega, by have := H20.out.below.size; omega⟩
                have hLr := H20.out.chg Hqc.out hN20
                have HLr := Lib.hid hLr
                have HWr : Hid (WholeAt w12.heap.size wr M20 R20 u13 whole) := ⟨Hqc.out.own HW20.out.own (fun g8 hg8 e => by have := (HW20.out.own.lt g8 hg8).2; omega), HW20.out.ap⟩
                have hIs : IsR wr (fun i => w20.heap.size ≤ i ∧ i < wr.heap.size) (.slice Ap2 n2 cp2) q := ⟨Ap2, cp2, by rw [Hql.out], by rw [Hql.out]; exact hcp2, by rw [Hql.out]; exact Hn2b, rdR_of_own Hqo.out⟩
                obtain ⟨ec, eo, ef, t, et, kk, ek⟩ := HBf.out.safe.crash HBf.out.inv q hqall
                have hcon := kcrash hLr.fs HBf.out.inv (by omega) (by omega) hIs (fun i hi e => by have := H20.out.fs.ml i hi; omega) (fun i e => e.2) hqall
                have HCon := Lib.hid hcon
                have hinv := (HBf.out.inv).crashK_ q
                obtain ⟨sz, hsz⟩ : ∃ sz, sz = (crashK s q).2 := ⟨_, rfl⟩
                rw [← hsz] at eo ef ek hinv
                have HCon2 : Hid (Calls Tryz.prog 14 #[.pointer (some ⟨A, 0, none⟩), .slice Ap2 n2 cp2] wr fun e w' => e = .returned (.int .i64 0) ∧ FsMut wr w' A sz.used M20 R20 sz) := by rw [hsz]; exact hcon
                have HE := Lib.hid (show sz.off = false ∧ nodeF sz nS = (0, i0) ∧ FInv sz 94 (60 * 94) from ⟨eo, nodeF_safe ef, hinv⟩)
                have HT := Lib.hid (show whole = b ++ t ∧ (sz.file i0).bytes = b ++ t.take kk from ⟨et, ek⟩)
                clear hqall hN20 hLr hIs ec eo ef et ek hcon HCon hinv hsz
                go_wp2_with fail
                refine HCon2.out.mono ?_
                rintro e w30 ⟨rfl, hmut⟩
                obtain ⟨M30, R30, h30, hg30, h301, h302⟩ := HLr.out.step hmut
                have H30 := Lib.hid h30
                have HW30 := Lib.hid (HWr.out.step hg30 h301 h302)
                have hon := kon h30.fs
                rw [HE.out.1] at hon
                have HOn := Lib.hid hon
                clear hmut h30 hg30 h301 h302 hon HCon2
                go_wp2_with fail
                refine HOn.out.mono ?_
                rintro e w31 ⟨rfl, hb31⟩
                have H31 := Lib.hid (H30.out.on hb31)
                have HW31 := Lib.hid (HW30.out.on hb31)
                obtain ⟨L, hL⟩ : ∃ L, L = (sz.file i0).bytes.length := ⟨_, rfl⟩
                have hsi := ksize (nm := nS) H31.out.fs HE.out.2.2 (by omega) HE.out.1 (nm7 (by decide))
                rw [HE.out.2.1] at hsi
                simp only [if_true] at hsi
                rw [← hL] at hsi
                have HSi := Lib.hid hsi
                have HL9 := Lib.hid hL
                clear hb31 hsi hL H30 HW30 HOn
                go_wp2_with fail
                refine HSi.out.mono ?_
                rintro e w32 ⟨rfl, hb32⟩
                have H32 := Lib.hid (H31.out.on hb32)
                have HW32 := Lib.hid (HW31.out.on hb32)
                have HRd := Lib.hid (kread (nm := nS) (i := i0) (L := L) H32.out.fs HE.out.2.2 (by omega) HE.out.1 (nm7 (by decide)) HE.out.2.1 HL9.out)
                clear hb32 H31 HW31 HSi
                go_wp2_with fail
                refine HRd.out.mono ?_
                rintro e w33 ⟨vx, rfl, hox, hb33⟩
                have HW33 := Lib.hid (HW32.out.on hb33)
                have HB33 := Lib.hid (H32.out.below.trans (hb33.mono H32.out.below.size))
                have hxL : (bvs (sz.file i0).bytes).length = L := by rw [bvs_length, HL9.out]
                have HBx := Lib.hid (Bs.of_own hox)
                have hge : k1 ≤ L := by rw [HL9.out, HT.out.2, List.length_append, Hbk.out]; omega
                have hgd : decide ((L : Int) ≥ (k1 : Int)) = true := decide_eq_true (by omega)
                have hgd2 : (k1 : Int) ≤ (L : Int) := by omega
                have hpre : (sz.file i0).bytes <+: whole := by rw [HT.out.1, HT.out.2]; exact (List.prefix_append_right_inj b).2 (List.take_prefix _ _)
                have HPre := Lib.hid (fprefix (w := w33) (Bs.of_own HW33.out.own) HBx.out hpre (by have := Hwl.out; omega))
                have hwlen := HW33.out.own
                obtain ⟨Ax, cx, rfl, _, _, _⟩ := own_slice hox
                obtain ⟨Aw, cw, rfl, _, _, _⟩ := own_slice hwlen
                clear hb33 hox hxL hpre hge hwlen
                go_wp2_with fail
                refine HPre.out.mono ?_
                rintro e w34 ⟨rfl, rfl⟩
                go_wp2_with fail
                go_ret
                exact ⟨rfl, HB33.out⟩
end fsSafe
end Go.Proofs.YtboeiadfmknidaaGreat
