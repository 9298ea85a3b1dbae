
/-
  The walk of the law FileBeginning: it returns true, and writes nothing that was there.
-/
import Derived.Test.YtmlbhconbabdhaaFxBI
import Derived.Test.YtmlbhconbabdhaaRegion
import Derived.OpenShut
import Derived.Deep.CutBlock
import Derived.Deep.CutRange
import Derived.Deep.LoopGhost
set_option linter.unusedVariables false
set_option linter.unusedSimpArgs false
namespace Go.Proofs.Ytmlbhconbabdhaa.fileBeginning
open Go.RowKit

set_option maxRecDepth 100000 in
set_option maxHeartbeats 16000000 in
theorem walk0 (v0 v1 : Value) (l0 : List UInt8) (l1 : List Act5) (q : Nat) (w : World) (h0 : Bs w w.heap.size v0 l0) (hl0 : l0.length ≤ 140737488351232) (h1 : Acts5 w w.heap.size v1 l1) (ha1 : q < 65536) :
    Calls Try.prog 3 #[v0, v1, .int .u16 (q : Int)] w fun e w' => e = .returned (.bool true) ∧ Below w.heap.size w w' := by
  obtain ⟨i1, hi1, hy0, hy1, hy2⟩ := info_parts rows_info
  obtain ⟨i2, hi2, hx0, hx1, hx2⟩ := info_parts int_info
  obtain ⟨A1, c1, rfl, hc1, hm1, hel⟩ := h1
  unfold maxLen at hm1
  have Hel := Lib.hid hel
  clear hel
  have H0 := Lib.hid h0
  obtain ⟨A0, c0, rfl, hc0, hr0⟩ := h0
  obtain ⟨n0, hn0⟩ : ∃ n0, n0 = l0.length := ⟨_, rfl⟩
  obtain ⟨n1, hn1⟩ : ∃ n1, n1 = l1.length := ⟨_, rfl⟩
  obtain ⟨k, hk⟩ : ∃ k, k = min n0 100 := ⟨_, rfl⟩
  rw [← hn0] at hc0 hl0
  rw [← hn0, ← hn1]
  rw [← hn1] at hc1
  have hmin : min (n0 : Int) 100 = (k : Int) := by omega
  have hcut := cut_h A0 n0 c0 k (by omega)
  have hkl : (l0.take k).length = k := by rw [List.length_take, ← hn0]; omega
  have HB0 : Hid (Bs w w.heap.size (.slice A0 k c0) (l0.take k)) := ⟨A0, c0, by rw [hkl], by rw [hkl]; omega, by rw [bvs_take]; exact hr0.take k⟩
  have Hkl := Lib.hid hkl
  have hk100 : k ≤ 100 := by omega
  have Hn1 := Lib.hid hn1
  clear hr0 hn0 hn1 hk hkl H0
  go_enter Try.func3, Try.ntmps3
  go_wp2_with fail
  refine (fnew_b HB0.out (Nat.le_refl _) (by rw [Hkl.out]; omega)).mono ?_
  rintro e w1 ⟨F, M, rfl, hf, hb, hM⟩
  have HL1 : Hid (Live w w1 F M (fun _ => False) (FSt.new (l0.take k))) := ⟨hb, hf, hM⟩
  have HQ1 : Hid ((FSt.new (l0.take k)).big ≤ 100) := by
    show (l0.take k).length + 0 ≤ 100
    rw [Hkl.out]
    omega
  clear hf hb hM
  go_wp2_with fail
  refine (fall_m HL1.out.file (by have := HQ1.out; omega)).mono ?_
  rintro e w2 ⟨r0, rfl, ho, hb⟩
  rw [FSt.new_bytes] at ho
  have HL2 := Lib.hid (HL1.out.on hb)
  have HO2 := Lib.hid ho
  have HML : Hid (∀ i, M i → i < w1.heap.size) := HL1.out.file.lt1
  have HS12 : Hid (w1.heap.size ≤ w2.heap.size) := hb.size
  have HS1 : Hid (w.heap.size ≤ w1.heap.size) := HL1.out.below.size
  clear ho hb
  obtain ⟨Ar, cr, her, _, _, _⟩ := own_slice HO2.out
  obtain ⟨nr, hnr⟩ : ∃ nr, nr = (l0.take k).length := ⟨_, rfl⟩
  rw [← hnr] at her
  clear hnr
  subst her
  have hnA : Below w2.heap.size w2 (w2.alloc (.cells #[.slice Ar nr cr] 22)) := (Below.refl _ _).alloc (Nat.le_refl _) _
  have hnB : Below (w2.alloc (.cells #[.slice Ar nr cr] 22)).heap.size (w2.alloc (.cells #[.slice Ar nr cr] 22)) ((w2.alloc (.cells #[.slice Ar nr cr] 22)).alloc (.cells #[.int .i64 0] 3)) := (Below.refl _ _).alloc (Nat.le_refl _) _
  have HBI : Hid (BI w ((w2.alloc (.cells #[.slice Ar nr cr] 22)).alloc (.cells #[.int .i64 0] 3)) F M (fun _ => False) (fun i => (Value.slice Ar nr cr).ownBlock = some i) (FSt.new (l0.take k)) (.slice (some ⟨w2.heap.size, 0, none⟩) 1 1) (.slice (some ⟨w2.heap.size + 1, 0, none⟩) 1 1) [.slice Ar nr cr] [l0.take k] [0]) := by
    have hs1 := HL2.out.below.size
    have hs2 := HS1.out
    have hs0 : w1.heap.size ≤ w2.heap.size := HS12.out
    have hr := HO2.out.lt
    refine ⟨(HL2.out.on hnA).on hnB, ?_, ?_, ?_, ?_, ?_, ?_, ?_, ?_⟩
    · refine ⟨rfl, fun i v l hv hl => ?_⟩
      rcases i with _ | i
      · simp at hv hl
        subst hv hl
        exact ((BsIn.of_own HO2.out).chg (Chg.of_below (M := fun _ => False) hnA) (fun _ e => e.elim)).chg (Chg.of_below (M := fun _ => False) hnB) (fun _ e => e.elim)
      · simp at hv
    · exact own_below (World.ownsRow_lit w2 #[.slice Ar nr cr] 1 (by omega) (by unfold maxLen; omega) rfl) hnB (Nat.le_refl _)
    · have := World.ownsRow_lit (base := w.heap.size) (e := 3) (size := 1) (w2.alloc (.cells #[.slice Ar nr cr] 22)) #[.int .i64 0] 1 (by simp; omega) (by unfold maxLen; omega) rfl
      simpa [uvs] using this
    · intro g hg
      simp [Value.ownBlock] at hg
      subst hg
      exact ⟨fun e => by have := HML.out _ e; omega, fun e => e, fun e => by have := (hr _ e).2; omega⟩
    · intro g hg
      simp [Value.ownBlock] at hg
      subst hg
      exact ⟨fun e => by have := HML.out _ e; omega, fun e => e, fun e => by have := (hr _ e).2; omega⟩
    · intro g hg e
      simp [Value.ownBlock] at hg e
      omega
    · intro i hi e
      have := HML.out _ hi
      have := (hr _ e).1
      omega
    · intro i hi
      have := (hr _ hi).2
      simp
      omega
  have HH0 : Hid (Hist (FSt.new (l0.take k)) [l0.take k] [0]) := Hist.start _
  clear HL1 HL2 HO2 hnA hnB
  go_upto_block 0 with fail
  generalize World.alloc (World.alloc w2 _) _ = w3 at *
  go_cut [8, 9] from 10 to 53 (fun xm xu wx => ∃ (M R N : Nat → Prop) (s : FSt) (vals : List Value) (ls : List (List UInt8)) (us : List Nat), BI w wx F M R N s xm xu vals ls us ∧ Hist s ls us ∧ s.big ≤ 2000 ∧ us.length ≤ 31)
  case first =>
    go_wp2_with fail
    go_loopw [8, 9, 33] (fun xm xu i wr => ∃ (j : Nat) (M R N : Nat → Prop) (s : FSt) (vals : List Value) (ls : List (List UInt8)) (us : List Nat), j ≤ n1 ∧ j ≤ 30 ∧ i = .int .i64 j ∧ BI w wr F M R N s xm xu vals ls us ∧ Hist s ls us ∧ s.big ≤ 100 + 60 * j ∧ us.length = j + 1) (fun _ _ i _ => 31 - (intOf i).toNat)
    case atStart => exact ⟨0, M, _, _, _, _, _, _, by omega, by omega, rfl, HBI.out, HH0.out, HQ1.out, rfl⟩
    case round =>
      obtain ⟨j, M, R, N, s, vals, ls, us, hj, hj30, rfl, hl, hh, hq, hul⟩ := hrel
      clear HBI HH0 HQ1
      have HL := Lib.hid hl
      have HH := Lib.hid hh
      have HQ := Lib.hid hq
      have Hul := Lib.hid hul
      clear hl hh hq hul
      by_cases hlt : j < n1
      · obtain ⟨a, ha⟩ : ∃ a, l1[j]? = some a := ⟨l1[j]'(by have := Hn1.out; omega), List.getElem?_eq_getElem _⟩
        obtain ⟨b, o, rfl, hbb, hat⟩ := Hel.out j a ha
        obtain ⟨x0, x1, x2, v, x3, hbs, hbl⟩ := hat.on HL.out.live.below hbb
        have HBs := Lib.hid hbs
        obtain ⟨Av, cv, rfl, _, _⟩ := hbs
        obtain ⟨nb, hnb⟩ : ∃ nb, nb = a.b.length := ⟨_, rfl⟩
        rw [← hnb] at x3 HBs
        have Hnb := Lib.hid hnb
        have Hbl := Lib.hid hbl
        clear hat ha hbl hnb
        by_cases h30 : j < 30
        · have hne : ((j : Int) == 30) = false := by simp; omega
          go_wp2_with fail
          have hnew : Below wr.heap.size wr (wr.alloc (.cells #[.int .i64 a.what, .int .i64 a.n, .int .i64 a.m, .slice Av nb cv] 31)) := (Below.refl _ _).alloc (Nat.le_refl _) _
          have HL2 := Lib.hid (HL.out.on hnew)
          have HV := Lib.hid ((HBs.out.below hnew HL.out.live.below.size).inB)
          clear hnew x0 x1 x2 x3
          refine (does_any (what := a.what) (n := a.n) (m := a.m) HL2.out.live.file (by have := HQ.out; omega) HV.out (fun i hi h => by have h1 := HL2.out.live.fresh i hi; have h2 : i < w.heap.size := h; omega) Hbl.out).mono ?_
          rintro e w4 ⟨rfl, s', hst, hmut⟩
          obtain ⟨M', R', hl'⟩ := HL2.out.mut hmut
          have HL3 := Lib.hid hl'
          have HQ3 : Hid (s'.big ≤ 100 + 60 * (j + 1)) := by have h1 := hst.big; have h2 := HQ.out; exact (by omega : s'.big ≤ 100 + 60 * (j + 1))
          have HH3 : Hid (Hist s' (ls ++ [s'.bytes]) (us ++ [s'.loose])) := HH.out.next HL.out.live.file.ok hst hl'.live.file.ok
          clear hl' hmut hst HL HL2 HH
          go_wp2_with fail
          refine (fall_m HL3.out.live.file (by have := HQ3.out; omega)).mono ?_
          rintro e w5 ⟨r, rfl, ho, hb⟩
          have hK0 := ho.lt
          have HK : Hid (∀ i, r.ownBlock = some i → ¬ M' i ∧ ¬ R' i ∧ u8.ownBlock ≠ some i ∧ u9.ownBlock ≠ some i ∧ i < w5.heap.size) := fun i hi => by
            have h1 := hK0 i hi
            exact ⟨fun e => by have := HL3.out.live.file.lt1 i e; omega, fun e => by have := HL3.out.live.file.lt2 i e; omega, fun e => by have := (HL3.out.om.lt i e).2; omega, fun e => by have := (HL3.out.ou.lt i e).2; omega, h1.2⟩
          have HL4 := Lib.hid (HL3.out.on hb)
          have HR4 := Lib.hid (BsIn.of_own ho)
          obtain ⟨Ar, cr, her, _, _, _⟩ := own_slice ho
          obtain ⟨nr, hnr⟩ : ∃ nr, nr = s'.bytes.length := ⟨_, rfl⟩
          rw [← hnr] at her
          clear ho hb hK0 HL3 hnr
          subst her
          have hb5 : Below w5.heap.size w5 (w5.alloc (.cells #[.slice Ar nr cr] 22)) := (Below.refl _ _).alloc (Nat.le_refl _) _
          have HL5 := Lib.hid (HL4.out.on hb5)
          have HR5 := Lib.hid (HR4.out.chg (Chg.of_below (M := fun _ => False) hb5) (fun _ e => e.elim))
          have HK5 : Hid (∀ i, (Value.slice Ar nr cr).ownBlock = some i → ¬ M' i ∧ ¬ R' i ∧ u8.ownBlock ≠ some i ∧ u9.ownBlock ≠ some i ∧ i < (w5.alloc (.cells #[.slice Ar nr cr] 22)).heap.size) := fun i hi => by
            have h1 := HK.out i hi
            exact ⟨h1.1, h1.2.1, h1.2.2.1, h1.2.2.2.1, Nat.lt_of_lt_of_le h1.2.2.2.2 hb5.size⟩
          clear hb5 HL4 HR4 HK
          obtain ⟨Am, cm, hxm, _, _, _⟩ := own_slice HL5.out.om
          obtain ⟨nv, hnv⟩ : ∃ nv, nv = vals.length := ⟨_, rfl⟩
          have hnv2 : nv ≤ 31 := by have h1 := HH3.out.len; have h2 := HL5.out.mom.1; have h3 := Hul.out; simp at h1; omega
          rw [← hnv] at hxm
          have HOm : Hid ((w5.alloc (.cells #[.slice Ar nr cr] 22)).ownsRow w.heap.size 22 1 (.slice Am nv cm) nv vals) := by have := HL5.out.om; rw [← hnv, hxm] at this; exact this
          have Hxm := Lib.hid hxm
          have Hnv := Lib.hid hnv
          have hws : w.heap.size ≤ (w5.alloc (.cells #[.slice Ar nr cr] 22)).heap.size := HL5.out.live.below.size
          clear hnv
          subst hxm
          have hr1 : (Value.slice Ar nr cr).oneCell' = true := rfl
          go_wp2_with (at_builtin; (refine wpList_append_1 _ rfl _ _ 28 rfl w.heap.size 22 i1 (.slice none 0 0) 24 Try.underlying28 hi1 hy0 hy1 hy2 rfl _ nv vals rfl HOm.out ⟨w5.heap.size, 0, none⟩ 1 (.slice Ar nr cr) rfl (cell_new1 _ _ _) hr1 (by unfold maxLen; omega) (by omega) hws ?_); intro v6 w6 hown6 hb6 hg6 hv6; (have HG6 := Lib.hid hg6); (have HO6 := Lib.hid hown6); (have HV6 := Lib.hid hv6); clear hg6 hown6 hv6 hb6)
          have HL6 : Hid (BI w w6 F M' R' (fun i => N i ∨ (Value.slice Ar nr cr).ownBlock = some i) s' v6 u9 (vals ++ [.slice Ar nr cr]) (ls ++ [s'.bytes]) us) := HL5.out.addM HR5.out HK5.out HG6.out (by have := HO6.out; rw [Hnv.out] at this; exact this) HV6.out
          clear HL5 HR5 HK5 HOm HO6 HV6 HG6 hws
          refine (floose_m HL6.out.live.file s'.loose rfl).mono ?_
          rintro e w7 ⟨rfl, hb⟩
          have HL7 := Lib.hid (HL6.out.on hb)
          clear hb HL6
          have hb7 : Below w7.heap.size w7 (w7.alloc (.cells #[.int .i64 (s'.loose : Int)] 3)) := (Below.refl _ _).alloc (Nat.le_refl _) _
          have HL8 := Lib.hid (HL7.out.on hb7)
          clear hb7 HL7
          obtain ⟨Au, cu, hxu, _, _, _⟩ := own_slice HL8.out.ou
          obtain ⟨nu, hnu⟩ : ∃ nu, nu = us.length := ⟨_, rfl⟩
          have hnu2 : nu ≤ 31 := by have := Hul.out; omega
          rw [← hnu] at hxu
          have HOu : Hid ((w7.alloc (.cells #[.int .i64 (s'.loose : Int)] 3)).ownsRow w.heap.size 3 1 (.slice Au nu cu) nu (uvs us)) := by have := HL8.out.ou; rw [← hnu, hxu] at this; exact this
          have Hnu := Lib.hid hnu
          have hws : w.heap.size ≤ (w7.alloc (.cells #[.int .i64 (s'.loose : Int)] 3)).heap.size := HL8.out.live.below.size
          clear hnu
          subst hxu
          go_wp2_with (at_builtin; (refine wpList_append_1 _ rfl _ _ 29 rfl w.heap.size 3 i2 (.int .i64 0) 8 Try.underlying29 hi2 hx0 hx1 hx2 rfl _ nu (uvs us) rfl HOu.out ⟨w7.heap.size, 0, none⟩ 1 (.int .i64 (s'.loose : Int)) rfl (cell_new1 _ _ _) rfl (by unfold maxLen; omega) (by omega) hws ?_); intro v8 w8 hown8 hb8 hg8 hv8; (have HG8 := Lib.hid hg8); (have HO8 := Lib.hid hown8); (have HV8 := Lib.hid hv8); clear hg8 hown8 hv8 hb8)
          have HL9 : Hid (BI w w8 F M' R' (fun i => N i ∨ (Value.slice Ar nr cr).ownBlock = some i) s' v6 v8 (vals ++ [.slice Ar nr cr]) (ls ++ [s'.bytes]) (us ++ [s'.loose])) := HL8.out.addU HG8.out (by have := HO8.out; rw [Hnu.out] at this; exact this) HV8.out
          clear HL8 HOu HO8 HV8 HG8 hws
          go_roundw
          case rel => exact ⟨j + 1, M', R', _, s', _, _, _, by omega, by omega, by go_num, HL9.out, HH3.out, HQ3.out, by rw [List.length_append, Hul.out]; rfl⟩
          case measure => simp [intOf]; omega
        · obtain rfl : j = 30 := by omega
          go_wp2_with fail
          have hnew : Below wr.heap.size wr (wr.alloc (.cells #[.int .i64 a.what, .int .i64 a.n, .int .i64 a.m, .slice Av nb cv] 31)) := (Below.refl _ _).alloc (Nat.le_refl _) _
          go_meet
          exact ⟨M, R, N, s, vals, ls, us, HL.out.on hnew, HH.out, by have := HQ.out; omega, by have := Hul.out; omega⟩
      · obtain rfl : j = n1 := by omega
        go_wp2_with fail
        go_meet
        exact ⟨M, R, N, s, vals, ls, us, HL.out, HH.out, by have := HQ.out; omega, by have := Hul.out; omega⟩
  case rest =>
  obtain ⟨M, R, N, s, vals, ls, us, hl, hh, hq, hul⟩ := hcut
  clear HBI HH0 HQ1
  have HL := Lib.hid hl
  have HH := Lib.hid hh
  have HQ := Lib.hid hq
  have Hul := Lib.hid hul
  clear hl hh hq hul
  have hpos := HH.out.pos
  have hlen := HH.out.len
  have hvl := HL.out.mom.1
  obtain ⟨nn, hnn⟩ : ∃ nn, nn = us.length := ⟨_, rfl⟩
  have hvn : vals.length = nn := by omega
  obtain ⟨gm, cm, hvm, _, hgm⟩ := HL.out.om.form (by omega)
  obtain ⟨gu, cu, hvu, _, hgu⟩ := HL.out.ou.form (by omega)
  rw [hvn] at hvm
  rw [← hnn] at hvu
  subst hvm hvu
  obtain ⟨z, hz⟩ : ∃ z, nn = z + 1 := ⟨nn - 1, by omega⟩
  have hn31 : nn ≤ 31 := by have := Hul.out; omega
  have hzs : (nn : Int) - 1 = (z : Int) := by omega
  have hzn : z < nn := by omega
  have hwz : IntKind.i64.wrap (z : Int) = (z : Int) := IntWalk.i64_in _ (by omega)
  have hn0 : 0 < nn := by omega
  have Hnn := Lib.hid hnn
  have Hvn := Lib.hid hvn
  have Hz := Lib.hid hz
  clear hpos hlen hvl hnn hvn hz
  have HK0 : Hid (s.Ok) := HL.out.live.file.ok
  have HF0 : Hid ((∀ i, M i → i < wc.heap.size) ∧ (∀ i, R i → i < wc.heap.size) ∧ (∀ i, N i → i < wc.heap.size) ∧ (∀ i, M i → ¬ R i) ∧ gm < wc.heap.size ∧ gu < wc.heap.size) := ⟨HL.out.live.file.lt1, HL.out.live.file.lt2, HL.out.nlt, HL.out.live.file.2.1, hgm, hgu⟩
  clear hgm hgu
  go_wp2_with fail
  refine (fcopy_m HL.out.live.file (by have := HQ.out; omega)).mono ?_
  rintro e wp ⟨P, MP, rfl, hg, hb, hMP⟩
  have HP : Hid (Live w wp P MP R s) := ⟨HL.out.live.below.trans (hb.mono HL.out.live.below.size), hg, fun i hi => Nat.le_trans HL.out.live.below.size (hMP i hi)⟩
  have HMP : Hid ((∀ i, MP i → wc.heap.size ≤ i) ∧ (∀ i, MP i → i < wp.heap.size) ∧ wc.heap.size ≤ wp.heap.size) := ⟨hMP, hg.lt1, hb.size⟩
  replace HL := Lib.hid (HL.out.on hb)
  clear hg hb hMP
  go_wp2_with fail
  refine (fcopy_m HL.out.live.file (by have := HQ.out; omega)).mono ?_
  rintro e wq ⟨Q, MQ, rfl, hg, hb, hMQ⟩
  have HQf : Hid (Live w wq Q MQ R s) := ⟨HL.out.live.below.trans (hb.mono HL.out.live.below.size), hg, fun i hi => Nat.le_trans HL.out.live.below.size (hMQ i hi)⟩
  have HMQ : Hid ((∀ i, MQ i → wp.heap.size ≤ i) ∧ (∀ i, MQ i → i < wq.heap.size) ∧ wp.heap.size ≤ wq.heap.size) := ⟨hMQ, hg.lt1, hb.size⟩
  replace HL := Lib.hid (HL.out.on hb)
  replace HP := Lib.hid (HP.out.on hb)
  clear hg hb hMQ
  go_wp2_with fail
  refine (fcopy_m HL.out.live.file (by have := HQ.out; omega)).mono ?_
  rintro e wt ⟨T, MT, rfl, hg, hb, hMT⟩
  have HT : Hid (Live w wt T MT R s) := ⟨HL.out.live.below.trans (hb.mono HL.out.live.below.size), hg, fun i hi => Nat.le_trans HL.out.live.below.size (hMT i hi)⟩
  have HMT : Hid ((∀ i, MT i → wq.heap.size ≤ i) ∧ (∀ i, MT i → i < wt.heap.size) ∧ wq.heap.size ≤ wt.heap.size) := ⟨hMT, hg.lt1, hb.size⟩
  replace HL := Lib.hid (HL.out.on hb)
  replace HP := Lib.hid (HP.out.on hb)
  replace HQf := Lib.hid (HQf.out.on hb)
  clear hg hb hMT
  obtain ⟨lo, hlo⟩ : ∃ lo, s.loose = lo := ⟨_, rfl⟩
  have Hlo := Lib.hid hlo
  have hlob : lo ≤ 2000 := by have h1 : s.big = s.safe.length + s.loose := rfl; have h2 := HQ.out; omega
  obtain ⟨kk, hkk⟩ : ∃ kk, kk = q % (lo + 1) := ⟨_, rfl⟩
  have hkl2 : kk ≤ lo := by have := Nat.mod_lt q (show 0 < lo + 1 by omega); omega
  have hmodk : (q : Int) % ((lo : Int) + 1) = (kk : Int) := by rw [hkk]; push_cast; rfl
  have hmodk' : (q : Int).tmod ((lo : Int) + 1) = (kk : Int) := by rw [Int.tmod_eq_emod_of_nonneg (by omega)]; exact hmodk
  clear hkk hlo
  go_wp2_with fail
  refine (floose_m HL.out.live.file lo Hlo.out).mono ?_
  rintro e wl ⟨rfl, hb⟩
  have Hwl : Hid (wt.heap.size ≤ wl.heap.size) := hb.size
  replace HL := Lib.hid (HL.out.on hb)
  replace HP := Lib.hid (HP.out.on hb)
  replace HQf := Lib.hid (HQf.out.on hb)
  replace HT := Lib.hid (HT.out.on hb)
  clear hb
  go_wp2_with fail
  clear hmodk hmodk'
  refine (fcrash_m HL.out.live.file (by have := HQ.out; omega) kk kk (by rw [Hlo.out]; omega)).mono ?_
  rintro e wf ⟨rfl, hmut⟩
  obtain ⟨M2, R2, hlf, hc, hm1, hm2⟩ := HL.out.live.mut hmut
  have HM2 : Hid (∀ i, M2 i ∨ R2 i → i < wc.heap.size ∨ wt.heap.size ≤ i) := fun i hi => by
    have h0 := HF0.out
    have h1 := Hwl.out
    rcases hi with hi | hi
    · rcases hm1 i hi with h | h
      · exact .inl (h0.1 i h)
      · exact .inr (by omega)
    · rcases hm2 i hi with h | h
      · exact .inl (h0.2.1 i h)
      · exact .inr (by omega)
  have HMom : Hid (MomR wf N vals ls) := HL.out.mom.chg hc HL.out.mn
  have HOm : Hid (wf.ownsRow w.heap.size 22 1 (.slice (some ⟨gm, 0, none⟩) nn cm) vals.length vals) := hc.own HL.out.om (fun g hg => (HL.out.nm g hg).1)
  have HOu : Hid (wf.ownsRow w.heap.size 3 1 (.slice (some ⟨gu, 0, none⟩) nn cu) us.length (uvs us)) := hc.own HL.out.ou (fun g hg => (HL.out.nu g hg).1)
  have HfrF := Lib.hid HL.out.live.fresh
  replace HP := Lib.hid (HP.out.keep hc (fun i hi => ⟨fun e => by have h1 := HF0.out.1 i hi; have h2 := HMP.out.1 i e; omega, HF0.out.2.2.2.1 i hi⟩) HfrF.out)
  replace HQf := Lib.hid (HQf.out.keep hc (fun i hi => ⟨fun e => by have h1 := HF0.out.1 i hi; have h2 := HMQ.out.1 i e; have h3 := HMP.out.2.2; omega, HF0.out.2.2.2.1 i hi⟩) HfrF.out)
  replace HT := Lib.hid (HT.out.keep hc (fun i hi => ⟨fun e => by have h1 := HF0.out.1 i hi; have h2 := HMT.out.1 i e; have h3 := HMP.out.2.2; have h4 := HMQ.out.2.2; omega, HF0.out.2.2.2.1 i hi⟩) HfrF.out)
  have Hwf : Hid (wl.heap.size ≤ wf.heap.size) := hc.size
  have HF := Lib.hid hlf
  clear hlf hc hm1 hm2 hmut HL HfrF
  go_wp2_with fail
  have HSZ : Hid (wc.heap.size ≤ wp.heap.size ∧ wp.heap.size ≤ wq.heap.size ∧ wq.heap.size ≤ wt.heap.size) := ⟨HMP.out.2.2, HMQ.out.2.2, HMT.out.2.2⟩
  have HSQ : Hid (∀ i, MQ i ∨ R i → (wp.heap.size ≤ i ∧ i < wq.heap.size) ∨ i < wc.heap.size) := fun i hi => hi.elim (fun h => .inl ⟨HMQ.out.1 i h, HMQ.out.2.1 i h⟩) (fun h => .inr (HF0.out.2.1 i h))
  have HST : Hid (∀ i, MT i ∨ R i → (wq.heap.size ≤ i ∧ i < wt.heap.size) ∨ i < wc.heap.size) := fun i hi => hi.elim (fun h => .inl ⟨HMT.out.1 i h, HMT.out.2.1 i h⟩) (fun h => .inr (HF0.out.2.1 i h))
  refine (fcrash_m HP.out.file (by have := HQ.out; omega) 0 0 (by omega)).mono ?_
  rintro e wg ⟨rfl, hmut⟩
  obtain ⟨MP2, RP2, hlf, hc, hm1, hm2⟩ := HP.out.mut hmut
  have HMP2 : Hid (∀ i, MP2 i ∨ RP2 i → i < wp.heap.size ∨ wt.heap.size ≤ i) := fun i hi => by
    have h0 := HMP.out
    have h1 := Hwl.out
    have h2 := Hwf.out
    have h3 := HF0.out
    have h4 := HMP.out.2.2
    have h5 := HMQ.out.2.2
    have h6 := HMT.out.2.2
    rcases hi with hi | hi
    · rcases hm1 i hi with h | h
      · exact .inl (h0.2.1 i h)
      · exact .inr (by omega)
    · rcases hm2 i hi with h | h
      · have h7 := h3.2.1 i h
        exact .inl (by omega)
      · exact .inr (by omega)
  have Hrg : Hid (∀ i, MP i → wc.heap.size ≤ i ∧ i < wp.heap.size ∧ wc.heap.size ≤ wc.heap.size ∧ wp.heap.size ≤ wt.heap.size) := fun i hi => by
    have h0 := HMP.out
    have h4 := HMP.out.2.2
    have h5 := HMQ.out.2.2
    have h6 := HMT.out.2.2
    have h8 := h0.1 i hi
    have h9 := h0.2.1 i hi
    omega
  have Hfr := Lib.hid HP.out.fresh
  replace HF := Lib.hid (HF.out.keep hc (fun i hi => ⟨fun e => by have h1 := Hrg.out i hi; have h2 := HM2.out i (.inl e); have h3 := HSZ.out; omega, fun e => by have h1 := Hrg.out i hi; have h2 := HM2.out i (.inr e); have h3 := HSZ.out; omega⟩) Hfr.out)
  replace HQf := Lib.hid (HQf.out.keep hc (fun i hi => ⟨fun e => by have h1 := Hrg.out i hi; have h2 := HSQ.out i (.inl e); have h3 := HSZ.out; omega, fun e => by have h1 := Hrg.out i hi; have h2 := HSQ.out i (.inr e); have h3 := HSZ.out; omega⟩) Hfr.out)
  replace HT := Lib.hid (HT.out.keep hc (fun i hi => ⟨fun e => by have h1 := Hrg.out i hi; have h2 := HST.out i (.inl e); have h3 := HSZ.out; omega, fun e => by have h1 := Hrg.out i hi; have h2 := HST.out i (.inr e); have h3 := HSZ.out; omega⟩) Hfr.out)
  replace HMom := Lib.hid (HMom.out.chg hc (fun i hi e => by have h1 := Hrg.out i hi; have h2 := HF0.out.2.2.1 i e; omega))
  replace HOm := Lib.hid (hc.own HOm.out (fun g hg e => by have h1 := Hrg.out g e; have h2 := HF0.out.2.2.2.2.1; simp [Value.ownBlock] at hg; omega))
  replace HOu := Lib.hid (hc.own HOu.out (fun g hg e => by have h1 := Hrg.out g e; have h2 := HF0.out.2.2.2.2.2; simp [Value.ownBlock] at hg; omega))
  have Hszwg : Hid (wl.heap.size ≤ wg.heap.size) := Nat.le_trans (Hwf.out) hc.size
  clear HP Hrg Hfr
  have HP := Lib.hid hlf
  clear hlf hc hm1 hm2 hmut
  go_wp2_with fail
  refine (fcrash_m HQf.out.file (by have := HQ.out; omega) 1073741824 lo (by rw [Hlo.out]; omega)).mono ?_
  rintro e wh ⟨rfl, hmut⟩
  obtain ⟨MQ2, RQ2, hlf, hc, hm1, hm2⟩ := HQf.out.mut hmut
  have HMQ2 : Hid (∀ i, MQ2 i ∨ RQ2 i → i < wq.heap.size ∨ wt.heap.size ≤ i) := fun i hi => by
    have h0 := HMQ.out
    have h1 := Hwl.out
    have h2 := Hwf.out
    have h3 := HF0.out
    have h4 := HMP.out.2.2
    have h5 := HMQ.out.2.2
    have h6 := HMT.out.2.2
    have h9 := Hszwg.out
    rcases hi with hi | hi
    · rcases hm1 i hi with h | h
      · exact .inl (h0.2.1 i h)
      · exact .inr (by omega)
    · rcases hm2 i hi with h | h
      · have h7 := h3.2.1 i h
        exact .inl (by omega)
      · exact .inr (by omega)
  have Hrg : Hid (∀ i, MQ i → wp.heap.size ≤ i ∧ i < wq.heap.size ∧ wc.heap.size ≤ wp.heap.size ∧ wq.heap.size ≤ wt.heap.size) := fun i hi => by
    have h0 := HMQ.out
    have h4 := HMP.out.2.2
    have h5 := HMQ.out.2.2
    have h6 := HMT.out.2.2
    have h8 := h0.1 i hi
    have h9 := h0.2.1 i hi
    omega
  have Hfr := Lib.hid HQf.out.fresh
  replace HF := Lib.hid (HF.out.keep hc (fun i hi => ⟨fun e => by have h1 := Hrg.out i hi; have h2 := HM2.out i (.inl e); have h3 := HSZ.out; omega, fun e => by have h1 := Hrg.out i hi; have h2 := HM2.out i (.inr e); have h3 := HSZ.out; omega⟩) Hfr.out)
  replace HP := Lib.hid (HP.out.keep hc (fun i hi => ⟨fun e => by have h1 := Hrg.out i hi; have h2 := HMP2.out i (.inl e); have h3 := HSZ.out; omega, fun e => by have h1 := Hrg.out i hi; have h2 := HMP2.out i (.inr e); have h3 := HSZ.out; omega⟩) Hfr.out)
  replace HT := Lib.hid (HT.out.keep hc (fun i hi => ⟨fun e => by have h1 := Hrg.out i hi; have h2 := HST.out i (.inl e); have h3 := HSZ.out; omega, fun e => by have h1 := Hrg.out i hi; have h2 := HST.out i (.inr e); have h3 := HSZ.out; omega⟩) Hfr.out)
  replace HMom := Lib.hid (HMom.out.chg hc (fun i hi e => by have h1 := Hrg.out i hi; have h2 := HF0.out.2.2.1 i e; omega))
  replace HOm := Lib.hid (hc.own HOm.out (fun g hg e => by have h1 := Hrg.out g e; have h2 := HF0.out.2.2.2.2.1; simp [Value.ownBlock] at hg; omega))
  replace HOu := Lib.hid (hc.own HOu.out (fun g hg e => by have h1 := Hrg.out g e; have h2 := HF0.out.2.2.2.2.2; simp [Value.ownBlock] at hg; omega))
  have Hszwh : Hid (wl.heap.size ≤ wh.heap.size) := Nat.le_trans (Hszwg.out) hc.size
  clear HQf Hrg Hfr
  have HQf := Lib.hid hlf
  clear hlf hc hm1 hm2 hmut
  go_wp2_with fail
  refine (fsync_m HT.out.file (by have := HQ.out; omega)).mono ?_
  rintro e wi ⟨rfl, hmut⟩
  obtain ⟨MT2, RT2, hlf, hc, hm1, hm2⟩ := HT.out.mut hmut
  have HMT2 : Hid (∀ i, MT2 i ∨ RT2 i → i < wt.heap.size ∨ wt.heap.size ≤ i) := fun i hi => by
    have h0 := HMT.out
    have h1 := Hwl.out
    have h2 := Hwf.out
    have h3 := HF0.out
    have h4 := HMP.out.2.2
    have h5 := HMQ.out.2.2
    have h6 := HMT.out.2.2
    have h9 := Hszwh.out
    rcases hi with hi | hi
    · rcases hm1 i hi with h | h
      · exact .inl (h0.2.1 i h)
      · exact .inr (by omega)
    · rcases hm2 i hi with h | h
      · have h7 := h3.2.1 i h
        exact .inl (by omega)
      · exact .inr (by omega)
  have Hrg : Hid (∀ i, MT i → wq.heap.size ≤ i ∧ i < wt.heap.size ∧ wc.heap.size ≤ wq.heap.size ∧ wt.heap.size ≤ wt.heap.size) := fun i hi => by
    have h0 := HMT.out
    have h4 := HMP.out.2.2
    have h5 := HMQ.out.2.2
    have h6 := HMT.out.2.2
    have h8 := h0.1 i hi
    have h9 := h0.2.1 i hi
    omega
  have Hfr := Lib.hid HT.out.fresh
  replace HF := Lib.hid (HF.out.keep hc (fun i hi => ⟨fun e => by have h1 := Hrg.out i hi; have h2 := HM2.out i (.inl e); have h3 := HSZ.out; omega, fun e => by have h1 := Hrg.out i hi; have h2 := HM2.out i (.inr e); have h3 := HSZ.out; omega⟩) Hfr.out)
  replace HP := Lib.hid (HP.out.keep hc (fun i hi => ⟨fun e => by have h1 := Hrg.out i hi; have h2 := HMP2.out i (.inl e); have h3 := HSZ.out; omega, fun e => by have h1 := Hrg.out i hi; have h2 := HMP2.out i (.inr e); have h3 := HSZ.out; omega⟩) Hfr.out)
  replace HQf := Lib.hid (HQf.out.keep hc (fun i hi => ⟨fun e => by have h1 := Hrg.out i hi; have h2 := HMQ2.out i (.inl e); have h3 := HSZ.out; omega, fun e => by have h1 := Hrg.out i hi; have h2 := HMQ2.out i (.inr e); have h3 := HSZ.out; omega⟩) Hfr.out)
  replace HMom := Lib.hid (HMom.out.chg hc (fun i hi e => by have h1 := Hrg.out i hi; have h2 := HF0.out.2.2.1 i e; omega))
  replace HOm := Lib.hid (hc.own HOm.out (fun g hg e => by have h1 := Hrg.out g e; have h2 := HF0.out.2.2.2.2.1; simp [Value.ownBlock] at hg; omega))
  replace HOu := Lib.hid (hc.own HOu.out (fun g hg e => by have h1 := Hrg.out g e; have h2 := HF0.out.2.2.2.2.2; simp [Value.ownBlock] at hg; omega))
  have Hszwi : Hid (wl.heap.size ≤ wi.heap.size) := Nat.le_trans (Hszwh.out) hc.size
  clear HT Hrg Hfr
  have HT := Lib.hid hlf
  clear hlf hc hm1 hm2 hmut
  have HFI : Hid (FI w wi F P Q T (s.settled kk) (s.settled 0) (s.settled lo) (s.settled lo) N gm gu vals ls us) := by
    refine ⟨HF.out.below, ⟨_, _, HF.out.file⟩, ⟨_, _, HP.out.file⟩, ⟨_, _, HQf.out.file⟩, ⟨MT2, RT2, ?_⟩, HMom.out, fun j v hv => ?_, fun j u hu => ?_⟩
    · have := HT.out.file
      rw [Hlo.out] at this
      exact this
    · have h1 := HOm.out
      rw [Hvn.out] at h1
      rw [h1.cellAt j (by rw [Nat.mul_one, ← Hvn.out]; exact (List.getElem?_eq_some_iff.1 hv).1)]
      exact hv
    · have h1 := HOu.out
      rw [← Hnn.out] at h1
      rw [h1.cellAt j (by rw [Nat.mul_one, Hnn.out]; exact (List.getElem?_eq_some_iff.1 hu).1)]
      exact uvs_get hu
  clear HSZ HF HP HQf HT HMom HOm HOu HM2 HMP2 HMQ2 HMT2 HSQ HST HMP HMQ HMT HF0 Hszwg Hszwh Hszwi Hwf Hwl
  obtain ⟨v0, hv0, hb0⟩ := HFI.out.mom.get HH.out.head.1
  obtain ⟨vz, hvz, hbz⟩ := HFI.out.mom.get (show ls[z]? = some s.bytes by have h1 := HH.out.last.1; have h2 := Hz.out; rw [← Hnn.out, show nn - 1 = z by omega] at h1; exact h1)
  have Hv0 := Lib.hid hv0
  have Hvz := Lib.hid hvz
  obtain ⟨B0, d0, rfl, _, _⟩ := hb0
  obtain ⟨Bz, dz, rfl, _, _⟩ := hbz
  obtain ⟨m0, hm0⟩ : ∃ m, m = s.safe.length := ⟨_, rfl⟩
  obtain ⟨mz, hmz⟩ : ∃ m, m = s.bytes.length := ⟨_, rfl⟩
  rw [← hm0] at Hv0 hv0
  rw [← hmz] at Hvz hvz
  have Hm0 := Lib.hid hm0
  have Hmz := Lib.hid hmz
  have Hok : Hid (s.Ok) := HK0.out
  have HG0 : Hid (∀ wk, FI w wk F P Q T (s.settled kk) (s.settled 0) (s.settled lo) (s.settled lo) N gm gu vals ls us → Bs wk wk.heap.size (.slice B0 m0 d0) s.safe) := fun wk h => (h.mom.2 0 _ _ Hv0.out HH.out.head.1).bs
  have HGz : Hid (∀ wk, FI w wk F P Q T (s.settled kk) (s.settled 0) (s.settled lo) (s.settled lo) N gm gu vals ls us → Bs wk wk.heap.size (.slice Bz mz dz) s.bytes) := fun wk h => (h.mom.2 z _ _ Hvz.out (by have h1 := HH.out.last.1; have h2 := Hz.out; rw [← Hnn.out, show nn - 1 = z by omega] at h1; exact h1)).bs
  clear hv0 hvz hm0 hmz
  obtain ⟨x, hx⟩ : ∃ x, (s.behind kk).length = x := ⟨_, rfl⟩
  have Hx := Lib.hid hx
  clear hx
  have hse : Hid (∀ j, j ≤ lo → (s.settled j).big ≤ 2000) := fun j hj => Nat.le_trans (FSt.settled_big s (k := j) (by rw [Hlo.out]; exact hj)) HQ.out
  have hbl : Hid (s.behind lo = s.bytes) := by have h1 := Hok.out.whole; rw [Hlo.out] at h1; exact h1
  go_wp2_with fail
  refine wp_region_noPanic ?_
  refine wp_region_held_drew (S := fun w' => FI w w' F P Q T (s.settled kk) (s.settled 0) (s.settled lo) (s.settled lo) N gm gu vals ls us) (by kernel_rfl) HFI.out.drew (fun hHeld => ?_)
  clear HFI
  generalize World.drew _ = W at *
  refine wpAnyH_take (i := 0) (v := ?_) opAt_0 (by kernel_rfl) (by kernel_rfl) (by kernel_rfl) (fun _ _ _ h => h) (Or.inl ⟨by rfl, ?_⟩) hHeld ?_
  rotate_left
  · (intro w' hSw; go_simp; try with_reducible rfl)
  try simp only [Act.put, List.setIfInBounds_toArray, List.set_cons_zero, List.set_cons_succ]
  refine wpAnyH_take (i := 1) (v := ?_) opAt_1 (by kernel_rfl) (by kernel_rfl) (by kernel_rfl) (fun _ _ _ h => h) (Or.inl ⟨by rfl, ?_⟩) hHeld ?_
  rotate_left
  · (intro w' hSw; go_simp; try with_reducible rfl)
  try simp only [Act.put, List.setIfInBounds_toArray, List.set_cons_zero, List.set_cons_succ]
  refine wpAnyH_take (i := 2) (v := ?_) opAt_2 (by kernel_rfl) (by kernel_rfl) (by kernel_rfl) (fun _ _ _ h => h) (Or.inl ⟨by rfl, ?_⟩) hHeld ?_
  rotate_left
  · (intro w' hSw; go_simp; try with_reducible rfl)
  try simp only [Act.put, List.setIfInBounds_toArray, List.set_cons_zero, List.set_cons_succ]
  refine wpAnyH_take (i := 3) (v := ?_) opAt_3 (by kernel_rfl) (by kernel_rfl) (by kernel_rfl) (fun _ _ _ h => h) (Or.inl ⟨by rfl, ?_⟩) hHeld ?_
  rotate_left
  · (intro w' hSw; go_simp; try with_reducible rfl)
  try simp only [Act.put, List.setIfInBounds_toArray, List.set_cons_zero, List.set_cons_succ]
  refine wpAnyH_take (i := 4) (v := ?_) opAt_4 (by kernel_rfl) (by kernel_rfl) (by kernel_rfl) (fun _ _ _ h => h) (Or.inl ⟨by rfl, ?_⟩) hHeld ?_
  rotate_left
  · (intro w' hSw; go_simp; try with_reducible rfl)
  try simp only [Act.put, List.setIfInBounds_toArray, List.set_cons_zero, List.set_cons_succ]
  refine wpAnyH_take (i := 5) (v := ?_) opAt_5 (by kernel_rfl) (by kernel_rfl) (by kernel_rfl) (fun _ _ _ h => h) (Or.inl ⟨by rfl, ?_⟩) hHeld ?_
  rotate_left
  · (intro w' hSw; go_simp; try with_reducible rfl)
  try simp only [Act.put, List.setIfInBounds_toArray, List.set_cons_zero, List.set_cons_succ]
  refine wpAnyH_take (i := 6) (v := ?_) opAt_6 (by kernel_rfl) (by kernel_rfl) (by kernel_rfl) (fun _ _ _ h => h) (Or.inl ⟨by rfl, ?_⟩) hHeld ?_
  rotate_left
  · (intro w' hSw; go_simp; try with_reducible rfl)
  try simp only [Act.put, List.setIfInBounds_toArray, List.set_cons_zero, List.set_cons_succ]
  refine wpAnyH_take (i := 7) (v := ?_) opAt_7 (by kernel_rfl) (by kernel_rfl) (by kernel_rfl) (fun _ _ _ h => h) (Or.inl ⟨by rfl, ?_⟩) hHeld ?_
  rotate_left
  · (intro w' hSw; go_simp; try with_reducible rfl)
  try simp only [Act.put, List.setIfInBounds_toArray, List.set_cons_zero, List.set_cons_succ]
  refine wpAnyH_take (i := 8) (v := ?_) opAt_8 (by kernel_rfl) (by kernel_rfl) (by kernel_rfl) (fun _ _ _ h => h) (Or.inl ⟨by rfl, ?_⟩) hHeld ?_
  rotate_left
  · (intro w' hSw; go_simp; try with_reducible rfl)
  try simp only [Act.put, List.setIfInBounds_toArray, List.set_cons_zero, List.set_cons_succ]
  refine wpAnyH_ready (rs := [9]) (by kernel_rfl) (by simp) ?_
  refine AllReadyH.cons rfl (fun K hK => ?_) AllReadyH.nil
  go_simp
  obtain ⟨_, _, hfm⟩ := hHeld.f
  refine (floose_m hfm 0 rfl).mono ?_
  rintro e wn ⟨rfl, hb⟩
  have hHeld1 := hHeld.on hb
  clear hHeld hb hfm
  have hHeld := hHeld1
  clear hHeld1
  go_wp2_with fail
  refine hK.out _ _ (hHeld) (fun hHeld => ?_)
  clear hK K
  try simp only [Act.put, List.setIfInBounds_toArray, List.set_cons_zero, List.set_cons_succ]
  refine wpAnyH_take (i := 10) (v := ?_) opAt_10 (by kernel_rfl) (by kernel_rfl) (by kernel_rfl) (fun _ _ _ h => h) (Or.inl ⟨by rfl, ?_⟩) hHeld ?_
  rotate_left
  · (intro w' hSw; go_simp; try with_reducible rfl)
  try simp only [Act.put, List.setIfInBounds_toArray, List.set_cons_zero, List.set_cons_succ]
  refine wpAnyH_take (i := 11) (v := ?_) opAt_11 (by kernel_rfl) (by kernel_rfl) (by kernel_rfl) (fun _ _ _ h => h) (Or.inl ⟨by rfl, ?_⟩) hHeld ?_
  rotate_left
  · (intro w' hSw; go_simp; try with_reducible rfl)
  try simp only [Act.put, List.setIfInBounds_toArray, List.set_cons_zero, List.set_cons_succ]
  refine wpAnyH_take (i := 12) (v := ?_) opAt_12 (by kernel_rfl) (by kernel_rfl) (by kernel_rfl) (fun _ _ _ h => h) (Or.inl ⟨by rfl, ?_⟩) hHeld ?_
  rotate_left
  · (intro w' hSw; go_simp; try with_reducible rfl)
  try simp only [Act.put, List.setIfInBounds_toArray, List.set_cons_zero, List.set_cons_succ]
  refine wpAnyH_take (i := 13) (v := ?_) opAt_13 (by kernel_rfl) (by kernel_rfl) (by kernel_rfl) (fun _ _ _ h => h) (Or.inl ⟨by rfl, ?_⟩) hHeld ?_
  rotate_left
  · (intro w' hSw; go_simp; try with_reducible rfl)
  try simp only [Act.put, List.setIfInBounds_toArray, List.set_cons_zero, List.set_cons_succ]
  refine wpAnyH_take (i := 15) (v := ?_) opAt_15 (by kernel_rfl) (by kernel_rfl) (by kernel_rfl) (fun _ _ _ h => h) (Or.inl ⟨by rfl, ?_⟩) hHeld ?_
  rotate_left
  · (intro w' hSw; go_simp; try with_reducible rfl)
  try simp only [Act.put, List.setIfInBounds_toArray, List.set_cons_zero, List.set_cons_succ]
  refine wpAnyH_ready (rs := [14]) (by kernel_rfl) (by simp) ?_
  refine AllReadyH.cons rfl (fun K hK => ?_) AllReadyH.nil
  go_simp
  obtain ⟨_, _, hfm⟩ := hHeld.f
  refine (fsafe_m hfm x Hx.out).mono ?_
  rintro e wn ⟨rfl, hb⟩
  have hHeld1 := hHeld.on hb
  clear hHeld hb hfm
  have hHeld := hHeld1
  clear hHeld1
  go_wp2_with fail
  refine hK.out _ _ (hHeld) (fun hHeld => ?_)
  clear hK K
  try simp only [Act.put, List.setIfInBounds_toArray, List.set_cons_zero, List.set_cons_succ]
  refine wpAnyH_ready (rs := [16]) (by kernel_rfl) (by simp) ?_
  refine AllReadyH.cons rfl (fun K hK => ?_) AllReadyH.nil
  go_simp
  obtain ⟨_, _, hfm⟩ := hHeld.f
  refine (fsize_m hfm (by have := hse.out kk hkl2; omega) x (by rw [FSt.settled_bytes]; exact Hx.out)).mono ?_
  rintro e wn ⟨rfl, hb⟩
  have hHeld1 := hHeld.on hb
  clear hHeld hb hfm
  have hHeld := hHeld1
  clear hHeld1
  go_wp2_with fail
  refine hK.out _ _ (hHeld) (fun hHeld => ?_)
  clear hK K
  try simp only [Act.put, List.setIfInBounds_toArray, List.set_cons_zero, List.set_cons_succ]
  refine wpAnyH_take (i := 17) (v := ?_) opAt_17 (by kernel_rfl) (by kernel_rfl) (by kernel_rfl) (fun _ _ _ h => h) (Or.inl ⟨by rfl, ?_⟩) hHeld ?_
  rotate_left
  · (intro w' hSw; go_simp; try with_reducible rfl)
  try simp only [Act.put, List.setIfInBounds_toArray, List.set_cons_zero, List.set_cons_succ]
  refine wpAnyH_take (i := 18) (v := ?_) opAt_18 (by kernel_rfl) (by kernel_rfl) (by kernel_rfl) (fun _ _ _ h => h) (Or.inl ⟨by rfl, ?_⟩) hHeld ?_
  rotate_left
  · (intro w' hSw; go_simp; try with_reducible rfl)
  try simp only [Act.put, List.setIfInBounds_toArray, List.set_cons_zero, List.set_cons_succ]
  refine wpAnyH_take (i := 19) (v := ?_) opAt_19 (by kernel_rfl) (by kernel_rfl) (by kernel_rfl) (fun _ _ _ h => h) (Or.inl ⟨by rfl, ?_⟩) hHeld ?_
  rotate_left
  · (intro w' hSw; go_simp; try with_reducible rfl)
  try simp only [Act.put, List.setIfInBounds_toArray, List.set_cons_zero, List.set_cons_succ]
  refine wpAnyH_take (i := 20) (v := ?_) opAt_20 (by kernel_rfl) (by kernel_rfl) (by kernel_rfl) (fun _ _ _ h => h) (Or.inl ⟨by rfl, ?_⟩) hHeld ?_
  rotate_left
  · (intro w' hSw; go_simp; try with_reducible rfl)
  try simp only [Act.put, List.setIfInBounds_toArray, List.set_cons_zero, List.set_cons_succ]
  refine wpAnyH_take (i := 22) (v := ?_) opAt_22 (by kernel_rfl) (by kernel_rfl) (by kernel_rfl) (fun _ _ _ h => h) (Or.inl ⟨by rfl, ?_⟩) hHeld ?_
  rotate_left
  · (intro w' hSw; go_simp; try with_reducible rfl)
  try simp only [Act.put, List.setIfInBounds_toArray, List.set_cons_zero, List.set_cons_succ]
  refine wpAnyH_take (i := 23) (v := ?_) opAt_23 (by kernel_rfl) (by kernel_rfl) (by kernel_rfl) (fun _ _ _ h => h) (Or.inl ⟨by rfl, ?_⟩) hHeld ?_
  rotate_left
  · (intro w' hSw; go_simp; try with_reducible rfl)
  try simp only [Act.put, List.setIfInBounds_toArray, List.set_cons_zero, List.set_cons_succ]
  refine wpAnyH_take (i := 24) (v := ?_) opAt_24 (by kernel_rfl) (by kernel_rfl) (by kernel_rfl) (fun _ _ _ h => h) (Or.inl ⟨by rfl, ?_⟩) hHeld ?_
  rotate_left
  · (intro w' hSw; have cm0 := hSw.cm 0 _ Hv0.out; have cmz := hSw.cm z _ Hvz.out; go_simp; try with_reducible rfl)
  try simp only [Act.put, List.setIfInBounds_toArray, List.set_cons_zero, List.set_cons_succ]
  refine wpAnyH_ready (rs := [21]) (by kernel_rfl) (by simp) ?_
  refine AllReadyH.cons rfl (fun K hK => ?_) AllReadyH.nil
  go_simp
  refine (fall_e hHeld.p (by have := hse.out 0 (Nat.zero_le _); omega) (s.safe) (by rw [FSt.settled_bytes, behind_zero])).mono ?_
  rintro e wn ⟨hr1, rfl, hbs, hb⟩
  have Hr1 := Lib.hid hbs
  have hHeld1 := hHeld.on hb
  clear hHeld hbs hb
  have hHeld := hHeld1
  clear hHeld1
  go_wp2_with fail
  refine hK.out _ _ (hHeld) (fun hHeld => ?_)
  clear hK K
  try simp only [Act.put, List.setIfInBounds_toArray, List.set_cons_zero, List.set_cons_succ]
  refine wpAnyH_ready (rs := [25]) (by kernel_rfl) (by simp) ?_
  refine AllReadyH.cons rfl (fun K hK => ?_) AllReadyH.nil
  go_simp
  refine (fequal_t Hr1.out (HG0.out _ hHeld)).mono ?_
  rintro e wn ⟨rfl, rfl⟩
  go_wp2_with fail
  refine hK.out _ _ (hHeld) (fun hHeld => ?_)
  clear hK K
  try simp only [Act.put, List.setIfInBounds_toArray, List.set_cons_zero, List.set_cons_succ]
  refine wpAnyH_take (i := 26) (v := ?_) opAt_26 (by kernel_rfl) (by kernel_rfl) (by kernel_rfl) (fun _ _ _ h => h) (Or.inl ⟨by rfl, ?_⟩) hHeld ?_
  rotate_left
  · (intro w' hSw; go_simp; try with_reducible rfl)
  try simp only [Act.put, List.setIfInBounds_toArray, List.set_cons_zero, List.set_cons_succ]
  refine wpAnyH_take (i := 27) (v := ?_) opAt_27 (by kernel_rfl) (by kernel_rfl) (by kernel_rfl) (fun _ _ _ h => h) (Or.inl ⟨by rfl, ?_⟩) hHeld ?_
  rotate_left
  · (intro w' hSw; go_simp; try with_reducible rfl)
  try simp only [Act.put, List.setIfInBounds_toArray, List.set_cons_zero, List.set_cons_succ]
  refine wpAnyH_take (i := 28) (v := ?_) opAt_28 (by kernel_rfl) (by kernel_rfl) (by kernel_rfl) (fun _ _ _ h => h) (Or.inl ⟨by rfl, ?_⟩) hHeld ?_
  rotate_left
  · (intro w' hSw; go_simp; try with_reducible rfl)
  try simp only [Act.put, List.setIfInBounds_toArray, List.set_cons_zero, List.set_cons_succ]
  refine wpAnyH_take (i := 29) (v := ?_) opAt_29 (by kernel_rfl) (by kernel_rfl) (by kernel_rfl) (fun _ _ _ h => h) (Or.inl ⟨by rfl, ?_⟩) hHeld ?_
  rotate_left
  · (intro w' hSw; go_simp; try with_reducible rfl)
  try simp only [Act.put, List.setIfInBounds_toArray, List.set_cons_zero, List.set_cons_succ]
  refine wpAnyH_take (i := 31) (v := ?_) opAt_31 (by kernel_rfl) (by kernel_rfl) (by kernel_rfl) (fun _ _ _ h => h) (Or.inl ⟨by rfl, ?_⟩) hHeld ?_
  rotate_left
  · (intro w' hSw; go_simp; try with_reducible rfl)
  try simp only [Act.put, List.setIfInBounds_toArray, List.set_cons_zero, List.set_cons_succ]
  refine wpAnyH_ready (rs := [30]) (by kernel_rfl) (by simp) ?_
  refine AllReadyH.cons rfl (fun K hK => ?_) AllReadyH.nil
  go_simp
  refine (fall_e hHeld.q (by have := hse.out lo (Nat.le_refl _); omega) (s.bytes) (by rw [FSt.settled_bytes]; exact hbl.out)).mono ?_
  rintro e wn ⟨hr2, rfl, hbs, hb⟩
  have Hr2 := Lib.hid hbs
  have hHeld1 := hHeld.on hb
  clear hHeld hbs hb
  have hHeld := hHeld1
  clear hHeld1
  go_wp2_with fail
  refine hK.out _ _ (hHeld) (fun hHeld => ?_)
  clear hK K
  try simp only [Act.put, List.setIfInBounds_toArray, List.set_cons_zero, List.set_cons_succ]
  refine wpAnyH_ready (rs := [32]) (by kernel_rfl) (by simp) ?_
  refine AllReadyH.cons rfl (fun K hK => ?_) AllReadyH.nil
  go_simp
  refine (fall_e hHeld.t (by have := hse.out lo (Nat.le_refl _); omega) (s.bytes) (by rw [FSt.settled_bytes]; exact hbl.out)).mono ?_
  rintro e wn ⟨hr3, rfl, hbs, hb⟩
  have Hr3 := Lib.hid hbs
  replace Hr2 := Lib.hid (Hr2.out.on hb)
  have hHeld1 := hHeld.on hb
  clear hHeld hbs hb
  have hHeld := hHeld1
  clear hHeld1
  go_wp2_with fail
  refine hK.out _ _ (hHeld) (fun hHeld => ?_)
  clear hK K
  try simp only [Act.put, List.setIfInBounds_toArray, List.set_cons_zero, List.set_cons_succ]
  refine wpAnyH_ready (rs := [33]) (by kernel_rfl) (by simp) ?_
  refine AllReadyH.cons rfl (fun K hK => ?_) AllReadyH.nil
  go_simp
  refine (fequal_t Hr2.out Hr3.out).mono ?_
  rintro e wn ⟨rfl, rfl⟩
  go_wp2_with fail
  refine hK.out _ _ (hHeld) (fun hHeld => ?_)
  clear hK K
  try simp only [Act.put, List.setIfInBounds_toArray, List.set_cons_zero, List.set_cons_succ]
  refine wpAnyH_take (i := 34) (v := ?_) opAt_34 (by kernel_rfl) (by kernel_rfl) (by kernel_rfl) (fun _ _ _ h => h) (Or.inl ⟨by rfl, ?_⟩) hHeld ?_
  rotate_left
  · (intro w' hSw; go_simp; try with_reducible rfl)
  try simp only [Act.put, List.setIfInBounds_toArray, List.set_cons_zero, List.set_cons_succ]
  refine wpAnyH_take (i := 35) (v := ?_) opAt_35 (by kernel_rfl) (by kernel_rfl) (by kernel_rfl) (fun _ _ _ h => h) (Or.inl ⟨by rfl, ?_⟩) hHeld ?_
  rotate_left
  · (intro w' hSw; go_simp; try with_reducible rfl)
  try simp only [Act.put, List.setIfInBounds_toArray, List.set_cons_zero, List.set_cons_succ]
  refine wpAnyH_take (i := 36) (v := ?_) opAt_36 (by kernel_rfl) (by kernel_rfl) (by kernel_rfl) (fun _ _ _ h => h) (Or.inl ⟨by rfl, ?_⟩) hHeld ?_
  rotate_left
  · (intro w' hSw; go_simp; try with_reducible rfl)
  try simp only [Act.put, List.setIfInBounds_toArray, List.set_cons_zero, List.set_cons_succ]
  refine wpAnyH_take (i := 37) (v := ?_) opAt_37 (by kernel_rfl) (by kernel_rfl) (by kernel_rfl) (fun _ _ _ h => h) (Or.inl ⟨by rfl, ?_⟩) hHeld ?_
  rotate_left
  · (intro w' hSw; go_simp; try with_reducible rfl)
  try simp only [Act.put, List.setIfInBounds_toArray, List.set_cons_zero, List.set_cons_succ]
  refine wpAnyH_take (i := 39) (v := ?_) opAt_39 (by kernel_rfl) (by kernel_rfl) (by kernel_rfl) (fun _ _ _ h => h) (Or.inl ⟨by rfl, ?_⟩) hHeld ?_
  rotate_left
  · (intro w' hSw; go_simp; try with_reducible rfl)
  try simp only [Act.put, List.setIfInBounds_toArray, List.set_cons_zero, List.set_cons_succ]
  refine wpAnyH_take (i := 40) (v := ?_) opAt_40 (by kernel_rfl) (by kernel_rfl) (by kernel_rfl) (fun _ _ _ h => h) (Or.inl ⟨by rfl, ?_⟩) hHeld ?_
  rotate_left
  · (intro w' hSw; go_simp; try with_reducible rfl)
  try simp only [Act.put, List.setIfInBounds_toArray, List.set_cons_zero, List.set_cons_succ]
  refine wpAnyH_take (i := 41) (v := ?_) opAt_41 (by kernel_rfl) (by kernel_rfl) (by kernel_rfl) (fun _ _ _ h => h) (Or.inl ⟨by rfl, ?_⟩) hHeld ?_
  rotate_left
  · (intro w' hSw; go_simp; try with_reducible rfl)
  try simp only [Act.put, List.setIfInBounds_toArray, List.set_cons_zero, List.set_cons_succ]
  refine wpAnyH_take (i := 42) (v := ?_) opAt_42 (by kernel_rfl) (by kernel_rfl) (by kernel_rfl) (fun _ _ _ h => h) (Or.inl ⟨by rfl, ?_⟩) hHeld ?_
  rotate_left
  · (intro w' hSw; go_simp; try with_reducible rfl)
  try simp only [Act.put, List.setIfInBounds_toArray, List.set_cons_zero, List.set_cons_succ]
  refine wpAnyH_take (i := 43) (v := ?_) opAt_43 (by kernel_rfl) (by kernel_rfl) (by kernel_rfl) (fun _ _ _ h => h) (Or.inl ⟨by rfl, ?_⟩) hHeld ?_
  rotate_left
  · (intro w' hSw; go_simp; try with_reducible rfl)
  try simp only [Act.put, List.setIfInBounds_toArray, List.set_cons_zero, List.set_cons_succ]
  refine wpAnyH_take (i := 44) (v := ?_) opAt_44 (by kernel_rfl) (by kernel_rfl) (by kernel_rfl) (fun _ _ _ h => h) (Or.inl ⟨by rfl, ?_⟩) hHeld ?_
  rotate_left
  · (intro w' hSw; have cm0 := hSw.cm 0 _ Hv0.out; have cmz := hSw.cm z _ Hvz.out; go_simp; try with_reducible rfl)
  try simp only [Act.put, List.setIfInBounds_toArray, List.set_cons_zero, List.set_cons_succ]
  refine wpAnyH_ready (rs := [38]) (by kernel_rfl) (by simp) ?_
  refine AllReadyH.cons rfl (fun K hK => ?_) AllReadyH.nil
  go_simp
  refine (fall_e hHeld.q (by have := hse.out lo (Nat.le_refl _); omega) (s.bytes) (by rw [FSt.settled_bytes]; exact hbl.out)).mono ?_
  rintro e wn ⟨hr4, rfl, hbs, hb⟩
  have Hr4 := Lib.hid hbs
  have hHeld1 := hHeld.on hb
  clear hHeld hbs hb
  have hHeld := hHeld1
  clear hHeld1
  go_wp2_with fail
  refine hK.out _ _ (hHeld) (fun hHeld => ?_)
  clear hK K
  try simp only [Act.put, List.setIfInBounds_toArray, List.set_cons_zero, List.set_cons_succ]
  refine wpAnyH_ready (rs := [45]) (by kernel_rfl) (by simp) ?_
  refine AllReadyH.cons rfl (fun K hK => ?_) AllReadyH.nil
  go_simp
  refine (fequal_t Hr4.out (HGz.out _ hHeld)).mono ?_
  rintro e wn ⟨rfl, rfl⟩
  go_wp2_with fail
  refine hK.out _ _ (hHeld) (fun hHeld => ?_)
  clear hK K
  try simp only [Act.put, List.setIfInBounds_toArray, List.set_cons_zero, List.set_cons_succ]
  refine wpAnyH_take (i := 46) (v := ?_) opAt_46 (by kernel_rfl) (by kernel_rfl) (by kernel_rfl) (fun _ _ _ h => h) (Or.inl ⟨by rfl, ?_⟩) hHeld ?_
  rotate_left
  · (intro w' hSw; go_simp; try with_reducible rfl)
  try simp only [Act.put, List.setIfInBounds_toArray, List.set_cons_zero, List.set_cons_succ]
  refine wpAnyH_take (i := 47) (v := ?_) opAt_47 (by kernel_rfl) (by kernel_rfl) (by kernel_rfl) (fun _ _ _ h => h) (Or.inl ⟨by rfl, ?_⟩) hHeld ?_
  rotate_left
  · (intro w' hSw; go_simp; try with_reducible rfl)
  try simp only [Act.put, List.setIfInBounds_toArray, List.set_cons_zero, List.set_cons_succ]
  refine wpAnyH_done (by kernel_rfl) ?_ _
  refine NoPanic.normal ?_
  have HFI := Lib.hid hHeld
  clear hHeld Hr1 Hr2 Hr3 Hr4
  go_wp2_with fail
  go_loopw [18, 128] (fun xa i wr => ∃ (j x : Nat), j ≤ nn ∧ i = .int .i64 j ∧ xa = .int .i64 x ∧ x ≤ 31 ∧ AtB us kk j x ∧ FI w wr F P Q T (s.settled kk) (s.settled 0) (s.settled lo) (s.settled lo) N gm gu vals ls us) (fun _ i _ => nn - (intOf i).toNat)
  case atStart => exact ⟨0, 0, by omega, rfl, rfl, by omega, AtB.start HH.out kk, HFI.out⟩
  case round =>
    obtain ⟨j, x, hj, rfl, rfl, hx31, hat, hfi⟩ := hrel
    clear HFI
    have HA := Lib.hid hat
    have HF2 := Lib.hid hfi
    clear hat hfi
    by_cases hjn : j < nn
    · obtain ⟨u, hu⟩ : ∃ u, us[j]? = some u := ⟨us[j]'(by have := Hnn.out; omega), List.getElem?_eq_getElem _⟩
      have Hu := Lib.hid hu
      have cuj := HF2.out.cu j u hu
      clear hu
      by_cases huk : u ≤ kk
      · have hd : decide ((u : Int) ≤ (kk : Int)) = true := by simp; omega
        have HA2 := Lib.hid (HA.out.yes Hu.out huk)
        go_wp2_with fail
        go_roundw
        case rel => exact ⟨j + 1, j, by omega, by go_num, rfl, by omega, HA2.out, HF2.out⟩
        case measure => simp [intOf]; omega
      · have hd : decide ((u : Int) ≤ (kk : Int)) = false := by simp; omega
        have HA2 := Lib.hid (HA.out.no Hu.out (by omega))
        have huk2 : kk < u := by omega
        go_wp2_with fail
        go_roundw
        case rel => exact ⟨j + 1, x, by omega, by go_num, rfl, hx31, HA2.out, HF2.out⟩
        case measure => simp [intOf]; omega
    · have hje : nn = j := by omega
      have Hje := Lib.hid hje
      clear hje
      have hjd : decide ((j : Int) < (nn : Int)) = false := by simp; omega
      obtain ⟨u, l, hu, hl, hcase⟩ := AtB.done (by have := HA.out; rw [← Hje.out, Hnn.out] at this; exact this) HH.out (by rw [Hlo.out]; exact hkl2)
      have Hux := Lib.hid hu
      have hxn : x < nn := by have h1 := HA.out.lt; have h2 := Hnn.out; omega
      have hxn2 : (x : Int) < (nn : Int) := by omega
      have cux := HF2.out.cu x u hu
      obtain ⟨vx, hvx, hbx⟩ := HF2.out.mom.get hl
      have Hvx := Lib.hid hvx
      have Hlx := Lib.hid hl
      obtain ⟨Bx, dx, rfl, _, _⟩ := hbx
      obtain ⟨mx, hmx⟩ : ∃ m, m = l.length := ⟨_, rfl⟩
      rw [← hmx] at Hvx
      have Hmx := Lib.hid hmx
      have HGx0 : Hid (∀ wk, FI w wk F P Q T (s.settled kk) (s.settled 0) (s.settled lo) (s.settled lo) N gm gu vals ls us → Bs wk wk.heap.size (.slice Bx mx dx) l) := fun wk h => (h.mom.2 x _ _ Hvx.out Hlx.out).bs
      clear hvx hmx hu hl
      rcases hcase with ⟨hue, hbe⟩ | ⟨hult, l2, hl2, hx1, hpre, hle, hbe⟩
      · have hq1 : ((u : Int) == (kk : Int)) = true := by simp; omega
        have HGx : Hid (∀ wk, FI w wk F P Q T (s.settled kk) (s.settled 0) (s.settled lo) (s.settled lo) N gm gu vals ls us → Bs wk wk.heap.size (.slice Bx mx dx) (s.behind kk)) := by rw [hbe]; exact HGx0
        clear hue hbe HGx0
        go_wp2_with fail
        refine wp_region_noPanic ?_
        refine wp_region_held_drew (S := fun w' => FI w w' F P Q T (s.settled kk) (s.settled 0) (s.settled lo) (s.settled lo) N gm gu vals ls us) (by kernel_rfl) HF2.out.drew (fun hHeld => ?_)
        clear HF2
        generalize World.drew _ = W at *
        refine wpAnyH_take (i := 0) (v := ?_) opAt_0 (by kernel_rfl) (by kernel_rfl) (by kernel_rfl) (fun _ _ _ h => h) (Or.inl ⟨by rfl, ?_⟩) hHeld ?_
        rotate_left
        · (intro w' hSw; go_simp; try with_reducible rfl)
        try simp only [Act.put, List.setIfInBounds_toArray, List.set_cons_zero, List.set_cons_succ]
        refine wpAnyH_take (i := 2) (v := ?_) opAt_2 (by kernel_rfl) (by kernel_rfl) (by kernel_rfl) (fun _ _ _ h => h) (Or.inl ⟨by rfl, ?_⟩) hHeld ?_
        rotate_left
        · (intro w' hSw; go_simp; try with_reducible rfl)
        try simp only [Act.put, List.setIfInBounds_toArray, List.set_cons_zero, List.set_cons_succ]
        refine wpAnyH_take (i := 3) (v := ?_) opAt_3 (by kernel_rfl) (by kernel_rfl) (by kernel_rfl) (fun _ _ _ h => h) (Or.inl ⟨by rfl, ?_⟩) hHeld ?_
        rotate_left
        · (intro w' hSw; go_simp; try with_reducible rfl)
        try simp only [Act.put, List.setIfInBounds_toArray, List.set_cons_zero, List.set_cons_succ]
        refine wpAnyH_take (i := 4) (v := ?_) opAt_4 (by kernel_rfl) (by kernel_rfl) (by kernel_rfl) (fun _ _ _ h => h) (Or.inl ⟨by rfl, ?_⟩) hHeld ?_
        rotate_left
        · (intro w' hSw; go_simp; try with_reducible rfl)
        try simp only [Act.put, List.setIfInBounds_toArray, List.set_cons_zero, List.set_cons_succ]
        refine wpAnyH_take (i := 5) (v := ?_) opAt_5 (by kernel_rfl) (by kernel_rfl) (by kernel_rfl) (fun _ _ _ h => h) (Or.inl ⟨by rfl, ?_⟩) hHeld ?_
        rotate_left
        · (intro w' hSw; have cmx := hSw.cm x _ Hvx.out; go_simp; try with_reducible rfl)
        try simp only [Act.put, List.setIfInBounds_toArray, List.set_cons_zero, List.set_cons_succ]
        refine wpAnyH_ready (rs := [1]) (by kernel_rfl) (by simp) ?_
        refine AllReadyH.cons rfl (fun K hK => ?_) AllReadyH.nil
        go_simp
        refine (fall_e hHeld.f (by have := hse.out kk hkl2; omega) (s.behind kk) (by rw [FSt.settled_bytes])).mono ?_
        rintro e wn ⟨hr1, rfl, hbs, hb⟩
        have Hr1 := Lib.hid hbs
        have hHeld1 := hHeld.on hb
        clear hHeld hbs hb
        have hHeld := hHeld1
        clear hHeld1
        go_wp2_with fail
        refine hK.out _ _ (hHeld) (fun hHeld => ?_)
        clear hK K
        try simp only [Act.put, List.setIfInBounds_toArray, List.set_cons_zero, List.set_cons_succ]
        refine wpAnyH_ready (rs := [6]) (by kernel_rfl) (by simp) ?_
        refine AllReadyH.cons rfl (fun K hK => ?_) AllReadyH.nil
        go_simp
        refine (fequal_t Hr1.out (HGx.out _ hHeld)).mono ?_
        rintro e wn ⟨rfl, rfl⟩
        go_wp2_with fail
        refine hK.out _ _ (hHeld) (fun hHeld => ?_)
        clear hK K
        try simp only [Act.put, List.setIfInBounds_toArray, List.set_cons_zero, List.set_cons_succ]
        refine wpAnyH_take (i := 7) (v := ?_) opAt_7 (by kernel_rfl) (by kernel_rfl) (by kernel_rfl) (fun _ _ _ h => h) (Or.inl ⟨by rfl, ?_⟩) hHeld ?_
        rotate_left
        · (intro w' hSw; go_simp; try with_reducible rfl)
        try simp only [Act.put, List.setIfInBounds_toArray, List.set_cons_zero, List.set_cons_succ]
        refine wpAnyH_ready (rs := [8]) (by kernel_rfl) (by simp) ?_
        refine AllReadyH.cons rfl (fun K hK => ?_) AllReadyH.nil
        go_simp
        refine (fwakes _).mono ?_
        rintro e wn ⟨rfl, hb⟩
        have hHeld1 := hHeld.on hb
        clear hHeld hb
        have hHeld := hHeld1
        clear hHeld1
        go_wp2_with fail
        refine hK.out _ _ (hHeld) (fun hHeld => ?_)
        clear hK K
        try simp only [Act.put, List.setIfInBounds_toArray, List.set_cons_zero, List.set_cons_succ]
        refine wpAnyH_take (i := 9) (v := ?_) opAt_9 (by kernel_rfl) (by kernel_rfl) (by kernel_rfl) (fun _ _ _ h => h) (Or.inl ⟨by rfl, ?_⟩) hHeld ?_
        rotate_left
        · (intro w' hSw; go_simp; try with_reducible rfl)
        try simp only [Act.put, List.setIfInBounds_toArray, List.set_cons_zero, List.set_cons_succ]
        refine wpAnyH_ready (rs := [10]) (by kernel_rfl) (by simp) ?_
        refine AllReadyH.cons rfl (fun K hK => ?_) AllReadyH.nil
        go_simp
        refine hK.out _ _ (hHeld) (fun hHeld => ?_)
        clear hK K
        try simp only [Act.put, List.setIfInBounds_toArray, List.set_cons_zero, List.set_cons_succ]
        refine wpAnyH_done (by kernel_rfl) ?_ _
        refine NoPanic.normal ?_
        have HB := Lib.hid hHeld.below
        clear hHeld
        go_wp2_with fail
        go_ret
        exact ⟨rfl, HB.out⟩
      · have hq1 : ((u : Int) == (kk : Int)) = false := by simp; omega
        obtain ⟨vy, hvy, hby⟩ := HF2.out.mom.get hl2
        have Hvy := Lib.hid hvy
        have Hly := Lib.hid hl2
        obtain ⟨By, dy, rfl, hdy, _⟩ := hby
        obtain ⟨my, hmy⟩ : ∃ m, m = l2.length := ⟨_, rfl⟩
        rw [← hmy] at Hvy hdy hle
        obtain ⟨y, hy⟩ : ∃ y, y = x + 1 := ⟨_, rfl⟩
        rw [← hy] at Hvy Hly
        obtain ⟨e1, he1⟩ : ∃ e, e = mx + kk := ⟨_, rfl⟩
        obtain ⟨d, hd⟩ : ∃ d, d = mx + (kk - u) := ⟨_, rfl⟩
        rw [← Hmx.out, ← hd] at hle hbe
        have HGy : Hid (∀ wk, FI w wk F P Q T (s.settled kk) (s.settled 0) (s.settled lo) (s.settled lo) N gm gu vals ls us → Bs wk wk.heap.size (.slice By my dy) l2) := fun wk h => (h.mom.2 y _ _ Hvy.out Hly.out).bs
        have HGd : Hid (∀ wk, FI w wk F P Q T (s.settled kk) (s.settled 0) (s.settled lo) (s.settled lo) N gm gu vals ls us → Bs wk wk.heap.size (.slice By d dy) (l2.take d)) := fun wk h => ((h.mom.2 y _ _ Hvy.out Hly.out).take hle).bs
        have HGx := HGx0
        have hmyb : my ≤ 100000 := by
          have h1 := HH.out.at_ y
          obtain ⟨u2, hu2⟩ : ∃ u, us[y]? = some u := ⟨us[y]'(by have := Hnn.out; omega), List.getElem?_eq_getElem _⟩
          have h2 := (h1 u2 l2 hu2 Hly.out)
          rw [hmy, ← h2.2]
          have h3 := s.behind_length (k := u2)
          have h4 : s.big = s.safe.length + s.loose := rfl
          have h5 := HQ.out
          omega
        have Hpre := Lib.hid hpre
        have Hl2 : Hid (l2.length ≤ 10000000) := by rw [← hmy]; exact Nat.le_trans hmyb (by omega)
        have Hbe := Lib.hid hbe
        have hyn : y < nn := by have := Hnn.out; omega
        have hcutd := cut_h By my dy d (by omega)
        have hy1 : (x : Int) + 1 = (y : Int) := by omega
        have hwy : IntKind.i64.wrap (y : Int) = (y : Int) := IntWalk.i64_in _ (by omega)
        have hmxb : mx ≤ 100000 := by omega
        have he2 : (mx : Int) + (kk : Int) = (e1 : Int) := by omega
        have hwe : IntKind.i64.wrap (e1 : Int) = (e1 : Int) := IntWalk.i64_in _ (by omega)
        have hd2 : (e1 : Int) - (u : Int) = (d : Int) := by omega
        have hwd : IntKind.i64.wrap (d : Int) = (d : Int) := IntWalk.i64_in _ (by omega)
        have hyd : decide ((y : Int) < (nn : Int)) = true := by simp; omega
        have hdl : d ≤ dy := by omega
        clear hbe hpre hl2 hmy hvy hy he1 hd hult hx1 hle hdy HGx0
        go_wp2_with fail
        refine wp_region_noPanic ?_
        refine wp_region_held_drew (S := fun w' => FI w w' F P Q T (s.settled kk) (s.settled 0) (s.settled lo) (s.settled lo) N gm gu vals ls us) (by kernel_rfl) HF2.out.drew (fun hHeld => ?_)
        clear HF2
        generalize World.drew _ = W at *
        refine wpAnyH_take (i := 0) (v := ?_) opAt_0 (by kernel_rfl) (by kernel_rfl) (by kernel_rfl) (fun _ _ _ h => h) (Or.inl ⟨by rfl, ?_⟩) hHeld ?_
        rotate_left
        · (intro w' hSw; go_simp; try with_reducible rfl)
        try simp only [Act.put, List.setIfInBounds_toArray, List.set_cons_zero, List.set_cons_succ]
        refine wpAnyH_take (i := 1) (v := ?_) opAt_1 (by kernel_rfl) (by kernel_rfl) (by kernel_rfl) (fun _ _ _ h => h) (Or.inl ⟨by rfl, ?_⟩) hHeld ?_
        rotate_left
        · (intro w' hSw; go_simp; try with_reducible rfl)
        try simp only [Act.put, List.setIfInBounds_toArray, List.set_cons_zero, List.set_cons_succ]
        refine wpAnyH_take (i := 2) (v := ?_) opAt_2 (by kernel_rfl) (by kernel_rfl) (by kernel_rfl) (fun _ _ _ h => h) (Or.inl ⟨by rfl, ?_⟩) hHeld ?_
        rotate_left
        · (intro w' hSw; go_simp; try with_reducible rfl)
        try simp only [Act.put, List.setIfInBounds_toArray, List.set_cons_zero, List.set_cons_succ]
        refine wpAnyH_take (i := 3) (v := ?_) opAt_3 (by kernel_rfl) (by kernel_rfl) (by kernel_rfl) (fun _ _ _ h => h) (Or.inl ⟨by rfl, ?_⟩) hHeld ?_
        rotate_left
        · (intro w' hSw; go_simp; try with_reducible rfl)
        try simp only [Act.put, List.setIfInBounds_toArray, List.set_cons_zero, List.set_cons_succ]
        refine wpAnyH_take (i := 4) (v := ?_) opAt_4 (by kernel_rfl) (by kernel_rfl) (by kernel_rfl) (fun _ _ _ h => h) (Or.inl ⟨by rfl, ?_⟩) hHeld ?_
        rotate_left
        · (intro w' hSw; go_simp; try with_reducible rfl)
        try simp only [Act.put, List.setIfInBounds_toArray, List.set_cons_zero, List.set_cons_succ]
        refine wpAnyH_take (i := 5) (v := ?_) opAt_5 (by kernel_rfl) (by kernel_rfl) (by kernel_rfl) (fun _ _ _ h => h) (Or.inl ⟨by rfl, ?_⟩) hHeld ?_
        rotate_left
        · (intro w' hSw; go_simp; try with_reducible rfl)
        try simp only [Act.put, List.setIfInBounds_toArray, List.set_cons_zero, List.set_cons_succ]
        refine wpAnyH_take (i := 6) (v := ?_) opAt_6 (by kernel_rfl) (by kernel_rfl) (by kernel_rfl) (fun _ _ _ h => h) (Or.inl ⟨by rfl, ?_⟩) hHeld ?_
        rotate_left
        · (intro w' hSw; go_simp; try with_reducible rfl)
        try simp only [Act.put, List.setIfInBounds_toArray, List.set_cons_zero, List.set_cons_succ]
        refine wpAnyH_take (i := 8) (v := ?_) opAt_8 (by kernel_rfl) (by kernel_rfl) (by kernel_rfl) (fun _ _ _ h => h) (Or.inl ⟨by rfl, ?_⟩) hHeld ?_
        rotate_left
        · (intro w' hSw; go_simp; try with_reducible rfl)
        try simp only [Act.put, List.setIfInBounds_toArray, List.set_cons_zero, List.set_cons_succ]
        refine wpAnyH_take (i := 9) (v := ?_) opAt_9 (by kernel_rfl) (by kernel_rfl) (by kernel_rfl) (fun _ _ _ h => h) (Or.inl ⟨by rfl, ?_⟩) hHeld ?_
        rotate_left
        · (intro w' hSw; go_simp; try with_reducible rfl)
        try simp only [Act.put, List.setIfInBounds_toArray, List.set_cons_zero, List.set_cons_succ]
        refine wpAnyH_take (i := 10) (v := ?_) opAt_10 (by kernel_rfl) (by kernel_rfl) (by kernel_rfl) (fun _ _ _ h => h) (Or.inl ⟨by rfl, ?_⟩) hHeld ?_
        rotate_left
        · (intro w' hSw; go_simp; try with_reducible rfl)
        try simp only [Act.put, List.setIfInBounds_toArray, List.set_cons_zero, List.set_cons_succ]
        refine wpAnyH_take (i := 11) (v := ?_) opAt_11 (by kernel_rfl) (by kernel_rfl) (by kernel_rfl) (fun _ _ _ h => h) (Or.inl ⟨by rfl, ?_⟩) hHeld ?_
        rotate_left
        · (intro w' hSw; go_simp; try with_reducible rfl)
        try simp only [Act.put, List.setIfInBounds_toArray, List.set_cons_zero, List.set_cons_succ]
        refine wpAnyH_take (i := 12) (v := ?_) opAt_12 (by kernel_rfl) (by kernel_rfl) (by kernel_rfl) (fun _ _ _ h => h) (Or.inl ⟨by rfl, ?_⟩) hHeld ?_
        rotate_left
        · (intro w' hSw; have cmx := hSw.cm x _ Hvx.out; have cmy := hSw.cm y _ Hvy.out; have cux := hSw.cu x _ Hux.out; go_simp; try with_reducible rfl)
        try simp only [Act.put, List.setIfInBounds_toArray, List.set_cons_zero, List.set_cons_succ]
        refine wpAnyH_take (i := 13) (v := ?_) opAt_13 (by kernel_rfl) (by kernel_rfl) (by kernel_rfl) (fun _ _ _ h => h) (Or.inl ⟨by rfl, ?_⟩) hHeld ?_
        rotate_left
        · (intro w' hSw; go_simp; try with_reducible rfl)
        try simp only [Act.put, List.setIfInBounds_toArray, List.set_cons_zero, List.set_cons_succ]
        refine wpAnyH_take (i := 14) (v := ?_) opAt_14 (by kernel_rfl) (by kernel_rfl) (by kernel_rfl) (fun _ _ _ h => h) (Or.inl ⟨by rfl, ?_⟩) hHeld ?_
        rotate_left
        · (intro w' hSw; go_simp; try with_reducible rfl)
        try simp only [Act.put, List.setIfInBounds_toArray, List.set_cons_zero, List.set_cons_succ]
        refine wpAnyH_take (i := 15) (v := ?_) opAt_15 (by kernel_rfl) (by kernel_rfl) (by kernel_rfl) (fun _ _ _ h => h) (Or.inl ⟨by rfl, ?_⟩) hHeld ?_
        rotate_left
        · (intro w' hSw; go_simp; try with_reducible rfl)
        try simp only [Act.put, List.setIfInBounds_toArray, List.set_cons_zero, List.set_cons_succ]
        refine wpAnyH_take (i := 16) (v := ?_) opAt_16 (by kernel_rfl) (by kernel_rfl) (by kernel_rfl) (fun _ _ _ h => h) (Or.inl ⟨by rfl, ?_⟩) hHeld ?_
        rotate_left
        · (intro w' hSw; have cmx := hSw.cm x _ Hvx.out; have cmy := hSw.cm y _ Hvy.out; have cux := hSw.cu x _ Hux.out; go_simp; try with_reducible rfl)
        try simp only [Act.put, List.setIfInBounds_toArray, List.set_cons_zero, List.set_cons_succ]
        refine wpAnyH_take (i := 17) (v := ?_) opAt_17 (by kernel_rfl) (by kernel_rfl) (by kernel_rfl) (fun _ _ _ h => h) (Or.inl ⟨by rfl, ?_⟩) hHeld ?_
        rotate_left
        · (intro w' hSw; go_simp; try with_reducible rfl)
        try simp only [Act.put, List.setIfInBounds_toArray, List.set_cons_zero, List.set_cons_succ]
        refine wpAnyH_take (i := 18) (v := ?_) opAt_18 (by kernel_rfl) (by kernel_rfl) (by kernel_rfl) (fun _ _ _ h => h) (Or.inl ⟨by rfl, ?_⟩) hHeld ?_
        rotate_left
        · (intro w' hSw; go_simp; try with_reducible rfl)
        try simp only [Act.put, List.setIfInBounds_toArray, List.set_cons_zero, List.set_cons_succ]
        refine wpAnyH_take (i := 19) (v := ?_) opAt_19 (by kernel_rfl) (by kernel_rfl) (by kernel_rfl) (fun _ _ _ h => h) (Or.inl ⟨by rfl, ?_⟩) hHeld ?_
        rotate_left
        · (intro w' hSw; go_simp; try with_reducible rfl)
        try simp only [Act.put, List.setIfInBounds_toArray, List.set_cons_zero, List.set_cons_succ]
        refine wpAnyH_take (i := 20) (v := ?_) opAt_20 (by kernel_rfl) (by kernel_rfl) (by kernel_rfl) (fun _ _ _ h => h) (Or.inl ⟨by rfl, ?_⟩) hHeld ?_
        rotate_left
        · (intro w' hSw; go_simp; try with_reducible rfl)
        try simp only [Act.put, List.setIfInBounds_toArray, List.set_cons_zero, List.set_cons_succ]
        refine wpAnyH_take (i := 21) (v := ?_) opAt_21 (by kernel_rfl) (by kernel_rfl) (by kernel_rfl) (fun _ _ _ h => h) (Or.inl ⟨by rfl, ?_⟩) hHeld ?_
        rotate_left
        · (intro w' hSw; go_simp; try with_reducible rfl)
        try simp only [Act.put, List.setIfInBounds_toArray, List.set_cons_zero, List.set_cons_succ]
        refine wpAnyH_take (i := 22) (v := ?_) opAt_22 (by kernel_rfl) (by kernel_rfl) (by kernel_rfl) (fun _ _ _ h => h) (Or.inl ⟨by rfl, ?_⟩) hHeld ?_
        rotate_left
        · (intro w' hSw; go_simp; try with_reducible rfl)
        try simp only [Act.put, List.setIfInBounds_toArray, List.set_cons_zero, List.set_cons_succ]
        refine wpAnyH_take (i := 23) (v := ?_) opAt_23 (by kernel_rfl) (by kernel_rfl) (by kernel_rfl) (fun _ _ _ h => h) (Or.inl ⟨by rfl, ?_⟩) hHeld ?_
        rotate_left
        · (intro w' hSw; have cmx := hSw.cm x _ Hvx.out; have cmy := hSw.cm y _ Hvy.out; have cux := hSw.cu x _ Hux.out; go_simp; try with_reducible rfl)
        try simp only [Act.put, List.setIfInBounds_toArray, List.set_cons_zero, List.set_cons_succ]
        refine wpAnyH_take (i := 24) (v := ?_) opAt_24 (by kernel_rfl) (by kernel_rfl) (by kernel_rfl) (fun _ _ _ h => h) (Or.inl ⟨by rfl, ?_⟩) hHeld ?_
        rotate_left
        · (intro w' hSw; go_simp; try with_reducible rfl)
        try simp only [Act.put, List.setIfInBounds_toArray, List.set_cons_zero, List.set_cons_succ]
        refine wpAnyH_take (i := 25) (v := ?_) opAt_25 (by kernel_rfl) (by kernel_rfl) (by kernel_rfl) (fun _ _ _ h => h) (Or.inl ⟨by rfl, ?_⟩) hHeld ?_
        rotate_left
        · (intro w' hSw; go_simp; try with_reducible rfl)
        try simp only [Act.put, List.setIfInBounds_toArray, List.set_cons_zero, List.set_cons_succ]
        refine wpAnyH_ready (rs := [7]) (by kernel_rfl) (by simp) ?_
        refine AllReadyH.cons rfl (fun K hK => ?_) AllReadyH.nil
        go_simp
        refine (fall_e hHeld.f (by have := hse.out kk hkl2; omega) (l2.take d) (by rw [FSt.settled_bytes]; exact Hbe.out)).mono ?_
        rintro e wn ⟨hr1, rfl, hbs, hb⟩
        have Hr1 := Lib.hid hbs
        have hHeld1 := hHeld.on hb
        clear hHeld hbs hb
        have hHeld := hHeld1
        clear hHeld1
        go_wp2_with fail
        refine hK.out _ _ (hHeld) (fun hHeld => ?_)
        clear hK K
        try simp only [Act.put, List.setIfInBounds_toArray, List.set_cons_zero, List.set_cons_succ]
        refine wpAnyH_ready (rs := [26]) (by kernel_rfl) (by simp) ?_
        refine AllReadyH.cons rfl (fun K hK => ?_) AllReadyH.nil
        go_simp
        refine (fequal_t Hr1.out (HGd.out _ hHeld)).mono ?_
        rintro e wn ⟨rfl, rfl⟩
        go_wp2_with fail
        refine hK.out _ _ (hHeld) (fun hHeld => ?_)
        clear hK K
        try simp only [Act.put, List.setIfInBounds_toArray, List.set_cons_zero, List.set_cons_succ]
        refine wpAnyH_take (i := 27) (v := ?_) opAt_27 (by kernel_rfl) (by kernel_rfl) (by kernel_rfl) (fun _ _ _ h => h) (Or.inl ⟨by rfl, ?_⟩) hHeld ?_
        rotate_left
        · (intro w' hSw; go_simp; try with_reducible rfl)
        try simp only [Act.put, List.setIfInBounds_toArray, List.set_cons_zero, List.set_cons_succ]
        refine wpAnyH_take (i := 28) (v := ?_) opAt_28 (by kernel_rfl) (by kernel_rfl) (by kernel_rfl) (fun _ _ _ h => h) (Or.inl ⟨by rfl, ?_⟩) hHeld ?_
        rotate_left
        · (intro w' hSw; go_simp; try with_reducible rfl)
        try simp only [Act.put, List.setIfInBounds_toArray, List.set_cons_zero, List.set_cons_succ]
        refine wpAnyH_take (i := 29) (v := ?_) opAt_29 (by kernel_rfl) (by kernel_rfl) (by kernel_rfl) (fun _ _ _ h => h) (Or.inl ⟨by rfl, ?_⟩) hHeld ?_
        rotate_left
        · (intro w' hSw; go_simp; try with_reducible rfl)
        try simp only [Act.put, List.setIfInBounds_toArray, List.set_cons_zero, List.set_cons_succ]
        refine wpAnyH_take (i := 30) (v := ?_) opAt_30 (by kernel_rfl) (by kernel_rfl) (by kernel_rfl) (fun _ _ _ h => h) (Or.inl ⟨by rfl, ?_⟩) hHeld ?_
        rotate_left
        · (intro w' hSw; go_simp; try with_reducible rfl)
        try simp only [Act.put, List.setIfInBounds_toArray, List.set_cons_zero, List.set_cons_succ]
        refine wpAnyH_take (i := 31) (v := ?_) opAt_31 (by kernel_rfl) (by kernel_rfl) (by kernel_rfl) (fun _ _ _ h => h) (Or.inl ⟨by rfl, ?_⟩) hHeld ?_
        rotate_left
        · (intro w' hSw; go_simp; try with_reducible rfl)
        try simp only [Act.put, List.setIfInBounds_toArray, List.set_cons_zero, List.set_cons_succ]
        refine wpAnyH_take (i := 32) (v := ?_) opAt_32 (by kernel_rfl) (by kernel_rfl) (by kernel_rfl) (fun _ _ _ h => h) (Or.inl ⟨by rfl, ?_⟩) hHeld ?_
        rotate_left
        · (intro w' hSw; go_simp; try with_reducible rfl)
        try simp only [Act.put, List.setIfInBounds_toArray, List.set_cons_zero, List.set_cons_succ]
        refine wpAnyH_take (i := 33) (v := ?_) opAt_33 (by kernel_rfl) (by kernel_rfl) (by kernel_rfl) (fun _ _ _ h => h) (Or.inl ⟨by rfl, ?_⟩) hHeld ?_
        rotate_left
        · (intro w' hSw; have cmx := hSw.cm x _ Hvx.out; have cmy := hSw.cm y _ Hvy.out; have cux := hSw.cu x _ Hux.out; go_simp; try with_reducible rfl)
        try simp only [Act.put, List.setIfInBounds_toArray, List.set_cons_zero, List.set_cons_succ]
        refine wpAnyH_take (i := 34) (v := ?_) opAt_34 (by kernel_rfl) (by kernel_rfl) (by kernel_rfl) (fun _ _ _ h => h) (Or.inl ⟨by rfl, ?_⟩) hHeld ?_
        rotate_left
        · (intro w' hSw; go_simp; try with_reducible rfl)
        try simp only [Act.put, List.setIfInBounds_toArray, List.set_cons_zero, List.set_cons_succ]
        refine wpAnyH_take (i := 35) (v := ?_) opAt_35 (by kernel_rfl) (by kernel_rfl) (by kernel_rfl) (fun _ _ _ h => h) (Or.inl ⟨by rfl, ?_⟩) hHeld ?_
        rotate_left
        · (intro w' hSw; go_simp; try with_reducible rfl)
        try simp only [Act.put, List.setIfInBounds_toArray, List.set_cons_zero, List.set_cons_succ]
        refine wpAnyH_take (i := 36) (v := ?_) opAt_36 (by kernel_rfl) (by kernel_rfl) (by kernel_rfl) (fun _ _ _ h => h) (Or.inl ⟨by rfl, ?_⟩) hHeld ?_
        rotate_left
        · (intro w' hSw; go_simp; try with_reducible rfl)
        try simp only [Act.put, List.setIfInBounds_toArray, List.set_cons_zero, List.set_cons_succ]
        refine wpAnyH_take (i := 37) (v := ?_) opAt_37 (by kernel_rfl) (by kernel_rfl) (by kernel_rfl) (fun _ _ _ h => h) (Or.inl ⟨by rfl, ?_⟩) hHeld ?_
        rotate_left
        · (intro w' hSw; have cmx := hSw.cm x _ Hvx.out; have cmy := hSw.cm y _ Hvy.out; have cux := hSw.cu x _ Hux.out; go_simp; try with_reducible rfl)
        try simp only [Act.put, List.setIfInBounds_toArray, List.set_cons_zero, List.set_cons_succ]
        refine wpAnyH_ready (rs := [38]) (by kernel_rfl) (by simp) ?_
        refine AllReadyH.cons rfl (fun K hK => ?_) AllReadyH.nil
        go_simp
        refine (fprefix (HGy.out _ hHeld) (HGx.out _ hHeld) Hpre.out Hl2.out).mono ?_
        rintro e wn ⟨rfl, rfl⟩
        go_wp2_with fail
        refine hK.out _ _ (hHeld) (fun hHeld => ?_)
        clear hK K
        try simp only [Act.put, List.setIfInBounds_toArray, List.set_cons_zero, List.set_cons_succ]
        refine wpAnyH_take (i := 39) (v := ?_) opAt_39 (by kernel_rfl) (by kernel_rfl) (by kernel_rfl) (fun _ _ _ h => h) (Or.inl ⟨by rfl, ?_⟩) hHeld ?_
        rotate_left
        · (intro w' hSw; go_simp; try with_reducible rfl)
        try simp only [Act.put, List.setIfInBounds_toArray, List.set_cons_zero, List.set_cons_succ]
        refine wpAnyH_take (i := 40) (v := ?_) opAt_40 (by kernel_rfl) (by kernel_rfl) (by kernel_rfl) (fun _ _ _ h => h) (Or.inl ⟨by rfl, ?_⟩) hHeld ?_
        rotate_left
        · (intro w' hSw; go_simp; try with_reducible rfl)
        try simp only [Act.put, List.setIfInBounds_toArray, List.set_cons_zero, List.set_cons_succ]
        refine wpAnyH_ready (rs := [41]) (by kernel_rfl) (by simp) ?_
        refine AllReadyH.cons rfl (fun K hK => ?_) AllReadyH.nil
        go_simp
        refine (fwakes _).mono ?_
        rintro e wn ⟨rfl, hb⟩
        have hHeld1 := hHeld.on hb
        clear hHeld hb
        have hHeld := hHeld1
        clear hHeld1
        go_wp2_with fail
        refine hK.out _ _ (hHeld) (fun hHeld => ?_)
        clear hK K
        try simp only [Act.put, List.setIfInBounds_toArray, List.set_cons_zero, List.set_cons_succ]
        refine wpAnyH_take (i := 42) (v := ?_) opAt_42 (by kernel_rfl) (by kernel_rfl) (by kernel_rfl) (fun _ _ _ h => h) (Or.inl ⟨by rfl, ?_⟩) hHeld ?_
        rotate_left
        · (intro w' hSw; go_simp; try with_reducible rfl)
        try simp only [Act.put, List.setIfInBounds_toArray, List.set_cons_zero, List.set_cons_succ]
        refine wpAnyH_ready (rs := [43]) (by kernel_rfl) (by simp) ?_
        refine AllReadyH.cons rfl (fun K hK => ?_) AllReadyH.nil
        go_simp
        refine hK.out _ _ (hHeld) (fun hHeld => ?_)
        clear hK K
        try simp only [Act.put, List.setIfInBounds_toArray, List.set_cons_zero, List.set_cons_succ]
        refine wpAnyH_done (by kernel_rfl) ?_ _
        refine NoPanic.normal ?_
        have HB := Lib.hid hHeld.below
        clear hHeld
        go_wp2_with fail
        go_ret
        exact ⟨rfl, HB.out⟩
theorem walk (v0 : Value) (z0 : List Int) (v1 : Value) (l1 : List Act5) (a2 : Int) (w : World) (w0 : Ints w w.heap.size .u8 v0 z0) (g0 : ∀ n ∈ z0, (Lit.int .u8 n).wf = true) (s0 : z0.length * 1 ≤ 140737488351232) (hl1 : Acts5 w w.heap.size v1 l1) (w2 : (Lit.int .u16 a2).wf = true) :
    Calls Try.prog 3 #[v0, v1, .int .u16 a2] w fun e w' => e = .returned (.bool true) ∧ Below w.heap.size w w' := by
  have hb := bounds_u16 w2
  obtain ⟨q, rfl⟩ : ∃ q : Nat, a2 = (q : Int) := ⟨a2.toNat, by omega⟩
  exact walk0 v0 v1 _ l1 q w (bs_of_ints w0 (fun z hz => bounds_u8 (g0 z hz))) (by rw [List.length_map]; omega) hl1 (by omega)
end Go.Proofs.Ytmlbhconbabdhaa.fileBeginning
