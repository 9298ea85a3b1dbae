
/-
  The walk of the law FileTwice: it returns true, and writes nothing that was there.
-/
import Derived.Test.YtmlbhconbabdhaaFxStep
import Derived.OpenShut
import Derived.Deep.CutBlock
import Derived.Deep.CutRange
import Derived.Deep.LoopGhost
set_option linter.unusedVariables false
set_option linter.unusedSimpArgs false
namespace Go.Proofs.Ytmlbhconbabdhaa.fileTwice
open Go.RowKit

set_option maxRecDepth 100000 in
set_option maxHeartbeats 16000000 in
theorem walk0 (v0 v1 : Value) (l0 : List UInt8) (l1 : List Act5) (q : Nat) (w : World) (h0 : Bs w w.heap.size v0 l0) (hl0 : l0.length ≤ 140737488351232) (h1 : Acts5 w w.heap.size v1 l1) (ha1 : q < 65536) :
    Calls Try.prog 5 #[v0, v1, .int .u16 (q : Int)] w fun e w' => e = .returned (.bool true) ∧ Below w.heap.size w w' := by
  obtain ⟨A1, c1, rfl, hc1, hm1, hel⟩ := h1
  unfold maxLen at hm1
  have Hel := Lib.hid hel
  clear hel
  have H0 := Lib.hid h0
  obtain ⟨A0, c0, rfl, hc0, hr0⟩ := h0
  obtain ⟨n0, hn0⟩ : ∃ n0, n0 = l0.length := ⟨_, rfl⟩
  obtain ⟨n1, hn1⟩ : ∃ n1, n1 = l1.length := ⟨_, rfl⟩
  obtain ⟨k, hk⟩ : ∃ k, k = min n0 100 := ⟨_, rfl⟩
  rw [← hn0] at hc0 hl0
  rw [← hn0, ← hn1]
  rw [← hn1] at hc1
  have hmin : min (n0 : Int) 100 = (k : Int) := by omega
  have hcut := cut_h A0 n0 c0 k (by omega)
  have hkl : (l0.take k).length = k := by rw [List.length_take, ← hn0]; omega
  have HB0 : Hid (Bs w w.heap.size (.slice A0 k c0) (l0.take k)) := ⟨A0, c0, by rw [hkl], by rw [hkl]; omega, by rw [bvs_take]; exact hr0.take k⟩
  have Hkl := Lib.hid hkl
  have hk100 : k ≤ 100 := by omega
  have Hn1 := Lib.hid hn1
  clear hr0 hn0 hn1 hk hkl H0
  go_enter Try.func5, Try.ntmps5
  go_wp2_with fail
  refine (fnew_b HB0.out (Nat.le_refl _) (by rw [Hkl.out]; omega)).mono ?_
  rintro e w1 ⟨F, M, rfl, hf, hb, hM⟩
  have HL1 : Hid (Live w w1 F M (fun _ => False) (FSt.new (l0.take k))) := ⟨hb, hf, hM⟩
  have HQ1 : Hid ((FSt.new (l0.take k)).big ≤ 100) := by
    show (l0.take k).length + 0 ≤ 100
    rw [Hkl.out]
    omega
  clear hf hb hM
  go_upto_block 0 with fail
  go_cut [] from 8 to 32 (fun wx => ∃ (M R : Nat → Prop) (s : FSt), Live w wx F M R s ∧ s.big ≤ 2000)
  case first =>
    go_wp2_with fail
    go_loopw [22] (fun i wr => ∃ (j : Nat) (M R : Nat → Prop) (s : FSt), j ≤ n1 ∧ j ≤ 30 ∧ i = .int .i64 j ∧ Live w wr F M R s ∧ s.big ≤ 100 + 60 * j) (fun i _ => 31 - (intOf i).toNat)
    case atStart => exact ⟨0, M, _, _, by omega, by omega, rfl, HL1.out, HQ1.out⟩
    case round =>
      obtain ⟨j, M, R, s, hj, hj30, rfl, hl, hq⟩ := hrel
      clear HL1 HQ1
      have HL := Lib.hid hl
      have HQ := Lib.hid hq
      clear hl hq
      by_cases hlt : j < n1
      · obtain ⟨a, ha⟩ : ∃ a, l1[j]? = some a := ⟨l1[j]'(by have := Hn1.out; omega), List.getElem?_eq_getElem _⟩
        obtain ⟨b, o, rfl, hbb, hat⟩ := Hel.out j a ha
        obtain ⟨x0, x1, x2, v, x3, hbs, hbl⟩ := hat.on HL.out.below hbb
        have HBs := Lib.hid hbs
        obtain ⟨Av, cv, rfl, _, _⟩ := hbs
        obtain ⟨nb, hnb⟩ : ∃ nb, nb = a.b.length := ⟨_, rfl⟩
        rw [← hnb] at x3 HBs
        have Hnb := Lib.hid hnb
        have Hbl := Lib.hid hbl
        clear hat ha hbl hnb
        by_cases h30 : j < 30
        · have hne : ((j : Int) == 30) = false := by simp; omega
          go_wp2_with fail
          have hnew : Below wr.heap.size wr (wr.alloc (.cells #[.int .i64 a.what, .int .i64 a.n, .int .i64 a.m, .slice Av nb cv] 31)) := (Below.refl _ _).alloc (Nat.le_refl _) _
          have HL2 := Lib.hid (HL.out.on hnew)
          have HV := Lib.hid ((HBs.out.below hnew HL.out.below.size).inB)
          clear hnew x0 x1 x2 x3
          refine (does_any (what := a.what) (n := a.n) (m := a.m) HL2.out.file (by have := HQ.out; omega) HV.out (fun i hi h => by have h1 := HL2.out.fresh i hi; have h2 : i < w.heap.size := h; omega) Hbl.out).mono ?_
          rintro e w2 ⟨rfl, s', hst, hmut⟩
          obtain ⟨M', R', hl', _, _, _⟩ := HL2.out.mut hmut
          have HL3 := Lib.hid hl'
          have HQ3 : Hid (s'.big ≤ 100 + 60 * (j + 1)) := by have h1 := hst.big; have h2 := HQ.out; exact (by omega : s'.big ≤ 100 + 60 * (j + 1))
          clear hl' hmut hst
          go_wp2_with fail
          go_roundw
          case rel => exact ⟨j + 1, M', R', s', by omega, by omega, by go_num, HL3.out, HQ3.out⟩
          case measure => simp [intOf]; omega
        · obtain rfl : j = 30 := by omega
          go_wp2_with fail
          have hnew : Below wr.heap.size wr (wr.alloc (.cells #[.int .i64 a.what, .int .i64 a.n, .int .i64 a.m, .slice Av nb cv] 31)) := (Below.refl _ _).alloc (Nat.le_refl _) _
          go_meet
          exact ⟨M, R, s, HL.out.on hnew, by have := HQ.out; omega⟩
      · obtain rfl : j = n1 := by omega
        go_wp2_with fail
        go_meet
        exact ⟨M, R, s, HL.out, by have := HQ.out; omega⟩
  case rest =>
  obtain ⟨M, R, s, hl, hq⟩ := hcut
  clear HL1 HQ1
  have HL := Lib.hid hl
  have HQ := Lib.hid hq
  clear hl hq
  go_wp2_with fail
  refine (fcopy_m HL.out.file (by have := HQ.out; omega)).mono ?_
  rintro e w2 ⟨G, MG, rfl, hg, hb, hMG⟩
  have HG : Hid (Live w w2 G MG R s) := ⟨HL.out.below.trans (hb.mono HL.out.below.size), hg, fun i hi => Nat.le_trans HL.out.below.size (hMG i hi)⟩
  have HNG : Hid (∀ i, MG i → ¬ M i ∧ ¬ R i) := fun i hi => ⟨fun e => by have h1 := hMG i hi; have h2 := HL.out.file.lt1 i e; omega, fun e => by have h1 := hMG i hi; have h2 := HL.out.file.lt2 i e; omega⟩
  replace HL := Lib.hid (HL.out.on hb)
  clear hb hg hMG
  go_wp2_with fail
  refine (fall_m HL.out.file (by have := HQ.out; omega)).mono ?_
  rintro e w3 ⟨was, rfl, ho, hb⟩
  have HWas := Lib.hid ho
  have HBW : Hid (∀ g, was.ownBlock = some g → ¬ MG g) := fun g hg e => by have h1 := (ho.lt g hg).1; have h2 := HG.out.file.lt1 g e; omega
  replace HL := Lib.hid (HL.out.on hb)
  replace HG := Lib.hid (HG.out.on hb)
  clear ho hb
  go_wp2_with fail
  obtain ⟨m, hm⟩ : ∃ m, m = min q s.loose := ⟨_, rfl⟩
  have Hm := Lib.hid hm
  refine (fcrash_m HG.out.file (by have := HQ.out; omega) q m hm).mono ?_
  clear hm
  rintro e w4 ⟨rfl, hmut⟩
  obtain ⟨MG2, RG2, hg, hc, hm1, hm2⟩ := HG.out.mut hmut
  have HL0 := Lib.hid HL.out
  have HWas0 := Lib.hid HWas.out
  replace HL := Lib.hid (HL.out.keep hc HNG.out HG.out.fresh)
  replace HWas := Lib.hid (hc.own HWas.out HBW.out)
  have HBW2 : Hid (∀ g, was.ownBlock = some g → ¬ MG2 g) := fun g hg e => (hm1 g e).elim (HBW.out g hg) (fun h => by have h1 := (HWas.out.lt g hg).2; have h2 := hc.size; have h3 := (HWas0.out.lt g hg).2; omega)
  have HNG2 : Hid (∀ i, MG2 i → ¬ M i ∧ ¬ R i) := fun i hi => (hm1 i hi).elim (HNG.out i) (fun h => ⟨fun e => by have h2 := HL0.out.file.lt1 i e; omega, fun e => by have h2 := HL0.out.file.lt2 i e; omega⟩)
  clear HG
  have HG := Lib.hid hg
  clear hg hc hm1 hm2 hmut HL0 HWas0
  go_wp2_with fail
  refine (fall_m HG.out.file (by have := FSt.settled_big s (k := m) (by have := Hm.out; omega); have := HQ.out; omega)).mono ?_
  rintro e w5 ⟨once, rfl, ho, hb⟩
  rw [FSt.settled_bytes] at ho
  have HOn := Lib.hid ho
  have HBO : Hid (∀ g, once.ownBlock = some g → ¬ MG2 g) := fun g hg e => by have h1 := (ho.lt g hg).1; have h2 := HG.out.file.lt1 g e; omega
  replace HL := Lib.hid (HL.out.on hb)
  replace HG := Lib.hid (HG.out.on hb)
  replace HWas := Lib.hid (own_below HWas.out hb (Nat.le_refl _))
  clear ho hb
  obtain ⟨Ao, co, heo⟩ := own_len HOn.out
  obtain ⟨x, hx⟩ : ∃ x, x = (s.behind m).length := ⟨_, rfl⟩
  rw [← hx] at heo
  have Hx := Lib.hid hx
  have hxb : x ≤ 100000 := by have h1 := s.behind_length (k := m); have h2 := HQ.out; have h3 : s.big = s.safe.length + s.loose := rfl; have h4 := Hm.out; omega
  clear hx
  subst heo
  go_wp2_with fail
  have hs2 : (s.settled m).big ≤ 1000000 := by have := FSt.settled_big s (k := m) (by have := Hm.out; omega); have := HQ.out; omega
  have Hs2 := Lib.hid hs2
  clear hs2
  refine (fcrash_m HG.out.file Hs2.out 0 0 (by omega)).mono ?_
  rintro e w6 ⟨rfl, hmut⟩
  obtain ⟨MG3, RG3, hg, hc, hm1, hm2⟩ := HG.out.mut hmut
  have HL0 := Lib.hid HL.out
  have HW0 := Lib.hid HWas.out
  have HO0 := Lib.hid HOn.out
  replace HL := Lib.hid (HL.out.keep hc HNG2.out HG.out.fresh)
  replace HWas := Lib.hid (hc.own HWas.out HBW2.out)
  replace HOn := Lib.hid (hc.own HOn.out HBO.out)
  clear HG
  have HG : Hid (Live w w6 G MG3 RG3 (FSt.new (s.behind m))) := by
    have e : (s.settled m).settled 0 = FSt.new (s.behind m) := by
      show FSt.new ((s.settled m).behind 0) = _
      rw [behind_zero]
      rfl
    rw [e] at hg
    exact hg
  clear hg hc hm1 hm2 hmut HL0 HW0 HO0
  go_wp2_with fail
  have Hs3 : Hid ((FSt.new (s.behind m)).big ≤ 200000) := by show (s.behind m).length + 0 ≤ 200000; have := Hx.out; omega
  refine (fcopy_m HG.out.file (by have := Hs3.out; omega)).mono ?_
  rintro e w7 ⟨C, MC, rfl, hg, hb, hMC⟩
  have HC : Hid (Live w w7 C MC RG3 (FSt.new (s.behind m))) := ⟨HG.out.below.trans (hb.mono HG.out.below.size), hg, fun i hi => Nat.le_trans HG.out.below.size (hMC i hi)⟩
  have HC1 : Hid (∀ i, MC i → w6.heap.size ≤ i) := hMC
  have HW6 : Hid (∀ g, was.ownBlock = some g → g < w6.heap.size) := fun g hg => (HWas.out.lt g hg).2
  have HO6 : Hid (∀ g, (Value.slice Ao x co).ownBlock = some g → g < w6.heap.size) := fun g hg => (HOn.out.lt g hg).2
  have HF6 : Hid (∀ i, M i ∨ R i → i < w6.heap.size) := fun i hi => hi.elim (HL.out.file.lt1 i) (HL.out.file.lt2 i)
  have HG6 : Hid (∀ i, MG3 i ∨ RG3 i → i < w6.heap.size) := fun i hi => hi.elim (HG.out.file.lt1 i) (HG.out.file.lt2 i)
  replace HL := Lib.hid (HL.out.on hb)
  replace HG := Lib.hid (HG.out.on hb)
  replace HWas := Lib.hid (own_below HWas.out hb (Nat.le_refl _))
  replace HOn := Lib.hid (own_below HOn.out hb (Nat.le_refl _))
  have Hs7 := Lib.hid hb.size
  clear hb hg hMC
  go_wp2_with fail
  have hlit := BsIn.lit (w := w7) [1] 1 rfl #[.int .u8 1] rfl 5 (0, 0)
  have hb : Below w7.heap.size w7 (w7.alloc (.cells #[.int .u8 1] 5)) := (Below.refl _ _).alloc (Nat.le_refl _) _
  have HC7 : Hid (∀ i, MC i → i < w7.heap.size) := HC.out.file.lt1
  have Hs67 : Hid (w6.heap.size ≤ w7.heap.size) := Hs7.out
  replace HL := Lib.hid (HL.out.on hb)
  replace HG := Lib.hid (HG.out.on hb)
  replace HC := Lib.hid (HC.out.on hb)
  replace HWas := Lib.hid (own_below HWas.out hb (Nat.le_refl _))
  replace HOn := Lib.hid (own_below HOn.out hb (Nat.le_refl _))
  clear hb
  refine (fappend_m HC.out.file hlit (fun i hi e => by have h1 := HC7.out i hi; have h2 : i = w7.heap.size := e; omega) (by simp) (by have := Hs3.out; simp; omega)).mono ?_
  clear hlit
  rintro e w8 ⟨rfl, hmut⟩
  obtain ⟨MC2, RC2, hg, hc, hm1, hm2⟩ := HC.out.mut hmut
  replace HL := Lib.hid (HL.out.keep hc (fun i hi => ⟨fun e => by have h1 := HC1.out i hi; have h2 := HF6.out i (.inl e); omega, fun e => by have h1 := HC1.out i hi; have h2 := HF6.out i (.inr e); omega⟩) HC.out.fresh)
  replace HG := Lib.hid (HG.out.keep hc (fun i hi => ⟨fun e => by have h1 := HC1.out i hi; have h2 := HG6.out i (.inl e); omega, fun e => by have h1 := HC1.out i hi; have h2 := HG6.out i (.inr e); omega⟩) HC.out.fresh)
  replace HWas := Lib.hid (hc.own HWas.out (fun g hg e => by have h1 := HC1.out g e; have h2 := HW6.out g hg; omega))
  replace HOn := Lib.hid (hc.own HOn.out (fun g hg e => by have h1 := HC1.out g e; have h2 := HO6.out g hg; omega))
  have HC2 : Hid (∀ i, MC2 i → w6.heap.size ≤ i) := fun i hi => (hm1 i hi).elim (HC1.out i) (fun h => by have h1 : w7.heap.size ≤ (w7.alloc (.cells #[.int .u8 1] 5)).heap.size := (by simp); have h2 := Hs67.out; omega)
  have HCf := Lib.hid HC.out.fresh
  clear HC
  have HC := Lib.hid hg
  clear hg hc hm1 hm2 hmut
  go_wp2_with fail
  have Hlo : Hid (((FSt.new (s.behind m)).app [1]).loose = 1) := by rw [FSt.app_loose]; rfl
  refine (fcrash_m HC.out.file (by rw [FSt.app_big]; have := Hs3.out; simp; omega) 5 1 (by rw [Hlo.out]; omega)).mono ?_
  rintro e w9 ⟨rfl, hmut⟩
  obtain ⟨MC3, RC3, hg, hc, hm1, hm2⟩ := HC.out.mut hmut
  replace HL := Lib.hid (HL.out.keep hc (fun i hi => ⟨fun e => by have h1 := HC2.out i hi; have h2 := HF6.out i (.inl e); omega, fun e => by have h1 := HC2.out i hi; have h2 := HF6.out i (.inr e); omega⟩) HC.out.fresh)
  replace HG := Lib.hid (HG.out.keep hc (fun i hi => ⟨fun e => by have h1 := HC2.out i hi; have h2 := HG6.out i (.inl e); omega, fun e => by have h1 := HC2.out i hi; have h2 := HG6.out i (.inr e); omega⟩) HC.out.fresh)
  replace HWas := Lib.hid (hc.own HWas.out (fun g hg e => by have h1 := HC2.out g e; have h2 := HW6.out g hg; omega))
  replace HOn := Lib.hid (hc.own HOn.out (fun g hg e => by have h1 := HC2.out g e; have h2 := HO6.out g hg; omega))
  clear HC
  have HC := Lib.hid hg
  clear hg hc hm1 hm2 hmut
  go_wp2_with fail
  refine (fall_m HG.out.file (by have := Hs3.out; omega)).mono ?_
  rintro e wa ⟨r1, rfl, ho, hb⟩
  rw [FSt.new_bytes] at ho
  have HR1 := Lib.hid ho
  replace HL := Lib.hid (HL.out.on hb)
  replace HG := Lib.hid (HG.out.on hb)
  replace HC := Lib.hid (HC.out.on hb)
  replace HWas := Lib.hid (own_below HWas.out hb (Nat.le_refl _))
  replace HOn := Lib.hid (own_below HOn.out hb (Nat.le_refl _))
  clear ho hb
  go_wp2_with fail
  refine (fequal_t (Bs.of_own HR1.out) (Bs.of_own HOn.out)).mono ?_
  rintro e wb ⟨rfl, rfl⟩
  clear HR1
  go_wp2_with fail
  have Hcb : Hid ((((FSt.new (s.behind m)).app [1]).settled 1).bytes = s.behind m ++ [1]) := by
    rw [FSt.settled_bytes]
    have h1 := FSt.app_more (FSt.new_ok (s.behind m)) [1] 1
    rw [FSt.new_bytes] at h1
    exact h1
  have Hcbig : Hid ((((FSt.new (s.behind m)).app [1]).settled 1).big ≤ 1000000) := by
    have h1 := FSt.settled_big ((FSt.new (s.behind m)).app [1]) (k := 1) (by rw [Hlo.out]; exact Nat.le_refl _)
    rw [FSt.app_big] at h1
    have h2 := Hs3.out
    have h3 : [(1 : UInt8)].length = 1 := rfl
    rw [h3] at h1
    exact Nat.le_trans h1 (by omega)
  refine (fall_m HC.out.file Hcbig.out).mono ?_
  rintro e wb ⟨r2, rfl, ho, hb⟩
  rw [Hcb.out] at ho
  obtain ⟨A2, c2, he2⟩ := own_len ho
  have hx2 : (s.behind m ++ [1]).length = x + 1 := by rw [List.length_append, Hx.out]; rfl
  rw [hx2] at he2
  subst he2
  replace HL := Lib.hid (HL.out.on hb)
  replace HG := Lib.hid (HG.out.on hb)
  replace HWas := Lib.hid (own_below HWas.out hb (Nat.le_refl _))
  replace HOn := Lib.hid (own_below HOn.out hb (Nat.le_refl _))
  clear ho hb hx2 HC
  have hxe : (((x + 1 : Nat) : Int) == (x : Int) + 1) = true := by simp
  go_wp2_with fail
  refine (fall_m HL.out.file (by have := HQ.out; omega)).mono ?_
  rintro e wc2 ⟨r3, rfl, ho, hb⟩
  have HR3 := Lib.hid ho
  replace HL := Lib.hid (HL.out.on hb)
  replace HG := Lib.hid (HG.out.on hb)
  replace HWas := Lib.hid (own_below HWas.out hb (Nat.le_refl _))
  replace HOn := Lib.hid (own_below HOn.out hb (Nat.le_refl _))
  clear ho hb
  go_wp2_with fail
  refine (fequal_t (Bs.of_own HR3.out) (Bs.of_own HWas.out)).mono ?_
  rintro e wd ⟨rfl, rfl⟩
  clear HR3
  go_wp2_with fail
  refine (fflip_out HG.out.file rfl (x : Int) 1 (.inr (by show ((s.behind m).length : Int) ≤ _; rw [← Hx.out]; exact Int.le_refl _))).mono ?_
  rintro e wd ⟨rfl, hb⟩
  replace HL := Lib.hid (HL.out.on hb)
  clear hb
  go_wp2_with fail
  refine (fwakes _).mono ?_
  rintro e we ⟨rfl, hb⟩
  replace HL := Lib.hid (HL.out.on hb)
  clear hb
  go_wp2_with fail
  go_ret
  exact ⟨rfl, HL.out.below⟩
theorem walk (v0 : Value) (z0 : List Int) (v1 : Value) (l1 : List Act5) (a2 : Int) (w : World) (w0 : Ints w w.heap.size .u8 v0 z0) (g0 : ∀ n ∈ z0, (Lit.int .u8 n).wf = true) (s0 : z0.length * 1 ≤ 140737488351232) (hl1 : Acts5 w w.heap.size v1 l1) (w2 : (Lit.int .u16 a2).wf = true) :
    Calls Try.prog 5 #[v0, v1, .int .u16 a2] w fun e w' => e = .returned (.bool true) ∧ Below w.heap.size w w' := by
  have hb := bounds_u16 w2
  obtain ⟨q, rfl⟩ : ∃ q : Nat, a2 = (q : Int) := ⟨a2.toNat, by omega⟩
  exact walk0 v0 v1 _ l1 q w (bs_of_ints w0 (fun z hz => bounds_u8 (g0 z hz))) (by rw [List.length_map]; omega) hl1 (by omega)
end Go.Proofs.Ytmlbhconbabdhaa.fileTwice
