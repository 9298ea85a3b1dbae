
/-
  The walk of the law FileAppends: it returns true, and writes nothing that was there.
-/
import Derived.Test.YtmlbhconbabdhaaFxStep
import Derived.Test.YtmlbhconbabdhaaArr
import Derived.OpenShut
import Derived.Deep.CutBlock
import Derived.Deep.CutRange
set_option linter.unusedVariables false
set_option linter.unusedSimpArgs false
namespace Go.Proofs.Ytmlbhconbabdhaa.fileAppends
open Go.RowKit

/-- the law's numbers -/
structure Nums (n0 n1 x0 x1 x2 k0 k1 p u r t q y1 mm sp sl : Nat) : Prop where
  min0 : min (n0 : Int) 100 = (k0 : Int)
  min1 : min (n1 : Int) 200 = (k1 : Int)
  mod0 : (x0 : Int) % ((k1 : Int) + 1) = (p : Int)
  tmod0 : (x0 : Int).tmod ((k1 : Int) + 1) = (p : Int)
  mod1 : (x1 : Int) % ((u : Int) + 1) = (r : Int)
  tmod1 : (x1 : Int).tmod ((u : Int) + 1) = (r : Int)
  mm1 : min (x2 : Int) (u : Int) = (mm : Int)
  mm0 : mm = min x2 u
  k0n : k0 ≤ n0
  k1n : k1 ≤ n1
  k0b : k0 ≤ 100
  k1b : k1 ≤ 200
  ku : k1 = p + u
  ut : u = r + t
  qe : q = p + r
  y1e : y1 = k0 + q
  mmu : mm ≤ u
  spe : sp = k0 + p
  sle : sl = sp + mm
theorem nums (n0 n1 x0 x1 x2 : Nat) : ∃ k0 k1 p u r t q y1 mm sp sl, Nums n0 n1 x0 x1 x2 k0 k1 p u r t q y1 mm sp sl := by
  obtain ⟨k0, hk0⟩ : ∃ k, k = min n0 100 := ⟨_, rfl⟩
  obtain ⟨k1, hk1⟩ : ∃ k, k = min n1 200 := ⟨_, rfl⟩
  obtain ⟨p, hp⟩ : ∃ p, p = x0 % (k1 + 1) := ⟨_, rfl⟩
  have hpk : p ≤ k1 := by have := Nat.mod_lt x0 (show 0 < k1 + 1 by omega); omega
  obtain ⟨u, hu⟩ : ∃ u, k1 = p + u := ⟨k1 - p, by omega⟩
  obtain ⟨r, hr⟩ : ∃ r, r = x1 % (u + 1) := ⟨_, rfl⟩
  have hrk : r ≤ u := by have := Nat.mod_lt x1 (show 0 < u + 1 by omega); omega
  obtain ⟨t, ht⟩ : ∃ t, u = r + t := ⟨u - r, by omega⟩
  have m0 : (x0 : Int) % ((k1 : Int) + 1) = (p : Int) := by rw [hp]; push_cast; rfl
  have m1 : (x1 : Int) % ((u : Int) + 1) = (r : Int) := by rw [hr]; push_cast; rfl
  exact ⟨k0, k1, p, u, r, t, p + r, k0 + (p + r), min x2 u, k0 + p, k0 + p + min x2 u, ⟨by omega, by omega, m0, by rw [Int.tmod_eq_emod_of_nonneg (by omega)]; exact m0, m1, by rw [Int.tmod_eq_emod_of_nonneg (by omega)]; exact m1, by omega, rfl, by omega, by omega, by omega, by omega, hu, ht, rfl, rfl, Nat.min_le_right _ _, rfl, rfl⟩⟩

set_option maxRecDepth 100000 in
set_option maxHeartbeats 16000000 in
theorem walk0 (v0 v1 : Value) (l0 l1 : List UInt8) (x0 x1 x2 : Nat) (w : World) (h0 : Bs w w.heap.size v0 l0) (hl0 : l0.length ≤ 140737488351232) (h1 : Bs w w.heap.size v1 l1) (hl1 : l1.length ≤ 140737488351232) (hx0 : x0 < 256) (hx1 : x1 < 256) (hx2 : x2 < 256) :
    Calls Try.prog 4 #[v0, v1, .agg #[.int .u8 (x0 : Int), .int .u8 (x1 : Int), .int .u8 (x2 : Int)]] w fun e w' => e = .returned (.bool true) ∧ Below w.heap.size w w' := by
  obtain ⟨i0, hi0, hz0, hz1, hz2⟩ := info_parts fbyte_info
  obtain ⟨A0, c0, rfl, hc0, hr0⟩ := h0
  obtain ⟨A1, c1, rfl, hc1, hr1⟩ := h1
  obtain ⟨n0, hn0⟩ : ∃ n0, n0 = l0.length := ⟨_, rfl⟩
  obtain ⟨n1, hn1⟩ : ∃ n1, n1 = l1.length := ⟨_, rfl⟩
  obtain ⟨k0, k1, p, u, r, t, q, y1, mm, sp, sl, N⟩ := nums n0 n1 x0 x1 x2
  obtain ⟨hmin0, hmin1, hmod0, hmod0', hmod1, hmod1', hmm1, Hmm, hk0n, hk1n, hk100, hk200, hku, hut, hq, hy1, hmmu, hsp, hsl⟩ := N
  have Hmin0 := Lib.hid hmin0
  have Hmin1 := Lib.hid hmin1
  have Hmm1 := Lib.hid hmm1
  replace Hmm := Lib.hid Hmm
  clear hmin0 hmin1 hmm1
  rw [← hn0] at hc0 hl0
  rw [← hn1] at hc1 hl1
  rw [← hn0, ← hn1]
  have hsub1 : (k1 : Int) - (p : Int) = (u : Int) := by omega
  have hpr : (p : Int) + (r : Int) = (q : Int) := by omega
  have hs1 : (k0 : Int) + (q : Int) = (y1 : Int) := by omega
  have hs2 : (k1 : Int) - (q : Int) = (t : Int) := by omega
  have hsp1 : (k0 : Int) + (p : Int) = (sp : Int) := by omega
  have hsl1 : (sp : Int) + (mm : Int) = (sl : Int) := by omega
  have ht : k1 = p + r + t := by omega
  have hu : u = k1 - p := by omega
  have hpk : p ≤ 200 := by omega
  have huk : u ≤ 200 := by omega
  have hqk : q ≤ 200 := by omega
  have htk : t ≤ 200 := by omega
  have hrk : r ≤ 200 := by omega
  have hyk : y1 ≤ 300 := by omega
  have hspk : sp ≤ 300 := by omega
  have hslk : sl ≤ 500 := by omega
  have HLn : Hid (k1 = p + u ∧ u = r + t ∧ q = p + r ∧ y1 = k0 + q ∧ sp = k0 + p ∧ sl = sp + mm ∧ mm ≤ u ∧ k0 ≤ 100 ∧ k1 ≤ 200) := ⟨hku, hut, hq, hy1, hsp, hsl, hmmu, hk100, hk200⟩
  have Hku := Lib.hid hku
  have Hut := Lib.hid hut
  have Hsp := Lib.hid hsp
  have Hsl := Lib.hid hsl
  have Hy1 := Lib.hid hy1
  have hcut0 := cut_h A0 n0 c0 k0 (by omega)
  have hcut1 := cut_h A1 n1 c1 k1 (by omega)
  have hkl0 : (l0.take k0).length = k0 := by rw [List.length_take, ← hn0]; omega
  have hkl1 : (l1.take k1).length = k1 := by rw [List.length_take, ← hn1]; omega
  obtain ⟨b, hb⟩ : ∃ b, b = l0.take k0 := ⟨_, rfl⟩
  obtain ⟨m, hm⟩ : ∃ m, m = l1.take k1 := ⟨_, rfl⟩
  rw [← hb] at hkl0
  rw [← hm] at hkl1
  have HB0 : Hid (Bs w w.heap.size (.slice A0 k0 c0) b) := ⟨A0, c0, by rw [hkl0], by rw [hkl0]; omega, by rw [hb, bvs_take]; exact hr0.take k0⟩
  have HM0 : Hid (Bs w w.heap.size (.slice A1 k1 c1) m) := ⟨A1, c1, by rw [hkl1], by rw [hkl1]; omega, by rw [hm, bvs_take]; exact hr1.take k1⟩
  have Hkb := Lib.hid hkl0
  have Hkm := Lib.hid hkl1
  obtain ⟨A2, c2, hcut2, hc2, hrd2⟩ := cut_lh A1 k1 c1 p q r hq (by omega)
  obtain ⟨A3, c3, hcut3, hc3, hrd3⟩ := cut_l A1 k1 c1 q t (by omega) (by omega)
  have hcut4 := cut_h A1 k1 c1 p (by omega)
  have HP0 : Hid (Bs w w.heap.size (.slice A1 p c1) (m.take p)) := ⟨A1, c1, by rw [List.length_take, hkl1, show min p k1 = p by omega], by rw [List.length_take, hkl1]; omega, by obtain ⟨_, _, e, _, hh⟩ := HM0.out; injection e with e1 _ _; subst e1; rw [bvs_take]; exact hh.take p⟩
  have HQ0 : Hid (Bs w w.heap.size (.slice A2 r c2) ((m.drop p).take r)) := ⟨A2, c2, by rw [List.length_take, List.length_drop, hkl1, show min r (k1 - p) = r by omega], by rw [List.length_take, List.length_drop, hkl1]; omega, by obtain ⟨_, _, e, _, hh⟩ := HM0.out; injection e with e1 _ _; subst e1; exact hrd2 _ _ m (by rw [hkl1]; omega) hh⟩
  have HT0 : Hid (Bs w w.heap.size (.slice A3 t c3) (m.drop q)) := ⟨A3, c3, by rw [List.length_drop, hkl1, show k1 - q = t by omega], by rw [List.length_drop, hkl1]; omega, by obtain ⟨_, _, e, _, hh⟩ := HM0.out; injection e with e1 _ _; subst e1; exact hrd3 _ _ m (by rw [hkl1]; omega) hh⟩
  have hc0' : k0 ≤ c0 := by omega
  have hc1' : k1 ≤ c1 := by omega
  have Ht := Lib.hid ht
  have Hq := Lib.hid hq
  have Hu := Lib.hid hu
  clear hr0 hr1 hn0 hn1 hkl0 hkl1 hb hm ht hq hu hk0n hk1n hrd2 hrd3 hku hut hy1 hsp hsl
  go_enter Try.func4, Try.ntmps4
  go_wp2_with fail
  have hmin0 := Hmin0.out
  have hmin1 := Hmin1.out
  go_quiet (fail)
  clear hmin0 hmin1
  have hnewX : Below w.heap.size w ((w.alloc (.cells #[.int .u8 (x0 : Int), .int .u8 (x1 : Int), .int .u8 (x2 : Int)] 42)).drewN nq) := fbdrewN ((Below.refl _ _).alloc (Nat.le_refl _) _) _
  have hX0 : ((w.alloc (.cells #[.int .u8 (x0 : Int), .int .u8 (x1 : Int), .int .u8 (x2 : Int)] 42)).drewN nq).cell? ⟨w.heap.size, 0, none⟩ = some (.int .u8 (x0 : Int)) := by show (w.alloc _).cell? _ = _; simp
  have hX1 : ((w.alloc (.cells #[.int .u8 (x0 : Int), .int .u8 (x1 : Int), .int .u8 (x2 : Int)] 42)).drewN nq).cell? ⟨w.heap.size, 1, none⟩ = some (.int .u8 (x1 : Int)) := by show (w.alloc _).cell? _ = _; simp
  have hX2 : ((w.alloc (.cells #[.int .u8 (x0 : Int), .int .u8 (x1 : Int), .int .u8 (x2 : Int)] 42)).drewN nq).cell? ⟨w.heap.size, 2, none⟩ = some (.int .u8 (x2 : Int)) := by show (w.alloc _).cell? _ = _; simp
  have HBw := Lib.hid hnewX
  clear hnewX
  generalize World.drewN _ nq = W at *
  generalize hXX : w.heap.size = X at hX0 hX1 hX2
  have HX : Hid (X < W.heap.size) := fblock_of_cell hX0
  have HX2 := Lib.hid hX2
  replace HB0 := Lib.hid (HB0.out.on HBw.out)
  replace HM0 := Lib.hid (HM0.out.on HBw.out)
  replace HP0 := Lib.hid (HP0.out.on HBw.out)
  replace HQ0 := Lib.hid (HQ0.out.on HBw.out)
  replace HT0 := Lib.hid (HT0.out.on HBw.out)
  clear hXX
  go_wp2_with fail
  clear hX0 hX1 hX2 hmod0 hmod0' hmod1 hmod1'
  refine (fnew_b HB0.out (Nat.le_refl _) (by rw [Hkb.out]; omega)).mono ?_
  rintro e w1 ⟨F, M, rfl, hf, hb, hM⟩
  have HF : Hid (Live W w1 F M (fun _ => False) (FSt.new b)) := ⟨hb, hf, hM⟩
  clear hf hb hM
  go_wp2_with fail
  refine (fnew_b (HF.out.bs HB0.out) HF.out.below.size (by rw [Hkb.out]; omega)).mono ?_
  rintro e w2 ⟨G, MG, rfl, hg, hb, hMG⟩
  have HG : Hid (Live W w2 G MG (fun _ => False) (FSt.new b)) := ⟨HF.out.below.trans (hb.mono HF.out.below.size), hg, fun i hi => Nat.le_trans HF.out.below.size (hMG i hi)⟩
  have HSep : Hid (∀ i, MG i → ¬ M i) := fun i hi e => by have h1 := hMG i hi; have h2 := HF.out.file.lt1 i e; omega
  replace HF := Lib.hid (HF.out.on hb)
  clear hb hg hMG
  go_wp2_with fail
  have HbigN : Hid ((FSt.new b).big ≤ 100) := Lib.hid (by show b.length + 0 ≤ 100; rw [Hkb.out]; omega)
  refine (fappend_e HG.out.file ((HG.out.bs HM0.out).inB) (fun i hi h => by have h1 := HG.out.fresh i hi; have h2 : i < W.heap.size := h; omega) (by rw [Hkm.out]; have := HbigN.out; omega)).mono ?_
  rintro e w3 ⟨rfl, hmut⟩
  obtain ⟨MG2, RG2, hg, hc, hm1, hm2⟩ := HG.out.mut hmut
  have HFl := Lib.hid HF.out.file.lt1
  replace HF := Lib.hid (HF.out.keep hc (fun i hi => ⟨HSep.out i hi, fun h => h⟩) HG.out.fresh)
  replace HSep : Hid (∀ i, M i → ¬ MG2 i ∧ ¬ RG2 i) := fun i hi => ⟨fun e => (hm1 i e).elim (fun h => HSep.out i h hi) (fun h => by have h2 := HFl.out i hi; omega), fun e => (hm2 i e).elim (fun h => h) (fun h => by have h2 := HFl.out i hi; omega)⟩
  clear HG HFl
  have HG := Lib.hid hg
  clear hg hc hm1 hm2 hmut
  go_wp2_with fail
  have Hpl : Hid ((m.take p).length = p) := Lib.hid (by rw [List.length_take, Hkm.out]; exact (by have hLn := HLn.out; omega : min p k1 = p))
  refine (fappend_e HF.out.file ((HF.out.bs HP0.out).inB) (fun i hi h => by have h1 := HF.out.fresh i hi; have h2 : i < W.heap.size := h; omega) (by rw [Hpl.out]; have := HbigN.out; have hLn := HLn.out; omega)).mono ?_
  rintro e w4 ⟨rfl, hmut⟩
  obtain ⟨M2, R2, hg, hc, hm1, hm2⟩ := HF.out.mut hmut
  have HGl : Hid (∀ i, MG2 i ∨ RG2 i → i < w3.heap.size) := fun i hi => hi.elim (HG.out.file.lt1 i) (HG.out.file.lt2 i)
  replace HG := Lib.hid (HG.out.keep hc HSep.out HF.out.fresh)
  replace HSep : Hid (∀ i, M2 i → ¬ MG2 i ∧ ¬ RG2 i) := fun i hi => (hm1 i hi).elim (HSep.out i) (fun h => ⟨fun e => by have h2 := HGl.out i (.inl e); omega, fun e => by have h2 := HGl.out i (.inr e); omega⟩)
  clear HF HGl
  have HF := Lib.hid hg
  clear hg hc hm1 hm2 hmut
  go_wp2_with fail
  have Hb1 : Hid (((FSt.new b).appe (m.take p)).big ≤ 1000) := Lib.hid (by rw [FSt.appe_big, Hpl.out]; have := HbigN.out; omega)
  refine (fsync_m HF.out.file (by have := Hb1.out; omega)).mono ?_
  rintro e w5 ⟨rfl, hmut⟩
  have Hst : Hid (((FSt.new b).appe (m.take p)).settled ((FSt.new b).appe (m.take p)).loose = FSt.new (b ++ m.take p)) := by
    refine Lib.hid ?_
    show FSt.new (FSt.behind _ _) = _
    rw [(FSt.appe_ok (FSt.new_ok b) (m.take p)).whole, FSt.appe_bytes, FSt.new_bytes]
  rw [Hst.out] at hmut
  obtain ⟨M3, R3, hg, hc, hm1, hm2⟩ := HF.out.mut hmut
  have HGl : Hid (∀ i, MG2 i ∨ RG2 i → i < w4.heap.size) := fun i hi => hi.elim (HG.out.file.lt1 i) (HG.out.file.lt2 i)
  replace HG := Lib.hid (HG.out.keep hc HSep.out HF.out.fresh)
  replace HSep : Hid (∀ i, M3 i → ¬ MG2 i ∧ ¬ RG2 i) := fun i hi => (hm1 i hi).elim (HSep.out i) (fun h => ⟨fun e => by have h2 := HGl.out i (.inl e); omega, fun e => by have h2 := HGl.out i (.inr e); omega⟩)
  clear HF HGl
  have HF := Lib.hid hg
  clear hg hc hm1 hm2 hmut
  go_wp2_with fail
  have Hcl : Hid ((b ++ m.take p).length = sp) := Lib.hid (by rw [List.length_append, Hkb.out, Hpl.out]; exact Hsp.out.symm)
  have Hb2 : Hid ((FSt.new (b ++ m.take p)).big ≤ 300) := Lib.hid (by show (b ++ m.take p).length + 0 ≤ 300; rw [Hcl.out, Hsp.out]; have hLn := HLn.out; omega)
  have Hrl : Hid (((m.drop p).take r).length = r) := Lib.hid (by rw [List.length_take, List.length_drop, Hkm.out]; exact (by have hLn := HLn.out; omega))
  refine (fappend_e HF.out.file ((HF.out.bs HQ0.out).inB) (fun i hi h => by have h1 := HF.out.fresh i hi; have h2 : i < W.heap.size := h; omega) (by rw [Hrl.out]; have := Hb2.out; have hLn := HLn.out; omega)).mono ?_
  rintro e w6 ⟨rfl, hmut⟩
  obtain ⟨M4, R4, hg, hc, hm1, hm2⟩ := HF.out.mut hmut
  have HGl : Hid (∀ i, MG2 i ∨ RG2 i → i < w5.heap.size) := fun i hi => hi.elim (HG.out.file.lt1 i) (HG.out.file.lt2 i)
  replace HG := Lib.hid (HG.out.keep hc HSep.out HF.out.fresh)
  replace HSep : Hid (∀ i, M4 i → ¬ MG2 i ∧ ¬ RG2 i) := fun i hi => (hm1 i hi).elim (HSep.out i) (fun h => ⟨fun e => by have h2 := HGl.out i (.inl e); omega, fun e => by have h2 := HGl.out i (.inr e); omega⟩)
  clear HF HGl
  have HF := Lib.hid hg
  clear hg hc hm1 hm2 hmut
  go_wp2_with fail
  refine (fappend_none F 0 none).mono ?_
  rintro e w7 ⟨rfl, hb⟩
  replace HF := Lib.hid (HF.out.on hb)
  replace HG := Lib.hid (HG.out.on hb)
  clear hb
  go_wp2_with fail
  have Htl : Hid ((m.drop q).length = t) := Lib.hid (by rw [List.length_drop, Hkm.out]; exact (by have hLn := HLn.out; omega))
  refine (fappend_e HF.out.file ((HF.out.bs HT0.out).inB) (fun i hi h => by have h1 := HF.out.fresh i hi; have h2 : i < W.heap.size := h; omega) (by rw [Htl.out, FSt.appe_big, Hrl.out]; have := Hb2.out; omega)).mono ?_
  rintro e w8 ⟨rfl, hmut⟩
  obtain ⟨M5, R5, hg, hc, hm1, hm2⟩ := HF.out.mut hmut
  have HGl : Hid (∀ i, MG2 i ∨ RG2 i → i < w7.heap.size) := fun i hi => hi.elim (HG.out.file.lt1 i) (HG.out.file.lt2 i)
  replace HG := Lib.hid (HG.out.keep hc HSep.out HF.out.fresh)
  replace HSep : Hid (∀ i, M5 i → ¬ MG2 i ∧ ¬ RG2 i) := fun i hi => (hm1 i hi).elim (HSep.out i) (fun h => ⟨fun e => by have h2 := HGl.out i (.inl e); omega, fun e => by have h2 := HGl.out i (.inr e); omega⟩)
  clear HF HGl
  obtain ⟨S, hS⟩ : ∃ S, S = ((FSt.new (b ++ m.take p)).appe ((m.drop p).take r)).appe (m.drop q) := ⟨_, rfl⟩
  rw [← hS] at hg
  have HF := Lib.hid hg
  clear hg hc hm1 hm2 hmut
  have HSby : Hid (S.bytes = b ++ m) := by
    refine Lib.hid ?_
    rw [hS, FSt.appe_bytes, FSt.appe_bytes, FSt.new_bytes, Hq.out, List.append_assoc, List.append_assoc]
    congr 1
    rw [← List.drop_drop, List.take_append_drop, List.take_append_drop]
  have HSlo : Hid (S.loose = u) := by
    refine Lib.hid ?_
    rw [hS, FSt.appe_loose, FSt.appe_loose, Hrl.out, Htl.out]
    have hLn := HLn.out
    show 0 + r + t = u
    omega
  have HSsa : Hid (S.safe.length = sp) := Lib.hid (by rw [hS, FSt.appe_safe, FSt.appe_safe]; exact Hcl.out)
  have HSbe : Hid (∀ k, S.behind k = (b ++ m.take p) ++ (m.drop p).take k) := fun k => by
    rw [hS, two_behind]
    congr 2
    rw [Hq.out, ← List.drop_drop, List.take_append_drop]
  have HSbig : Hid (S.big ≤ 1000) := Lib.hid (by have h1 : S.big = S.safe.length + S.loose := rfl; rw [h1, HSsa.out, HSlo.out, Hsp.out]; have hLn := HLn.out; omega)
  have Hwl : Hid ((b ++ m).length = k0 + k1) := Lib.hid (by rw [List.length_append, Hkb.out, Hkm.out])
  clear hS
  go_wp2_with fail
  refine (fclone _ b _ _ (HF.out.bs HB0.out) HF.out.below.size (by rw [Hkb.out]; omega)).mono ?_
  rintro e w9 ⟨wh, rfl, ho, hb⟩
  have HWh0 := Lib.hid ho
  have HMs : Hid (Bs w9 W.heap.size (.slice A1 k1 c1) m) := (HF.out.on hb).bs HM0.out
  have Hs9 : Hid (w8.heap.size ≤ w9.heap.size) := hb.size
  have HF8 : Hid (W.heap.size ≤ w8.heap.size) := HF.out.below.size
  have HFl : Hid (∀ i, M5 i ∨ R5 i → i < w8.heap.size) := fun i hi => hi.elim (HF.out.file.lt1 i) (HF.out.file.lt2 i)
  have HGl : Hid (∀ i, MG2 i ∨ RG2 i → i < w8.heap.size) := fun i hi => hi.elim (HG.out.file.lt1 i) (HG.out.file.lt2 i)
  replace HF := Lib.hid (HF.out.on hb)
  replace HG := Lib.hid (HG.out.on hb)
  clear hb ho
  obtain ⟨Aw, cw, hew, _, _, _⟩ := own_slice HWh0.out
  rw [Hkb.out] at hew
  have HWh1 : Hid (w9.ownsRow w8.heap.size 5 1 wh k0 (bvs b)) := Lib.hid (by have := HWh0.out; rw [Hkb.out] at this; exact this)
  clear HWh0
  obtain ⟨Am, cm, em, hcm, hrm⟩ := HMs.out
  injection em with em1 em2 em3
  subst em1 em3
  have Hrm := Lib.hid hrm
  clear hcm hrm em2
  subst hew
  have hsz8 := HF.out.below.size
  go_wp2_with (at_builtin; (refine wpList_append_rd _ rfl _ _ 22 rfl w8.heap.size 5 i0 (.int .u8 0) 1 1 Try.underlying22 hi0 hz0 hz1 hz2 rfl (by omega) (.slice Aw k0 cw) k0 (bvs b) rfl HWh1.out W.heap.size A1 k1 c1 (bvs m) rfl (by rw [bvs_length, Hkm.out]; omega) Hrm.out (bvs_one m) (by unfold maxLen; omega) (by omega) Hs9.out ?_); intro v3 wA hown3 hb3 hg3 hv3; have HWh := Lib.hid hown3; have HgA := Lib.hid hg3; have HWl := Lib.hid HWh1.out.lt; clear hown3 hb3 hg3 hv3)
  have hcA : Chg (fun i => (Value.slice Aw k0 cw).ownBlock = some i) w9 wA := Chg.of_grown HgA.out (fun g hg => hg)
  replace HF := Lib.hid (HF.out.keep hcA (fun i hi => ⟨fun e => by have h1 := (HWl.out i hi).1; have h2 := HFl.out i (.inl e); omega, fun e => by have h1 := (HWl.out i hi).1; have h2 := HFl.out i (.inr e); omega⟩) (fun i hi => by have h1 := (HWl.out i hi).1; have h2 := HF8.out; omega))
  replace HG := Lib.hid (HG.out.keep hcA (fun i hi => ⟨fun e => by have h1 := (HWl.out i hi).1; have h2 := HGl.out i (.inl e); omega, fun e => by have h1 := (HWl.out i hi).1; have h2 := HGl.out i (.inr e); omega⟩) (fun i hi => by have h1 := (HWl.out i hi).1; have h2 := HF8.out; omega))
  clear hcA
  have HWh2 : Hid (wA.ownsRow w8.heap.size 5 1 v3 (k0 + k1) (bvs (b ++ m))) := Lib.hid (by have := HWh.out; rw [← bvs_append] at this; exact this)
  clear HWh HWh1 HMs Hrm HgA
  have HWo : Hid (∀ g, v3.ownBlock = some g → ¬ M5 g) := fun g hg e => by have h1 := (HWh2.out.lt g hg).1; have h2 := HFl.out g (.inl e); omega
  obtain ⟨Av, cv, hev, _, _, _⟩ := own_slice HWh2.out
  subst hev
  refine (fall_m HF.out.file (by have := HSbig.out; omega)).mono ?_
  rintro e wB ⟨r1, rfl, ho, hb⟩
  rw [HSby.out] at ho
  have HR1 := Lib.hid ho
  replace HF := Lib.hid (HF.out.on hb)
  replace HG := Lib.hid (HG.out.on hb)
  replace HWh2 := Lib.hid (own_below HWh2.out hb (Nat.le_refl _))
  clear ho hb
  go_wp2_with fail
  refine (fequal_t (Bs.of_own HR1.out) (Bs.of_own HWh2.out)).mono ?_
  rintro e wC ⟨rfl, rfl⟩
  clear HR1
  go_wp2_with fail
  have Hgb : Hid (((FSt.new b).appe m).big ≤ 1000) := Lib.hid (by rw [FSt.appe_big, Hkm.out]; have := HbigN.out; omega)
  refine (fall_m HG.out.file (by have := Hgb.out; omega)).mono ?_
  rintro e wC ⟨r1, rfl, ho, hb⟩
  rw [FSt.appe_bytes, FSt.new_bytes] at ho
  have HR1 := Lib.hid ho
  replace HF := Lib.hid (HF.out.on hb)
  replace HG := Lib.hid (HG.out.on hb)
  replace HWh2 := Lib.hid (own_below HWh2.out hb (Nat.le_refl _))
  clear ho hb
  go_wp2_with fail
  refine (fequal_t (Bs.of_own HR1.out) (Bs.of_own HWh2.out)).mono ?_
  rintro e wD ⟨rfl, rfl⟩
  clear HR1
  go_wp2_with fail
  refine (fsafe_m HF.out.file sp HSsa.out).mono ?_
  rintro e wD ⟨rfl, hb⟩
  replace HF := Lib.hid (HF.out.on hb)
  replace HG := Lib.hid (HG.out.on hb)
  replace HWh2 := Lib.hid (own_below HWh2.out hb (Nat.le_refl _))
  clear hb
  go_wp2_with fail
  refine (floose_m HF.out.file u HSlo.out).mono ?_
  rintro e wE ⟨rfl, hb⟩
  replace HF := Lib.hid (HF.out.on hb)
  replace HG := Lib.hid (HG.out.on hb)
  replace HWh2 := Lib.hid (own_below HWh2.out hb (Nat.le_refl _))
  clear hb
  go_wp2_with fail
  refine (floose_m HG.out.file k1 (by rw [FSt.appe_loose, Hkm.out]; show 0 + k1 = k1; omega)).mono ?_
  rintro e wF ⟨rfl, hb⟩
  replace HF := Lib.hid (HF.out.on hb)
  replace HWh2 := Lib.hid (own_below HWh2.out hb (Nat.le_refl _))
  clear hb HG
  go_wp2_with fail
  refine (fread_m HF.out.file (by have := HSbig.out; omega) 0 y1 (by rw [HSby.out, Hwl.out, Hy1.out]; have hLn := HLn.out; omega)).mono ?_
  rintro e wG ⟨x, rfl, ho, hb⟩
  rw [HSby.out, List.drop_zero] at ho
  have HXr := Lib.hid ho
  have HXs : Hid (∀ g, x.ownBlock = some g → wF.heap.size ≤ g) := fun g hg => (ho.lt g hg).1
  have HWF : Hid (∀ g, (Value.slice Av (k0 + k1) cv).ownBlock = some g → g < wF.heap.size) := fun g hg => (HWh2.out.lt g hg).2
  have HMF : Hid (∀ i, M5 i → i < wF.heap.size) := HF.out.file.lt1
  have HsG : Hid (wF.heap.size ≤ wG.heap.size) := hb.size
  have HsF : Hid (W.heap.size ≤ wF.heap.size) := HF.out.below.size
  replace HF := Lib.hid (HF.out.on hb)
  replace HWh2 := Lib.hid (own_below HWh2.out hb (Nat.le_refl _))
  clear ho hb
  obtain ⟨Ax, cx, hex, _, _, _⟩ := own_slice HXr.out
  subst hex
  go_wp2_with fail
  refine (fread_m HF.out.file (by have := HSbig.out; omega) y1 t (by rw [HSby.out, Hwl.out, Hy1.out]; have hLn := HLn.out; omega)).mono ?_
  rintro e wH ⟨y, rfl, ho, hb⟩
  rw [HSby.out] at ho
  have HYr := Lib.hid ho
  have HYs : Hid (∀ g, y.ownBlock = some g → wF.heap.size ≤ g) := fun g hg => Nat.le_trans HsG.out (ho.lt g hg).1
  replace HF := Lib.hid (HF.out.on hb)
  replace HWh2 := Lib.hid (own_below HWh2.out hb (Nat.le_refl _))
  replace HXr := Lib.hid (own_below HXr.out hb (Nat.le_refl _))
  clear ho hb
  obtain ⟨Ay, cy, hey, _, _, _⟩ := own_slice HYr.out
  subst hey
  go_wp2_with fail
  refine (fread_short HF.out.file (by have := HSbig.out; omega) (y1 : Int) ((t : Int) + 1) (by omega) (by omega) (.inr (by rw [HSby.out, Hwl.out, Hy1.out]; have hLn := HLn.out; omega))).mono ?_
  rintro e wI ⟨rfl, hb⟩
  replace HF := Lib.hid (HF.out.on hb)
  replace HWh2 := Lib.hid (own_below HWh2.out hb (Nat.le_refl _))
  replace HXr := Lib.hid (own_below HXr.out hb (Nat.le_refl _))
  replace HYr := Lib.hid (own_below HYr.out hb (Nat.le_refl _))
  clear hb
  have cX2 : wI.cell? ⟨X, 2, none⟩ = some (.int .u8 (x2 : Int)) := (HF.out.below.cell (p := ⟨X, 2, none⟩) HX.out).trans HX2.out
  go_wp2_with fail
  clear cX2
  refine (fcrash_m HF.out.file (by have := HSbig.out; omega) x2 mm (by rw [HSlo.out]; exact Hmm.out)).mono ?_
  rintro e wJ ⟨rfl, hmut⟩
  obtain ⟨M6, R6, hg, hc, hm1, hm2⟩ := HF.out.mut hmut
  replace HWh2 := Lib.hid (hc.own HWh2.out HWo.out)
  replace HXr := Lib.hid (hc.own HXr.out (fun g hg e => by have h1 := HXs.out g hg; have h2 := HMF.out g e; omega))
  replace HYr := Lib.hid (hc.own HYr.out (fun g hg e => by have h1 := HYs.out g hg; have h2 := HMF.out g e; omega))
  clear HF
  have HF := Lib.hid hg
  clear hg hc hm1 hm2 hmut
  go_wp2_with fail
  have Hsb : Hid ((S.settled mm).big ≤ 1000) := Nat.le_trans (FSt.settled_big S (k := mm) (by rw [HSlo.out]; exact hmmu)) HSbig.out
  refine (fall_m HF.out.file (by have := Hsb.out; omega)).mono ?_
  rintro e wK ⟨lf, rfl, ho, hb⟩
  rw [FSt.settled_bytes, HSbe.out] at ho
  have Hll : Hid ((b ++ m.take p ++ (m.drop p).take mm).length = sl) := by
    refine Lib.hid ?_
    rw [List.length_append, Hcl.out, List.length_take, List.length_drop, Hkm.out, Hsl.out]
    have hLn := HLn.out
    omega
  rw [Hll.out] at ho
  have HLf := Lib.hid ho
  have HLs : Hid (∀ g, lf.ownBlock = some g → wJ.heap.size ≤ g) := fun g hg => (ho.lt g hg).1
  have HXJ : Hid (∀ g, (Value.slice Ax y1 cx).ownBlock = some g → g < wJ.heap.size) := fun g hg => (HXr.out.lt g hg).2
  replace HF := Lib.hid (HF.out.on hb)
  replace HWh2 := Lib.hid (own_below HWh2.out hb (Nat.le_refl _))
  replace HXr := Lib.hid (own_below HXr.out hb (Nat.le_refl _))
  replace HYr := Lib.hid (own_below HYr.out hb (Nat.le_refl _))
  clear ho hb
  obtain ⟨Al, cl, hel, _, _, _⟩ := own_slice HLf.out
  subst hel
  have Hyr := Lib.hid (Rd.of_own HYr.out)
  have Hyl : Hid (((b ++ m).drop y1).take t = (b ++ m).drop y1) := List.take_of_length_le (by rw [List.length_drop, Hwl.out, Hy1.out]; have hLn := HLn.out; omega)
  have Hyl2 : Hid (((b ++ m).drop y1).length = t) := Lib.hid (by rw [List.length_drop, Hwl.out, Hy1.out]; have hLn := HLn.out; omega)
  rw [Hyl.out] at Hyr
  have hkk : k0 + k1 ≤ 300 := by omega
  have hmm1 := Hmm1.out
  have hyt : y1 + t ≤ 300 := by omega
  go_wp2_with (at_builtin; (refine wpList_append_rd_w _ (by rfl) _ _ 22 rfl 0 5 i0 (.int .u8 0) 1 1 Try.underlying22 hi0 hz0 hz1 hz2 rfl (by omega) (.slice Ax y1 cx) y1 (bvs ((b ++ m).take y1)) rfl (own_base HXr.out (Nat.zero_le _)) _ Ay t cy (bvs ((b ++ m).drop y1)) rfl (by rw [bvs_length, Hyl2.out]; omega) Hyr.out (bvs_one _) (by unfold maxLen; omega) (by omega) (Nat.zero_le _) ?_); intro v4 wL hown4 hb4 hg4 hv4; have HAp := Lib.hid hown4; have HgL := Lib.hid hg4; clear hown4 hb4 hg4 hv4)
  have hcL : Chg (fun i => (Value.slice Ax y1 cx).ownBlock = some i) wK wL := Chg.of_grown HgL.out (fun g hg => hg)
  have HBL : Hid (Below w.heap.size w wL) := by
    refine Lib.hid ?_
    have h1 := HF.out.below.trans (hcL.below HF.out.below.size (fun i hi => Nat.le_trans HsF.out (HXs.out i hi)))
    exact HBw.out.trans (h1.mono HBw.out.size)
  replace HWh2 := Lib.hid (hcL.own HWh2.out (fun g hg e => by have h1 := HWF.out g hg; have h2 := HXs.out g e; omega))
  replace HLf := Lib.hid (hcL.own HLf.out (fun g hg e => by have h1 := HLs.out g hg; have h2 := HXJ.out g e; omega))
  have HXL : Hid (wL.cell? ⟨X, 2, none⟩ = some (.int .u8 (x2 : Int))) := ((HF.out.below.trans (hcL.below HF.out.below.size (fun i hi => Nat.le_trans HsF.out (HXs.out i hi)))).cell (p := ⟨X, 2, none⟩) HX.out).trans HX2.out
  clear hcL HgL HXr HYr Hyr HF
  have HAp2 : Hid (wL.ownsRow 0 5 1 v4 (y1 + t) (bvs (b ++ m))) := Lib.hid (by have h1 := HAp.out; rw [← bvs_append, List.take_append_drop] at h1; exact h1)
  clear HAp
  refine (fequal_t (Bs.of_own HAp2.out) (Bs.of_own HWh2.out)).mono ?_
  rintro e wM ⟨rfl, rfl⟩
  clear HAp2
  have cX2 : wL.cell? ⟨X, 2, none⟩ = some (.int .u8 (x2 : Int)) := HXL.out
  go_wp2_with fail
  clear cX2
  refine (fprefix (Bs.of_own HWh2.out) (Bs.of_own HLf.out) ?_ (by rw [Hwl.out]; omega)).mono ?_
  · rw [List.append_assoc]
    refine (List.prefix_append_right_inj b).2 ?_
    refine ⟨(m.drop p).drop mm, ?_⟩
    rw [List.append_assoc, List.take_append_drop, List.take_append_drop]
  rintro e wM ⟨rfl, rfl⟩
  go_wp2_with fail
  refine (fwakes _).mono ?_
  rintro e wN ⟨rfl, hb⟩
  have HBN := Lib.hid (HBL.out.trans (hb.mono HBL.out.size))
  clear hb
  go_wp2_with fail
  go_ret
  exact ⟨rfl, HBN.out⟩
theorem walk (v0 : Value) (z0 : List Int) (v1 : Value) (z1 : List Int) (z2 : List Int) (w : World) (w0 : Ints w w.heap.size .u8 v0 z0) (g0 : ∀ n ∈ z0, (Lit.int .u8 n).wf = true) (s0 : z0.length * 1 ≤ 140737488351232) (w1 : Ints w w.heap.size .u8 v1 z1) (g1 : ∀ n ∈ z1, (Lit.int .u8 n).wf = true) (s1 : z1.length * 1 ≤ 140737488351232) (l2 : z2.length = 3) (g2 : ∀ z ∈ z2, (Lit.int .u8 z).wf = true) :
    Calls Try.prog 4 #[v0, v1, .agg (z2.map (Value.int .u8)).toArray] w fun e w' => e = .returned (.bool true) ∧ Below w.heap.size w w' := by
  obtain ⟨a, b, c, rfl, wa, wb, wc⟩ := arr3 l2 g2
  have ba := bounds_u8 wa
  have bb := bounds_u8 wb
  have bc := bounds_u8 wc
  obtain ⟨x0, rfl⟩ : ∃ x : Nat, a = (x : Int) := ⟨a.toNat, by omega⟩
  obtain ⟨x1, rfl⟩ : ∃ x : Nat, b = (x : Int) := ⟨b.toNat, by omega⟩
  obtain ⟨x2, rfl⟩ : ∃ x : Nat, c = (x : Int) := ⟨c.toNat, by omega⟩
  exact walk0 v0 v1 _ _ x0 x1 x2 w (bs_of_ints w0 (fun z hz => bounds_u8 (g0 z hz))) (by rw [List.length_map]; omega) (bs_of_ints w1 (fun z hz => bounds_u8 (g1 z hz))) (by rw [List.length_map]; omega) (by omega) (by omega) (by omega)
end Go.Proofs.Ytmlbhconbabdhaa.fileAppends
