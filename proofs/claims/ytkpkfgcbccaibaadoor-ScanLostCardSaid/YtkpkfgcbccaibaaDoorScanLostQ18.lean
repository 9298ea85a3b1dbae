/-
  ScanLost, part 18 of what the law's proof leans on: WScanLost.
-/
import Derived.BigQuiet
import Derived.Test.YtkpkfgcbccaibaaDoorScanLostQ17
import Derived.Test.YtkpkfgcbccaibaaDoorScanLostQ11
/- WScanLost -/

/-
  ScanLost, walked: bits turned within one run, or the head: what is found, what may be lost.
-/
set_option linter.unusedVariables false
set_option linter.unusedSimpArgs false
namespace Go.Proofs.YtkpkfgcbccaibaaDoor.scanLost
open Go Go.RowKit Go.Proofs.YtkpkfgcbccaibaaDoor Go.Proofs.YtkpkfgcbccaibaaDoor.Sc

theorem u32_letter {a : Int} (h : (Lit.int .u32 a).wf = true) : ∃ v : BitVec 32, a = (v.toNat : Int) := by
  obtain ⟨p, q⟩ := bounds_u32 h
  obtain ⟨n, rfl⟩ := Int.eq_ofNat_of_zero_le p
  exact ⟨BitVec.ofNat 32 n, by rw [BitVec.toNat_ofNat, Nat.mod_eq_of_lt (by omega)]⟩
theorem or_one (b : BitVec 32) : ∃ c : BitVec 32, bits .or .u32 (b.toNat : Int) 1 = (c.toNat : Int) ∧ c.getLsbD 0 = true := by
  refine ⟨b ||| 1#32, ?_, by simp⟩
  rw [show (1 : Int) = (((1#32 : BitVec 32).toNat : Nat) : Int) by rfl, u32_or_nat _ _ b.isLt (by decide), BitVec.toNat_or]
theorem bit_j (b : BitVec 32) (j : Nat) : (bits .and .u32 ((b.toNat : Int) / 2 ^ j) 1 == 1) = b.getLsbD j := by
  have e : (b.toNat : Int) / 2 ^ j = ((b.toNat / 2 ^ j : Nat) : Int) := by simp
  have hlt : b.toNat / 2 ^ j < 4294967296 := Nat.lt_of_le_of_lt (Nat.div_le_self _ _) b.isLt
  rw [e, show (1 : Int) = ((1 : Nat) : Int) by rfl, u32_and_nat _ _ hlt (by omega), nat_mask1, BitVec.getLsbD, Nat.testBit_eq_decide_div_mod_eq]
  rw [Bool.eq_iff_iff]
  simp
  omega
theorem turn8 (x : UInt8) (q : Nat) (h : q < 8) : bits .xor .u8 (x.toNat : Int) (2 ^ q % 256) = ((x ^^^ UInt8.ofNat (2 ^ q)).toNat : Int) := by
  have e : (2 ^ q % 256 : Int) = ((UInt8.ofNat (2 ^ q)).toNat : Int) := by
    have : q = 0 ∨ q = 1 ∨ q = 2 ∨ q = 3 ∨ q = 4 ∨ q = 5 ∨ q = 6 ∨ q = 7 := by omega
    rcases this with rfl | rfl | rfl | rfl | rfl | rfl | rfl | rfl <;> rfl
  rw [e, u8_xor_nat _ _ (UInt8.toNat_lt x) (UInt8.toNat_lt _), UInt8.toNat_xor]
theorem get_mid {A l C : List UInt8} {lo p : Nat} (hA : A.length = lo) (hp : p < l.length) : (A ++ (l ++ C))[lo + p]? = l[p]? := by
  rw [List.getElem?_append_right (by omega), List.getElem?_append_left (by omega)]
  congr 1
  omega
theorem set_mid {A l C : List UInt8} {lo p : Nat} (hA : A.length = lo) (hp : p < l.length) (c : UInt8) : (A ++ (l ++ C)).set (lo + p) c = A ++ (l.set p c ++ C) := by
  rw [List.set_append_right _ _ (by omega), List.set_append_left _ _ (by omega)]
  congr 3
  omega
theorem chg_of_below {M : Nat → Prop} {w w' : World} (h : Below w.heap.size w w') : Chg M w w' := ⟨h.os, h.tape, h.output, h.size, fun k hk _ => h.block k hk⟩
set_option maxRecDepth 100000 in
set_option maxHeartbeats 32000000 in
theorem walk (v0 : Value) (l0 : List Pl) (a1 : Int) (a2 : Int) (w : World) (w0 : Pls w w.heap.size v0 l0) (w1 : (Lit.int .u32 a1).wf = true) (w2 : (Lit.int .u32 a2).wf = true) (ht : RTab w) :
    Calls Tryd.prog 5 #[v0, .int .u32 a1, .int .u32 a2] w fun e w' => e = .returned (.bool true) ∧ Below w.heap.size w w' := by
  obtain ⟨ct, rfl, hct⟩ : ∃ n : Nat, a1 = (n : Int) ∧ n ≤ 4294967295 := ⟨a1.toNat, by simp only [Lit.wf, Bool.and_eq_true, decide_eq_true_eq] at w1; have h1 : IntKind.u32.min = 0 := rfl; have h2 : IntKind.u32.max = 4294967295 := rfl; omega⟩
  obtain ⟨bv0, rfl⟩ := u32_letter w2
  obtain ⟨b', hb', hb0⟩ := or_one bv0
  have HB0 := Lib.hid hb0
  clear hb0
  clear w1 w2
  have hab : ∀ a ∈ l0.take 20, a.above < 256 := by
    obtain ⟨A, c, _, _, _, hpl⟩ := w0
    intro a ha
    obtain ⟨i, hi⟩ := List.getElem?_of_mem (List.mem_of_mem_take ha)
    obtain ⟨_, _, _, _, _, _, _, h, _⟩ := hpl i a hi
    omega
  have hl20 : (l0.take 20).length ≤ 20 := by rw [List.length_take]; omega
  obtain ⟨rs, hrs⟩ : ∃ rs, recsP 0 0 (l0.take 20) = rs := ⟨_, rfl⟩
  have hup : Up 0 rs := by rw [← hrs]; exact recsP_up _ 0 0 0 hab (Int.le_refl _) (by omega)
  have hrl : rs.length = (l0.take 20).length := by rw [← hrs, recsP_len]
  have hrn : (runsL rs).length ≤ 5800 := by have := runsP_len (l0.take 20) 0 0; rw [hrs] at this; omega
  have hid7 : Hd.mayB ((1 : Nat) : Int) 7 = true := by decide
  have HLY := Lib.hid (slays w0)
  rw [hrs] at HLY
  have HT := Lib.hid ht
  have HRS := Lib.hid hrs
  have HUP := Lib.hid hup
  have HRN := Lib.hid hrn
  have HID := Lib.hid hid7
  obtain ⟨m, hm⟩ : ∃ m, m = (l0.take 20).length := ⟨_, rfl⟩
  rw [← hm] at HLY hrl hl20
  have HAB := Lib.hid hab
  have hm20 : m ≤ 20 := hl20
  have HM := Lib.hid hrl
  obtain ⟨n, hn⟩ : ∃ n, n = (layB 7 rs).length := ⟨_, rfl⟩
  have hn16 : n = 16 + (runsL rs).length := by rw [hn, layB_length]
  have hn6 : 16 ≤ n ∧ n ≤ 6000 := by omega
  have HN := Lib.hid (And.intro hn hn16)
  clear hab hrs hup hrn hid7 hm hrl hl20 hn hn16 ht w0
  go_enter Tryd.func5, Tryd.ntmps5
  go_wp2_with fail
  refine HLY.out.mono ?_
  rintro e w2 ⟨vb, va, n', rfl, hob, hn', hoa, hbw⟩
  rw [← HN.out.1] at hn'
  subst hn'
  obtain ⟨Ab, cb, rfl, hcb, hcbm, _⟩ := own_slice hob
  obtain ⟨Aa, ca, rfl, hca, _, _⟩ := own_slice hoa
  have HOB := Lib.hid hob
  have HOA := Lib.hid hoa
  have HBW := Lib.hid hbw
  clear hob hoa hbw
  obtain ⟨gb, rfl, hgb⟩ := own_at HOB.out (by omega)
  have hrise2 : Rise ⟨7, places 16 rs, [], n', 0⟩ := by have h1 := of_rise 7 (layB 7 rs); rwa [of_all HID.out HUP.out HRN.out HN.out.2] at h1
  obtain ⟨fi, hfi⟩ : ∃ x, x = firstOf (places 16 rs) := ⟨_, rfl⟩
  obtain ⟨la, hla⟩ : ∃ x, x = lastF (places 16 rs) := ⟨_, rfl⟩
  have hsv2 : (seal_ ⟨7, places 16 rs, [], n', 0⟩).val = .agg #[.int .u32 7, .int .u32 (n' : Int), .int .u32 (m : Int), .int .u64 (fi : Int), .int .u64 (la : Int)] := by
    rw [hfi, hla]
    unfold seal_ Sl.val
    simp only [places_length, List.length_nil, Nat.add_zero, HM.out]
    rfl
  have hpos2 : ∀ f ∈ (S.found ⟨7, places 16 rs, [], n', 0⟩), 0 ≤ f.r.seq := fun f hf => by have h1 := (hrise2.num f hf).1; omega
  have HOf := Lib.hid (sof (.slice (some ⟨gb, 0, none⟩) n' cb) (layB 7 rs) 7 w2 ⟨_, _, by rw [← HN.out.1], by rw [← HN.out.1]; exact hcb, Rd.of_own HOB.out⟩ (by rw [← HN.out.1]; omega) (by decide) (HT.out.on HBW.out))
  rw [of_all HID.out HUP.out HRN.out HN.out.2] at HOf
  have HSEAL := Lib.hid (show ∀ V v lo, ScanV 52 V lo v ⟨7, places 16 rs, [], n', 0⟩ → Calls Tryd.prog 10 #[v] V fun e w' => e = .returned (.agg #[.int .u32 7, .int .u32 (n' : Int), .int .u32 (m : Int), .int .u64 (fi : Int), .int .u64 (la : Int)]) ∧ Below V.heap.size V w' from fun V v lo hV => by
    rw [← hsv2]
    exact sseal12 hV (by show (7 : Nat) < _; decide) (by show n' < _; omega) (by show (places 16 rs).length + 0 ≤ _; rw [places_length, HM.out]; omega) hpos2)
  have hfit : (seal_ ⟨7, places 16 rs, [], n', 0⟩).Fits := seal_fits hrise2 (by show (7 : Nat) < _; decide) (by show n' < _; omega) (by show (places 16 rs).length + 0 < _; rw [places_length, HM.out]; omega)
  have HFIT := Lib.hid hfit
  have HSV := Lib.hid hsv2
  have HFL := Lib.hid (And.intro hfi hla)
  clear hrise2 hsv2 hpos2 hfit hfi hla
  go_wp2_with fail
  refine HOf.out.mono ?_
  rintro e w4 ⟨rv, rfl, hsv, nb⟩
  have hse := HSEAL.out w4 rv _ hsv
  obtain ⟨Af2, cf2, Ap2, cp2, q2, rfl, _⟩ := hsv.lit 7 n' 0 m 0 rfl (by rw [places_length, HM.out]) rfl rfl rfl
  have HSE := Lib.hid hse
  have HB4 := Lib.hid nb
  clear hse nb hsv
  go_wp2_with fail
  refine HSE.out.mono ?_
  rintro e w5 ⟨rfl, nb⟩
  obtain ⟨gs, hgs⟩ : ∃ g, w5.heap.size = g := ⟨_, rfl⟩
  obtain ⟨W6, hW6⟩ : ∃ V, w5.alloc (.cells #[.int .u32 7, .int .u32 (n' : Int), .int .u32 (m : Int), .int .u64 (fi : Int), .int .u64 (la : Int)] 26) = V := ⟨_, rfl⟩
  have hb6 : Below w5.heap.size w5 W6 := by rw [← hW6]; exact (Below.refl _ _).alloc (Nat.le_refl _) _
  have hk6 : W6.heap[gs]? = some (.cells #[.int .u32 7, .int .u32 (n' : Int), .int .u32 (m : Int), .int .u64 (fi : Int), .int .u64 (la : Int)] 26 (0, 0)) := by rw [← hW6, ← hgs]; exact heap_alloc_new w5 _
  have hbw2 : Below w2.heap.size w2 W6 := (HB4.out.trans (nb.mono HB4.out.size)).trans (hb6.mono (Nat.le_trans HB4.out.size nb.size))
  have HGS := Lib.hid (show w2.heap.size ≤ gs from by rw [← hgs]; exact Nat.le_trans HB4.out.size nb.size)
  have HK6 := Lib.hid hk6
  have HBW6 := Lib.hid (HBW.out.trans (hbw2.mono HBW.out.size))
  have HOB6 := Lib.hid (own_below HOB.out hbw2 (Nat.le_refl _))
  have HOA6 := Lib.hid (own_below HOA.out hbw2 (Nat.le_refl _))
  have HGB := Lib.hid (And.intro hgb (show gb < w2.heap.size from (HOB.out.lt gb rfl).2))
  have HW6 := Lib.hid hW6
  clear nb hb6 hk6 hbw2 hW6 hgb
  obtain ⟨f, hf⟩ : ∃ f, f = ct % (8 * n') := ⟨_, rfl⟩
  have hf2 : f < 8 * n' := by rw [hf]; exact Nat.mod_lt _ (by omega)
  have u2 : IntKind.i64.wrap (8 * (n' : Int)) = 8 * (n' : Int) := IntWalk.i64_in _ (by omega)
  have u3 : (ct : Int) % (8 * (n' : Int)) = (f : Int) := by rw [hf]; push_cast; rfl
  have h8 : (8 : Int) * (n' : Int) ≠ 0 := by omega
  obtain ⟨p, hp⟩ : ∃ p, p = f / 8 := ⟨_, rfl⟩
  have hp2 : p < n' := by omega
  have hp8 : (f : Int) / 8 = (p : Int) := by omega
  obtain ⟨T, hT, hTi⟩ := runs_at rs p
  have HTT := Lib.hid (And.intro hT hTi)
  have HP := Lib.hid hp
  clear hf hT hTi hp
  go_wp2_with fail
  simp only [u3]
  clear u3 u2 h8 hb'
  rw [HW6.out]
  have HB0W := Lib.hid (Below.refl W6.heap.size W6)
  go_loopw [11, 12, 13, 14] (fun lov hiv hdv ix wr => ∃ (j lo hi : Nat) (hd : Bool), lov = .int .i64 (lo : Int) ∧ hiv = .int .i64 (hi : Int) ∧ hdv = .bool hd ∧ ix = .int .i64 (j : Int) ∧ j ≤ m ∧ Hid ((min j T = 0 → lo = 0 ∧ hi = 16 ∧ hd = true) ∧ (0 < min j T → lo = endN rs (min j T - 1) ∧ hi = endN rs (min j T) ∧ hd = decide (p < endN rs (min j T - 1) + 21)) ∧ Below W6.heap.size W6 wr)) (fun _ _ _ ix _ => m - (RowKit.intOf ix).toNat)
  case atStart => exact ⟨0, 0, 16, true, rfl, rfl, rfl, rfl, Nat.zero_le _, Lib.hid ⟨fun _ => ⟨rfl, rfl, rfl⟩, fun h => by omega, HB0W.out⟩⟩
  case round =>
    as_aux_lemma =>
      obtain ⟨j, lo, hi, hd, rfl, rfl, rfl, rfl, hj, hh⟩ := hrel
      rename World => wr
      by_cases hjm : j < m
      · obtain ⟨r, hr⟩ : ∃ r, rs[j]? = some r := ⟨_, List.getElem?_eq_getElem (by rw [HM.out]; exact hjm)⟩
        have hpl := places_endN hr
        have hst := endN_step hr
        have hTj := HTT.out.2 j (by rw [HM.out]; exact hjm)
        have hen : endN rs (j + 1) ≤ 6000 := by have h1 := endN_mono rs (i := j + 1) (j := rs.length) (by rw [HM.out]; omega); rw [endN_all (Nat.le_refl _), ← HN.out.2] at h1; omega
        have hoa := own_below HOA6.out hh.out.2.2 (Nat.le_refl _)
        obtain ⟨ga, rfl, hga⟩ := own_at hoa (by omega)
        obtain ⟨p0, p1, _⟩ := rowL12_get hpl
        obtain ⟨o1, ho1⟩ : ∃ o, o = endN rs j := ⟨_, rfl⟩
        obtain ⟨o2, ho2⟩ : ∃ o, o = endN rs (j + 1) := ⟨_, rfl⟩
        have t0 := hoa.cells (g := ga) rfl (j * 3) (.int .i64 (o1 : Int)) (by rw [p0, ho1])
        have t1 := hoa.cells (g := ga) rfl (j * 3 + 1) (.int .i64 (o2 : Int)) (by rw [p1, ho2, hst])
        rw [addr_add1] at t0 t1
        rw [← ho2] at hen hst
        rw [← ho1] at hTj hst
        have ho16 : o1 ≤ 6000 := by omega
        have v1 : IntKind.i64.wrap ((o1 : Int) + 21) = (o1 : Int) + 21 := IntWalk.i64_in _ (by omega)
        have HO := Lib.hid (And.intro ho1 ho2)
        clear hr hpl hst p0 p1 hoa hga ho1 ho2
        by_cases hle : o1 ≤ p
        · have hjT : j < T := hTj.1 hle
          have hmin : min (j + 1) T = j + 1 := by omega
          have HMN := Lib.hid hmin
          have hs3 : (o1 : Int) ≤ (p : Int) := by omega
          clear hmin hTj hjT hle
          by_cases hpo : p < o1 + 21
          · have hs4 : (p : Int) < (o1 : Int) + 21 := by omega
            have HPO := Lib.hid hpo
            clear hpo
            go_wp2_with fail
            go_quiet (fail)
            go_wp2_with fail
            refine ⟨⟨j + 1, o1, o2, true, rfl, rfl, rfl, by push_cast; rfl, by omega, Lib.hid ⟨fun h => ?_, fun _ => ?_, below_drewN hh.out.2.2 _⟩⟩, by simp [RowKit.intOf]; omega⟩
            · rw [HMN.out] at h; omega
            · rw [HMN.out]
              exact ⟨HO.out.1, HO.out.2, (decide_eq_true (by show p < endN rs j + 21; rw [← HO.out.1]; exact HPO.out)).symm⟩
          · have hs4 : ¬ ((p : Int) < (o1 : Int) + 21) := by omega
            have HPO := Lib.hid hpo
            clear hpo
            go_wp2_with fail
            go_quiet (fail)
            go_wp2_with fail
            refine ⟨⟨j + 1, o1, o2, false, rfl, rfl, by rw [decide_eq_false (show ¬ ((p : Int) < (o1 : Int) + 21) by omega)], by push_cast; rfl, by omega, Lib.hid ⟨fun h => ?_, fun _ => ?_, below_drewN hh.out.2.2 _⟩⟩, by simp [RowKit.intOf]; omega⟩
            · rw [HMN.out] at h; omega
            · rw [HMN.out]
              exact ⟨HO.out.1, HO.out.2, (decide_eq_false (by show ¬ p < endN rs j + 21; rw [← HO.out.1]; exact HPO.out)).symm⟩
        · have hs3 : ¬ ((o1 : Int) ≤ (p : Int)) := by omega
          have hmin : min (j + 1) T = min j T := by have : ¬ j < T := fun h => hle (hTj.2 h); omega
          have HMN := Lib.hid hmin
          clear hmin hTj hle
          go_wp2_with fail
          refine ⟨⟨j + 1, lo, hi, hd, rfl, rfl, rfl, by push_cast; rfl, by omega, Lib.hid ⟨fun h => hh.out.1 (by rw [← HMN.out]; exact h), fun h => ?_, hh.out.2.2⟩⟩, by simp [RowKit.intOf]; omega⟩
          rw [HMN.out] at h ⊢
          exact hh.out.2.1 h
      · obtain rfl : m = j := by omega
        have hns : ¬ ((m : Int) < (m : Int)) := by omega
        have hmT : min m T = T := by have := HTT.out.1; have := HM.out; omega
        obtain ⟨AA, CC, P, s, idx, lo', hi', hd', hplan, hres, c0, c1⟩ := plan_any rs HUP.out HRN.out b' f T HB0.out (by rw [← HN.out.2]; omega) HTT.out.1 (by rw [← HP.out]; exact HTT.out.2)
        obtain ⟨rfl, rfl, rfl⟩ : lo = lo' ∧ hi = hi' ∧ hd = hd' := by
          have h1 := hh.out.1
          have h2 := hh.out.2.1
          rw [hmT] at h1 h2
          rcases Nat.eq_zero_or_pos T with h0 | h0
          · obtain ⟨e1, e2, e3⟩ := h1 h0
            obtain ⟨e4, e5, e6⟩ := c0 h0
            exact ⟨by rw [e1, e4], by rw [e2, e5], by rw [e3, e6]⟩
          · obtain ⟨e1, e2, e3⟩ := h2 h0
            obtain ⟨e4, e5, e6⟩ := c1 h0
            rw [← HP.out] at e6
            exact ⟨by rw [e1, e4], by rw [e2, e5], by rw [e3, e6]⟩
        have hb5 := hh.out.2.2
        have HPL := Lib.hid hplan
        have HRES := Lib.hid hres
        have hob := own_below HOB6.out hb5 (Nat.le_refl _)
        obtain ⟨M, hM, hP0⟩ := hplan.whole
        rw [hM] at hob
        have HOB7 := Lib.hid hob
        have HP0 := Lib.hid hP0
        have HC7 := Lib.hid (show Chg (fun i => i = gb) W6 wr from chg_of_below hb5)
        have hlh := hplan.lohi
        rw [← HN.out.2] at hlh
        clear hplan hres c0 c1 hmT hob hM hP0 hb5 hh hp8
        go_wp2_with fail
        go_loopg [15] 32 (fun gk iv wv => ∃ (j : Nat) (lj : List UInt8), j + gk = 32 ∧ j ≤ 8 * hi - f ∧ iv = .int .i64 (j : Int) ∧ wv.ownsRow w.heap.size 5 1 (.slice (some ⟨gb, 0, none⟩) n' cb) n' (bvs (AA ++ (lj ++ CC))) ∧ Hid (P j lj) ∧ Hid (Chg (fun i => i = gb) W6 wv))
        case atStart => exact ⟨0, M, by omega, by omega, rfl, HOB7.out, HP0, HC7⟩
        case round =>
          as_aux_lemma =>
            obtain ⟨j, lj, hj, hjf, rfl, hown, hPj, hch⟩ := hrel
            rename World => wv
            have hlj : lj.length = hi - lo := HPL.out.len j lj hPj.out
            have Hlj := Lib.hid hlj
            clear hlj
            by_cases hgo : j < 32 ∧ f + j < 8 * hi
            · obtain ⟨hj32, hfj⟩ := hgo
              have t1 : (j : Int) < 32 := by omega
              have t2 : (f : Int) + (j : Int) < 8 * (hi : Int) := by omega
              have hbit := bit_j b' j
              have Hown1 := Lib.hid hown
              rcases hbb : b'.getLsbD j with _ | _
              · rw [hbb] at hbit
                have Hbb := Lib.hid hbb
                clear hbb
                go_wp2_with fail
                go_roundg (gk - 1)
                case measure => omega
                case rel => exact ⟨j + 1, lj, by omega, by omega, by go_num, Hown1.out, Lib.hid (HPL.out.same j lj hPj.out hj32 Hbb.out), hch⟩
              · rw [hbb] at hbit
                have Hbb := Lib.hid hbb
                clear hbb
                obtain ⟨pp, hpp⟩ : ∃ pp : Nat, ((f : Int) + (j : Int)) / 8 = (pp : Int) := ⟨(f + j) / 8, by omega⟩
                obtain ⟨qq, hqq⟩ : ∃ qq : Nat, ((f : Int) + (j : Int)) % 8 = (qq : Int) := ⟨(f + j) % 8, by omega⟩
                have hpq : f + j = 8 * pp + qq := by omega
                have hq8 : qq < 8 := by omega
                obtain ⟨pm, hpm⟩ : ∃ pm, lo + pm = pp := ⟨pp - lo, by omega⟩
                have hpml : pm < hi - lo := by omega
                have hpn : pp < n' := by omega
                have hcell := Hown1.out.cellAt pp (by omega)
                have hfr := Hown1.out.frozenAt pp
                obtain ⟨x, hx⟩ : ∃ x, lj[pm]? = some x := ⟨lj[pm]'(by rw [Hlj.out]; exact hpml), List.getElem?_eq_getElem _⟩
                have hx2 : (AA ++ (lj ++ CC))[pp]? = some x := by rw [← hpm, get_mid HPL.out.alen (by rw [Hlj.out]; exact hpml)]; exact hx
                rw [show (bvs (AA ++ (lj ++ CC)))[pp]? = some (bv x) by simp only [bvs, List.getElem?_map, hx2]; rfl] at hcell
                unfold bv at hcell
                have Hx := Lib.hid hx
                have Hpq := Lib.hid (And.intro hpq (And.intro hpm hpml))
                clear hx hx2 hpq hown hpm hpml
                go_wp2_with fail
                go_region
                go_wp2_with fail
                go_roundg (gk - 1)
                case measure => omega
                case rel =>
                  obtain ⟨hst, _⟩ := Hown1.out.stored pp (bv (x ^^^ UInt8.ofNat (2 ^ qq)))
                  rw [← bvs_set, ← Hpq.out.2.1, set_mid HPL.out.alen (by rw [Hlj.out]; exact Hpq.out.2.2), Hpq.out.2.1] at hst
                  unfold bv at hst
                  rw [← turn8 x qq hq8] at hst
                  exact ⟨j + 1, lj.set pm (x ^^^ UInt8.ofNat (2 ^ qq)), by omega, by omega, by go_num, hst.drew, Lib.hid (HPL.out.bit j lj pm qq x hPj.out hj32 Hbb.out Hx.out hq8 (by have := Hpq.out.1; have := Hpq.out.2.1; omega)), Lib.hid (hch.out.setCell (p := ⟨gb, pp, none⟩) rfl _).drew⟩
            · have hj0 : 0 < j := by omega
              have hfin := HPL.out.fin j lj hPj.out (by omega) hj0
              have hpass : (¬ ((j : Int) < 32)) ∨ ((j : Int) < 32 ∧ ¬ ((f : Int) + (j : Int) < 8 * (hi : Int))) := by
                by_cases h32 : j < 32
                · exact .inr ⟨by omega, by omega⟩
                · exact .inl (by omega)
              have hlen : (AA ++ (lj ++ CC)).length = n' := by
                obtain ⟨M', hM', hPM⟩ := HPL.out.whole
                have h1 := congrArg List.length hM'
                have h2 := HPL.out.len 0 M' hPM
                rw [List.length_append, List.length_append, ← HN.out.1] at h1
                rw [List.length_append, List.length_append, Hlj.out]
                omega
              have hbv : Below w.heap.size w wv := HBW6.out.trans (hch.out.below HBW6.out.size (fun i e => by have := HGB.out.1; omega))
              have HBV := Lib.hid hbv
              have hrise : Rise s := by have h1 := of_rise 7 (AA ++ (lj ++ CC)); rwa [hfin] at h1
              have HRI := Lib.hid hrise
              have hof := sof (.slice (some ⟨gb, 0, none⟩) n' cb) (AA ++ (lj ++ CC)) 7 wv ⟨_, _, by rw [hlen], by rw [hlen]; exact hcb, Rd.of_own hown⟩ (by rw [hlen]; omega) (by decide) (HT.out.on hbv)
              rw [hfin] at hof
              have HOF := Lib.hid hof
              have hk9 := (hch.out.block gs (Array.getElem?_eq_some_iff.1 HK6.out).1 (fun e => by have := HGS.out; have := HGB.out.2; omega)).trans HK6.out
              have HK9 := Lib.hid hk9
              have HOA9 := Lib.hid (hch.out.own HOA6.out (fun g hv hN => by
                obtain ⟨arr, zz, e1⟩ := own_typed HOA6.out g hv
                obtain ⟨arr2, z2, e2⟩ := own_typed HOB6.out gb rfl
                obtain rfl : g = gb := hN
                rw [e1] at e2
                injection e2 with e2
                injection e2 with _ e2 _
                revert e2
                decide))
              clear hof hrise hfin hbv hlen hown hk9 hj hjf
              go_upto_region 12 with fail
              go_cut [91] from 82 to 90 (fun s91 wx => s91 = .bool false ∧ wx = wv)
              case first =>
                as_aux_lemma =>
                  rcases hpass with t1 | ⟨t1, t2⟩
                  · go_wp2_with fail
                    go_meet
                    case rel => exact ⟨rfl, rfl⟩
                  · go_wp2_with fail
                    go_meet
                    case rel => exact ⟨rfl, rfl⟩
              case rest =>
                rename World => wx
                obtain ⟨rfl, rfl⟩ := hcut
                clear hpass
                go_wp2_with fail
                refine HOF.out.mono ?_
                rintro e w8 ⟨rv, rfl, hsv, nb⟩
                obtain ⟨st, hst⟩ : ∃ x, x = s.stop := ⟨_, rfl⟩
                obtain ⟨wy, hwy⟩ : ∃ x, x = s.why := ⟨_, rfl⟩
                obtain ⟨nf, hnf⟩ : ∃ x, x = s.found.length := ⟨_, rfl⟩
                obtain ⟨np, hnp⟩ : ∃ x, x = s.passed.length := ⟨_, rfl⟩
                obtain ⟨Af, cf, Ap, cp, q, rfl, hq, hcf, hof, hfq⟩ := hsv.lit2 7 st wy nf np (by rw [HRES.out.id_]; rfl) hnf.symm hnp.symm (by rw [hst]) (by rw [hwy])
                have hfew := HRES.out.few
                rw [← hnf, ← hnp, HM.out] at hfew
                have hstop := HRES.out.stop
                rw [← hst] at hstop
                obtain ⟨g16, hg16⟩ : ∃ g, w8.heap.size = g := ⟨_, rfl⟩
                obtain ⟨W9, hW9⟩ : ∃ V, w8.alloc (.cells #[.int .u32 7, .slice Af nf cf, .slice Ap np cp, .int .i64 (st : Int), .int .i64 (wy : Int)] 31) = V := ⟨_, rfl⟩
                have hb9 : Below w8.heap.size w8 W9 := by rw [← hW9]; exact (Below.refl _ _).alloc (Nat.le_refl _) _
                have hk16 : W9.heap[g16]? = some (.cells #[.int .u32 7, .slice Af nf cf, .slice Ap np cp, .int .i64 (st : Int), .int .i64 (wy : Int)] 31 (0, 0)) := by rw [← hW9, ← hg16]; exact heap_alloc_new w8 _
                have hbx9 : Below wx.heap.size wx W9 := nb.trans (hb9.mono nb.size)
                have hgs9 := (hbx9.block gs (Array.getElem?_eq_some_iff.1 HK9.out).1).trans HK9.out
                have hlo := slost (x := seal_ ⟨7, places 16 rs, [], n', 0⟩) (hsv.on hb9) HRI.out (by rw [HRES.out.id_]; decide) (by rw [← hst]; omega) (by rw [← hnf, ← hnp]; omega) HFIT.out
                rw [lostL_eq _ HRI.out, HSV.out, seal_whole HN.out.2] at hlo
                have HLO := Lib.hid hlo
                have HQ := Lib.hid (And.intro hq (own_below hof hb9 (Nat.le_refl _)))
                have HQF := Lib.hid (show ∀ x ∈ q, FqOk W9 wx.heap.size x from fun x hx => (hfq x hx).on hb9)
                have HW9 := Lib.hid hW9
                have HB9 := Lib.hid (HBV.out.trans (hbx9.mono HBV.out.size))
                have HOA10 := Lib.hid (own_below HOA9.out hbx9 (Nat.le_refl _))
                have HK16 := Lib.hid hk16
                have HK10 := Lib.hid hgs9
                have HNF := Lib.hid (And.intro hst (And.intro hwy (And.intro hnf hnp)))
                obtain ⟨x0, x1, x2, x3, x4⟩ := rw5 hk16
                obtain ⟨y0, y1, y2, y3, y4⟩ := rw5 hgs9
                clear hst hwy hnf hnp hq hof hfq hb9 hk16 hbx9 hgs9 hlo hsv nb hW9
                go_upto_region 17 with fail
                rw [HW9.out]
                go_wp2_with fail
                refine HLO.out.mono ?_
                rintro e w10 ⟨rv, rfl, hlv, nb⟩
                obtain ⟨Al, nl, cl, rfl, hnl, hol⟩ := hlv
                obtain ⟨gm, hgm⟩ : ∃ g, w10.heap.size = g := ⟨_, rfl⟩
                obtain ⟨W11, hW11⟩ : ∃ V, w10.alloc (.map #[] 0) = V := ⟨_, rfl⟩
                have hb11 : Below w10.heap.size w10 W11 := by rw [← hW11]; exact (Below.refl _ _).alloc (Nat.le_refl _) _
                have hmap : MapU W11 gm 0 [] := by rw [← hW11, ← hgm]; exact MapU.new w10
                have hmk := hmkU w10
                rw [hgm, hW11] at hmk
                have hb911 : Below W9.heap.size W9 W11 := nb.trans (hb11.mono nb.size)
                have HMV := Lib.hid (show ∀ V, Chg (fun i => i = gm) W11 V → ∀ {g o : Nat} {v : Value}, W9.cell? ⟨g, o, none⟩ = some v → V.cell? ⟨g, o, none⟩ = some v from fun V hV g o v h => by
                  have hlt := fblock_of_cell12 h
                  have h1 : V.heap[g]? = W9.heap[g]? := (hV.block g (by have := hb911.size; omega) (fun e => by have := nb.size; omega)).trans (hb911.block g hlt)
                  exact (World.cell?_of_block (a := ⟨g, o, none⟩) h1).trans h)
                have HOL := Lib.hid (And.intro hnl (And.intro (own_below hol hb11 (Nat.le_refl _)) (show ∀ g, (Value.slice Al nl cl).ownBlock = some g → g < w10.heap.size from fun g hv => (hol.lt g hv).2)))
                have HMP := Lib.hid hmap
                have HB11 := Lib.hid (HB9.out.trans (hb911.mono HB9.out.size))
                have HGM := Lib.hid (And.intro hgm (And.intro hb911.size nb.size))
                have HSQ := Lib.hid (show ∀ (i : Nat) (r : Rc.Rec), rs[i]? = some r → ∃ sq : Nat, r.seq = (sq : Int) ∧ sq ≤ 6000 from fun i r hr => by
                  obtain ⟨s', a, hmk, hla, hsq⟩ := recsP_get (l := l0.take 20) (i := 0) (s := 0) (by rw [HRS.out]; exact hr)
                  have hi := (List.getElem?_eq_some_iff.1 hr).1
                  rw [HM.out] at hi
                  have h1 := seqN_le ((l0.take 20).take i) 0 (fun b hb => HAB.out b (List.mem_of_mem_take hb))
                  have h2 := HAB.out a (List.mem_of_getElem? hla)
                  have h3 : ((l0.take 20).take i).length ≤ i := by rw [List.length_take]; omega
                  exact ⟨s', by rw [hmk]; rfl, by omega⟩)
                obtain ⟨D0, hD0⟩ : ∃ D : List Nat, D = [] := ⟨_, rfl⟩
                clear hnl hol hb11 hmap hb911 nb hW11
                obtain ⟨x0, x1, x2, x3, x4⟩ : W11.cell? ⟨g16, 0, none⟩ = some (.int .u32 7) ∧ W11.cell? ⟨g16, 1, none⟩ = some (.slice Af nf cf) ∧ W11.cell? ⟨g16, 2, none⟩ = some (.slice Ap np cp) ∧ W11.cell? ⟨g16, 3, none⟩ = some (.int .i64 (st : Int)) ∧ W11.cell? ⟨g16, 4, none⟩ = some (.int .i64 (wy : Int)) := by
                  obtain ⟨x0, x1, x2, x3, x4⟩ := rw5 HK16.out
                  have mv := fun {g o : Nat} {v : Value} (h : W9.cell? ⟨g, o, none⟩ = some v) => HMV.out W11 (Chg.refl (M := fun i => i = gm) (w := W11)) h
                  exact ⟨mv x0, mv x1, mv x2, mv x3, mv x4⟩
                go_wp2_with fail
                clear x0 x2 x3 x4
                have hid7' : s.id = 7 := HRES.out.id_
                have HQ9 := Lib.hid (show W9.ownsRow _ 52 9 (.slice Af nf cf) nf (rowF 7 q) from by have h1 := HQ.out.2; rwa [hid7'] at h1)
                clear hid7'
                go_loopw [122] (fun ix wr => ∃ jj : Nat, ix = .int .i64 (jj : Int) ∧ jj ≤ nf ∧ Hid (Chg (fun i => i = gm) W11 wr ∧ ∃ D : List Nat, MapU wr gm jj D ∧ ∀ sq : Nat, sq ∈ D ↔ ∃ (q i : Nat) (r : Rc.Rec), q < jj ∧ idx[q]? = some i ∧ rs[i]? = some r ∧ r.seq = (sq : Int))) (fun ix _ => nf - (RowKit.intOf ix).toNat)
                case atStart => exact ⟨0, rfl, Nat.zero_le _, Lib.hid ⟨Chg.refl, [], HMP.out, fun sq => ⟨fun h => (by cases h), fun ⟨q, i, r, h, _⟩ => (by omega)⟩⟩⟩
                case round =>
                  as_aux_lemma =>
                    obtain ⟨jj, rfl, hjj, hh⟩ := hrel
                    rename World => wr
                    by_cases hjn : jj < nf
                    · obtain ⟨hch, D, hmap, hD⟩ := hh.out
                      obtain ⟨i0, hi0⟩ : ∃ i, idx[jj]? = some i := ⟨_, List.getElem?_eq_getElem (by rw [← HRES.out.found.1, ← HNF.out.2.2.1]; exact hjn)⟩
                      obtain ⟨r, hr, hfd⟩ := HRES.out.found.2 jj i0 hi0
                      have him := (List.getElem?_eq_some_iff.1 hr).1
                      rw [HM.out] at him
                      obtain ⟨sq, hsq, hsq6⟩ := HSQ.out i0 r hr
                      have hen : endN rs (i0 + 1) ≤ 6000 := by have h1 := endN_mono rs (i := i0 + 1) (j := rs.length) (by rw [HM.out]; omega); rw [endN_all (Nat.le_refl _), ← HN.out.2] at h1; omega
                      have hst := endN_step hr
                      obtain ⟨gf, Ak, nk, ck, Av, nv, cv, rfl, hgf, a0, a1, a2, a3, a4, a5, a6, a7, a8, _, _⟩ := found_cells HQ9.out HQF.out HQ.out.1 (by omega) hfd
                      dsimp only at a0 a1 a2 a3 a4 a5 a6 a7 a8
                      rw [hsq] at a3
                      obtain ⟨o1, ho1⟩ : ∃ o, o = endN rs i0 := ⟨_, rfl⟩
                      obtain ⟨z, hz⟩ : ∃ o, o = Rc.sizeN r := ⟨_, rfl⟩
                      obtain ⟨kd, hkd⟩ : ∃ o, o = r.kind := ⟨_, rfl⟩
                      obtain ⟨sg, hsg⟩ : ∃ o, o = r.seg := ⟨_, rfl⟩
                      obtain ⟨of_, hof_⟩ : ∃ o, o = r.off := ⟨_, rfl⟩
                      rw [← ho1] at a1 hst
                      rw [← hz] at a2 hst
                      rw [← hkd] at a4
                      rw [← hsg] at a7
                      rw [← hof_] at a8
                      have mv := fun {g o : Nat} {v : Value} (h : W9.cell? ⟨g, o, none⟩ = some v) => HMV.out wr hch h
                      have b0 := mv a0
                      have b1 := mv a1
                      have b2 := mv a2
                      have b3 := mv a3
                      have b4 := mv a4
                      have b5 := mv a5
                      have b6 := mv a6
                      have b7 := mv a7
                      have b8 := mv a8
                      obtain ⟨gl, hgl⟩ : ∃ g, wr.heap.size = g := ⟨_, rfl⟩
                      obtain ⟨W20, hW20⟩ : ∃ V, wr.alloc (.cells #[.int .u32 7, .int .u32 (o1 : Int), .int .i64 (z : Int), .int .u64 (sq : Int), .int .i64 kd, .slice Ak nk ck, .slice Av nv cv, .int .u32 sg, .int .u32 of_] 52) = V := ⟨_, rfl⟩
                      have hb20 : Below wr.heap.size wr W20 := by rw [← hW20]; exact (Below.refl _ _).alloc (Nat.le_refl _) _
                      have hk20 : W20.heap[gl]? = some (.cells #[.int .u32 7, .int .u32 (o1 : Int), .int .i64 (z : Int), .int .u64 (sq : Int), .int .i64 kd, .slice Ak nk ck, .slice Av nv cv, .int .u32 sg, .int .u32 of_] 52 (0, 0)) := by rw [← hW20, ← hgl]; exact heap_alloc_new wr _
                      obtain ⟨w21, hrun, hm21, ht21⟩ := (hmap.on hb20).store (by omega) (i := sq) (by omega)
                      have hc21 : Chg (fun i => i = gm) W11 w21 := (hch.trans (chg_of_below (M := fun i => i = gm) hb20) (fun i e => .inl e)).trans (chg_turned ht21) (fun i e => .inl e)
                      have hk21 := ((chg_turned ht21).block gl (Array.getElem?_eq_some_iff.1 hk20).1 (fun e => by have := hmap.lt; omega)).trans hk20
                      have hlit : W20.cell? ⟨gl, 3, none⟩ = some (.int .u64 (sq : Int)) := cell_of_row W20 gl 3 _ _ _ hk20
                      have HC21 := Lib.hid hc21
                      have HK21 := Lib.hid hk21
                      have HM21 := Lib.hid (show ∃ D : List Nat, MapU w21 gm (jj + 1) D ∧ ∀ sq : Nat, sq ∈ D ↔ ∃ (q i : Nat) (r : Rc.Rec), q < jj + 1 ∧ idx[q]? = some i ∧ rs[i]? = some r ∧ r.seq = (sq : Int) from ⟨_, hm21, fun sq' => by
                        rw [List.mem_cons, hD]
                        constructor
                        · rintro (rfl | ⟨q', i', r', e1, e2, e3, e4⟩)
                          · exact ⟨jj, i0, r, by omega, hi0, hr, hsq⟩
                          · exact ⟨q', i', r', by omega, e2, e3, e4⟩
                        · rintro ⟨q', i', r', e1, e2, e3, e4⟩
                          by_cases e : q' = jj
                          · subst e
                            rw [hi0] at e2
                            injection e2 with e2
                            subst e2
                            rw [hr] at e3
                            injection e3 with e3
                            subst e3
                            exact .inl (by omega)
                          · exact .inr ⟨q', i', r', by omega, e2, e3, e4⟩⟩)
                      have HR := Lib.hid (And.intro hr (And.intro hsq (And.intro ho1 (And.intro hz (And.intro hen hst)))))
                      have HW20 := Lib.hid hW20
                      have hB21 := Lib.hid (Below.refl w21.heap.size w21)
                      clear a0 a1 a2 a3 a4 a5 a6 a7 a8 mv hmap hD hfd hi0 hr hsq ho1 hz hkd hsg hof_ hst hen hch hb20 hk20 hm21 ht21 hc21 hk21 hW20 hgf
                      go_upto_region 22 with fail
                      rw [HW20.out]
                      go_wp2_with fail
                      go_loopw [132, 21] (fun ix iv wv => ∃ qn : Nat, ix = .int .i64 (qn : Int) ∧ iv = .bool (decide (i0 < qn)) ∧ qn ≤ m ∧ Hid (Below w21.heap.size w21 wv)) (fun ix _ _ => m - (RowKit.intOf ix).toNat)
                      case atStart => exact ⟨0, rfl, by simp, Nat.zero_le _, hB21⟩
                      case round =>
                        as_aux_lemma =>
                          obtain ⟨qn, rfl, rfl, hqn, hbq⟩ := hrel
                          rename World => wv
                          by_cases hqm : qn < m
                          · obtain ⟨r', hr'⟩ : ∃ r, rs[qn]? = some r := ⟨_, List.getElem?_eq_getElem (by rw [HM.out]; exact hqm)⟩
                            obtain ⟨sq', hsq', hsq6'⟩ := HSQ.out qn r' hr'
                            have hen' : endN rs (qn + 1) ≤ 6000 := by have h1 := endN_mono rs (i := qn + 1) (j := rs.length) (by rw [HM.out]; omega); rw [endN_all (Nat.le_refl _), ← HN.out.2] at h1; omega
                            have hst' := endN_step hr'
                            obtain ⟨ga, rfl, hga⟩ := own_at HOA10.out (by omega)
                            obtain ⟨p0, p1, p2⟩ := rowL12_get (places_endN hr')
                            have t0 := HOA10.out.cells (g := ga) rfl (qn * 3) _ p0
                            have t1 := HOA10.out.cells (g := ga) rfl (qn * 3 + 1) _ p1
                            have t2 := HOA10.out.cells (g := ga) rfl (qn * 3 + 2) _ p2
                            rw [addr_add1] at t0 t1 t2
                            dsimp only at t0 t1 t2
                            rw [hsq'] at t2
                            rw [← hst'] at t1
                            obtain ⟨p1', hp1'⟩ : ∃ o, o = endN rs qn := ⟨_, rfl⟩
                            obtain ⟨p2', hp2'⟩ : ∃ o, o = endN rs (qn + 1) := ⟨_, rfl⟩
                            rw [← hp1'] at t0 hst'
                            rw [← hp2'] at t1 hen' hst'
                            have mv := fun {g o : Nat} {v : Value} (h : W9.cell? ⟨g, o, none⟩ = some v) => HMV.out wv (HC21.out.trans (chg_of_below (M := fun i => i = gm) hbq.out) (fun i e => .inl e)) h
                            have c0 := mv t0
                            have c1 := mv t1
                            have c2 := mv t2
                            have hkv := (hbq.out.block gl (Array.getElem?_eq_some_iff.1 HK21.out).1).trans HK21.out
                            obtain ⟨gp, hgp⟩ : ∃ g, wv.heap.size = g := ⟨_, rfl⟩
                            obtain ⟨W23, hW23⟩ : ∃ V, wv.alloc (.cells #[.int .i64 (p1' : Int), .int .i64 (p2' : Int), .int .u64 (sq' : Int)] 61) = V := ⟨_, rfl⟩
                            have hb23 : Below wv.heap.size wv W23 := by rw [← hW23]; exact (Below.refl _ _).alloc (Nat.le_refl _) _
                            have hk23 : W23.heap[gp]? = some (.cells #[.int .i64 (p1' : Int), .int .i64 (p2' : Int), .int .u64 (sq' : Int)] 61 (0, 0)) := by rw [← hW23, ← hgp]; exact heap_alloc_new wv _
                            have hkf := (hb23.block gl (Array.getElem?_eq_some_iff.1 hkv).1).trans hkv
                            have f0 := cell_of_row W23 gl 0 _ _ _ hkf
                            have f1 := cell_of_row W23 gl 1 _ _ _ hkf
                            have f2 := cell_of_row W23 gl 2 _ _ _ hkf
                            have f3 := cell_of_row W23 gl 3 _ _ _ hkf
                            have k0 := cell_of_row W23 gp 0 _ _ _ hk23
                            have k1 := cell_of_row W23 gp 1 _ _ _ hk23
                            have k2 := cell_of_row W23 gp 2 _ _ _ hk23
                            have v1 : IntKind.u32.wrap (p1' : Int) = (p1' : Int) := IntWalk.u32_in _ (by omega)
                            have v2 : IntKind.i64.wrap ((p2' : Int) - (p1' : Int)) = ((p2' : Int) - (p1' : Int)) := IntWalk.i64_in _ (by omega)
                            have HB23 := Lib.hid (hbq.out.trans (hb23.mono hbq.out.size))
                            have HW23 := Lib.hid hW23
                            rcases Nat.lt_trichotomy i0 qn with hlt | heq | hgt
                            · have e1 : decide (i0 < qn) = true := decide_eq_true hlt
                              have e2 : decide (i0 < qn + 1) = true := decide_eq_true (by omega)
                              clear hr' hsq' hst' hga p0 p1 p2 t0 t1 t2 hp1' hp2' mv hkv hb23 hk23 hkf hW23 hlt
                              simp only [e1]
                              go_upto_region 27 with fail
                              rw [HW23.out]
                              go_wp2_with fail
                              exact ⟨⟨qn + 1, by push_cast; rfl, by rw [e2], by omega, HB23⟩, by simp [RowKit.intOf]; omega⟩
                            · subst heq
                              have e1 : decide (i0 < i0) = false := decide_eq_false (by omega)
                              have e2 : decide (i0 < i0 + 1) = true := decide_eq_true (by omega)
                              obtain ⟨hr, hsq, ho1, hz, hen, hst⟩ := HR.out
                              rw [hr] at hr'
                              injection hr' with hr'
                              subst hr'
                              obtain rfl : sq = sq' := by omega
                              obtain rfl : o1 = p1' := by rw [ho1, hp1']
                              have v3 : ((p2' : Int) - (o1 : Int)) = (z : Int) := by omega
                              clear hsq' hst' hga p0 p1 p2 t0 t1 t2 hp1' hp2' mv hkv hb23 hk23 hkf hW23 hr hsq ho1 hz hen hst
                              simp only [e1]
                              go_upto_region 27 with fail
                              rw [HW23.out]
                              go_wp2_with fail
                              exact ⟨⟨i0 + 1, by push_cast; rfl, by rw [e2], by omega, HB23⟩, by simp [RowKit.intOf]; omega⟩
                            · have e1 : decide (i0 < qn) = false := decide_eq_false (by omega)
                              have e2 : decide (i0 < qn + 1) = false := decide_eq_false (by omega)
                              have hne : ¬ ((sq' : Int) = (sq : Int)) := by
                                have h1 := seq_ne HUP.out hr' HR.out.1 (by omega)
                                rw [hsq', HR.out.2.1] at h1
                                exact h1
                              clear hr' hsq' hst' hga p0 p1 p2 t0 t1 t2 hp1' hp2' mv hkv hb23 hk23 hkf hW23 hgt
                              simp only [e1]
                              go_upto_region 27 with fail
                              rw [HW23.out]
                              go_wp2_with fail
                              exact ⟨⟨qn + 1, by push_cast; rfl, by rw [e2], by omega, HB23⟩, by simp [RowKit.intOf]; omega⟩
                          · obtain rfl : m = qn := by omega
                            have e1 : decide (i0 < m) = true := decide_eq_true him
                            simp only [e1]
                            have hns : ¬ ((m : Int) < (m : Int)) := by omega
                            have HCN := Lib.hid (HC21.out.trans (chg_of_below (M := fun i => i = gm) hbq.out) (fun i e => .inl e))
                            have HMN := Lib.hid (show ∃ D : List Nat, MapU wv gm (jj + 1) D ∧ ∀ sq : Nat, sq ∈ D ↔ ∃ (q i : Nat) (r : Rc.Rec), q < jj + 1 ∧ idx[q]? = some i ∧ rs[i]? = some r ∧ r.seq = (sq : Int) from by
                              obtain ⟨D, h1, h2⟩ := HM21.out
                              exact ⟨D, h1.on hbq.out, h2⟩)
                            go_wp2_with fail
                            exact ⟨⟨jj + 1, by push_cast; rfl, by omega, Lib.hid ⟨HCN.out, HMN.out⟩⟩, by simp [RowKit.intOf]; omega⟩
                    · obtain rfl : nf = jj := by omega
                      have hns : ¬ ((nf : Int) < (nf : Int)) := by omega
                      have hch := hh.out.1
                      have HCH := Lib.hid hch
                      have HMD := Lib.hid hh.out.2
                      have HLO2 := Lib.hid (hch.own HOL.out.2.1 (fun g hv hN => by have h1 := HOL.out.2.2 g hv; have h2 : g = gm := hN; have h3 := HGM.out.1; omega))
                      have hnl : nl ≤ 1 := by
                        have h1 := HOL.out.1
                        rcases HRES.out.lost with ⟨_, e⟩ | ⟨F, L, e, _⟩
                        · rw [e] at h1; have h1 : 0 = nl := h1; omega
                        · rw [e] at h1; have h1 : 1 = nl := h1; omega
                      have HBr := Lib.hid (Below.refl wr.heap.size wr)
                      clear hch hh hjn
                      go_wp2_with fail
                      go_loopw [170] (fun ix wv => ∃ a : Nat, ix = .int .i64 (a : Int) ∧ a ≤ nl ∧ Hid (Below wr.heap.size wr wv)) (fun ix _ => nl - (RowKit.intOf ix).toNat)
                      case atStart => exact ⟨0, rfl, Nat.zero_le _, HBr⟩
                      case round =>
                        as_aux_lemma =>
                          obtain ⟨a, rfl, ha, hbv⟩ := hrel
                          rename World => wv
                          by_cases han : a < nl
                          · obtain rfl : a = 0 := by omega
                            obtain rfl : nl = 1 := by omega
                            obtain ⟨F, L, e, l1, l2, l3, l4⟩ : ∃ F L : Nat, lost s (wholeSeal 7 rs) = [((F : Int), (L : Int))] ∧ firstOf (places 16 rs) ≤ F ∧ F ≤ L ∧ L ≤ lastF (places 16 rs) ∧ ∀ (i : Nat) (r : Rc.Rec), rs[i]? = some r → (((F : Int) ≤ r.seq ∧ r.seq ≤ (L : Int)) ↔ ¬ i ∈ idx) := by
                              rcases HRES.out.lost with ⟨_, e⟩ | h
                              · have h1 := HOL.out.1
                                rw [e] at h1
                                have h1 : 0 = 1 := h1
                                omega
                              · exact h
                            have hol := own_below HLO2.out hbv.out (Nat.le_refl _)
                            rw [e] at hol
                            obtain ⟨gL, rfl, hgL⟩ := own_at hol (by decide)
                            have c0 := hol.cells (g := gL) rfl 0 (.int .u64 (F : Int)) rfl
                            have c1 := hol.cells (g := gL) rfl 1 (.int .u64 (L : Int)) rfl
                            rw [addr_add1] at c0 c1
                            rw [← HFL.out.1] at l1
                            rw [← HFL.out.2] at l3
                            have hcv := HCH.out.trans (chg_of_below (M := fun i => i = gm) hbv.out) (fun i e => .inl e)
                            obtain ⟨y0, y1, y2, y3, y4⟩ := rw5 HK10.out
                            have y3 := HMV.out wv hcv y3
                            have y4 := HMV.out wv hcv y4
                            obtain ⟨gp, hgp⟩ : ∃ g, wv.heap.size = g := ⟨_, rfl⟩
                            obtain ⟨W25, hW25⟩ : ∃ V, wv.alloc (.cells #[.int .u64 (F : Int), .int .u64 (L : Int)] 45) = V := ⟨_, rfl⟩
                            have hb25 : Below wv.heap.size wv W25 := by rw [← hW25]; exact (Below.refl _ _).alloc (Nat.le_refl _) _
                            have hk25 : W25.heap[gp]? = some (.cells #[.int .u64 (F : Int), .int .u64 (L : Int)] 45 (0, 0)) := by rw [← hW25, ← hgp]; exact heap_alloc_new wv _
                            have k0 := cell_of_row W25 gp 0 _ _ _ hk25
                            have k1 := cell_of_row W25 gp 1 _ _ _ hk25
                            have z3 := (hb25.cell (p := ⟨gs, 3, none⟩) (fblock_of_cell12 y3)).trans y3
                            have z4 := (hb25.cell (p := ⟨gs, 4, none⟩) (fblock_of_cell12 y4)).trans y4
                            have hs1 : ¬ ((L : Int) < (F : Int)) := by omega
                            have hs2 : ¬ ((F : Int) < (fi : Int)) := by omega
                            have hs3 : ¬ ((la : Int) < (L : Int)) := by omega
                            have HB25 := Lib.hid (hbv.out.trans (hb25.mono hbv.out.size))
                            have HW25 := Lib.hid hW25
                            clear e l1 l2 l3 l4 hol hgL hcv y0 y1 y2 y3 y4 hb25 hk25 hW25
                            go_upto_region 35 with fail
                            rw [HW25.out]
                            go_quiet (fail)
                            go_wp2_with fail
                            exact ⟨⟨1, rfl, by omega, Lib.hid (below_drewN HB25.out _)⟩, by simp [RowKit.intOf]⟩
                          · obtain rfl : nl = a := by omega
                            have hns2 : ¬ ((nl : Int) < (nl : Int)) := by omega
                            go_wp2_with fail
                            have hbv0 := hbv
                            clear hbv
                            go_loopw [212] (fun ix wu => ∃ a : Nat, ix = .int .i64 (a : Int) ∧ a ≤ m ∧ Hid (Below wr.heap.size wr wu)) (fun ix _ => m - (RowKit.intOf ix).toNat)
                            case atStart => exact ⟨0, rfl, Nat.zero_le _, hbv0⟩
                            case round =>
                              as_aux_lemma =>
                                obtain ⟨a, rfl, ha, hbu⟩ := hrel
                                rename World => wu
                                by_cases ham : a < m
                                · obtain ⟨r, hr⟩ : ∃ r, rs[a]? = some r := ⟨_, List.getElem?_eq_getElem (by rw [HM.out]; exact ham)⟩
                                  obtain ⟨sq, hsq, hsq6⟩ := HSQ.out a r hr
                                  obtain ⟨F, L, e, l1, l2, l3, l4⟩ : ∃ F L : Nat, lost s (wholeSeal 7 rs) = [((F : Int), (L : Int))] ∧ firstOf (places 16 rs) ≤ F ∧ F ≤ L ∧ L ≤ lastF (places 16 rs) ∧ ∀ (i : Nat) (r : Rc.Rec), rs[i]? = some r → (((F : Int) ≤ r.seq ∧ r.seq ≤ (L : Int)) ↔ ¬ i ∈ idx) := by
                                    rcases HRES.out.lost with ⟨e, _⟩ | h
                                    · rw [e] at hr
                                      simp at hr
                                    · exact h
                                  have hnl1 : 1 = nl := by have h1 := HOL.out.1; rw [e] at h1; exact h1
                                  subst hnl1
                                  have hl4 := l4 a r hr
                                  rw [hsq] at hl4
                                  have hwant := HRES.out.want a (by rw [HM.out]; exact ham)
                                  obtain ⟨D, hmap, hD⟩ := HMD.out
                                  have hin : sq ∈ D ↔ a ∈ idx := by
                                    rw [hD]
                                    constructor
                                    · rintro ⟨q', i', r', e1, e2, e3, e4⟩
                                      have : i' = a := Classical.byContradiction fun hne => seq_ne HUP.out e3 hr hne (by rw [e4, hsq])
                                      subst this
                                      exact List.mem_of_getElem? e2
                                    · intro h
                                      obtain ⟨q', hq'⟩ := List.getElem?_of_mem h
                                      have hlt := (List.getElem?_eq_some_iff.1 hq').1
                                      exact ⟨q', a, r, by rw [HNF.out.2.2.1, HRES.out.found.1]; exact hlt, hq', hr, hsq⟩
                                  obtain ⟨ga, rfl, hga⟩ := own_at HOA10.out (by omega)
                                  obtain ⟨p0, p1, p2⟩ := rowL12_get (places_endN hr)
                                  have t0 := HOA10.out.cells (g := ga) rfl (a * 3) _ p0
                                  have t1 := HOA10.out.cells (g := ga) rfl (a * 3 + 1) _ p1
                                  have t2 := HOA10.out.cells (g := ga) rfl (a * 3 + 2) _ p2
                                  rw [addr_add1] at t0 t1 t2
                                  dsimp only at t0 t1 t2
                                  rw [hsq] at t2
                                  obtain ⟨o1, ho1⟩ : ∃ o, o = endN rs a := ⟨_, rfl⟩
                                  obtain ⟨o2, ho2⟩ : ∃ o, o = endN rs a + Rc.sizeN r := ⟨_, rfl⟩
                                  rw [← ho2] at t1
                                  rw [← ho1] at t0 hwant
                                  have hcu := HCH.out.trans (chg_of_below (M := fun i => i = gm) hbu.out) (fun i e => .inl e)
                                  have c0 := HMV.out wu hcu t0
                                  have c1 := HMV.out wu hcu t1
                                  have c2 := HMV.out wu hcu t2
                                  obtain ⟨gp, hgp⟩ : ∃ g, wu.heap.size = g := ⟨_, rfl⟩
                                  obtain ⟨W27, hW27⟩ : ∃ V, wu.alloc (.cells #[.int .i64 (o1 : Int), .int .i64 (o2 : Int), .int .u64 (sq : Int)] 61) = V := ⟨_, rfl⟩
                                  have hb27 : Below wu.heap.size wu W27 := by rw [← hW27]; exact (Below.refl _ _).alloc (Nat.le_refl _) _
                                  have hk27 : W27.heap[gp]? = some (.cells #[.int .i64 (o1 : Int), .int .i64 (o2 : Int), .int .u64 (sq : Int)] 61 (0, 0)) := by rw [← hW27, ← hgp]; exact heap_alloc_new wu _
                                  have HB27 := Lib.hid (hbu.out.trans (hb27.mono hbu.out.size))
                                  have HK27 := Lib.hid hk27
                                  have HW27 := Lib.hid hW27
                                  have HIN := Lib.hid (show (a ∈ idx ∧ sq ∈ D) ∨ (¬ a ∈ idx ∧ ¬ sq ∈ D) from by
                                    by_cases h : a ∈ idx
                                    · exact .inl ⟨h, hin.2 h⟩
                                    · exact .inr ⟨h, fun h2 => h (hin.1 h2)⟩)
                                  have HMAP := Lib.hid hmap
                                  have HWT := Lib.hid hwant
                                  have HL4 := Lib.hid hl4
                                  have HBb := Lib.hid (Below.refl W27.heap.size W27)
                                  have hol := HLO2.out
                                  rw [e] at hol
                                  obtain ⟨gL, rfl, hgL⟩ := own_at hol (by decide)
                                  have HOLL := Lib.hid hol
                                  clear hr e l1 l2 l3 l4 hl4 hwant hmap hD hin hga p0 p1 p2 t0 t1 t2 ho1 ho2 hcu hb27 hk27 hW27 hol hgL
                                  go_upto_region 41 with fail
                                  rw [HW27.out]
                                  go_wp2_with fail
                                  clear c0 c1 c2
                                  go_loopw [218, 28] (fun ix iv wq => ∃ b : Nat, ix = .int .i64 (b : Int) ∧ iv = .bool (decide (0 < b ∧ ¬ a ∈ idx)) ∧ b ≤ 1 ∧ Hid (Below W27.heap.size W27 wq)) (fun ix _ _ => 1 - (RowKit.intOf ix).toNat)
                                  case atStart => exact ⟨0, rfl, by simp, Nat.zero_le _, HBb⟩
                                  case round =>
                                    as_aux_lemma =>
                                      obtain ⟨b, rfl, rfl, hb, hbq⟩ := hrel
                                      rename World => wq
                                      by_cases hb1 : b < 1
                                      · obtain rfl : b = 0 := by omega
                                        have hol := own_below (own_below HOLL.out HB27.out (Nat.le_refl _)) hbq.out (Nat.le_refl _)
                                        have c0 := hol.cells (g := gL) rfl 0 (.int .u64 (F : Int)) rfl
                                        have c1 := hol.cells (g := gL) rfl 1 (.int .u64 (L : Int)) rfl
                                        rw [addr_add1] at c0 c1
                                        have hkq := (hbq.out.block gp (Array.getElem?_eq_some_iff.1 HK27.out).1).trans HK27.out
                                        obtain ⟨gr, hgr⟩ : ∃ g, wq.heap.size = g := ⟨_, rfl⟩
                                        obtain ⟨W30, hW30⟩ : ∃ V, wq.alloc (.cells #[.int .u64 (F : Int), .int .u64 (L : Int)] 45) = V := ⟨_, rfl⟩
                                        have hb30 : Below wq.heap.size wq W30 := by rw [← hW30]; exact (Below.refl _ _).alloc (Nat.le_refl _) _
                                        have hk30 : W30.heap[gr]? = some (.cells #[.int .u64 (F : Int), .int .u64 (L : Int)] 45 (0, 0)) := by rw [← hW30, ← hgr]; exact heap_alloc_new wq _
                                        have k0 := cell_of_row W30 gr 0 _ _ _ hk30
                                        have k1 := cell_of_row W30 gr 1 _ _ _ hk30
                                        have f2 := cell_of_row W30 gp 2 _ _ _ ((hb30.block gp (Array.getElem?_eq_some_iff.1 hkq).1).trans hkq)
                                        have HB30 := Lib.hid (hbq.out.trans (hb30.mono hbq.out.size))
                                        have HW30 := Lib.hid hW30
                                        have e0 : decide (0 < 0 ∧ ¬ a ∈ idx) = false := decide_eq_false (by omega)
                                        simp only [e0]
                                        have hcase : (((F : Int) ≤ (sq : Int)) ∧ ((sq : Int) ≤ (L : Int)) ∧ decide (0 < 1 ∧ ¬ a ∈ idx) = true) ∨ (¬ ((F : Int) ≤ (sq : Int)) ∧ decide (0 < 1 ∧ ¬ a ∈ idx) = false) ∨ (((F : Int) ≤ (sq : Int)) ∧ ¬ ((sq : Int) ≤ (L : Int)) ∧ decide (0 < 1 ∧ ¬ a ∈ idx) = false) := by
                                          by_cases h1 : (F : Int) ≤ (sq : Int)
                                          · by_cases h2 : (sq : Int) ≤ (L : Int)
                                            · exact .inl ⟨h1, h2, decide_eq_true ⟨by omega, HL4.out.1 ⟨h1, h2⟩⟩⟩
                                            · exact .inr (.inr ⟨h1, h2, decide_eq_false fun h => h2 (HL4.out.2 h.2).2⟩)
                                          · exact .inr (.inl ⟨h1, decide_eq_false fun h => h1 (HL4.out.2 h.2).1⟩)
                                        clear hol hkq hb30 hk30 hW30 e0
                                        go_upto_region 45 with fail
                                        rw [HW30.out]
                                        rcases hcase with ⟨h1, h2, e1⟩ | ⟨h1, e1⟩ | ⟨h1, h2, e1⟩
                                        · have HE1 := Lib.hid e1
                                          clear e1
                                          go_wp2_with fail
                                          exact ⟨⟨1, rfl, by rw [HE1.out], by omega, HB30⟩, by simp [RowKit.intOf]⟩
                                        · have HE1 := Lib.hid e1
                                          clear e1
                                          go_wp2_with fail
                                          exact ⟨⟨1, rfl, by rw [HE1.out], by omega, HB30⟩, by simp [RowKit.intOf]⟩
                                        · have HE1 := Lib.hid e1
                                          clear e1
                                          go_wp2_with fail
                                          exact ⟨⟨1, rfl, by rw [HE1.out], by omega, HB30⟩, by simp [RowKit.intOf]⟩
                                      · obtain rfl : b = 1 := by omega
                                        have hkq := (hbq.out.block gp (Array.getElem?_eq_some_iff.1 HK27.out).1).trans HK27.out
                                        have f0 := cell_of_row wq gp 0 _ _ _ hkq
                                        have f2 := cell_of_row wq gp 2 _ _ _ hkq
                                        have hbr := HB27.out.trans (hbq.out.mono HB27.out.size)
                                        have HBR := Lib.hid hbr
                                        have hlook := (HMAP.out.on hbr).look (i := sq) (by omega)
                                        have hns3 : ¬ ((1 : Int) < (1 : Int)) := by omega
                                        have hcase : (decide (0 < 1 ∧ ¬ a ∈ idx) = false ∧ sq ∈ D ∧ (16 : Int) ≤ (lo : Int) ∧ ¬ ((o1 : Int) = (lo : Int)) ∧ ((o1 : Int) < (lo : Int) ∨ (¬ ((o1 : Int) < (lo : Int)) ∧ hd = false))) ∨
                                            (decide (0 < 1 ∧ ¬ a ∈ idx) = true ∧ ¬ sq ∈ D ∧ (¬ ((16 : Int) ≤ (lo : Int)) ∨ ((16 : Int) ≤ (lo : Int) ∧ (o1 : Int) = (lo : Int)) ∨ ((16 : Int) ≤ (lo : Int) ∧ ¬ ((o1 : Int) = (lo : Int)) ∧ ¬ ((o1 : Int) < (lo : Int)) ∧ hd = true))) := by
                                          have hw := HWT.out
                                          rcases HIN.out with ⟨h1, h2⟩ | ⟨h1, h2⟩
                                          · obtain ⟨w1, w2, w3⟩ := hw.1 h1
                                            refine .inl ⟨decide_eq_false fun h => h.2 h1, h2, by omega, by omega, ?_⟩
                                            by_cases h3 : o1 < lo
                                            · exact .inl (by omega)
                                            · exact .inr ⟨by omega, w3.resolve_left h3⟩
                                          · refine .inr ⟨decide_eq_true ⟨by omega, h1⟩, h2, ?_⟩
                                            by_cases h3 : 16 ≤ lo
                                            · by_cases h4 : o1 = lo
                                              · exact .inr (.inl ⟨by omega, by omega⟩)
                                              · refine .inr (.inr ⟨by omega, by omega, ?_, ?_⟩)
                                                · exact fun h5 => h1 (hw.2 ⟨h3, h4, .inl (by omega)⟩)
                                                · cases hd
                                                  · exact absurd (hw.2 ⟨h3, h4, .inr rfl⟩) h1
                                                  · rfl
                                            · exact .inl (by omega)
                                        clear hkq hbr
                                        rcases hcase with ⟨e1, h2, h3, h4, h5⟩ | ⟨e1, h2, h5⟩
                                        · rw [if_pos h2] at hlook
                                          simp only [e1]
                                          have hbe : ((o1 : Int) == (lo : Int)) = false := by rw [beq_eq_false_iff_ne]; exact h4
                                          clear e1 h2 h4
                                          rcases h5 with h5 | ⟨h5, rfl⟩
                                          · go_wp2_with fail
                                            exact ⟨⟨a + 1, by push_cast; rfl, by omega, HBR⟩, by simp [RowKit.intOf]; omega⟩
                                          · go_wp2_with fail
                                            exact ⟨⟨a + 1, by push_cast; rfl, by omega, HBR⟩, by simp [RowKit.intOf]; omega⟩
                                        · rw [if_neg h2] at hlook
                                          simp only [e1]
                                          clear e1 h2
                                          rcases h5 with h5 | ⟨h5, h6⟩ | ⟨h5, h6, h7, rfl⟩
                                          · go_wp2_with fail
                                            exact ⟨⟨a + 1, by push_cast; rfl, by omega, HBR⟩, by simp [RowKit.intOf]; omega⟩
                                          · have hbe : ((o1 : Int) == (lo : Int)) = true := by rw [beq_iff_eq]; exact h6
                                            clear h6
                                            go_wp2_with fail
                                            exact ⟨⟨a + 1, by push_cast; rfl, by omega, HBR⟩, by simp [RowKit.intOf]; omega⟩
                                          · have hbe : ((o1 : Int) == (lo : Int)) = false := by rw [beq_eq_false_iff_ne]; exact h6
                                            clear h6
                                            go_wp2_with fail
                                            exact ⟨⟨a + 1, by push_cast; rfl, by omega, HBR⟩, by simp [RowKit.intOf]; omega⟩
                                · obtain rfl : m = a := by omega
                                  have hns2 : ¬ ((m : Int) < (m : Int)) := by omega
                                  have hcu := HCH.out.trans (chg_of_below (M := fun i => i = gm) hbu.out) (fun i e => .inl e)
                                  have hbw := HB11.out.trans (hcu.below HB11.out.size (fun i e => by have h1 := HGM.out; have h2 := HB9.out.size; omega))
                                  have HBF := Lib.hid hbw
                                  have HKW := Lib.hid (knows12 wu (HT.out.on hbw))
                                  clear hcu hbw
                                  go_wp2_with fail
                                  refine HKW.out.mono ?_
                                  rintro e wf ⟨rfl, nb⟩
                                  go_wp2_with fail
                                  go_ret
                                  exact ⟨rfl, HBF.out.trans (nb.mono HBF.out.size)⟩
end Go.Proofs.YtkpkfgcbccaibaaDoor.scanLost

