
/-
  The walk of the law RecordTurned: it returns true, and writes nothing that was there.
-/
import Derived.Test.YtmiljicohnfejaaDoorRcBox
import Derived.OpenShut
set_option linter.unusedVariables false
set_option linter.unusedSimpArgs false
namespace Go.Proofs.YtmiljicohnfejaaDoor.recordTurned
open Go.RowKit
theorem u32_letter {a : Int} (h : (Lit.int .u32 a).wf = true) : ∃ v : BitVec 32, a = (v.toNat : Int) := by
  obtain ⟨p, q⟩ := bounds_u32 h
  obtain ⟨n, rfl⟩ := Int.eq_ofNat_of_zero_le p
  exact ⟨BitVec.ofNat 32 n, by rw [BitVec.toNat_ofNat, Nat.mod_eq_of_lt (by omega)]⟩
theorem or_one (b : BitVec 32) : ∃ c : BitVec 32, bits .or .u32 (b.toNat : Int) 1 = (c.toNat : Int) ∧ c.getLsbD 0 = true := by
  refine ⟨b ||| 1#32, ?_, by simp⟩
  rw [show (1 : Int) = (((1#32 : BitVec 32).toNat : Nat) : Int) by rfl, u32_or_nat _ _ b.isLt (by decide), BitVec.toNat_or]
theorem bit_j (b : BitVec 32) (j : Nat) : (bits .and .u32 ((b.toNat : Int) / 2 ^ j) 1 == 1) = b.getLsbD j := by
  have e : (b.toNat : Int) / 2 ^ j = ((b.toNat / 2 ^ j : Nat) : Int) := by simp
  have hlt : b.toNat / 2 ^ j < 4294967296 := Nat.lt_of_le_of_lt (Nat.div_le_self _ _) b.isLt
  rw [e, show (1 : Int) = ((1 : Nat) : Int) by rfl, u32_and_nat _ _ hlt (by omega), nat_mask1, BitVec.getLsbD, Nat.testBit_eq_decide_div_mod_eq]
  rw [Bool.eq_iff_iff]
  simp
  omega
theorem turn8 (x : UInt8) (q : Nat) (h : q < 8) : bits .xor .u8 (x.toNat : Int) (2 ^ q % 256) = ((x ^^^ UInt8.ofNat (2 ^ q)).toNat : Int) := by
  have e : (2 ^ q % 256 : Int) = ((UInt8.ofNat (2 ^ q)).toNat : Int) := by
    have : q = 0 ∨ q = 1 ∨ q = 2 ∨ q = 3 ∨ q = 4 ∨ q = 5 ∨ q = 6 ∨ q = 7 := by omega
    rcases this with rfl | rfl | rfl | rfl | rfl | rfl | rfl | rfl <;> rfl
  rw [e, u8_xor_nat _ _ (UInt8.toNat_lt x) (UInt8.toNat_lt _), UInt8.toNat_xor]
set_option maxRecDepth 100000 in
set_option maxHeartbeats 8000000 in
theorem walk (v0 : Value) (r0 : Rc.Rec) (a1 : Int) (a2 : Int) (v3 : Value) (z3 : List Int) (w : World) (w0 : RecV w w.heap.size v0 r0) (f0 : Rc.Fit r0) (w1 : (Lit.int .u32 a1).wf = true) (w2 : (Lit.int .u32 a2).wf = true) (w3 : Ints w w.heap.size .u8 v3 z3) (g3 : ∀ n ∈ z3, (Lit.int .u8 n).wf = true) (s3 : z3.length * 1 ≤ 140737488351232) (ht : RTab w) :
    Calls Tryd.prog 6 #[v0, .int .u32 a1, .int .u32 a2, v3] w fun e w' => e = .returned (.bool true) ∧ Below w.heap.size w w' := by
  obtain ⟨i0, hi0, hz0, hz1, hz2⟩ := info_parts byte_info
  have hbs := bs_of_ints w3 (fun z hz => bounds_u8 (g3 z hz))
  have hll : (z3.map fun z => UInt8.ofNat z.toNat).length ≤ 140737488351232 := by rw [List.length_map]; omega
  generalize z3.map (fun z => UInt8.ofNat z.toNat) = l at hbs hll
  clear w3 g3 s3
  obtain ⟨A1, c1, k1, A1', c1', rfl, m1, hk1, cut1, s1⟩ := cut_min v3 l w.heap.size 100 w hbs
  obtain ⟨P0, p0, P0', p0', rfl, hb0, hb0'⟩ := w0.form
  obtain ⟨u1, q1⟩ := bounds_u32 w1
  obtain ⟨b, rfl⟩ := u32_letter w2
  clear w1 w2
  have b1 := bnew w (.cells #[.int .u64 r0.seq, .int .i64 r0.kind, .slice P0 r0.key.length p0, .slice P0' r0.val.length p0', .int .u32 r0.seg, .int .u32 r0.off] 28)
  have x0 := box_new (w := w) hb0 hb0' (Nat.le_refl _)
  have hmade := made_b _ r0 w.heap.size (w.alloc (.cells #[.int .u64 r0.seq, .int .i64 r0.kind, .slice P0 r0.key.length p0, .slice P0' r0.val.length p0', .int .u32 r0.seg, .int .u32 r0.off] 28)) (w0.below b1 (Nat.le_refl _)) b1.size f0
  have hmm := Rc.made_may r0
  generalize Rc.made r0 = r at hmade hmm
  have X0 := Lib.hid x0
  have B1 := Lib.hid b1
  have HT := Lib.hid ht
  have S1 := Lib.hid s1
  have HBS := Lib.hid hbs
  have HM := Lib.hid hmm
  have HS := Lib.hid (Rc.may_size hmm)
  have HK1 : Hid (k1 = (l.take 100).length) := Lib.hid (bs_rd (s1 w w.heap.size hbs)).2
  clear w0 hb0 hb0' x0 b1 f0 ht s1 hbs hmm
  have e100 : ((100 : Nat) : Int) = 100 := rfl
  rw [e100] at m1
  generalize hn : l.length = n at *
  clear hn e100
  go_enter Tryd.func6, Tryd.ntmps6
  go_wp2_with fail
  refine hmade.mono ?_
  rintro e w3 ⟨v3, rfl, hr3, b3⟩
  obtain ⟨P3, p3, P3', p3', rfl, _, _⟩ := (hr3 w3 (Keeps.refl _ _ _)).form
  obtain ⟨y0, y1, y2, y3, hx0, _, _⟩ := X0.out.on b3
  obtain ⟨e0, e1, e2, e3, e4, e5⟩ := box6h hx0
  obtain ⟨f0, f1, f2, f3, f4, f5⟩ := box6hf hx0
  have hx4 := set6_at hx0 (.int .u64 r.seq) (.int .i64 r.kind) (.slice P3 r.key.length p3) (.slice P3' r.val.length p3') (.int .u32 r.seg) (.int .u32 r.off)
  have hsz3 := b3.size
  simp only [World.size_alloc] at hsz3
  have hb4 := set6_below (bstep B1.out b3) (Nat.le_refl _) (.int .u64 r.seq) (.int .i64 r.kind) (.slice P3 r.key.length p3) (.slice P3' r.val.length p3') (.int .u32 r.seg) (.int .u32 r.off)
  have hr4 := hr3 (set6 w3 w.heap.size (.int .u64 r.seq) (.int .i64 r.kind) (.slice P3 r.key.length p3) (.slice P3' r.val.length p3') (.int .u32 r.seg) (.int .u32 r.off)) (fun k _ hk => set6_other (by simp at hk; omega) _ _ _ _ _ _)
  have hs4 := set6_size (w := w3) (g := w.heap.size) (.int .u64 r.seq) (.int .i64 r.kind) (.slice P3 r.key.length p3) (.slice P3' r.val.length p3') (.int .u32 r.seg) (.int .u32 r.off)
  clear hx0 hr3
  go_wp2_with fail
  clear e0 e1 e2 e3 e4 e5 f0 f1 f2 f3 f4 f5
  change Calls _ _ _ (set6 w3 w.heap.size _ _ _ _ _ _) _
  generalize set6 w3 w.heap.size (.int .u64 r.seq) (.int .i64 r.kind) (.slice P3 r.key.length p3) (.slice P3' r.val.length p3') (.int .u32 r.seg) (.int .u32 r.off) = W4 at *
  rw [← hs4] at hr4
  refine (rput_ok _ r _ W4 hr4 (Nat.le_refl _) HM.out (HT.out.on hb4)).mono ?_
  rintro e w5 ⟨v5, rfl, hown5, b5⟩
  have hN := HS.out
  have hNl : Hid ((Rc.runL r).length = Rc.sizeN r) := Lib.hid (Rc.runL_length r)
  obtain ⟨g, cap, rfl, hge, hgl⟩ := hown5.form (by omega)
  have HG := Lib.hid (show ∀ (b : BitVec 32) (first k : Nat) (l : List UInt8), Rc.Turns (Rc.runL r) b first k l → k ≤ 32 → 0 < k → b.getLsbD 0 = true → ∀ m, Rc.getQ (l ++ m) = (Rc.none, if first < 168 then 0 else Rc.sizeN r, 23) from fun b first k l h1 h2 h3 h4 m => Rc.get_turned HM.out h1 h2 h3 h4 m)
  have HR0 := Lib.hid (fun b f => Rc.Turns.zero (Rc.runL r) b f)
  generalize Rc.sizeN r = N at *
  generalize Rc.runL r = R at *
  have hw4 := hb4.size
  have HB4 := Lib.hid hb4
  have Hown := Lib.hid hown5
  have HB5 := Lib.hid b5
  clear hx4 hr4 hown5 hs4 hb4 b3 b5 hmade
  obtain ⟨b', hb', hb0⟩ := or_one b
  have Hb0 := Lib.hid hb0
  clear hb0
  have hf0 : 0 ≤ a1 % (8 * (N : Int)) := Int.emod_nonneg _ (by omega)
  have hf1 : a1 % (8 * (N : Int)) < 8 * (N : Int) := Int.emod_lt_of_pos _ (by omega)
  obtain ⟨f, hf⟩ := Int.eq_ofNat_of_zero_le hf0
  rw [hf] at hf0 hf1
  have hf2 : f < 8 * N := by omega
  clear hf0 hf1
  have h8 : (8 : Int) * (N : Int) ≠ 0 := by omega
  go_wp2_with fail
  rw [hf]
  clear hf h8 hb'
  go_loopg [12] 32 (fun k i wr => ∃ (j : Nat) (lj : List UInt8), j + k = 32 ∧ j ≤ 8 * N - f ∧ i = .int .i64 j ∧ wr.ownsRow W4.heap.size 5 1 (.slice (some ⟨g, 0, none⟩) N cap) N (bvs lj) ∧ Rc.Turns R b' f j lj ∧ Below W4.heap.size W4 wr)
  case atStart => exact ⟨0, R, by omega, by omega, rfl, Hown.out, HR0.out b' f, HB5.out⟩
  case round =>
    obtain ⟨j, lj, hj, hjf, rfl, hown, htu, hb⟩ := hrel
    have Htu := Lib.hid htu
    clear htu
    have hlj : lj.length = N := by rw [Htu.out.1.1, hNl.out]
    have Hlj := Lib.hid hlj
    clear hlj
    by_cases hgo : j < 32 ∧ f + j < 8 * N
    · obtain ⟨hj32, hfj⟩ := hgo
      have t1 : (j : Int) < 32 := by omega
      have t2 : (f : Int) + (j : Int) < 8 * (N : Int) := by omega
      have hbit := bit_j b' j
      have Hown1 := Lib.hid hown
      rcases hbb : b'.getLsbD j with _ | _
      · rw [hbb] at hbit
        have Hbb := Lib.hid hbb
        clear hbb
        go_wp2_with fail
        go_roundg (gk - 1)
        case measure => omega
        case rel => exact ⟨j + 1, lj, by omega, by omega, by go_num, Hown1.out, Htu.out.same hj32 Hbb.out, hb⟩
      · rw [hbb] at hbit
        have Hbb := Lib.hid hbb
        clear hbb
        obtain ⟨p, hp⟩ : ∃ p : Nat, ((f : Int) + (j : Int)) / 8 = (p : Int) := ⟨(f + j) / 8, by omega⟩
        obtain ⟨q, hq⟩ : ∃ q : Nat, ((f : Int) + (j : Int)) % 8 = (q : Int) := ⟨(f + j) % 8, by omega⟩
        have hpq : f + j = 8 * p + q := by omega
        have hq8 : q < 8 := by omega
        have hpn : p < N := by omega
        have hcell := Hown1.out.cellAt p (by omega)
        have hfr := Hown1.out.frozenAt p
        obtain ⟨x, hx⟩ : ∃ x, lj[p]? = some x := ⟨lj[p]'(by rw [Hlj.out]; exact hpn), List.getElem?_eq_getElem _⟩
        rw [show (bvs lj)[p]? = some (bv x) by simp [bvs, hx]] at hcell
        unfold bv at hcell
        have Hx := Lib.hid hx
        have Hpq := Lib.hid hpq
        clear hx hpq hown
        go_wp2_with fail
        go_region
        go_wp2_with fail
        go_roundg (gk - 1)
        case measure => omega
        case rel =>
          obtain ⟨hst, _⟩ := Hown1.out.stored p (bv (x ^^^ UInt8.ofNat (2 ^ q)))
          rw [← bvs_set] at hst
          unfold bv at hst
          rw [← turn8 x q hq8] at hst
          exact ⟨j + 1, lj.set p (x ^^^ UInt8.ofNat (2 ^ q)), by omega, by omega, by go_num, hst.drew, Htu.out.bit hj32 Hbb.out Hx.out hq8 Hpq.out, (hb.setCell hge _).drew⟩
    · have hj0 : 0 < j := by omega
      have hgt := HG.out _ _ _ _ Htu.out (by omega) hj0 Hb0.out (l.take 100)
      have HQ0 := Lib.hid hgt
      have HBR := Lib.hid hb
      have hsz := hb.size
      have HO := Lib.hid hown
      have RB := Lib.hid (bs_rd (S1.out wr w.heap.size (HBS.out.below (HB4.out.trans (hb.mono hw4)) (Nat.le_refl _)))).1
      clear hgt hb hown
      have hpass : (decide ((j : Int) < 32) = false) ∨ (decide ((j : Int) < 32) = true ∧ decide ((f : Int) + (j : Int) < 8 * (N : Int)) = false) := by
        by_cases h32 : j < 32
        · exact .inr ⟨by simp; omega, by simp; omega⟩
        · exact .inl (by simp; omega)
      rcases Nat.lt_or_ge f 168 with hf168 | hf168
      · have HQ := Lib.hid (HQ0.out.trans (by rw [if_pos hf168]))
        rcases hpass with t1 | ⟨t1, t2⟩
        all_goals
          go_wp2_with (at_builtin; (refine wpList_append_rd _ rfl _ _ 23 rfl W4.heap.size 5 i0 (.int .u8 0) 1 1 Tryd.underlying23 hi0 hz0 hz1 hz2 rfl (by omega) (.slice (some ⟨g, 0, none⟩) N cap) N (bvs lj) rfl HO.out w.heap.size A1' k1 c1' (bvs (l.take 100)) rfl (by rw [bvs_length, Nat.mul_one]; exact HK1.out.symm) RB.out (bvs_one _) (by unfold maxLen; omega) (by omega) hsz ?_); intro v6 w6 hown6 b6 hg6 ow6)
          rw [← bvs_append] at hown6
          have hb6 := HBR.out.trans b6
          have hb6' := HB4.out.trans (hb6.mono hw4)
          refine (rget_q _ _ w6.heap.size w6 (Bs.of_own hown6) (Nat.le_refl _) (by rw [List.length_append, Hlj.out, ← HK1.out]; omega) (HT.out.on hb6') _ _ _ HQ.out).mono ?_
          rintro e w10 ⟨rv, rfl, nr, b10⟩
          obtain ⟨C3, d3, C4, d4, rfl, qb1, qb2⟩ := nr.rec.form
          have b11 := bnew w10 (.cells #[.int .u64 Rc.none.seq, .int .i64 Rc.none.kind, .slice C3 Rc.none.key.length d3, .slice C4 Rc.none.val.length d4, .int .u32 Rc.none.seg, .int .u32 Rc.none.off] 28)
          have hrn : RecV (w10.alloc (.cells #[.int .u64 Rc.none.seq, .int .i64 Rc.none.kind, .slice C3 Rc.none.key.length d3, .slice C4 Rc.none.val.length d4, .int .u32 Rc.none.seg, .int .u32 Rc.none.off] 28)) _ _ Rc.none := (nr.rec).on b11
          have hc := rsame_b _ _ _ _ _ _ hrn (RecV.none_) (Nat.le_refl _)
          rw [Rc.sameB_self] at hc
          have HC := Lib.hid hc
          have HB11 := Lib.hid (bstep (bstep hb6' b10) b11)
          clear b10 b11 hrn hc nr qb1 qb2 hb6 hb6' b6 hown6 hg6 ow6
          go_wp2_with fail
          refine HC.out.mono ?_
          rintro e w12 ⟨rfl, b12⟩
          have HB12 := Lib.hid (bstep HB11.out b12)
          go_wp2_with fail
          refine (knows_r _ (HT.out.on HB12.out)).mono ?_
          rintro e w17 ⟨rfl, b17⟩
          go_wp2_with fail
          go_ret
          exact ⟨rfl, bstep HB12.out b17⟩
      · have HQ := Lib.hid (HQ0.out.trans (by rw [if_neg (by omega)]))
        rcases hpass with t1 | ⟨t1, t2⟩
        all_goals
          go_wp2_with (at_builtin; (refine wpList_append_rd _ rfl _ _ 23 rfl W4.heap.size 5 i0 (.int .u8 0) 1 1 Tryd.underlying23 hi0 hz0 hz1 hz2 rfl (by omega) (.slice (some ⟨g, 0, none⟩) N cap) N (bvs lj) rfl HO.out w.heap.size A1' k1 c1' (bvs (l.take 100)) rfl (by rw [bvs_length, Nat.mul_one]; exact HK1.out.symm) RB.out (bvs_one _) (by unfold maxLen; omega) (by omega) hsz ?_); intro v6 w6 hown6 b6 hg6 ow6)
          rw [← bvs_append] at hown6
          have hb6 := HBR.out.trans b6
          have hb6' := HB4.out.trans (hb6.mono hw4)
          refine (rget_q _ _ w6.heap.size w6 (Bs.of_own hown6) (Nat.le_refl _) (by rw [List.length_append, Hlj.out, ← HK1.out]; omega) (HT.out.on hb6') _ _ _ HQ.out).mono ?_
          rintro e w10 ⟨rv, rfl, nr, b10⟩
          obtain ⟨C3, d3, C4, d4, rfl, qb1, qb2⟩ := nr.rec.form
          have b11 := bnew w10 (.cells #[.int .u64 Rc.none.seq, .int .i64 Rc.none.kind, .slice C3 Rc.none.key.length d3, .slice C4 Rc.none.val.length d4, .int .u32 Rc.none.seg, .int .u32 Rc.none.off] 28)
          have hrn : RecV (w10.alloc (.cells #[.int .u64 Rc.none.seq, .int .i64 Rc.none.kind, .slice C3 Rc.none.key.length d3, .slice C4 Rc.none.val.length d4, .int .u32 Rc.none.seg, .int .u32 Rc.none.off] 28)) _ _ Rc.none := (nr.rec).on b11
          have hc := rsame_b _ _ _ _ _ _ hrn (RecV.none_) (Nat.le_refl _)
          rw [Rc.sameB_self] at hc
          have HC := Lib.hid hc
          have HB11 := Lib.hid (bstep (bstep hb6' b10) b11)
          clear b10 b11 hrn hc nr qb1 qb2 hb6 hb6' b6 hown6 hg6 ow6
          go_wp2_with fail
          refine HC.out.mono ?_
          rintro e w12 ⟨rfl, b12⟩
          have HB12 := Lib.hid (bstep HB11.out b12)
          go_wp2_with fail
          refine (knows_r _ (HT.out.on HB12.out)).mono ?_
          rintro e w17 ⟨rfl, b17⟩
          go_wp2_with fail
          go_ret
          exact ⟨rfl, bstep HB12.out b17⟩
end Go.Proofs.YtmiljicohnfejaaDoor.recordTurned
