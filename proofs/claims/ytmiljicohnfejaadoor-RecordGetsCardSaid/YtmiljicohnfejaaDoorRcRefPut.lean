
/-
  Layer 8, the document's answer: the walks of lay and Put.
-/
import Derived.Test.YtmiljicohnfejaaDoorRcRef
set_option linter.unusedVariables false
set_option linter.unusedSimpArgs false
namespace Go.Proofs.YtmiljicohnfejaaDoor
open Go.RowKit

set_option maxRecDepth 100000 in
theorem lay_any (v : Value) (m : Nat) (xs : List UInt8) (n k base : Nat) (w : World) (h : w.ownsRow base 5 1 v m (bvs xs)) (hbase : base ≤ w.heap.size) (hn : n < 18446744073709551616) (hk : k ≤ 8) (hm : m ≤ 100000) :
    Calls Tryd.prog 35 #[v, .int .u64 (n : Int), .int .i64 (k : Int)] w fun e w' => ∃ v', e = .returned v' ∧ w'.ownsRow base 5 1 v' (m + k) (bvs (xs ++ Px.leL n k)) ∧ Below base w w' := by
  obtain ⟨i0, hi0, hz0, hz1, hz2⟩ := info_parts byte_info
  have H := Lib.hid h
  clear h
  go_enter Tryd.func35, Tryd.ntmps35
  go_wp2_with fail
  go_loopg [0, 1, 7] k (fun q b y i wr => ∃ (j z : Nat), j + q = k ∧ i = .int .i64 j ∧ y = .int .u64 (z : Int) ∧ z = n / 2 ^ (8 * j) ∧ wr.ownsRow base 5 1 b (m + j) (bvs (xs ++ Px.leL n j)) ∧ Below base w wr)
  case atStart => exact ⟨0, n, by omega, rfl, rfl, by simp, by simpa [Px.leL] using H.out, Below.refl _ _⟩
  case round =>
    obtain ⟨j, z, hj, rfl, rfl, hz, hown, hb⟩ := hrel
    by_cases hlt : j < k
    · obtain ⟨d, hd, hd'⟩ := Crc.dg_step n j
      have hnx := Crc.dg_next n j
      rw [← hz] at hd hnx
      have hz64 : z < 18446744073709551616 := by rw [hz]; exact Nat.lt_of_le_of_lt (Nat.div_le_self _ _) hn
      generalize hy2 : n / 2 ^ (8 * (j + 1)) = z2 at hnx
      have Hz2 := Lib.hid hy2
      have Hd := Lib.hid (show d = Px.dg n j from hd')
      have hsz := hb.size
      clear hy2 hd' hz
      go_wp2_with (at_builtin; (refine wpList_append_1 _ rfl _ _ 23 rfl base 5 i0 (.int .u8 0) 1 Tryd.underlying23 hi0 hz0 hz1 hz2 rfl u0 (m + j) (bvs (xs ++ Px.leL n j)) rfl (hown.alloc _) _ 1 (.int .u8 (d.toNat : Int)) rfl (cell_new1 _ _ _) rfl (by unfold maxLen; omega) (by omega) (by simp; omega) ?_); intro v2 w3 hown3 hbw3 _ _)
      go_roundg (gk - 1)
      case measure => omega
      case rel => exact ⟨j + 1, z2, by omega, by go_num, rfl, Hz2.out.symm, by rw [Px.leL_succ, ← List.append_assoc, bvs_append, ← Hd.out]; exact hown3, (hb.alloc (by omega) _).trans hbw3⟩
    · obtain rfl : j = k := by omega
      go_wp2_with fail
      go_ret
      exact ⟨_, rfl, hown, hb⟩
theorem lay_step {base m n k m' : Nat} {w' : World} {v : Value} {l : List (Nat × Nat)} (hm : m' = m + k)
    (h : w'.ownsRow base 5 1 v (m + k) (bvs (Rc.rowL l ++ Px.leL n k))) : w'.ownsRow base 5 1 v m' (bvs (Rc.rowL (l ++ [(n, k)]))) := by
  subst hm
  rw [Rc.rowL_snoc]
  exact h
theorem rput8_no (v : Value) (r : Rc.Rec) (B : Nat) (w : World) (h : RecV w B v r) (hB : B ≤ w.heap.size) (f : Rc.Fit r) (hm : Rc.mayB r = false) :
    Calls Tryd.prog 11 #[v] w fun e w' => e = .returned (.tuple #[.slice none 0 0, .int .i64 1]) ∧ Below w.heap.size w w' := by
  obtain ⟨A, c, A', c', rfl, h1, h2⟩ := h.form
  have b0 := bnew w (.cells #[.int .u64 r.seq, .int .i64 r.kind, .slice A r.key.length c, .slice A' r.val.length c', .int .u32 r.seg, .int .u32 r.off] 28)
  have hc := ref8may _ r _ _ (h.below b0 hB) (Nat.le_trans hB b0.size) f
  rw [hm] at hc
  have HC := Lib.hid hc
  clear hm hc
  go_enter Tryd.func11, Tryd.ntmps11
  go_wp2_with fail
  refine HC.out.mono ?_
  rintro e w1 ⟨rfl, b1⟩
  go_wp2_with fail
  go_ret2
  exact ⟨rfl, bstep b0 b1⟩
set_option maxRecDepth 100000 in
set_option maxHeartbeats 4000000 in
theorem rput8_ok (v : Value) (r : Rc.Rec) (B : Nat) (w : World) (h : RecV w B v r) (hB : B ≤ w.heap.size) (hm : Rc.mayB r = true) :
    Calls Tryd.prog 11 #[v] w fun e w' => ∃ v', e = .returned (.tuple #[v', .int .i64 0]) ∧ w'.ownsRow w.heap.size 5 1 v' (Rc.sizeN r) (bvs (Rc.runL r)) ∧ Below w.heap.size w w' := by
  obtain ⟨i0, hi0, hz0, hz1, hz2⟩ := info_parts byte_info
  have f := Rc.fit_may hm
  obtain ⟨A, c, A', c', rfl, h1, h2⟩ := h.form
  have b0 := bnew w (.cells #[.int .u64 r.seq, .int .i64 r.kind, .slice A r.key.length c, .slice A' r.val.length c', .int .u32 r.seg, .int .u32 r.off] 28)
  have hc := ref8may _ r _ _ (h.below b0 hB) (Nat.le_trans hB b0.size) f
  rw [hm] at hc
  have HC := Lib.hid hc
  have H1 := Lib.hid h1
  have H2 := Lib.hid h2
  obtain ⟨p1, p2, p3, p4, p5, p6, p7, p8, p9, p10, p11⟩ := Rc.may_bounds hm
  have HR := Lib.hid (show Rc.runL r = Cx.cover (Cx.cover (Rc.headL r) ++ r.key ++ r.val) from rfl)
  have HT := Lib.hid (show Rc.headL r = Rc.rowL (Rc.told r) from rfl)
  have HN := Lib.hid (show Rc.sizeN r = 25 + r.key.length + r.val.length from rfl)
  have HL := Lib.hid (Rc.cover_head_length r)
  have HL17 := Lib.hid (Rc.headL_length r)
  obtain ⟨seq, hseq⟩ := Int.eq_ofNat_of_zero_le (show 0 ≤ r.seq by omega)
  obtain ⟨kind, hkind⟩ := Int.eq_ofNat_of_zero_le (show 0 ≤ r.kind by omega)
  obtain ⟨seg, hseg⟩ := Int.eq_ofNat_of_zero_le (show 0 ≤ r.seg by omega)
  obtain ⟨off, hoff⟩ := Int.eq_ofNat_of_zero_le (show 0 ≤ r.off by omega)
  have HTo : Hid (Rc.headL r = Rc.rowL [(kind, 1), (r.key.length, 1), (r.val.length, 2), (seq, 6), (seg, 3), (off, 4)]) := Lib.hid (by
    unfold Rc.headL Rc.told
    rw [hseq, hkind, hseg, hoff]
    rfl)
  rw [hseq] at p1 p2
  rw [hkind] at p9 p10
  rw [hseg] at p5 p6
  rw [hoff] at p7 p8
  rw [hseq, hkind, hseg, hoff] at HC b0 ⊢
  clear h h1 h2 hm hc f hseq hkind hseg hoff HT
  have B0 := Lib.hid b0
  clear b0
  generalize hkl : r.key.length = kl at *
  generalize hvl : r.val.length = vl at *
  have HKL := Lib.hid hkl
  have HVL := Lib.hid hvl
  clear hkl hvl
  go_enter Tryd.func11, Tryd.ntmps11
  go_wp2_with fail
  refine HC.out.mono ?_
  rintro e w0 ⟨rfl, b0⟩
  have hsz0 := b0.size
  simp only [World.size_alloc] at hsz0
  have hB0 := Lib.hid (show Below (w.heap.size + 1) (w.alloc (.cells #[.int .u64 (seq : Int), .int .i64 (kind : Int), .slice A kl c, .slice A' vl c', .int .u32 (seg : Int), .int .u32 (off : Int)] 28)) w0 from b0.mono (by simp))
  obtain ⟨e0, e1, e2, e3, e4, e5⟩ := box6 hB0.out (by omega)
  have o0 : Hid (w0.ownsRow (w.heap.size + 1) 5 1 (.slice none 0 0) 0 (bvs (Rc.rowL []))) := Lib.hid (World.ownsRow_nil _ _ _ _)
  clear b0
  go_wp2_with fail
  refine (lay_any (.slice none 0 0) 0 (Rc.rowL []) kind 1 (w.heap.size + 1) w0 o0.out hsz0 (by omega) (by omega) (by omega)).mono ?_
  rintro e w1 ⟨v1, rfl, ow1, b1⟩
  clear e0 e1 e2 e3 e4 e5
  have o1 := Lib.hid (lay_step (m' := 1) (l := []) rfl ow1)
  have hB1 := Lib.hid (hB0.out.trans b1)
  have hsz1 := Nat.le_trans hsz0 b1.size
  obtain ⟨e0, e1, e2, e3, e4, e5⟩ := box6 hB1.out (by omega)
  clear ow1 b1 o0 hB0
  go_wp2_with fail
  refine (lay_any v1 1 (Rc.rowL [(kind, 1)]) kl 1 (w.heap.size + 1) w1 o1.out hsz1 (by omega) (by omega) (by omega)).mono ?_
  rintro e w2 ⟨v2, rfl, ow2, b2⟩
  clear e0 e1 e2 e3 e4 e5
  have o2 := Lib.hid (lay_step (m' := 2) (l := [(kind, 1)]) rfl ow2)
  have hB2 := Lib.hid (hB1.out.trans b2)
  have hsz2 := Nat.le_trans hsz1 b2.size
  obtain ⟨e0, e1, e2, e3, e4, e5⟩ := box6 hB2.out (by omega)
  clear ow2 b2 o1 hB1
  go_wp2_with fail
  refine (lay_any v2 2 (Rc.rowL [(kind, 1), (kl, 1)]) vl 2 (w.heap.size + 1) w2 o2.out hsz2 (by omega) (by omega) (by omega)).mono ?_
  rintro e w3 ⟨v3, rfl, ow3, b3⟩
  clear e0 e1 e2 e3 e4 e5
  have o3 := Lib.hid (lay_step (m' := 4) (l := [(kind, 1), (kl, 1)]) rfl ow3)
  have hB3 := Lib.hid (hB2.out.trans b3)
  have hsz3 := Nat.le_trans hsz2 b3.size
  obtain ⟨e0, e1, e2, e3, e4, e5⟩ := box6 hB3.out (by omega)
  clear ow3 b3 o2 hB2
  go_wp2_with fail
  refine (lay_any v3 4 (Rc.rowL [(kind, 1), (kl, 1), (vl, 2)]) seq 6 (w.heap.size + 1) w3 o3.out hsz3 (by omega) (by omega) (by omega)).mono ?_
  rintro e w4 ⟨v4, rfl, ow4, b4⟩
  clear e0 e1 e2 e3 e4 e5
  have o4 := Lib.hid (lay_step (m' := 10) (l := [(kind, 1), (kl, 1), (vl, 2)]) rfl ow4)
  have hB4 := Lib.hid (hB3.out.trans b4)
  have hsz4 := Nat.le_trans hsz3 b4.size
  obtain ⟨e0, e1, e2, e3, e4, e5⟩ := box6 hB4.out (by omega)
  clear ow4 b4 o3 hB3
  go_wp2_with fail
  refine (lay_any v4 10 (Rc.rowL [(kind, 1), (kl, 1), (vl, 2), (seq, 6)]) seg 3 (w.heap.size + 1) w4 o4.out hsz4 (by omega) (by omega) (by omega)).mono ?_
  rintro e w5 ⟨v5, rfl, ow5, b5⟩
  clear e0 e1 e2 e3 e4 e5
  have o5 := Lib.hid (lay_step (m' := 13) (l := [(kind, 1), (kl, 1), (vl, 2), (seq, 6)]) rfl ow5)
  have hB5 := Lib.hid (hB4.out.trans b5)
  have hsz5 := Nat.le_trans hsz4 b5.size
  obtain ⟨e0, e1, e2, e3, e4, e5⟩ := box6 hB5.out (by omega)
  clear ow5 b5 o4 hB4
  go_wp2_with fail
  refine (lay_any v5 13 (Rc.rowL [(kind, 1), (kl, 1), (vl, 2), (seq, 6), (seg, 3)]) off 4 (w.heap.size + 1) w5 o5.out hsz5 (by omega) (by omega) (by omega)).mono ?_
  rintro e w6 ⟨v6, rfl, ow6, b6⟩
  clear e0 e1 e2 e3 e4 e5
  have o6 := Lib.hid (lay_step (m' := 17) (l := [(kind, 1), (kl, 1), (vl, 2), (seq, 6), (seg, 3)]) rfl ow6)
  have hB6 := Lib.hid (hB5.out.trans b6)
  have hsz6 := Nat.le_trans hsz5 b6.size
  obtain ⟨e0, e1, e2, e3, e4, e5⟩ := box6 hB6.out (by omega)
  clear ow6 b6 o5 hB5
  have o6' : Hid (w6.ownsRow (w.heap.size + 1) 5 1 v6 17 (bvs (Rc.headL r))) := Lib.hid (by rw [HTo.out]; exact o6.out)
  go_wp2_with fail
  obtain ⟨A7, c7, rfl, _, _, _⟩ := own_slice o6'.out
  refine (Crc.rcover_any A7 (Rc.headL r) c7 w6 (Rd.of_own o6'.out) (by rw [HL17.out]; omega)).mono ?_
  rintro e w7 ⟨v7, rfl, ow7, b7⟩
  clear e0 e1 e2 e3 e4 e5
  rw [HL17.out] at ow7
  have o7 := own_base (base' := w.heap.size + 1) ow7 hsz6
  have hB7 := Lib.hid (hB6.out.trans (b7.mono hsz6))
  have hsz7 := Nat.le_trans hsz6 b7.size
  obtain ⟨e0, e1, e2, e3, e4, e5⟩ := box6 hB7.out (by omega)
  have hw7 := Lib.hid (B0.out.trans (hB7.out.mono (Nat.le_succ _)))
  obtain ⟨A8, c8, e8, hkc, hrk⟩ := H1.out.below hw7.out hB
  obtain ⟨A9, c9, e9, hvc, hrv⟩ := H2.out.below hw7.out hB
  injection e8 with q1 q2 q3
  injection e9 with q4 q5 q6
  subst q1 q3 q4 q6
  clear q2 q5 ow7 b7 o6 o6' hB6
  have hl8 := HKL.out
  have hl9 := HVL.out
  go_wp2_with (first
    | (at_builtin; (refine wpList_append_rd _ rfl _ _ 23 rfl (w.heap.size + 1) 5 i0 (.int .u8 0) 1 1 Tryd.underlying23 hi0 hz0 hz1 hz2 rfl (by omega) v7 21 (bvs (Cx.cover (Rc.headL r))) rfl o7 B A kl c (bvs r.key) rfl (by rw [bvs_length, HKL.out, Nat.mul_one]) hrk (bvs_one _) (by unfold maxLen; omega) (by omega) hsz7 ?_); intro v10 w10 ow10 b10 hg10 _; obtain ⟨x0, x1, x2, x3, x4, x5⟩ := box6 (hB7.out.trans b10) (by omega); have hrv4 := hrv.below b10 (by omega))
    | (at_builtin; (refine wpList_append_rd _ rfl _ _ 23 rfl (w.heap.size + 1) 5 i0 (.int .u8 0) 1 1 Tryd.underlying23 hi0 hz0 hz1 hz2 rfl (by omega) v10 (21 + kl) _ rfl ow10 B A' vl c' (bvs r.val) rfl (by rw [bvs_length, HVL.out, Nat.mul_one]) hrv4 (bvs_one _) (by unfold maxLen; omega) (by omega) (by have := b10.size; omega) ?_); intro v11 w11 ow11 b11 hg11 _))
  rw [← bvs_append, ← bvs_append] at ow11
  have hb11 := hw7.out.trans ((b10.trans b11).mono (Nat.le_succ _))
  have hl : (Cx.cover (Rc.headL r) ++ r.key ++ r.val).length = 21 + kl + vl := by
    rw [List.length_append, List.length_append, Rc.cover_head_length, HKL.out, HVL.out]
  obtain ⟨A12, c12, rfl, _, _, _⟩ := own_slice ow11
  have hcov := Crc.rcover_any A12 (Cx.cover (Rc.headL r) ++ r.key ++ r.val) c12 w11 (Rd.of_own ow11) (by rw [hl]; omega)
  rw [hl] at hcov
  refine hcov.mono ?_
  rintro e w12 ⟨v12, rfl, ow12, b12⟩
  go_wp2_with fail
  go_ret2
  refine ⟨_, rfl, ?_, bstep hb11 b12⟩
  rw [HN.out, show 25 + kl + vl = 21 + kl + vl + 4 by omega]
  exact own_base ow12 hb11.size
end Go.Proofs.YtmiljicohnfejaaDoor
