
/-
  The walk of the law RecordRows: it returns true, and writes nothing that was there.
-/
import Derived.Test.YtmiljicohnfejaaDoorRcRows
import Derived.Test.YtmiljicohnfejaaDoorRcRefSame
import Derived.OpenShut
set_option linter.unusedVariables false
set_option linter.unusedSimpArgs false
namespace Go.Proofs.YtmiljicohnfejaaDoor.recordRows
open Go.RowKit

set_option maxRecDepth 100000 in
set_option maxHeartbeats 16000000 in
theorem walk (v0 : Value) (l0 : List Rc.Rec) (a1 : Int) (w : World) (w0 : Recs w w.heap.size v0 l0) (w1 : (Lit.int .u16 a1).wf = true) (ht : RTab w) :
    Calls Tryd.prog 7 #[v0, .int .u16 a1] w fun e w' => e = .returned (.bool true) ∧ Below w.heap.size w w' := by
  obtain ⟨i0, hi0, hz0, hz1, hz2⟩ := info_parts byte_info
  obtain ⟨j0, hj0, hy0, hy1, hy2⟩ := info_parts int_info
  obtain ⟨A, c, rfl, hc, hcm, hrec⟩ := w0
  have hcm2 : c ≤ 9223372036854775807 := hcm
  have hrec' : Hid (∀ j, j < l0.length → ∃ b o r, A = some ⟨b, o, none⟩ ∧ b < w.heap.size ∧ Rc.nth l0 j = Rc.made r ∧ RecAt w w.heap.size b (o + j * 6) r) := Lib.hid (fun j hj => by
    obtain ⟨b, o, h1, h2, h3⟩ := hrec j _ (List.getElem?_eq_getElem hj)
    exact ⟨b, o, _, h1, h2, by unfold Rc.nth; rw [List.getD_eq_getElem?_getD, List.getElem?_eq_getElem hj]; rfl, h3⟩)
  obtain ⟨p1, q1⟩ := bounds_u16 w1
  have HT := Lib.hid ht
  clear hrec w1 ht
  generalize hn : l0.length = n at *
  clear hn
  obtain ⟨J, hJ⟩ : ∃ J, J = min n 12 := ⟨_, rfl⟩
  have hJn : J ≤ n := by omega
  have hJ12 : J ≤ 12 := by omega
  have hJx : J = n ∨ J = 12 := by omega
  clear hJ
  go_enter Tryd.func7, Tryd.ntmps7
  go_wp2_with fail
  go_loopg [5, 6, 7] J (fun k all ends i wr => ∃ j : Nat, j + k = J ∧ i = .int .i64 j ∧ wr.ownsRow w.heap.size 5 1 all (Rc.endN l0 j) (bvs (Rc.allL l0 j)) ∧ wr.ownsRow w.heap.size 3 1 ends j (Rc.endsV l0 j) ∧ (∀ k, ends.ownBlock = some k → all.ownBlock ≠ some k) ∧ Below w.heap.size w wr)
  case atStart => exact ⟨0, by omega, rfl, World.ownsRow_nil _ _ _ _, World.ownsRow_nil _ _ _ _, fun k h => by simp [Value.ownBlock] at h, Below.refl _ _⟩
  case round =>
    obtain ⟨j, hj, rfl, hall, hends, hne, hb⟩ := hrel
    by_cases hlt : j < J
    · have t1 : (j : Int) < (n : Int) := by omega
      have t2 : (j : Int) < 12 := by omega
      obtain ⟨b, o, r, rfl, hbw, hnth, K1v, K2v, e0, e1, e2, e3, e4, e5, hk, hv, hfit⟩ := hrec'.out j (by omega)
      have hk0 := hk
      have hv0 := hv
      obtain ⟨K1, k1, rfl, _, _⟩ := hk0
      obtain ⟨K2, k2, rfl, _, _⟩ := hv0
      have hmade := made_b (.agg #[.int .u64 r.seq, .int .i64 r.kind, .slice K1 r.key.length k1, .slice K2 r.val.length k2, .int .u32 r.seg, .int .u32 r.off]) r w.heap.size wr (show RecV wr w.heap.size _ r from ⟨_, _, rfl, hk.below hb (Nat.le_refl _), hv.below hb (Nat.le_refl _)⟩) hb.size hfit
      rw [← hnth] at hmade
      have x0 := (hb.cell (p := ⟨b, o + j * 6, none⟩) hbw).trans e0
      have x1 := (hb.cell (p := ⟨b, o + j * 6 + 1, none⟩) hbw).trans e1
      have x2 := (hb.cell (p := ⟨b, o + j * 6 + 2, none⟩) hbw).trans e2
      have x3 := (hb.cell (p := ⟨b, o + j * 6 + 3, none⟩) hbw).trans e3
      have x4 := (hb.cell (p := ⟨b, o + j * 6 + 4, none⟩) hbw).trans e4
      have x5 := (hb.cell (p := ⟨b, o + j * 6 + 5, none⟩) hbw).trans e5
      have hm := Rc.nth_may l0 j
      have hes := Rc.endN_succ l0 j
      have hel := Rc.endN_le l0 (j + 1)
      have hsz := Rc.may_size hm
      have HM := Lib.hid hm
      have HAS : Hid (Rc.allL l0 (j + 1) = Rc.allL l0 j ++ Rc.runL (Rc.nth l0 j)) := Lib.hid rfl
      have HRL := Lib.hid (Rc.runL_length (Rc.nth l0 j))
      have HMADE := Lib.hid hmade
      have HALL := Lib.hid hall
      have HENDS := Lib.hid hends
      have HNE := Lib.hid hne
      have HB := Lib.hid hb
      have hbs := hb.size
      have HEV := Lib.hid (Rc.endsV_succ l0 j)
      clear e0 e1 e2 e3 e4 e5 hk hv hmade hall hends hne hb hm hnth hfit
      generalize Rc.nth l0 j = x at *
      generalize hN : Rc.sizeN x = N at *
      have HN := Lib.hid hN
      clear hN
      have HES := Lib.hid hes
      generalize hE1 : Rc.endN l0 (j + 1) = E1 at *
      generalize hE0 : Rc.endN l0 j = E0 at *
      have HE0 := Lib.hid hE0
      have HE1 := Lib.hid hE1
      clear hE0 hE1 hes
      go_wp2_with fail
      clear x0 x1 x2 x3 x4 x5
      refine HMADE.out.mono ?_
      rintro e w2 ⟨v2, rfl, hr2, b2⟩
      have hr2' := hr2 w2 (Keeps.refl _ _ _)
      have R2 := Lib.hid hr2'
      have HB2 := Lib.hid (bstep HB.out b2)
      have B2 := Lib.hid b2
      clear hr2 hr2' b2 HMADE
      go_wp2_with fail
      refine (rput_ok v2 x _ w2 R2.out (Nat.le_refl _) HM.out (HT.out.on HB2.out)).mono ?_
      rintro e w3 ⟨v3, rfl, hown3, b3⟩
      rw [HN.out] at hown3
      obtain ⟨A3, c3, rfl, _, _, _⟩ := own_slice hown3
      have S3 := Lib.hid (Rd.of_own hown3)
      have hb23 := bstep B2.out b3
      have O3 := Lib.hid (own_below HALL.out hb23 (Nat.le_refl _))
      have Q3 := Lib.hid (own_below HENDS.out hb23 (Nat.le_refl _))
      have HB3 := Lib.hid (bstep HB2.out b3)
      have hsz3 := HB3.out.size
      have hE1v : E1 ≤ 13356 := by omega
      have hE0v : E0 ≤ 13356 := by have := HES.out; omega
      clear hown3 b3 hb23 R2 B2 HALL HENDS
      have nz : ((N : Int) == 0) = false := by simp; omega
      go_wp2_with (first
        | (at_builtin; (refine wpList_append_rd _ rfl _ _ 23 rfl w.heap.size 5 i0 (.int .u8 0) 1 1 Tryd.underlying23 hi0 hz0 hz1 hz2 rfl (by omega) u5 E0 (bvs (Rc.allL l0 j)) rfl O3.out w3.heap.size A3 N c3 (bvs (Rc.runL x)) rfl (by rw [bvs_length, HRL.out, Nat.mul_one]) S3.out (bvs_one _) (by unfold maxLen; omega) (by omega) hsz3 ?_); intro v4 w4 hown4 b4 hg4 ow4;
            rw [← bvs_append, ← HAS.out, ← HES.out] at hown4; obtain ⟨A4, c4, rfl, _, _, _⟩ := own_slice hown4;
            have Q4 := Lib.hid (own_grown Q3.out hg4 HNE.out);
            have O4 := Lib.hid hown4;
            have HB4 := Lib.hid (HB3.out.trans b4);
            have hsz4 := HB4.out.size;
            have N4 := Lib.hid (show ∀ k, u6.ownBlock = some k → (Value.slice A4 E1 c4).ownBlock ≠ some k from fun k h h2 => by
              have hl := (Q3.out.lt k h).2
              rcases ow4 with h3 | h3
              · exact HNE.out k h (h3.symm.trans h2)
              · rw [h2] at h3; injection h3 with h3; omega);
            clear hown4 b4 hg4 ow4)
        | (at_builtin; (refine wpList_append_1 _ rfl _ _ 48 rfl w.heap.size 3 j0 (.int .i64 0) 8 Tryd.underlying48 hj0 hy0 hy1 hy2 rfl u6 j (Rc.endsV l0 j) rfl (Q4.out.alloc _) _ 1 (.int .i64 (E1 : Int)) rfl (cell_new1 _ _ _) rfl (by unfold maxLen; omega) (by omega) (by simp; omega) ?_); intro v5 w5 hown5 b5 hg5 ow5))
      have q5 := own_below O4.out (bnew w4 (.cells #[.int .i64 (E1 : Int)] 3)) (Nat.le_refl _)
      have O5 := own_grown q5 hg5 (fun k h h2 => N4.out k h2 h)
      have N5 : ∀ k, v5.ownBlock = some k → (Value.slice A4 E1 c4).ownBlock ≠ some k := fun k h h2 => by
        rcases ow5 with h3 | h3
        · exact N4.out k (h3.symm.trans h) h2
        · have hl := (O4.out.lt k h2).2
          rw [h] at h3
          injection h3 with h3
          simp at h3
          omega
      have HB5 := (HB4.out.trans ((bnew w4 (.cells #[.int .i64 (E1 : Int)] 3)).mono hsz4)).trans b5
      go_roundg (gk - 1)
      case measure => omega
      case rel => exact ⟨j + 1, by omega, by go_num, by rw [HE1.out]; exact O5, by rw [HEV.out]; exact hown5, N5, HB5⟩
    · obtain rfl : J = j := by omega
      obtain ⟨wA, hwA⟩ : ∃ wA, wA = wr := ⟨_, rfl⟩
      subst hwA
      obtain ⟨A5, c5, rfl, hMc, _, _⟩ := own_slice hall
      have SA := Lib.hid (Bs.of_own hall)
      have HEN := Lib.hid hends
      have HW := Lib.hid hb
      obtain ⟨E5, e5, rfl, _, _, _⟩ := own_slice hends
      have hMl := Rc.endN_le l0 J
      have HGC := Lib.hid (fun j k h => Rc.get_cut l0 j J k h)
      have HGN := Lib.hid (fun j k h => Rc.get_next l0 j J k h)
      have HRA := Lib.hid (fun j h => Rc.run_at l0 j J h)
      have HMO := Lib.hid (fun j (h : j ≤ J) => Rc.endN_mono l0 j J h)
      have HSU := Lib.hid (fun j => Rc.endN_succ l0 j)
      have HAL : Hid ((Rc.allL l0 J).length = Rc.endN l0 J) := Lib.hid rfl
      have HEV := Lib.hid (fun j h => Rc.endsV_at l0 j J h)
      have hE0 : Hid (Rc.endN l0 0 = 0) := Lib.hid rfl
      generalize Rc.endN l0 = E at *
      generalize Rc.allL l0 J = X at *
      generalize hM : E J = M at *
      have HEJ := Lib.hid hM
      clear hM hall hends hb hne
      have hk0 : 0 ≤ a1 % ((M : Int) + 1) := Int.emod_nonneg _ (by omega)
      have hk1 : a1 % ((M : Int) + 1) < (M : Int) + 1 := Int.emod_lt_of_pos _ (by omega)
      obtain ⟨k, hk⟩ := Int.eq_ofNat_of_zero_le hk0
      rw [hk] at hk0 hk1
      have hkM : k ≤ M := by omega
      clear hk0 hk1
      have h8 : ¬ ((M : Int) + 1 = 0) := by omega
      have h8b : (((M : Int) + 1) == 0) = false := by simp; omega
      have hpass : (decide (J < n) = false) ∨ (J < n ∧ decide ((J : Int) < 12) = false) := by
        rcases hJx with h | h
        · exact .inl (by simp; omega)
        · by_cases h2 : J < n
          · exact .inr ⟨h2, by simp; omega⟩
          · exact .inl (by simp; omega)
      rcases hpass with t1 | ⟨t1, t2⟩
      all_goals
        go_wp2_with fail
        rw [hk]
        go_loopg [11, 12] J (fun q at_ i wr => ∃ j : Nat, j + q = J ∧ at_ = .int .i64 ((E j : Nat) : Int) ∧ i = .int .i64 j ∧ E j ≤ k ∧ Below wA.heap.size wA wr)
        case atStart => exact ⟨0, by omega, by rw [hE0.out]; rfl, rfl, by rw [hE0.out]; omega, Below.refl _ _⟩
        case round =>
          obtain ⟨j, hj, rfl, rfl, hjk, hbr⟩ := hrel
          have HBR := Lib.hid hbr
          clear hbr
          by_cases hlt : j < J
          · have t3 : (j : Int) < (J : Int) := by omega
            obtain ⟨A6, m6, c6, cut6, s6⟩ := cut_mid SA.out (E j) k (E j : Int) (k : Int) rfl rfl hjk (by rw [HAL.out]; exact hkM)
            have hs6 := s6 wr wA.heap.size (SA.out.below HBR.out (Nat.le_refl _))
            have HS6 := Lib.hid hs6
            obtain ⟨ge, ce, hev, hge, hgl⟩ := HEN.out.form (by omega)
            injection hev with hev1 hev2 hev3
            subst hev1 hev3
            have hcell := HEN.out.cellAt j (by omega)
            rw [HEV.out j hlt] at hcell
            have HCE := Lib.hid hcell
            have hEj := HMO.out j (by omega)
            have hEj1 := HMO.out (j + 1) (by omega)
            clear s6 hs6 hcell hev2
            by_cases hcut : k < E (j + 1)
            · have t4 : (k : Int) < ((E (j + 1) : Nat) : Int) := by omega
              go_wp2_with fail
              refine (rget_q _ _ wA.heap.size wr HS6.out HBR.out.size (by rw [List.length_take, List.length_drop]; omega) (HT.out.on (HW.out.trans (HBR.out.mono HW.out.size))) _ _ _ (HGC.out j k hlt hjk hcut)).mono ?_
              rintro e w10 ⟨rv, rfl, nr, b10⟩
              obtain ⟨C3, d3, C4, d4, rfl, _, _, _⟩ := nr.form2
              have b11 := bnew w10 (.cells #[.int .u64 Rc.none.seq, .int .i64 Rc.none.kind, .slice C3 Rc.none.key.length d3, .slice C4 Rc.none.val.length d4, .int .u32 Rc.none.seg, .int .u32 Rc.none.off] 28)
              have hce := ((b10.trans (b11.mono b10.size)).cell (p := ⟨ge, j, none⟩) (by have := HBR.out.size; show ge < _; omega)).trans ((HBR.out.cell (p := ⟨ge, j, none⟩) hgl).trans HCE.out)
              have HB11 := Lib.hid (bstep (bstep (HW.out.trans (HBR.out.mono HW.out.size)) b10) b11)
              clear b10 b11 nr
              go_wp2_with fail
              refine (knows_r _ (HT.out.on HB11.out)).mono ?_
              rintro e w12 ⟨rfl, b12⟩
              go_wp2_with fail
              go_ret
              exact ⟨rfl, bstep HB11.out b12⟩
            · have t4 : decide (k < E (j + 1)) = false := by simp; omega
              have t5 : j < n := by omega
              obtain ⟨b, o, r, rfl, hbw, hnth, K1v, K2v, e0, e1, e2, e3, e4, e5', hkk, hvv, hfit⟩ := hrec'.out j (by omega)
              have hkk0 := hkk
              have hvv0 := hvv
              obtain ⟨K1, k1, rfl, _, _⟩ := hkk0
              obtain ⟨K2, k2, rfl, _, _⟩ := hvv0
              have hmay := Rc.nth_may l0 j
              have hgn := HGN.out j k hlt (by omega)
              have hsu := HSU.out j
              have hra := HRA.out j hlt
              have hmade : ∀ W, Below w.heap.size w W → _ := fun W hW => made_b (.agg #[.int .u64 r.seq, .int .i64 r.kind, .slice K1 r.key.length k1, .slice K2 r.val.length k2, .int .u32 r.seg, .int .u32 r.off]) r w.heap.size W (show RecV W w.heap.size _ r from ⟨_, _, rfl, hkk.below hW (Nat.le_refl _), hvv.below hW (Nat.le_refl _)⟩) hW.size hfit
              rw [← hnth] at hmade
              have HMADE := Lib.hid hmade
              have HSZ := Lib.hid (Rc.may_size hmay)
              have HM := Lib.hid hmay
              have HRL := Lib.hid (Rc.runL_length (Rc.nth l0 j))
              clear hmade hnth hfit hkk hvv hmay
              generalize Rc.nth l0 j = x at *
              generalize hN : Rc.sizeN x = N at *
              have HN := Lib.hid hN
              have HGQ := Lib.hid hgn
              have HRN := Lib.hid hra
              have HSUM := Lib.hid hsu
              have CELL := Lib.hid (show ∀ W, Below w.heap.size w W → (W.cell? ⟨b, o + j * 6, none⟩ = some (.int .u64 r.seq) ∧ W.cell? ⟨b, o + j * 6 + 1, none⟩ = some (.int .i64 r.kind) ∧ W.cell? ⟨b, o + j * 6 + 2, none⟩ = some (.slice K1 r.key.length k1) ∧ W.cell? ⟨b, o + j * 6 + 3, none⟩ = some (.slice K2 r.val.length k2) ∧ W.cell? ⟨b, o + j * 6 + 4, none⟩ = some (.int .u32 r.seg) ∧ W.cell? ⟨b, o + j * 6 + 5, none⟩ = some (.int .u32 r.off)) from fun W hW => ⟨(hW.cell (p := ⟨b, o + j * 6, none⟩) hbw).trans e0, (hW.cell (p := ⟨b, o + j * 6 + 1, none⟩) hbw).trans e1, (hW.cell (p := ⟨b, o + j * 6 + 2, none⟩) hbw).trans e2, (hW.cell (p := ⟨b, o + j * 6 + 3, none⟩) hbw).trans e3, (hW.cell (p := ⟨b, o + j * 6 + 4, none⟩) hbw).trans e4, (hW.cell (p := ⟨b, o + j * 6 + 5, none⟩) hbw).trans e5'⟩)
              clear hN hgn hra hsu e0 e1 e2 e3 e4 e5'
              have hNN := HSZ.out.2
              go_wp2_with fail
              refine (rget_q _ _ wA.heap.size wr HS6.out HBR.out.size (by rw [List.length_take, List.length_drop]; omega) (HT.out.on (HW.out.trans (HBR.out.mono HW.out.size))) _ _ _ HGQ.out).mono ?_
              rintro e w10 ⟨rv, rfl, nr, b10⟩
              obtain ⟨C3, d3, C4, d4, rfl, _, qb1, qb2⟩ := nr.form2
              have hbx := box_new (w := w10) qb1 qb2 (Nat.le_refl _)
              have hhx := heap_alloc_new w10 (.cells #[.int .u64 x.seq, .int .i64 x.kind, .slice C3 x.key.length d3, .slice C4 x.val.length d4, .int .u32 x.seg, .int .u32 x.off] 28)
              have hrq : RecV (w10.alloc (.cells #[.int .u64 x.seq, .int .i64 x.kind, .slice C3 x.key.length d3, .slice C4 x.val.length d4, .int .u32 x.seg, .int .u32 x.off] 28)) w10.heap.size (.agg #[.int .u64 x.seq, .int .i64 x.kind, .slice C3 x.key.length d3, .slice C4 x.val.length d4, .int .u32 x.seg, .int .u32 x.off]) x := ⟨_, _, rfl, qb1.below (bnew _ _) (Nat.le_refl _), qb2.below (bnew _ _) (Nat.le_refl _)⟩
              have b11 := bnew w10 (.cells #[.int .u64 x.seq, .int .i64 x.kind, .slice C3 x.key.length d3, .slice C4 x.val.length d4, .int .u32 x.seg, .int .u32 x.off] 28)
              have hb11 := bstep (HBR.out.trans (b10.mono HBR.out.size)) b11
              have hce := (hb11.cell (p := ⟨ge, j, none⟩) hgl).trans HCE.out
              obtain ⟨gq, hgq⟩ : ∃ gq, gq = w10.heap.size := ⟨_, rfl⟩
              have RQ := Lib.hid (hrq.mono b11.size)
              have HB11 := Lib.hid hb11
              have HBQ := Lib.hid (HW.out.trans (hb11.mono HW.out.size))
              have HCE11 := Lib.hid hce
              rw [← hgq] at hhx
              have HHX := Lib.hid hhx
              clear b10 b11 nr qb1 qb2 hbx hhx hrq hb11
              go_wp2_with fail
              clear hce
              rw [← hgq]
              clear hgq
              generalize w10.alloc (.cells #[.int .u64 x.seq, .int .i64 x.kind, .slice C3 x.key.length d3, .slice C4 x.val.length d4, .int .u32 x.seg, .int .u32 x.off] 28) = W11 at *
              have HSK := Lib.hid (show ∀ W, Below W11.heap.size W11 W → (W.cell? ⟨ge, j, none⟩ = some (.int .i64 ((E (j + 1) : Nat) : Int)) ∧ (W.cell? ⟨gq, 0, none⟩ = some (.int .u64 x.seq) ∧ W.cell? ⟨gq, 1, none⟩ = some (.int .i64 x.kind) ∧ W.cell? ⟨gq, 2, none⟩ = some (.slice C3 x.key.length d3) ∧ W.cell? ⟨gq, 3, none⟩ = some (.slice C4 x.val.length d4) ∧ W.cell? ⟨gq, 4, none⟩ = some (.int .u32 x.seg) ∧ W.cell? ⟨gq, 5, none⟩ = some (.int .u32 x.off)) ∧ (W.cell? ⟨b, o + j * 6, none⟩ = some (.int .u64 r.seq) ∧ W.cell? ⟨b, o + j * 6 + 1, none⟩ = some (.int .i64 r.kind) ∧ W.cell? ⟨b, o + j * 6 + 2, none⟩ = some (.slice K1 r.key.length k1) ∧ W.cell? ⟨b, o + j * 6 + 3, none⟩ = some (.slice K2 r.val.length k2) ∧ W.cell? ⟨b, o + j * 6 + 4, none⟩ = some (.int .u32 r.seg) ∧ W.cell? ⟨b, o + j * 6 + 5, none⟩ = some (.int .u32 r.off))) from fun W hW => ⟨(hW.cell (p := ⟨ge, j, none⟩) (by have := HB11.out.size; show ge < _; omega)).trans HCE11.out, box6h ((hW.block gq (Array.getElem?_eq_some_iff.1 HHX.out).1).trans HHX.out), CELL.out W (HBQ.out.trans (hW.mono HBQ.out.size))⟩)
              have hwr : IntKind.i64.wrap (((E j : Nat) : Int) + (N : Int)) = ((E (j + 1) : Nat) : Int) := by have := HSUM.out; rw [IntKind.wrap_i64]; omega
              refine wp_region_noPanic ?_
              have HbW := Lib.hid ((Below.refl W11.heap.size W11).drew)
              refine wp_region_held_drew (S := fun w' => w'.cell? ⟨ge, j, none⟩ = some (.int .i64 ((E (j + 1) : Nat) : Int)) ∧ (w'.cell? ⟨gq, 0, none⟩ = some (.int .u64 x.seq) ∧ w'.cell? ⟨gq, 1, none⟩ = some (.int .i64 x.kind) ∧ w'.cell? ⟨gq, 2, none⟩ = some (.slice C3 x.key.length d3) ∧ w'.cell? ⟨gq, 3, none⟩ = some (.slice C4 x.val.length d4) ∧ w'.cell? ⟨gq, 4, none⟩ = some (.int .u32 x.seg) ∧ w'.cell? ⟨gq, 5, none⟩ = some (.int .u32 x.off)) ∧ (w'.cell? ⟨b, o + j * 6, none⟩ = some (.int .u64 r.seq) ∧ w'.cell? ⟨b, o + j * 6 + 1, none⟩ = some (.int .i64 r.kind) ∧ w'.cell? ⟨b, o + j * 6 + 2, none⟩ = some (.slice K1 r.key.length k1) ∧ w'.cell? ⟨b, o + j * 6 + 3, none⟩ = some (.slice K2 r.val.length k2) ∧ w'.cell? ⟨b, o + j * 6 + 4, none⟩ = some (.int .u32 r.seg) ∧ w'.cell? ⟨b, o + j * 6 + 5, none⟩ = some (.int .u32 r.off))) (by kernel_rfl) (HSK.out _ ((Below.refl _ _).drew)) (fun hHeld => ?_)
              refine wpAnyH_take (i := 0) (v := ?_) opAt_0 (by kernel_rfl) (by kernel_rfl) (by kernel_rfl) (fun _ _ _ h => h) (Or.inl ⟨by rfl, ?_⟩) (by assumption) ?_
              rotate_left
              · (intro w hSw; (try dsimp only at hSw); go_simp; try with_reducible rfl)
              try simp only [Act.put, List.setIfInBounds_toArray, List.set_cons_zero, List.set_cons_succ]
              refine wpAnyH_take (i := 1) (v := ?_) opAt_1 (by kernel_rfl) (by kernel_rfl) (by kernel_rfl) (fun _ _ _ h => h) (Or.inl ⟨by rfl, ?_⟩) (by assumption) ?_
              rotate_left
              · (intro w hSw; (try dsimp only at hSw); go_simp; try with_reducible rfl)
              try simp only [Act.put, List.setIfInBounds_toArray, List.set_cons_zero, List.set_cons_succ]
              refine wpAnyH_take (i := 2) (v := ?_) opAt_2 (by kernel_rfl) (by kernel_rfl) (by kernel_rfl) (fun _ _ _ h => h) (Or.inl ⟨by rfl, ?_⟩) (by assumption) ?_
              rotate_left
              · (intro w hSw; (try dsimp only at hSw); go_simp; try with_reducible rfl)
              try simp only [Act.put, List.setIfInBounds_toArray, List.set_cons_zero, List.set_cons_succ]
              refine wpAnyH_take (i := 3) (v := ?_) opAt_3 (by kernel_rfl) (by kernel_rfl) (by kernel_rfl) (fun _ _ _ h => h) (Or.inl ⟨by rfl, ?_⟩) (by assumption) ?_
              rotate_left
              · (intro w hSw; (try dsimp only at hSw); go_simp; try with_reducible rfl)
              try simp only [Act.put, List.setIfInBounds_toArray, List.set_cons_zero, List.set_cons_succ]
              refine wpAnyH_take (i := 4) (v := ?_) opAt_4 (by kernel_rfl) (by kernel_rfl) (by kernel_rfl) (fun _ _ _ h => h) (Or.inl ⟨by rfl, ?_⟩) (by assumption) ?_
              rotate_left
              · (intro w hSw; (try dsimp only at hSw); go_simp; try with_reducible rfl)
              try simp only [Act.put, List.setIfInBounds_toArray, List.set_cons_zero, List.set_cons_succ]
              refine wpAnyH_take (i := 5) (v := ?_) opAt_5 (by kernel_rfl) (by kernel_rfl) (by kernel_rfl) (fun _ _ _ h => h) (Or.inl ⟨by rfl, ?_⟩) (by assumption) ?_
              rotate_left
              · (intro w hSw; (try dsimp only at hSw); go_simp; try with_reducible rfl)
              try simp only [Act.put, List.setIfInBounds_toArray, List.set_cons_zero, List.set_cons_succ]
              refine wpAnyH_take (i := 6) (v := ?_) opAt_6 (by kernel_rfl) (by kernel_rfl) (by kernel_rfl) (fun _ _ _ h => h) (Or.inl ⟨by rfl, ?_⟩) (by assumption) ?_
              rotate_left
              · (intro w hSw; (try dsimp only at hSw); go_simp; try with_reducible rfl)
              try simp only [Act.put, List.setIfInBounds_toArray, List.set_cons_zero, List.set_cons_succ]
              refine wpAnyH_take (i := 7) (v := ?_) opAt_7 (by kernel_rfl) (by kernel_rfl) (by kernel_rfl) (fun _ _ _ h => h) (Or.inl ⟨by rfl, ?_⟩) (by assumption) ?_
              rotate_left
              · (intro w hSw; (try dsimp only at hSw); go_simp; try with_reducible rfl)
              try simp only [Act.put, List.setIfInBounds_toArray, List.set_cons_zero, List.set_cons_succ]
              refine wpAnyH_take (i := 8) (v := ?_) opAt_8 (by kernel_rfl) (by kernel_rfl) (by kernel_rfl) (fun _ _ _ h => h) (Or.inl ⟨by rfl, ?_⟩) (by assumption) ?_
              rotate_left
              · (intro w hSw; (try dsimp only at hSw); go_simp; try with_reducible rfl)
              try simp only [Act.put, List.setIfInBounds_toArray, List.set_cons_zero, List.set_cons_succ]
              refine wpAnyH_take (i := 9) (v := ?_) opAt_9 (by kernel_rfl) (by kernel_rfl) (by kernel_rfl) (fun _ _ _ h => h) (Or.inl ⟨by rfl, ?_⟩) (by assumption) ?_
              rotate_left
              · (intro w hSw; (try dsimp only at hSw); go_simp; try with_reducible rfl)
              try simp only [Act.put, List.setIfInBounds_toArray, List.set_cons_zero, List.set_cons_succ]
              refine wpAnyH_take (i := 10) (v := ?_) opAt_10 (by kernel_rfl) (by kernel_rfl) (by kernel_rfl) (fun _ _ _ h => h) (Or.inl ⟨by rfl, ?_⟩) (by assumption) ?_
              rotate_left
              · (intro w hSw; (try dsimp only at hSw); go_simp; try with_reducible rfl)
              try simp only [Act.put, List.setIfInBounds_toArray, List.set_cons_zero, List.set_cons_succ]
              refine wpAnyH_take (i := 11) (v := ?_) opAt_11 (by kernel_rfl) (by kernel_rfl) (by kernel_rfl) (fun _ _ _ h => h) (Or.inl ⟨by rfl, ?_⟩) (by assumption) ?_
              rotate_left
              · (intro w hSw; (try dsimp only at hSw); go_simp; try with_reducible rfl)
              try simp only [Act.put, List.setIfInBounds_toArray, List.set_cons_zero, List.set_cons_succ]
              refine wpAnyH_take (i := 12) (v := ?_) opAt_12 (by kernel_rfl) (by kernel_rfl) (by kernel_rfl) (fun _ _ _ h => h) (Or.inl ⟨by rfl, ?_⟩) (by assumption) ?_
              rotate_left
              · (intro w hSw; (try dsimp only at hSw); go_simp; try with_reducible rfl)
              try simp only [Act.put, List.setIfInBounds_toArray, List.set_cons_zero, List.set_cons_succ]
              refine wpAnyH_take (i := 13) (v := ?_) opAt_13 (by kernel_rfl) (by kernel_rfl) (by kernel_rfl) (fun _ _ _ h => h) (Or.inl ⟨by rfl, ?_⟩) (by assumption) ?_
              rotate_left
              · (intro w hSw; (try dsimp only at hSw); go_simp; try with_reducible rfl)
              try simp only [Act.put, List.setIfInBounds_toArray, List.set_cons_zero, List.set_cons_succ]
              refine wpAnyH_take (i := 14) (v := ?_) opAt_14 (by kernel_rfl) (by kernel_rfl) (by kernel_rfl) (fun _ _ _ h => h) (Or.inl ⟨by rfl, ?_⟩) (by assumption) ?_
              rotate_left
              · (intro w hSw; (try dsimp only at hSw); go_simp; try with_reducible rfl)
              try simp only [Act.put, List.setIfInBounds_toArray, List.set_cons_zero, List.set_cons_succ]
              refine wpAnyH_take (i := 15) (v := ?_) opAt_15 (by kernel_rfl) (by kernel_rfl) (by kernel_rfl) (fun _ _ _ h => h) (Or.inl ⟨by rfl, ?_⟩) (by assumption) ?_
              rotate_left
              · (intro w hSw; (try dsimp only at hSw); go_simp; try with_reducible rfl)
              try simp only [Act.put, List.setIfInBounds_toArray, List.set_cons_zero, List.set_cons_succ]
              refine wpAnyH_take (i := 16) (v := ?_) opAt_16 (by kernel_rfl) (by kernel_rfl) (by kernel_rfl) (fun _ _ _ h => h) (Or.inl ⟨by rfl, ?_⟩) (by assumption) ?_
              rotate_left
              · (intro w hSw; (try dsimp only at hSw); go_simp; try with_reducible rfl)
              try simp only [Act.put, List.setIfInBounds_toArray, List.set_cons_zero, List.set_cons_succ]
              refine wpAnyH_take (i := 17) (v := ?_) opAt_17 (by kernel_rfl) (by kernel_rfl) (by kernel_rfl) (fun _ _ _ h => h) (Or.inl ⟨by rfl, ?_⟩) (by assumption) ?_
              rotate_left
              · (intro w hSw; (try dsimp only at hSw); go_simp; try with_reducible rfl)
              try simp only [Act.put, List.setIfInBounds_toArray, List.set_cons_zero, List.set_cons_succ]
              refine wpAnyH_ready (rs := [18]) (by kernel_rfl) (by simp) ?_
              refine AllReadyH.cons rfl (fun K hK => ?_) AllReadyH.nil
              go_simp
              refine (HMADE.out _ (HBQ.out.trans (HbW.out.mono HBQ.out.size))).mono ?_
              rintro e Z1 ⟨vm, rfl, hrm, bn⟩
              have hrm' := hrm Z1 (Keeps.refl _ _ _)
              have HRM := Lib.hid hrm'
              clear hrm hrm'
              have HbN := Lib.hid (HbW.out.trans (bn.mono HbW.out.size))
              clear HbW bn
              have HbW := HbN
              clear HbN
              refine hK.out _ _ (HSK.out _ HbW.out) (fun hHeld => ?_)
              clear hK K
              try simp only [Act.put, List.setIfInBounds_toArray, List.set_cons_zero, List.set_cons_succ]
              refine wpAnyH_ready (rs := [19]) (by kernel_rfl) (by simp) ?_
              refine AllReadyH.cons rfl (fun K hK => ?_) AllReadyH.nil
              go_simp
              have hsm := rsame_b _ _ x x _ _ ((RQ.out.on HbW.out)) HRM.out (Nat.le_refl _)
              rw [Rc.sameB_self] at hsm
              refine hsm.mono ?_
              rintro e Z2 ⟨rfl, bn⟩
              clear hsm
              have HbN := Lib.hid (HbW.out.trans (bn.mono HbW.out.size))
              clear HbW bn
              have HbW := HbN
              clear HbN
              refine hK.out _ _ (HSK.out _ HbW.out) (fun hHeld => ?_)
              clear hK K
              try simp only [Act.put, List.setIfInBounds_toArray, List.set_cons_zero, List.set_cons_succ]
              refine wpAnyH_take (i := 20) (v := ?_) opAt_20 (by kernel_rfl) (by kernel_rfl) (by kernel_rfl) (fun _ _ _ h => h) (Or.inl ⟨by rfl, ?_⟩) (by assumption) ?_
              rotate_left
              · (intro w hSw; (try dsimp only at hSw); go_simp; try with_reducible rfl)
              try simp only [Act.put, List.setIfInBounds_toArray, List.set_cons_zero, List.set_cons_succ]
              refine wpAnyH_take (i := 21) (v := ?_) opAt_21 (by kernel_rfl) (by kernel_rfl) (by kernel_rfl) (fun _ _ _ h => h) (Or.inl ⟨by rfl, ?_⟩) (by assumption) ?_
              rotate_left
              · (intro w hSw; (try dsimp only at hSw); go_simp; try with_reducible rfl)
              try simp only [Act.put, List.setIfInBounds_toArray, List.set_cons_zero, List.set_cons_succ]
              refine wpAnyH_done (by kernel_rfl) ?_ _
              refine NoPanic.normal ?_
              have HHX2 := Lib.hid ((HbW.out.block gq (Array.getElem?_eq_some_iff.1 HHX.out).1).trans HHX.out)
              obtain ⟨y0, y1, y2, y3, y4, y5⟩ := box6h HHX2.out
              have HBZ := Lib.hid (HBQ.out.trans (HbW.out.mono HBQ.out.size))
              have RQ2 := Lib.hid (RQ.out.on HbW.out)
              have HB12 := Lib.hid (HB11.out.trans (HbW.out.mono HB11.out.size))
              clear HbW HSK HHX RQ HBQ HB11 HCE11 CELL
              go_wp2_with fail
              clear y0 y1 y2 y3 y4 y5
              refine (rput_ok _ x _ _ RQ2.out (Nat.le_refl _) HM.out (HT.out.on HBZ.out)).mono ?_
              rintro e W13 ⟨vb, rfl, hownb, b13⟩
              rw [HN.out] at hownb
              obtain ⟨AB, cB, rfl, _, _, _⟩ := own_slice hownb
              have HB13 := Lib.hid (HB12.out.trans (b13.mono HB12.out.size))
              have HBT := Lib.hid (bstep HBZ.out b13)
              obtain ⟨A9, m9, c9, cut9, s9⟩ := cut_mid SA.out (E j) (E j + N) (E j : Int) ((E (j + 1) : Nat) : Int) rfl (by have := HSUM.out; omega) (Nat.le_add_right _ _) (by have := HSUM.out; rw [HAL.out]; omega)
              have hs9 := s9 W13 wA.heap.size (SA.out.below HB13.out (Nat.le_refl _))
              rw [HRN.out] at hs9
              obtain ⟨s, HCB, HCC⟩ : ∃ s, Hid (∀ W, Below W13.heap.size W13 W → (convert 23 9 (.slice AB N cB)).run Tryd.prog W = .ok (.string s) W) ∧ Hid (∀ W, Below W13.heap.size W13 W → (convert 23 9 (.slice A9 m9 c9)).run Tryd.prog W = .ok (.string s) W) :=
                ⟨_, Lib.hid (fun W hb => conv_bs (Bs.of_own hownb) hb (Nat.le_refl _)), Lib.hid (fun W hb => conv_bs hs9 hb HB13.out.size)⟩
              have HSK := Lib.hid (show ∀ W, Below W13.heap.size W13 W → ((convert 23 9 (.slice AB N cB)).run Tryd.prog W = .ok (.string s) W ∧ (convert 23 9 (.slice A9 m9 c9)).run Tryd.prog W = .ok (.string s) W) from fun W hW => ⟨HCB.out W hW, HCC.out W hW⟩)
              clear hownb b13 s9 hs9 HCB HCC RQ2 HBZ HB12
              go_wp2_with fail
              refine wp_region_noPanic ?_
              refine wp_region_held_drew (S := fun w' => (convert 23 9 (.slice AB N cB)).run Tryd.prog w' = .ok (.string s) w' ∧ (convert 23 9 (.slice A9 m9 c9)).run Tryd.prog w' = .ok (.string s) w') (by kernel_rfl) (HSK.out _ ((Below.refl _ _).drew)) (fun hHeld => ?_)
              refine wpAnyH_take (i := 0) (v := ?_) opAt_0 (by kernel_rfl) (by kernel_rfl) (by kernel_rfl) (fun _ _ _ h => h) (Or.inl ⟨by rfl, ?_⟩) (by assumption) ?_
              rotate_left
              · (intro w hSw; (try dsimp only at hSw); go_simp; try with_reducible rfl)
              try simp only [Act.put, List.setIfInBounds_toArray, List.set_cons_zero, List.set_cons_succ]
              refine wpAnyH_take (i := 1) (v := ?_) opAt_1 (by kernel_rfl) (by kernel_rfl) (by kernel_rfl) (fun _ _ _ h => h) (Or.inl ⟨by rfl, ?_⟩) (by assumption) ?_
              rotate_left
              · (intro w hSw; (try dsimp only at hSw); go_simp; try with_reducible rfl)
              try simp only [Act.put, List.setIfInBounds_toArray, List.set_cons_zero, List.set_cons_succ]
              refine wpAnyH_take (i := 2) (v := ?_) opAt_2 (by kernel_rfl) (by kernel_rfl) (by kernel_rfl) (fun _ _ _ h => h) (Or.inl ⟨by rfl, ?_⟩) (by assumption) ?_
              rotate_left
              · (intro w hSw; (try dsimp only at hSw); go_simp; try with_reducible rfl)
              try simp only [Act.put, List.setIfInBounds_toArray, List.set_cons_zero, List.set_cons_succ]
              refine wpAnyH_take (i := 3) (v := ?_) opAt_3 (by kernel_rfl) (by kernel_rfl) (by kernel_rfl) (fun _ _ _ h => h) (Or.inl ⟨by rfl, ?_⟩) (by assumption) ?_
              rotate_left
              · (intro w hSw; (try dsimp only at hSw); go_simp; try with_reducible rfl)
              try simp only [Act.put, List.setIfInBounds_toArray, List.set_cons_zero, List.set_cons_succ]
              refine wpAnyH_take (i := 4) (v := ?_) opAt_4 (by kernel_rfl) (by kernel_rfl) (by kernel_rfl) (fun _ _ _ h => h) (Or.inl ⟨by rfl, ?_⟩) (by assumption) ?_
              rotate_left
              · (intro w hSw; (try dsimp only at hSw); go_simp; try with_reducible rfl)
              try simp only [Act.put, List.setIfInBounds_toArray, List.set_cons_zero, List.set_cons_succ]
              refine wpAnyH_take (i := 5) (v := ?_) opAt_5 (by kernel_rfl) (by kernel_rfl) (by kernel_rfl) (fun _ _ _ h => h) (Or.inl ⟨by rfl, ?_⟩) (by assumption) ?_
              rotate_left
              · (intro w hSw; (try dsimp only at hSw); go_simp; try with_reducible rfl)
              try simp only [Act.put, List.setIfInBounds_toArray, List.set_cons_zero, List.set_cons_succ]
              refine wpAnyH_take (i := 6) (v := ?_) opAt_6 (by kernel_rfl) (by kernel_rfl) (by kernel_rfl) (fun _ _ _ h => h) (Or.inl ⟨by rfl, ?_⟩) (by assumption) ?_
              rotate_left
              · (intro w hSw; (try dsimp only at hSw); go_simp; try with_reducible rfl)
              try simp only [Act.put, List.setIfInBounds_toArray, List.set_cons_zero, List.set_cons_succ]
              refine wpAnyH_take (i := 7) (v := ?_) opAt_7 (by kernel_rfl) (by kernel_rfl) (by kernel_rfl) (fun _ _ _ h => h) (Or.inl ⟨by rfl, ?_⟩) (by assumption) ?_
              rotate_left
              · (intro w hSw; (try dsimp only at hSw); go_simp; try with_reducible rfl)
              try simp only [Act.put, List.setIfInBounds_toArray, List.set_cons_zero, List.set_cons_succ]
              refine wpAnyH_take (i := 8) (v := ?_) opAt_8 (by kernel_rfl) (by kernel_rfl) (by kernel_rfl) (fun _ _ _ h => h) (Or.inl ⟨by rfl, ?_⟩) (by assumption) ?_
              rotate_left
              · (intro w hSw; (try dsimp only at hSw); go_simp; try with_reducible rfl)
              try simp only [Act.put, List.setIfInBounds_toArray, List.set_cons_zero, List.set_cons_succ]
              refine wpAnyH_take (i := 9) (v := ?_) opAt_9 (by kernel_rfl) (by kernel_rfl) (by kernel_rfl) (fun _ _ _ h => h) (Or.inl ⟨by rfl, ?_⟩) (by assumption) ?_
              rotate_left
              · (intro w hSw; (try dsimp only at hSw); go_simp; try with_reducible rfl)
              try simp only [Act.put, List.setIfInBounds_toArray, List.set_cons_zero, List.set_cons_succ]
              refine wpAnyH_take (i := 10) (v := ?_) opAt_10 (by kernel_rfl) (by kernel_rfl) (by kernel_rfl) (fun _ _ _ h => h) (Or.inl ⟨by rfl, ?_⟩) (by assumption) ?_
              rotate_left
              · (intro w hSw; (try dsimp only at hSw); go_simp; try with_reducible rfl)
              try simp only [Act.put, List.setIfInBounds_toArray, List.set_cons_zero, List.set_cons_succ]
              refine wpAnyH_take (i := 11) (v := ?_) opAt_11 (by kernel_rfl) (by kernel_rfl) (by kernel_rfl) (fun _ _ _ h => h) (Or.inl ⟨by rfl, ?_⟩) (by assumption) ?_
              rotate_left
              · (intro w hSw; (try dsimp only at hSw); go_simp; try with_reducible rfl)
              try simp only [Act.put, List.setIfInBounds_toArray, List.set_cons_zero, List.set_cons_succ]
              refine wpAnyH_take (i := 12) (v := ?_) opAt_12 (by kernel_rfl) (by kernel_rfl) (by kernel_rfl) (fun _ _ _ h => h) (Or.inl ⟨by rfl, ?_⟩) (by assumption) ?_
              rotate_left
              · (intro w hSw; (try dsimp only at hSw); go_simp; try with_reducible rfl)
              try simp only [Act.put, List.setIfInBounds_toArray, List.set_cons_zero, List.set_cons_succ]
              refine wpAnyH_take (i := 13) (v := ?_) opAt_13 (by kernel_rfl) (by kernel_rfl) (by kernel_rfl) (fun _ _ _ h => h) (Or.inl ⟨by rfl, ?_⟩) (by assumption) ?_
              rotate_left
              · (intro w hSw; (try dsimp only at hSw); go_simp; try with_reducible rfl)
              try simp only [Act.put, List.setIfInBounds_toArray, List.set_cons_zero, List.set_cons_succ]
              refine wpAnyH_done (by kernel_rfl) ?_ _
              refine NoPanic.normal ?_
              have HB14 := Lib.hid (HB13.out.trans ((Below.refl W13.heap.size W13).drew.mono HB13.out.size))
              go_wp2_with fail
              go_roundg (gk - 1)
              case measure => omega
              case rel => exact ⟨j + 1, by omega, rfl, by go_num, by omega, HB14.out⟩
          · obtain rfl : J = j := by omega
            rw [HEJ.out] at hjk
            have hkk : k = M := by omega
            subst hkk
            obtain ⟨A6, m6, c6, cut6, s6⟩ := cut_mid SA.out k k (k : Int) (k : Int) rfl rfl (Nat.le_refl _) (by rw [HAL.out]; exact hkM)
            have hs6 := s6 wr wA.heap.size (SA.out.below HBR.out (Nat.le_refl _))
            rw [Nat.sub_self, List.take_zero] at hs6
            have HS6 := Lib.hid hs6
            clear s6 hs6
            rw [HEJ.out]
            have get_nil : Rc.getQ [] = (Rc.none, 0, 22) := rfl
            go_wp2_with fail
            refine (rget_q _ [] wA.heap.size wr HS6.out HBR.out.size (by simp) (HT.out.on (HW.out.trans (HBR.out.mono HW.out.size))) _ _ _ get_nil).mono ?_
            rintro e w10 ⟨rv, rfl, nr, b10⟩
            obtain ⟨C3, d3, C4, d4, rfl, _, _, _⟩ := nr.form2
            have b11 := bnew w10 (.cells #[.int .u64 Rc.none.seq, .int .i64 Rc.none.kind, .slice C3 Rc.none.key.length d3, .slice C4 Rc.none.val.length d4, .int .u32 Rc.none.seg, .int .u32 Rc.none.off] 28)
            have HB11 := Lib.hid (bstep (bstep (HW.out.trans (HBR.out.mono HW.out.size)) b10) b11)
            clear b10 b11 nr
            go_wp2_with fail
            refine (knows_r _ (HT.out.on HB11.out)).mono ?_
            rintro e w12 ⟨rfl, b12⟩
            go_wp2_with fail
            go_ret
            exact ⟨rfl, bstep HB11.out b12⟩
end Go.Proofs.YtmiljicohnfejaaDoor.recordRows
