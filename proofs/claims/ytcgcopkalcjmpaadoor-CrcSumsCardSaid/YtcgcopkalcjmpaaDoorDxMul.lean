/-
  Layer 2, the document's answer: the walks of Times, Power and Join.
-/
import Derived.Test.YtcgcopkalcjmpaaDoorDxLeft
set_option linter.unusedVariables false
set_option linter.unusedSimpArgs false
namespace Go.Proofs.YtcgcopkalcjmpaaDoor
open Go.RowKit

theorem own_ge {w : World} {base n g cap : Nat} {e : TypeId} {xs : List Value} (h : w.ownsRow base e 1 (.slice (some ⟨g, 0, none⟩) n cap) n xs) {C : Nat} {w' : World} (hb : Below C w w') (hC : g < C) : w'.ownsRow base e 1 (.slice (some ⟨g, 0, none⟩) n cap) n xs := by
  rcases h.2 with ⟨h0, _⟩ | ⟨g', cap', cur, hv, hg, hc, r⟩
  · cases h0
  · have hgg : g' = g := by injection hv with h1 _ _; injection h1 with h1; injection h1 with h1; exact h1.symm
    subst hgg
    exact ⟨h.1, .inr ⟨g', cap', cur, hv, hg, (hb.block g' hC).trans hc, r⟩⟩

theorem make63 {i0 : TypeInfo} (hi0 : Tryd.prog.info? 4 = some i0) (hz0 : i0.zero = some (.bool false)) (hz1 : i0.size = 1) (hz2 : i0.bytes = 1) (w : World) :
    ∃ w', (Instr.makeSlice 45 (.int .i64 63) (.int .i64 63)).run Tryd.prog w = .ok (.slice (some ⟨w.heap.size, 0, none⟩) 63 63) w' ∧ w'.ownsRow w.heap.size 4 1 (.slice (some ⟨w.heap.size, 0, none⟩) 63 63) 63 (blvs (List.replicate 63 false)) ∧ Below w.heap.size w w' := by
  obtain ⟨w4, hrun, hown, hgr⟩ := run_make_full (P := Tryd.prog) w w.heap.size 45 4 i0 (.bool false) 1 Tryd.underlying45 hi0 hz0 hz1 .i64 .i64 63 (by rw [hz2]; omega) (by unfold maxLen; omega) (Nat.le_refl _)
  refine ⟨w4, hrun, ?_, (Below.refl _ _).grown hgr (Nat.le_refl _) (by simp)⟩
  rw [Nat.mul_one, show (Value.bool false).cells = #[Value.bool false] by rfl, toList_madeCells_one] at hown
  have e : blvs (List.replicate 63 false) = List.replicate 63 (Value.bool false) := by simp [blvs]
  rw [e]
  exact hown

set_option maxRecDepth 100000 in
set_option maxHeartbeats 2000000 in
theorem rtimes_any (a b : BitVec 32) (w : World) :
    Calls Tryd.prog 23 #[.int .u32 a.toNat, .int .u32 b.toNat] w fun e w' => e = .returned (.int .u32 (Cx.mul a b).toNat) ∧ Below w.heap.size w w' := by
  obtain ⟨i0, hi0, hz0, hz1, hz2⟩ := info_parts bool_info
  go_enter Tryd.func23, Tryd.ntmps23
  go_wp2_with fail
  refine (row_any _ _).mono ?_
  rintro e w1 ⟨v1, rfl, hown1, b1⟩
  obtain ⟨g1, c1, rfl, hg1, hg1'⟩ := hown1.form (by omega)
  have H1 := Lib.hid hown1
  clear hown1
  go_wp2_with fail
  refine (row_any _ _).mono ?_
  rintro e w2 ⟨v2, rfl, hown2, b2⟩
  obtain ⟨g2, c2, rfl, hg2, hg2'⟩ := hown2.form (by omega)
  have H2 := Lib.hid hown2
  have H1' := Lib.hid (own_ge H1.out b2 hg1')
  have hb2 := b1.trans (b2.mono b1.size)
  clear hown2 H1
  obtain ⟨w3, hrun, hown3, b3⟩ := make63 hi0 hz0 hz1 hz2 w2
  have hsz2 := b2.size
  generalize hg3 : w2.heap.size = g3 at hrun hown3 b3
  have hg3' : g2 < g3 := by omega
  have hg13 : g1 < g3 := by omega
  have hwg : w.heap.size ≤ g3 := by have := hb2.size; omega
  have H3 := Lib.hid hown3
  clear hown3
  have hcx : ∀ k, k < 32 → w2.cell? ⟨g1, k, none⟩ = some (.bool (a.getLsbD k)) := fun k hk => by
    rw [H1'.out.cellAt k hk, blvs_get? _ k _ (Cx.rowL_get a k hk)]
  have hcy : ∀ k, k < 32 → w2.cell? ⟨g2, k, none⟩ = some (.bool (b.getLsbD k)) := fun k hk => by
    rw [H2.out.cellAt k hk, blvs_get? _ k _ (Cx.rowL_get b k hk)]
  have Hcx := Lib.hid hcx
  have Hcy := Lib.hid hcy
  clear hcx hcy H1' H2
  go_wp2_with fail
  clear hrun
  go_loopg [8] 32 (fun k i wr => ∃ (j : Nat) (r : List Bool), j + k = 32 ∧ i = .int .i64 j ∧ wr.ownsRow g3 4 1 (.slice (some ⟨g3, 0, none⟩) 63 63) 63 (blvs r) ∧ Cx.MulOut a b j r ∧ Below g3 w2 wr)
  case atStart => exact ⟨0, _, by omega, rfl, H3.out, Cx.MulOut.zero a b, b3⟩
  case round =>
    obtain ⟨j, r, hj, rfl, hown, hout, hb⟩ := hrel
    have Hown := Lib.hid hown
    have Hout := Lib.hid hout
    clear hown hout
    obtain ⟨G, rfl⟩ : ∃ G, G = gk := ⟨_, rfl⟩
    by_cases hlt : j < 32
    · have t0 : (j : Int) < 32 := by omega
      go_wp2_with fail
      rcases hbit : a.getLsbD j with _ | _
      · have Hbit := Lib.hid hbit
        have hc1 := Hcx.out j hlt
        rw [hbit] at hc1
        have Hc1 := Lib.hid hc1
        clear hc1 hbit
        go_loopg [9] 32 (fun k i wx => wr = wx ∧ ∃ m : Nat, m + k = 32 ∧ i = .int .i64 m)
        case atStart => exact ⟨rfl, 0, by omega, rfl⟩
        case round =>
          obtain ⟨rfl, m, hm, rfl⟩ := hrel
          by_cases hm32 : m < 32
          · have hc := (hb.cell (p := ⟨g1, j, none⟩) hg13).trans Hc1.out
            have t1 : (m : Int) < 32 := by omega
            go_wp2_with fail
            go_roundg (gk - 1)
            case measure => omega
            case rel => exact ⟨rfl, m + 1, by omega, by go_num⟩
          · go_wp2_with fail
            go_roundg (G - 1)
            case measure => omega
            case rel => exact ⟨j + 1, r, by omega, by go_num, Hown.out, Cx.MulOut.off hlt Hout.out Hbit.out, hb⟩
      · have Hbit := Lib.hid hbit
        have hc1 := Hcx.out j hlt
        rw [hbit] at hc1
        have Hc1 := Lib.hid hc1
        clear hc1 hbit
        go_loopg [9] 32 (fun k i wx => ∃ (m : Nat) (rm : List Bool), m + k = 32 ∧ i = .int .i64 m ∧ wx.ownsRow g3 4 1 (.slice (some ⟨g3, 0, none⟩) 63 63) 63 (blvs rm) ∧ Cx.MulIn r b j m rm ∧ Below g3 w2 wx)
        case atStart => exact ⟨0, r, by omega, rfl, Hown.out, Cx.MulIn.zero Hout.out.1, hb⟩
        case round =>
          obtain ⟨m, rm, hm, rfl, hown, hin, hbx⟩ := hrel
          have Hownm := Lib.hid hown
          have Hin := Lib.hid hin
          clear hown hin
          by_cases hm32 : m < 32
          · have hcx := (hbx.cell (p := ⟨g1, j, none⟩) hg13).trans Hc1.out
            have hcy := (hbx.cell (p := ⟨g2, m, none⟩) hg3').trans (Hcy.out m hm32)
            have t1 : (m : Int) < 32 := by omega
            have hrl : rm.length = 63 := Hin.out.1
            obtain ⟨x, hx⟩ : ∃ x, rm[j + m]? = some x := ⟨rm[j + m]'(by omega), List.getElem?_eq_getElem _⟩
            have Hst := Lib.hid (Cx.MulIn.step hlt hm32 Hin.out hx)
            have hc3 := Hownm.out.cellAt (j + m) (by omega)
            rw [blvs_get? rm _ x hx] at hc3
            have hf3 := Hownm.out.frozenAt (j + m)
            have Hx := Lib.hid hx
            have t2 : (j : Int) + (m : Int) < 63 := by omega
            have t3 : ((j : Int) + (m : Int)).toNat = j + m := by omega
            clear hx hrl
            rcases hbm : b.getLsbD m with _ | _
            all_goals
              rw [hbm] at hcy Hst
              clear hbm
            · have Hs2 : Hid (Cx.MulIn r b j (m + 1) rm) := by
                have e : rm.set (j + m) (x ^^ false) = rm := by
                  rw [Bool.xor_false]
                  obtain ⟨h1, h2⟩ := List.getElem?_eq_some_iff.1 Hx.out
                  rw [← h2]
                  exact List.set_getElem_self h1
                rw [e] at Hst
                exact Hst
              go_wp2_with fail
              go_roundg (gk - 1)
              case measure => omega
              case rel => exact ⟨m + 1, rm, by omega, by go_num, Hownm.out, Hs2.out, hbx⟩
            · rw [show (x ^^ true) = !x by cases x <;> rfl] at Hst
              go_wp2_with fail
              go_roundg (gk - 1)
              case measure => omega
              case rel =>
                obtain ⟨hst, _⟩ := Hownm.out.stored (j + m) (.bool (!x))
                rw [← blvs_set] at hst
                exact ⟨m + 1, _, by omega, by go_num, hst, Hst.out, hbx.setCell (Nat.le_refl _) _⟩
          · obtain rfl : m = 32 := by omega
            go_wp2_with fail
            go_roundg (G - 1)
            case measure => omega
            case rel => exact ⟨j + 1, rm, by omega, by go_num, Hownm.out, Cx.MulOut.on hlt Hout.out Hbit.out Hin.out, hbx⟩
    · obtain rfl : j = 32 := by omega
      have Hval := Lib.hid Hout.out.done
      have hrl := Hout.out.1
      have Hrd := Lib.hid (Rd.of_own Hown.out)
      have Hrl := Lib.hid hrl
      clear hrl
      go_wp2_with fail
      have hleft := left_any (some ⟨g3, 0, none⟩) r 63 wr Hrd.out (by rw [Hrl.out]; omega) (by rw [Hrl.out]; omega)
      rw [Hrl.out] at hleft
      refine hleft.mono ?_
      rintro e w4 ⟨g4, o4, c4, r4, rfl, hc4, hr4, hl4, hv4, b4⟩
      have Hr4 := Lib.hid hr4.rd
      have Hl4 := Lib.hid hl4
      have Hv4 := Lib.hid (hv4.trans Hval.out)
      have hbw := hb2.trans ((hb.trans (b4.mono (by have := hb.size; omega))).mono hwg)
      clear hr4 hl4 hv4 hleft
      go_wp2_with fail
      refine (bits_any _ r4 _ _ _ Hr4.out Hl4.out).mono ?_
      rintro e w5 ⟨rfl, rfl⟩
      rw [Hv4.out]
      go_wp2_with fail
      go_ret
      exact ⟨rfl, hbw⟩

theorem rpower_arg (n : Int) (w : World) (h0 : n < 0) :
    Calls Tryd.prog 19 #[.int .i64 n] w fun e w' => e = .returned (.tuple #[.int .u32 0, .int .i64 1]) ∧ w = w' := by
  go_enter Tryd.func19, Tryd.ntmps19
  go_wp2_with fail
  go_ret2
  exact ⟨rfl, rfl⟩
theorem rpower_nat (N : Nat) : ∀ (w : World), N < 9223372036854775808 →
    Calls Tryd.prog 19 #[.int .i64 (N : Int)] w fun e w' => e = .returned (.tuple #[.int .u32 (Cx.xp (8 * N)).toNat, .int .i64 0]) ∧ Below w.heap.size w w' := by
  induction N using Nat.strongRecOn with
  | _ N ih =>
    intro w hN
    by_cases h0 : N = 0
    · subst h0
      go_enter Tryd.func19, Tryd.ntmps19
      go_wp2_with fail
      go_ret2
      exact ⟨rfl, Below.refl _ _⟩
    · obtain ⟨m, hm⟩ : ∃ m : Nat, (N : Int) / 2 = (m : Int) := ⟨N / 2, by omega⟩
      have hrec := ih m (by omega) w (by omega)
      have Hih := Lib.hid hrec
      have t0 : ((N : Int) == 0) = false := by simp; omega
      have t1 : (0 : Int) ≤ (N : Int) := by omega
      have t2 : (N : Int) ≤ 9223372036854775807 := by omega
      have Hm := Lib.hid hm
      clear ih hrec hN h0
      have hmod : ((N : Int) % 2 == 1) = true ∧ N = 2 * m + 1 ∨ ((N : Int) % 2 == 1) = false ∧ N = 2 * m := by
        have := Hm.out
        rcases Nat.mod_two_eq_zero_or_one N with h | h
        · exact .inr ⟨by simp; omega, by omega⟩
        · exact .inl ⟨by simp; omega, by omega⟩
      rcases hmod with ⟨t3, hN⟩ | ⟨t3, hN⟩
      · have HN := Lib.hid hN
        clear hN
        go_enter Tryd.func19, Tryd.ntmps19
        go_wp2_with fail
        refine Hih.out.mono ?_
        rintro e w1 ⟨rfl, b1⟩
        go_wp2_with fail
        refine (rtimes_any _ _ _).mono ?_
        rintro e w2 ⟨rfl, b2⟩
        have hb2 := b1.trans (b2.mono b1.size)
        go_wp2_with fail
        refine (rtimes_any _ 0x800000#32 _).mono ?_
        rintro e w3 ⟨rfl, b3⟩
        have hb3 := hb2.trans (b3.mono hb2.size)
        go_wp2_with fail
        go_ret2
        refine ⟨?_, hb3⟩
        rw [show Cx.xp (8 * N) = Cx.mul (Cx.mul (Cx.xp (8 * m)) (Cx.xp (8 * m))) 0x800000#32 by rw [← Cx.xp_8, Cx.xp_add, Cx.xp_add]; congr 1; have := HN.out; omega]
        rfl
      · have HN := Lib.hid hN
        clear hN
        go_enter Tryd.func19, Tryd.ntmps19
        go_wp2_with fail
        refine Hih.out.mono ?_
        rintro e w1 ⟨rfl, b1⟩
        go_wp2_with fail
        refine (rtimes_any _ _ _).mono ?_
        rintro e w2 ⟨rfl, b2⟩
        have hb2 := b1.trans (b2.mono b1.size)
        go_wp2_with fail
        go_ret2
        refine ⟨?_, hb2⟩
        rw [show Cx.xp (8 * N) = Cx.mul (Cx.xp (8 * m)) (Cx.xp (8 * m)) by rw [Cx.xp_add]; congr 1; have := HN.out; omega]
        rfl
theorem rpower_ok (n : Int) (w : World) (h0 : 0 ≤ n) (h1 : n < 9223372036854775808) :
    Calls Tryd.prog 19 #[.int .i64 n] w fun e w' => e = .returned (.tuple #[.int .u32 (Cx.xp (8 * n.toNat)).toNat, .int .i64 0]) ∧ Below w.heap.size w w' := by
  obtain ⟨N, rfl⟩ := Int.eq_ofNat_of_zero_le h0
  rw [Int.toNat_natCast]
  exact rpower_nat N w (by omega)

theorem rjoin_arg (a b : Int) (n : Int) (w : World) (h0 : n < 0) :
    Calls Tryd.prog 21 #[.int .u32 a, .int .u32 b, .int .i64 n] w fun e w' => e = .returned (.tuple #[.int .u32 0, .int .i64 1]) ∧ w = w' := by
  have hp := rpower_arg n w h0
  go_enter Tryd.func21, Tryd.ntmps21
  go_wp2_with fail
  refine hp.mono ?_
  rintro e w1 ⟨rfl, rfl⟩
  go_wp2_with fail
  go_ret2
  exact ⟨rfl, rfl⟩
/-- two rows, the first k places xored -/
def xorL (a b : BitVec 32) (k : Nat) : List Bool := (List.range 32).map fun i => if i < k then a.getLsbD i ^^ b.getLsbD i else a.getLsbD i
theorem xorL_zero (a b : BitVec 32) : xorL a b 0 = Cx.rowL a 32 := by simp [xorL, Cx.rowL]
theorem xorL_length (a b : BitVec 32) (k : Nat) : (xorL a b k).length = 32 := by simp [xorL]
theorem xorL_get (a b : BitVec 32) (k : Nat) (h : k < 32) : (xorL a b k)[k]? = some (a.getLsbD k) := by simp [xorL, h]
theorem xorL_succ (a b : BitVec 32) (k : Nat) : (xorL a b k).set k (a.getLsbD k ^^ b.getLsbD k) = xorL a b (k + 1) := by
  apply List.ext_getElem?
  intro i
  rcases Nat.lt_or_ge i 32 with h | h
  · by_cases e : i = k
    · subst e
      rw [List.getElem?_set_self (by simpa [xorL] using h)]
      simp [xorL, h]
    · rw [List.getElem?_set_ne (Ne.symm e)]
      simp only [xorL, List.getElem?_map, List.getElem?_range h, Option.map_some]
      congr 1
      by_cases h1 : i < k
      · simp [h1, show i < k + 1 by omega]
      · simp [h1, show ¬ i < k + 1 by omega]
  · rw [List.getElem?_eq_none (by simp [xorL]; omega), List.getElem?_eq_none (by simp [xorL]; omega)]
theorem xorL_all (a b : BitVec 32) : Cx.val (xorL a b 32) = a ^^^ b := by
  have : xorL a b 32 = Cx.rowL (a ^^^ b) 32 := by
    unfold xorL Cx.rowL
    apply List.map_congr_left
    intro i hi
    rw [List.mem_range] at hi
    simp [hi]
  rw [this, Cx.val_rowL]
set_option maxRecDepth 100000 in
set_option maxHeartbeats 2000000 in
theorem rjoin_ok (a b : BitVec 32) (n : Int) (w : World) (h0 : 0 ≤ n) (h1 : n < 9223372036854775808) :
    Calls Tryd.prog 21 #[.int .u32 a.toNat, .int .u32 b.toNat, .int .i64 n] w fun e w' => e = .returned (.tuple #[.int .u32 (Cx.join a b n.toNat).toNat, .int .i64 0]) ∧ Below w.heap.size w w' := by
  have hp := rpower_ok n w h0 h1
  go_enter Tryd.func21, Tryd.ntmps21
  go_wp2_with fail
  refine hp.mono ?_
  rintro e w1 ⟨rfl, b1⟩
  clear hp
  generalize hx : Cx.xp (8 * n.toNat) = p
  have Hp := Lib.hid hx
  clear hx
  go_wp2_with fail
  refine (rtimes_any _ _ _).mono ?_
  rintro e w2 ⟨rfl, b2⟩
  have hb2 := b1.trans (b2.mono b1.size)
  have Hc := Lib.hid (Cx.mul_comm p a)
  generalize Cx.mul p a = q at *
  clear b1 b2
  go_wp2_with fail
  refine (row_any _ _).mono ?_
  rintro e w3 ⟨v3, rfl, hown3, b3⟩
  obtain ⟨g3, c3, rfl, hg3, hg3'⟩ := hown3.form (by omega)
  have H3 := Lib.hid hown3
  have hb3 := hb2.trans (b3.mono hb2.size)
  clear hown3
  go_wp2_with fail
  refine (row_any _ _).mono ?_
  rintro e w4 ⟨v4, rfl, hown4, b4⟩
  obtain ⟨g4, c4, rfl, hg4, hg4'⟩ := hown4.form (by omega)
  have H3' := Lib.hid (own_ge H3.out b4 hg3')
  have hb4 := hb3.trans (b4.mono hb3.size)
  have hne : g3 ≠ g4 := by omega
  have hcy : ∀ k, k < 32 → w4.cell? ⟨g4, k, none⟩ = some (.bool (b.getLsbD k)) := fun k hk => by
    rw [hown4.cellAt k hk, blvs_get? _ k _ (Cx.rowL_get b k hk)]
  have Hcy := Lib.hid hcy
  have hwg : w.heap.size ≤ g3 := by have := hb2.size; omega
  clear hown4 hcy H3 b3 b4 hb3 hb2
  go_wp2_with fail
  go_loopg [12] 32 (fun k i wr => ∃ j : Nat, j + k = 32 ∧ i = .int .i64 j ∧ wr.ownsRow w2.heap.size 4 1 (.slice (some ⟨g3, 0, none⟩) 32 c3) 32 (blvs (xorL q b j)) ∧ (∀ m, m < 32 → wr.cell? ⟨g4, m, none⟩ = some (.bool (b.getLsbD m))) ∧ Below w.heap.size w wr)
  case atStart => exact ⟨0, by omega, rfl, by rw [xorL_zero]; exact H3'.out, Hcy.out, hb4⟩
  case round =>
    obtain ⟨j, hj, rfl, hown, hcy, hb⟩ := hrel
    have Hown := Lib.hid hown
    have Hy := Lib.hid hcy
    clear hown hcy
    by_cases hlt : j < 32
    · have hc1 := Hown.out.cellAt j hlt
      rw [blvs_get? _ j _ (xorL_get q b j hlt)] at hc1
      have hf1 := Hown.out.frozenAt j
      have hc2 := Hy.out j hlt
      have hxy := bne_xor (q.getLsbD j) (b.getLsbD j)
      have Hst := Lib.hid (xorL_succ q b j)
      generalize (q.getLsbD j ^^ b.getLsbD j) = z at hxy Hst
      generalize q.getLsbD j = x at hxy hc1
      generalize b.getLsbD j = y at hxy hc2
      have t1 : (j : Int) < 32 := by omega
      go_wp2_with fail
      go_region
      go_wp2_with fail
      go_roundg (gk - 1)
      case measure => omega
      case rel =>
        obtain ⟨hst, _⟩ := Hown.out.stored j (.bool z)
        rw [← blvs_set, Hst.out] at hst
        refine ⟨j + 1, by omega, by go_num, hst.drew, fun m hm => ?_, (hb.setCell hwg _).drew⟩
        have := Hy.out m hm
        exact (World.cell?_setCell_other _ _ _ _ (by simp only [ne_eq, Addr.mk.injEq]; omega)).trans this
    · obtain rfl : j = 32 := by omega
      have Hrd := Lib.hid (Rd.of_own Hown.out)
      go_wp2_with fail
      refine (bits_any _ (xorL q b 32) _ _ _ Hrd.out (xorL_length _ _ _)).mono ?_
      rintro e w5 ⟨rfl, rfl⟩
      go_wp2_with fail
      go_ret2
      refine ⟨?_, hb⟩
      rw [xorL_all, Cx.join, Hp.out, ← Hc.out]
      rfl
end Go.Proofs.YtcgcopkalcjmpaaDoor
