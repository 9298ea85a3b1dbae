
/-
  The walk of the law HeadIs: it returns true, and writes nothing that was there. (printed by tools/gen/hd_is.py)
-/
import Derived.Test.YtggijjknfcofoaaDoorHdKn
import Derived.Test.YtggijjknfcofoaaDoorCutM
import Derived.Test.YtggijjknfcofoaaDoorStep
import Derived.Test.YtggijjknfcofoaaDoorRegion
import Derived.Deep.RegionHeld3
import Derived.Deep.LoopGhost
import Derived.OpenShut
set_option linter.unusedVariables false
set_option linter.unusedSimpArgs false
namespace Go.Proofs.YtggijjknfcofoaaDoor.headIs
open Go.RowKit
open Go.Proofs.YtggijjknfcofoaaDoor.Hd
theorem u32_letter {a : Int} (h : (Lit.int .u32 a).wf = true) : ∃ v : BitVec 32, a = (v.toNat : Int) := by
  obtain ⟨p, q⟩ := bounds_u32 h
  obtain ⟨n, rfl⟩ := Int.eq_ofNat_of_zero_le p
  exact ⟨BitVec.ofNat 32 n, by rw [BitVec.toNat_ofNat, Nat.mod_eq_of_lt (by omega)]⟩
theorem or_one (b : BitVec 32) : ∃ c : BitVec 32, bits .or .u32 (b.toNat : Int) 1 = (c.toNat : Int) ∧ c.getLsbD 0 = true := by
  refine ⟨b ||| 1#32, ?_, by simp⟩
  rw [show (1 : Int) = (((1#32 : BitVec 32).toNat : Nat) : Int) by rfl, u32_or_nat _ _ b.isLt (by decide), BitVec.toNat_or]
theorem and_max (b : BitVec 32) : ∃ c : Nat, bits .and .u32 (b.toNat : Int) 16777215 = (c : Int) ∧ c ≤ 16777215 := by
  refine ⟨b.toNat &&& 16777215, ?_, Nat.and_le_right⟩
  rw [show (16777215 : Int) = ((16777215 : Nat) : Int) by rfl, u32_and_nat _ _ b.isLt (by omega)]
theorem bit_j (b : BitVec 32) (j : Nat) : (bits .and .u32 ((b.toNat : Int) / 2 ^ j) 1 == 1) = b.getLsbD j := by
  have e : (b.toNat : Int) / 2 ^ j = ((b.toNat / 2 ^ j : Nat) : Int) := by simp
  have hlt : b.toNat / 2 ^ j < 4294967296 := Nat.lt_of_le_of_lt (Nat.div_le_self _ _) b.isLt
  rw [e, show (1 : Int) = ((1 : Nat) : Int) by rfl, u32_and_nat _ _ hlt (by omega), nat_mask1, BitVec.getLsbD, Nat.testBit_eq_decide_div_mod_eq]
  rw [Bool.eq_iff_iff]
  simp
  omega
theorem turn8 (x : UInt8) (q : Nat) (h : q < 8) : bits .xor .u8 (x.toNat : Int) (2 ^ q % 256) = ((x ^^^ UInt8.ofNat (2 ^ q)).toNat : Int) := by
  have e : (2 ^ q % 256 : Int) = ((UInt8.ofNat (2 ^ q)).toNat : Int) := by
    have : q = 0 ∨ q = 1 ∨ q = 2 ∨ q = 3 ∨ q = 4 ∨ q = 5 ∨ q = 6 ∨ q = 7 := by omega
    rcases this with rfl | rfl | rfl | rfl | rfl | rfl | rfl | rfl <;> rfl
  rw [e, u8_xor_nat _ _ (UInt8.toNat_lt x) (UInt8.toNat_lt _), UInt8.toNat_xor]
theorem bs_cut {w : World} {B m c : Nat} {A : Option Addr} {l : List UInt8} (h : Bs w B (.slice A m c) l) : Rd w B A (bvs l) ∧ m = l.length := by
  obtain ⟨A2, c2, e, _, hr⟩ := h
  injection e with e1 e2 e3
  subst e1 e2 e3
  exact ⟨hr, rfl⟩
/-- what is known of a head's bytes -/
structure Facts (K I : Nat) (R : List UInt8) : Prop where
  len : R.length = 16
  get : ∀ m, getQ (R ++ m) = (K, I, 0)
  chk : ∀ m k n, checkN (R ++ m) k n = if (K : Int) = k ∧ (I : Int) = n then 0 else 23
  tget : ∀ (b : BitVec 32) (first t : Nat) (l : List UInt8), Cx.turned R b first t l → t ≤ 32 → 0 < t → b.getLsbD 0 = true → ∀ m, getQ (l ++ m) = (0, 0, 23)
  tchk : ∀ (b : BitVec 32) (first t : Nat) (l : List UInt8), Cx.turned R b first t l → t ≤ 32 → 0 < t → b.getLsbD 0 = true → ∀ m k n, checkN (l ++ m) k n = 23
  short : ∀ j, j < 16 → getQ (R.take j) = (0, 0, 22)
theorem facts {K I : Nat} (h : mayB K I = true) : Facts K I (headL K I) :=
  ⟨headL_length K I, get_head h, check_head h, fun _ _ _ _ ht hk h0 hb => get_turned ht hk h0 hb, fun _ _ _ _ ht hk h0 hb => check_turned ht hk h0 hb, fun j hj => get_short (by rw [List.length_take]; omega)⟩
set_option maxRecDepth 100000 in
set_option maxHeartbeats 16000000 in
theorem walk_z0 (a0 : Int) (hid : bits .and .u32 a0 16777215 = 0) (v1 : Value) (l : List UInt8) (a2 : Int) (b : BitVec 32) (x4 y4 k4 : Int) (w : World) (hbs : Bs w w.heap.size v1 l) (hll : l.length ≤ 140737488351232) (h20 : 0 ≤ a2) (h21 : a2 ≤ 255) (p4 : 0 ≤ x4) (h4 : x4 % 4 = k4) (h40 : 0 ≤ k4) (h41 : k4 < 4) (e1 : (k4 == 2) = false) (ht : Crc.Tab w) :
    Calls Tryd.prog 6 #[.int .u32 a0, v1, .int .u8 a2, .int .u32 (b.toNat : Int), .agg #[.int .u32 x4, .int .u32 y4]] w fun e w' => e = .returned (.bool true) ∧ Below w.heap.size w w' := by
  obtain ⟨i0, hi0', hz0, hz1, hz2⟩ := info_parts byte_info
  obtain ⟨A1, c1, k1, A1', c1', rfl, m1, hk1, cut1, s1⟩ := cut_min v1 l w.heap.size 50 w hbs
  have e50 : ((50 : Nat) : Int) = 50 := rfl
  rw [e50] at m1
  have hm : mayB ((2 : Nat) : Int) ((0 : Nat) : Int) = true := by decide
  have hF := facts hm
  have b0 := hbnew w (.cells #[.int .u32 x4, .int .u32 y4] 60)
  have hp : Calls Tryd.prog 22 #[.int .i64 2, .int .u32 0] (w.alloc (.cells #[.int .u32 x4, .int .u32 y4] 60)) _ := put_ok 2 0 _ hm (ht.on b0)
  have hx0 : (w.alloc (.cells #[.int .u32 x4, .int .u32 y4] 60)).cell? ⟨w.heap.size, 0, none⟩ = some (.int .u32 x4) := by
    rw [cell_of_row _ w.heap.size 0 #[.int .u32 x4, .int .u32 y4] 60 (0, 0) (heap_alloc_new w _)]; rfl
  have hx1 : (w.alloc (.cells #[.int .u32 x4, .int .u32 y4] 60)).cell? ⟨w.heap.size, 1, none⟩ = some (.int .u32 y4) := by
    rw [cell_of_row _ w.heap.size 1 #[.int .u32 x4, .int .u32 y4] 60 (0, 0) (heap_alloc_new w _)]; rfl
  generalize headL 2 0 = R at hp hF
  have hck : (if ((2 : Nat) : Int) = k4 ∧ ((0 : Nat) : Int) = y4 then 0 else 23) = 23 := by
    simp at e1
    rw [if_neg (fun h => e1 h.1.symm)]
  have HCK := Lib.hid hck
  have HP := Lib.hid hp
  have HF := Lib.hid hF
  have HT := Lib.hid ht
  have B0 := Lib.hid b0
  have HX0 := Lib.hid hx0
  have HX1 := Lib.hid hx1
  have HBS := Lib.hid hbs
  have S1 := Lib.hid s1
  have HK1 : Hid (k1 = (l.take 50).length) := Lib.hid (bs_cut (s1 w w.heap.size hbs)).2
  have z2 : IntKind.i64.wrap a2 = a2 := IntWalk.i64_in _ (by omega)
  have z4 : IntKind.i64.wrap k4 = k4 := IntWalk.i64_in _ (by omega)
  obtain ⟨b', hb', hb0⟩ := or_one b
  have Hb0 := Lib.hid hb0
  obtain ⟨f, hf⟩ := Int.eq_ofNat_of_zero_le (show 0 ≤ a2 % 128 by omega)
  have hf2 : f < 128 := by omega
  have H4 := Lib.hid (And.intro h40 h41)
  clear hck hp hF ht b0 hx0 hx1 hbs s1 hb0 hm e50 h40 h41 h21
  generalize hn : l.length = n at *
  have Hn := Lib.hid hn
  clear hn
  go_enter Tryd.func6, Tryd.ntmps6
  go_wp2_with fail
  refine HP.out.mono ?_
  rintro e w1 ⟨v1, rfl, hown1, hb1⟩
  obtain ⟨g, cap, rfl, hgg, hgl⟩ := hown1.form (by omega)
  have hcap : 16 ≤ cap := by have := own_slice hown1; obtain ⟨A2, c2, e2', h2, _⟩ := this; injection e2' with _ _ e3; omega
  have B1 := Lib.hid (hbstep B0.out hb1)
  have HX0 := Lib.hid ((hb1.cell (p := ⟨w.heap.size, 0, none⟩) (by simp)).trans HX0.out)
  have HX1 := Lib.hid ((hb1.cell (p := ⟨w.heap.size, 1, none⟩) (by simp)).trans HX1.out)
  have O1 := Lib.hid (Rd.of_own hown1)
  have hsw1 : w.heap.size < w1.heap.size := by have := hb1.size; simp at this; omega
  clear hown1 hb1 hgg
  go_wp2_with fail
  go_loopg [14, 15, 16, 17] 16 (fun gh iv _ _ _ wr => ∃ j : Nat, j + gh = 16 ∧ iv = .int .i64 j ∧ Below w1.heap.size w1 wr)
  case atStart => exact ⟨0, by omega, rfl, Below.refl _ _⟩
  case round =>
    obtain ⟨j, hj, rfl, hb⟩ := hrel
    have Hb := Lib.hid hb
    clear hb
    by_cases hlt : j < 16
    · obtain ⟨A', c', hcut, hc', hcr⟩ := cut_h (some ⟨g, 0, none⟩) 16 cap j (by omega) hcap
      have hl16 : (j : Int) < 16 := by omega
      have hg := Hd.get_any (.slice A' j c') (R.take j) w1.heap.size wr ⟨A', c', by rw [List.length_take, HF.out.len, Nat.min_eq_left (by omega)], by rw [List.length_take, HF.out.len]; omega, hcr _ _ _ HF.out.len (O1.out.below Hb.out (Nat.le_refl _))⟩ Hb.out.size (by rw [List.length_take]; omega) (HT.out.on (hbstep B1.out Hb.out)) _ (HF.out.short j hlt)
      have Hg := Lib.hid hg
      clear hg hcr
      go_wp2_with fail
      refine Hg.out.mono ?_
      rintro e w2 ⟨rfl, hb2⟩
      have Hb2 := Lib.hid (Hb.out.trans (hb2.mono Hb.out.size))
      clear hb2 Hg
      go_wp2_with fail
      go_roundg (gk - 1)
      case measure => omega
      case rel => exact ⟨j + 1, by omega, by go_num, Hb2.out⟩
    · obtain rfl : j = 16 := by omega
      go_wp2_with fail
      have hd : Below w1.heap.size w1 wr.drew := below_drewN Hb.out 1
      have HD := Lib.hid hd
      have BD := Lib.hid (hbstep B1.out hd)
      have S1D := Lib.hid hd.size
      refine wp_region_noPanic ?_
      refine wp_region_held_drew (S := fun _ => True) (by kernel_rfl) trivial (fun hHeld => ?_)
      clear hd Hb
      generalize World.drew _ = W2 at *
      refine wpAnyH_take (i := 0) (v := ?_) opAt_0 (by kernel_rfl) (by kernel_rfl) (by kernel_rfl) (fun _ _ _ h => h) (Or.inl ⟨by rfl, ?_⟩) trivial ?_
      rotate_left
      · (intro w hSw; go_simp; try with_reducible rfl)
      try simp only [Act.put, List.setIfInBounds_toArray, List.set_cons_zero, List.set_cons_succ]
      refine wpAnyH_take (i := 2) (v := ?_) opAt_2 (by kernel_rfl) (by kernel_rfl) (by kernel_rfl) (fun _ _ _ h => h) (Or.inl ⟨by rfl, ?_⟩) trivial ?_
      rotate_left
      · (intro w hSw; go_simp; try with_reducible rfl)
      try simp only [Act.put, List.setIfInBounds_toArray, List.set_cons_zero, List.set_cons_succ]
      refine wpAnyH_take (i := 3) (v := ?_) opAt_3 (by kernel_rfl) (by kernel_rfl) (by kernel_rfl) (fun _ _ _ h => h) (Or.inl ⟨by rfl, ?_⟩) trivial ?_
      rotate_left
      · (intro w hSw; go_simp; try with_reducible rfl)
      try simp only [Act.put, List.setIfInBounds_toArray, List.set_cons_zero, List.set_cons_succ]
      refine wpAnyH_take (i := 4) (v := ?_) opAt_4 (by kernel_rfl) (by kernel_rfl) (by kernel_rfl) (fun _ _ _ h => h) (Or.inl ⟨by rfl, ?_⟩) trivial ?_
      rotate_left
      · (intro w hSw; go_simp; try with_reducible rfl)
      try simp only [Act.put, List.setIfInBounds_toArray, List.set_cons_zero, List.set_cons_succ]
      refine wpAnyH_take (i := 5) (v := ?_) opAt_5 (by kernel_rfl) (by kernel_rfl) (by kernel_rfl) (fun _ _ _ h => h) (Or.inl ⟨by rfl, ?_⟩) trivial ?_
      rotate_left
      · (intro w hSw; go_simp; try with_reducible rfl)
      try simp only [Act.put, List.setIfInBounds_toArray, List.set_cons_zero, List.set_cons_succ]
      refine wpAnyH_take (i := 6) (v := ?_) opAt_6 (by kernel_rfl) (by kernel_rfl) (by kernel_rfl) (fun _ _ _ h => h) (Or.inl ⟨by rfl, ?_⟩) trivial ?_
      rotate_left
      · (intro w hSw; go_simp; try with_reducible rfl)
      try simp only [Act.put, List.setIfInBounds_toArray, List.set_cons_zero, List.set_cons_succ]
      refine wpAnyH_ready (rs := [1]) (by kernel_rfl) (by simp) ?_
      refine AllReadyH.cons rfl (fun K hK => ?_) AllReadyH.nil
      refine step_append_rd (o := (⟨some 58, _, _, _, _, _⟩ : Oper)) _ rfl (.const (.slice none 0 0)) (.tmp 57) 30 rfl W2.heap.size 5 i0 (.int .u8 0) 1 1 Tryd.underlying30 hi0' hz0 hz1 hz2 rfl (by omega) (.slice none 0 0) 0 [] rfl (World.ownsRow_nil _ _ _ _) w1.heap.size (some ⟨g, 0, none⟩) 16 cap (bvs R) rfl (by rw [bvs_length, HF.out.len]) (O1.out.below HD.out (Nat.le_refl _)) (bvs_one _) (by unfold maxLen; omega) (by omega) (Nat.le_refl _) ?_
      intro v3 w3 hown3 hb3 _
      have HO3 := Lib.hid hown3
      have HB3 := Lib.hid hb3
      have RB3 := Lib.hid (bs_cut (S1.out w3 w.heap.size (HBS.out.below (hbstep BD.out hb3) (Nat.le_refl _)))).1
      have hs3 := hb3.size
      clear hown3 hb3
      dsimp only [Act.put, Array.getElem_toList, List.getElem_toArray, List.getElem_cons_succ, List.getElem_cons_zero]
      refine hK.out _ _ trivial (fun _ => ?_)
      try simp only [Act.put, List.setIfInBounds_toArray, List.set_cons_zero, List.set_cons_succ]
      clear hK K
      refine wpAnyH_ready (rs := [7]) (by kernel_rfl) (by simp) ?_
      refine AllReadyH.cons rfl (fun K hK => ?_) AllReadyH.nil
      refine step_append_rd (o := (⟨some 64, _, _, _, _, _⟩ : Oper)) _ rfl (.tmp 58) (.tmp 63) 30 rfl W2.heap.size 5 i0 (.int .u8 0) 1 1 Tryd.underlying30 hi0' hz0 hz1 hz2 rfl (by omega) v3 (0 + 16) ([] ++ bvs R) rfl HO3.out w.heap.size A1' k1 c1' (bvs (l.take 50)) rfl (by rw [bvs_length, Nat.mul_one]; exact HK1.out.symm) RB3.out (bvs_one _) (by unfold maxLen; omega) (by omega) hs3 ?_
      intro v4 w4 hown4 hb4 _
      rw [List.nil_append, ← bvs_append, show 0 + 16 + k1 = 16 + k1 by omega] at hown4
      obtain ⟨g2, cap2, rfl, hge2, hgl2⟩ := hown4.form (by omega)
      have HO4 := Lib.hid hown4
      have HB4 := Lib.hid (HB3.out.trans hb4)
      have hs4 := Nat.le_trans hs3 hb4.size
      clear hown4 hb4 HO3 HB3 RB3
      dsimp only [Act.put, Array.getElem_toList, List.getElem_toArray, List.getElem_cons_succ, List.getElem_cons_zero]
      refine hK.out _ _ trivial (fun _ => ?_)
      try simp only [Act.put, List.setIfInBounds_toArray, List.set_cons_zero, List.set_cons_succ]
      clear hK K
      refine wpAnyH_take (i := 8) (v := ?_) opAt_8 (by kernel_rfl) (by kernel_rfl) (by kernel_rfl) (fun _ _ _ h => h) (Or.inl ⟨by rfl, ?_⟩) trivial ?_
      rotate_left
      · (intro w hSw; go_simp; try with_reducible rfl)
      try simp only [Act.put, List.setIfInBounds_toArray, List.set_cons_zero, List.set_cons_succ]
      refine wpAnyH_done (by kernel_rfl) ?_ _
      refine NoPanic.normal ?_
      have HKm := Lib.hid HK1.out
      have HL : Hid ((R ++ l.take 50).length = 16 + k1) := Lib.hid (by rw [List.length_append, HF.out.len, HK1.out])
      have hk50 : k1 ≤ 50 := by rw [HK1.out, List.length_take]; omega
      have B4 := Lib.hid (hbstep BD.out HB4.out)
      have HX0 := Lib.hid ((HB4.out.cell (p := ⟨w.heap.size, 0, none⟩) (by have := S1D.out; show w.heap.size < _; omega)).trans ((HD.out.cell (p := ⟨w.heap.size, 0, none⟩) hsw1).trans HX0.out))
      have HX1 := Lib.hid ((HB4.out.cell (p := ⟨w.heap.size, 1, none⟩) (by have := S1D.out; show w.heap.size < _; omega)).trans ((HD.out.cell (p := ⟨w.heap.size, 1, none⟩) hsw1).trans HX1.out))
      have K4 := Lib.hid (Bs.of_own HO4.out)
      generalize l.take 50 = m at *
      go_wp2_with fail
      have hga : Calls Tryd.prog 24 #[.slice (some ⟨g2, 0, none⟩) (16 + k1) cap2] w4 fun e w' => e = .returned (.tuple #[.int .i64 2, .int .u32 0, .int .i64 0]) ∧ Below w4.heap.size w4 w' := Hd.get_any _ (R ++ m) _ _ K4.out (Nat.le_refl _) (by rw [HL.out]; omega) (HT.out.on B4.out) _ (HF.out.get m)
      refine hga.mono ?_
      rintro e w5 ⟨rfl, hb5⟩
      have HB5 := Lib.hid hb5
      have hs5 := hb5.size
      clear hga hb5
      go_wp2_with fail
      have hgc : Calls Tryd.prog 26 #[.slice (some ⟨g2, 0, none⟩) (16 + k1) cap2, .int .i64 2, .int .u32 0] w5 fun e w' => e = .returned (.int .i64 0) ∧ Below w5.heap.size w5 w' := Hd.check_any _ (R ++ m) _ 2 0 _ (K4.out.below HB5.out (Nat.le_refl _)) hs5 (by rw [HL.out]; omega) (HT.out.on (hbstep B4.out HB5.out)) 0 (by rw [HF.out.chk, if_pos ⟨rfl, rfl⟩])
      refine hgc.mono ?_
      rintro e w6 ⟨rfl, hb6⟩
      have HB6 := Lib.hid (HB5.out.trans (hb6.mono hs5))
      have hs6 := Nat.le_trans hs5 hb6.size
      have hx0 := (HB6.out.cell (p := ⟨w.heap.size, 0, none⟩) (by have := S1D.out; show w.heap.size < _; omega)).trans HX0.out
      have hx1 := (HB6.out.cell (p := ⟨w.heap.size, 1, none⟩) (by have := S1D.out; show w.heap.size < _; omega)).trans HX1.out
      clear hgc hb6 HB5
      go_wp2_with fail
      have HB7 : Hid (Below w4.heap.size w4 w6.drew) := Lib.hid (below_drewN HB6.out 1)
      have hs7 : w4.heap.size ≤ w6.drew.heap.size := hs6
      clear HB6
      refine wp_region_noPanic ?_
      refine wp_region_held_drew (S := fun w' : World => w'.cell? ⟨w.heap.size, 0, none⟩ = some (.int .u32 x4) ∧ w'.cell? ⟨w.heap.size, 1, none⟩ = some (.int .u32 y4)) (by kernel_rfl) (⟨hx0, hx1⟩) (fun hHeld => ?_)
      refine wpAnyH_take (i := 0) (v := ?_) opAt_0 (by kernel_rfl) (by kernel_rfl) (by kernel_rfl) (fun _ _ _ h => h) (Or.inl ⟨by rfl, ?_⟩) (by assumption) ?_
      rotate_left
      · (intro w hSw; (try dsimp only at hSw); go_simp; try with_reducible rfl)
      try simp only [Act.put, List.setIfInBounds_toArray, List.set_cons_zero, List.set_cons_succ]
      refine wpAnyH_take (i := 1) (v := ?_) opAt_1 (by kernel_rfl) (by kernel_rfl) (by kernel_rfl) (fun _ _ _ h => h) (Or.inl ⟨by rfl, ?_⟩) (by assumption) ?_
      rotate_left
      · (intro w hSw; (try dsimp only at hSw); go_simp; try with_reducible rfl)
      try simp only [Act.put, List.setIfInBounds_toArray, List.set_cons_zero, List.set_cons_succ]
      refine wpAnyH_take (i := 2) (v := ?_) opAt_2 (by kernel_rfl) (by kernel_rfl) (by kernel_rfl) (fun _ _ _ h => h) (Or.inl ⟨by rfl, ?_⟩) (by assumption) ?_
      rotate_left
      · (intro w hSw; (try dsimp only at hSw); go_simp; try with_reducible rfl)
      try simp only [Act.put, List.setIfInBounds_toArray, List.set_cons_zero, List.set_cons_succ]
      refine wpAnyH_take (i := 3) (v := ?_) opAt_3 (by kernel_rfl) (by kernel_rfl) (by kernel_rfl) (fun _ _ _ h => h) (Or.inl ⟨by rfl, ?_⟩) (by assumption) ?_
      rotate_left
      · (intro w hSw; (try dsimp only at hSw); go_simp; try with_reducible rfl)
      try simp only [Act.put, List.setIfInBounds_toArray, List.set_cons_zero, List.set_cons_succ]
      refine wpAnyH_take (i := 6) (v := ?_) opAt_6 (by kernel_rfl) (by kernel_rfl) (by kernel_rfl) (fun _ _ _ h => h) (Or.inl ⟨by rfl, ?_⟩) (by assumption) ?_
      rotate_left
      · (intro w hSw; (try dsimp only at hSw); go_simp; try with_reducible rfl)
      try simp only [Act.put, List.setIfInBounds_toArray, List.set_cons_zero, List.set_cons_succ]
      refine wpAnyH_take (i := 4) (v := ?_) opAt_4 (by kernel_rfl) (by kernel_rfl) (by kernel_rfl) (fun _ _ _ h => h) (Or.inl ⟨by rfl, ?_⟩) (by assumption) ?_
      rotate_left
      · (intro w hSw; (try dsimp only at hSw); go_simp; try with_reducible rfl)
      try simp only [Act.put, List.setIfInBounds_toArray, List.set_cons_zero, List.set_cons_succ]
      refine wpAnyH_take (i := 5) (v := ?_) opAt_5 (by kernel_rfl) (by kernel_rfl) (by kernel_rfl) (fun _ _ _ h => h) (Or.inl ⟨by rfl, ?_⟩) (by assumption) ?_
      rotate_left
      · (intro w hSw; (try dsimp only at hSw); go_simp; try with_reducible rfl)
      try simp only [Act.put, List.setIfInBounds_toArray, List.set_cons_zero, List.set_cons_succ]
      refine wpAnyH_take (i := 7) (v := ?_) opAt_7 (by kernel_rfl) (by kernel_rfl) (by kernel_rfl) (fun _ _ _ h => h) (Or.inl ⟨by rfl, ?_⟩) (by assumption) ?_
      rotate_left
      · (intro w hSw; (try dsimp only at hSw); go_simp; try with_reducible rfl)
      try simp only [Act.put, List.setIfInBounds_toArray, List.set_cons_zero, List.set_cons_succ]
      refine wpAnyH_done (by kernel_rfl) ?_ _
      refine NoPanic.normal ?_
      clear hHeld
      generalize World.drew _ = W7 at *
      go_wp2_with fail
      rw [h4]
      have hgd : Calls Tryd.prog 26 #[.slice (some ⟨g2, 0, none⟩) (16 + k1) cap2, .int .i64 k4, .int .u32 y4] W7 fun e w' => e = .returned (.int .i64 23) ∧ Below W7.heap.size W7 w' := Hd.check_any _ (R ++ m) _ k4 y4 _ (K4.out.below HB7.out (Nat.le_refl _)) hs7 (by rw [HL.out]; omega) (HT.out.on (hbstep B4.out HB7.out)) 23 (by rw [HF.out.chk]; exact HCK.out)
      refine hgd.mono ?_
      rintro e w8 ⟨rfl, hb8⟩
      have HB8 := Lib.hid (HB7.out.trans (hb8.mono hs7))
      have hs8 := Nat.le_trans hs7 hb8.size
      clear hgd hb8 HB7 hx0 hx1
      go_wp2_with fail
      rw [hf]
      have O8 : Hid (w8.ownsRow W2.heap.size 5 1 (.slice (some ⟨g2, 0, none⟩) (16 + k1) cap2) (16 + k1) (bvs (R ++ m))) := Lib.hid (own_below HO4.out HB8.out (Nat.le_refl _))
      have BW8 := Lib.hid (hbstep B4.out HB8.out)
      have hsW := Nat.le_trans hs4 hs8
      have hw2 : w.heap.size ≤ W2.heap.size := by have := S1D.out; omega
      clear HO4 K4
      clear e1 p4 h4 z2 z4 hb' cut1 m1 h20 hf
      go_loopg [25] 32 (fun gh iv wr => ∃ (j : Nat) (lj : List UInt8), j + gh = 32 ∧ j ≤ 128 - f ∧ iv = .int .i64 j ∧ wr.ownsRow W2.heap.size 5 1 (.slice (some ⟨g2, 0, none⟩) (16 + k1) cap2) (16 + k1) (bvs (lj ++ m)) ∧ Cx.turned R b' f j lj ∧ Below W2.heap.size w8 wr)
      case atStart => exact ⟨0, R, by omega, by omega, rfl, O8.out, Cx.turned_zero R b' f, Below.refl _ _⟩
      case round =>
        obtain ⟨j, lj, hj, hjf, rfl, hown, htu, hb⟩ := hrel
        have Htu := Lib.hid htu
        clear htu
        have Hlj : Hid (lj.length = 16) := Lib.hid (by rw [Htu.out.1, HF.out.len])
        by_cases hgo : j < 32 ∧ f + j < 128
        · obtain ⟨hj32, hfj⟩ := hgo
          have t1 : (j : Int) < 32 := by omega
          have t2 : (f : Int) + (j : Int) < 128 := by omega
          have hbit := bit_j b' j
          have Hown1 := Lib.hid hown
          rcases hbb : b'.getLsbD j with _ | _
          · rw [hbb] at hbit
            have Hbb := Lib.hid hbb
            clear hbb
            go_wp2_with fail
            go_roundg (gk - 1)
            case measure => omega
            case rel => exact ⟨j + 1, lj, by omega, by omega, by go_num, Hown1.out, Cx.turned_same Htu.out hj32 Hbb.out, hb⟩
          · rw [hbb] at hbit
            have Hbb := Lib.hid hbb
            clear hbb
            obtain ⟨p, hp⟩ : ∃ p : Nat, ((f : Int) + (j : Int)) / 8 = (p : Int) := ⟨(f + j) / 8, by omega⟩
            obtain ⟨q, hq⟩ : ∃ q : Nat, ((f : Int) + (j : Int)) % 8 = (q : Int) := ⟨(f + j) % 8, by omega⟩
            have hpq : f + j = 8 * p + q := by omega
            have hq8 : q < 8 := by omega
            have hpn : p < 16 := by omega
            have hpk : p < 16 + k1 := by omega
            have hcell := Hown1.out.cellAt p (by omega)
            have hfr := Hown1.out.frozenAt p
            obtain ⟨x, hx⟩ : ∃ x, lj[p]? = some x := ⟨lj[p]'(by rw [Hlj.out]; exact hpn), List.getElem?_eq_getElem _⟩
            rw [show (bvs (lj ++ m))[p]? = some (bv x) by unfold bvs; rw [List.getElem?_map, List.getElem?_append_left (by rw [Hlj.out]; exact hpn), hx]; rfl] at hcell
            unfold bv at hcell
            have Hx := Lib.hid hx
            have Hpq := Lib.hid hpq
            clear hx hpq hown
            go_wp2_with fail
            go_region
            go_wp2_with fail
            go_roundg (gk - 1)
            case measure => omega
            case rel =>
              obtain ⟨hst, _⟩ := Hown1.out.stored p (bv (x ^^^ UInt8.ofNat (2 ^ q)))
              rw [← bvs_set, List.set_append_left _ _ (by rw [Hlj.out]; exact hpn)] at hst
              unfold bv at hst
              rw [← turn8 x q hq8] at hst
              exact ⟨j + 1, lj.set p (x ^^^ UInt8.ofNat (2 ^ q)), by omega, by omega, by go_num, hst.drew, Cx.turned_bit Htu.out hj32 Hbb.out Hx.out hq8 Hpq.out, (hb.setCell hge2 _).drew⟩
        · have hj0 : 0 < j := by omega
          have hgt := HF.out.tget _ _ _ _ Htu.out (by omega) hj0 Hb0.out m
          have hgc := HF.out.tchk _ _ _ _ Htu.out (by omega) hj0 Hb0.out m 2 0
          have HGT := Lib.hid hgt
          have HGC := Lib.hid hgc
          have HBR := Lib.hid hb
          have hszr := hb.size
          have hL2 : (lj ++ m).length = 16 + k1 := by rw [List.length_append, Hlj.out, HKm.out]
          have HKR := Lib.hid (Bs.of_own hown)
          have BWR := Lib.hid (BW8.out.trans (hb.mono hw2))
          clear hgt hgc hb hown
          have hpass : (decide ((j : Int) < 32) = false) ∨ (decide ((j : Int) < 32) = true ∧ decide ((f : Int) + (j : Int) < 128) = false) := by
            by_cases h32 : j < 32
            · exact .inr ⟨by simp; omega, by simp; omega⟩
            · exact .inl (by simp; omega)
          rcases hpass with t1 | ⟨t1, t2⟩
          all_goals
            go_wp2_with fail
            have hge : Calls Tryd.prog 24 #[.slice (some ⟨g2, 0, none⟩) (16 + k1) cap2] wr fun e w' => e = .returned (.tuple #[.int .i64 0, .int .u32 0, .int .i64 23]) ∧ Below wr.heap.size wr w' := Hd.get_any _ (lj ++ m) _ _ HKR.out (Nat.le_refl _) (by rw [hL2]; omega) (HT.out.on BWR.out) _ HGT.out
            refine hge.mono ?_
            rintro e w10 ⟨rfl, hb10⟩
            have HB10 := Lib.hid hb10
            have B10 := Lib.hid (hbstep BWR.out hb10)
            clear hge hb10
            go_wp2_with fail
            have hgf : Calls Tryd.prog 26 #[.slice (some ⟨g2, 0, none⟩) (16 + k1) cap2, .int .i64 2, .int .u32 0] w10 fun e w' => e = .returned (.int .i64 23) ∧ Below w10.heap.size w10 w' := Hd.check_any _ (lj ++ m) _ 2 0 _ (HKR.out.below HB10.out (Nat.le_refl _)) HB10.out.size (by rw [hL2]; omega) (HT.out.on B10.out) 23 HGC.out
            refine hgf.mono ?_
            rintro e w11 ⟨rfl, hb11⟩
            have B11 := Lib.hid (hbstep B10.out hb11)
            clear hgf hb11
            go_wp2_with fail
            refine (knows_any _ (HT.out.on B11.out)).mono ?_
            rintro e w12 ⟨rfl, hb12⟩
            go_wp2_with fail
            go_ret
            exact ⟨rfl, hbstep B11.out hb12⟩
set_option maxRecDepth 100000 in
set_option maxHeartbeats 16000000 in
theorem walk_z1 (a0 : Int) (hid : bits .and .u32 a0 16777215 = 0) (v1 : Value) (l : List UInt8) (a2 : Int) (b : BitVec 32) (x4 y4 k4 : Int) (w : World) (hbs : Bs w w.heap.size v1 l) (hll : l.length ≤ 140737488351232) (h20 : 0 ≤ a2) (h21 : a2 ≤ 255) (p4 : 0 ≤ x4) (h4 : x4 % 4 = k4) (h40 : 0 ≤ k4) (h41 : k4 < 4) (e1 : (k4 == 2) = true) (e2 : (y4 == 0) = false) (ht : Crc.Tab w) :
    Calls Tryd.prog 6 #[.int .u32 a0, v1, .int .u8 a2, .int .u32 (b.toNat : Int), .agg #[.int .u32 x4, .int .u32 y4]] w fun e w' => e = .returned (.bool true) ∧ Below w.heap.size w w' := by
  obtain ⟨i0, hi0', hz0, hz1, hz2⟩ := info_parts byte_info
  obtain ⟨A1, c1, k1, A1', c1', rfl, m1, hk1, cut1, s1⟩ := cut_min v1 l w.heap.size 50 w hbs
  have e50 : ((50 : Nat) : Int) = 50 := rfl
  rw [e50] at m1
  have hm : mayB ((2 : Nat) : Int) ((0 : Nat) : Int) = true := by decide
  have hF := facts hm
  have b0 := hbnew w (.cells #[.int .u32 x4, .int .u32 y4] 60)
  have hp : Calls Tryd.prog 22 #[.int .i64 2, .int .u32 0] (w.alloc (.cells #[.int .u32 x4, .int .u32 y4] 60)) _ := put_ok 2 0 _ hm (ht.on b0)
  have hx0 : (w.alloc (.cells #[.int .u32 x4, .int .u32 y4] 60)).cell? ⟨w.heap.size, 0, none⟩ = some (.int .u32 x4) := by
    rw [cell_of_row _ w.heap.size 0 #[.int .u32 x4, .int .u32 y4] 60 (0, 0) (heap_alloc_new w _)]; rfl
  have hx1 : (w.alloc (.cells #[.int .u32 x4, .int .u32 y4] 60)).cell? ⟨w.heap.size, 1, none⟩ = some (.int .u32 y4) := by
    rw [cell_of_row _ w.heap.size 1 #[.int .u32 x4, .int .u32 y4] 60 (0, 0) (heap_alloc_new w _)]; rfl
  generalize headL 2 0 = R at hp hF
  have hck : (if ((2 : Nat) : Int) = k4 ∧ ((0 : Nat) : Int) = y4 then 0 else 23) = 23 := by
    simp at e1 e2
    rw [if_neg (fun h => e2 h.2.symm)]
  have HCK := Lib.hid hck
  have HP := Lib.hid hp
  have HF := Lib.hid hF
  have HT := Lib.hid ht
  have B0 := Lib.hid b0
  have HX0 := Lib.hid hx0
  have HX1 := Lib.hid hx1
  have HBS := Lib.hid hbs
  have S1 := Lib.hid s1
  have HK1 : Hid (k1 = (l.take 50).length) := Lib.hid (bs_cut (s1 w w.heap.size hbs)).2
  have z2 : IntKind.i64.wrap a2 = a2 := IntWalk.i64_in _ (by omega)
  have z4 : IntKind.i64.wrap k4 = k4 := IntWalk.i64_in _ (by omega)
  obtain ⟨b', hb', hb0⟩ := or_one b
  have Hb0 := Lib.hid hb0
  obtain ⟨f, hf⟩ := Int.eq_ofNat_of_zero_le (show 0 ≤ a2 % 128 by omega)
  have hf2 : f < 128 := by omega
  have H4 := Lib.hid (And.intro h40 h41)
  clear hck hp hF ht b0 hx0 hx1 hbs s1 hb0 hm e50 h40 h41 h21
  generalize hn : l.length = n at *
  have Hn := Lib.hid hn
  clear hn
  go_enter Tryd.func6, Tryd.ntmps6
  go_wp2_with fail
  refine HP.out.mono ?_
  rintro e w1 ⟨v1, rfl, hown1, hb1⟩
  obtain ⟨g, cap, rfl, hgg, hgl⟩ := hown1.form (by omega)
  have hcap : 16 ≤ cap := by have := own_slice hown1; obtain ⟨A2, c2, e2', h2, _⟩ := this; injection e2' with _ _ e3; omega
  have B1 := Lib.hid (hbstep B0.out hb1)
  have HX0 := Lib.hid ((hb1.cell (p := ⟨w.heap.size, 0, none⟩) (by simp)).trans HX0.out)
  have HX1 := Lib.hid ((hb1.cell (p := ⟨w.heap.size, 1, none⟩) (by simp)).trans HX1.out)
  have O1 := Lib.hid (Rd.of_own hown1)
  have hsw1 : w.heap.size < w1.heap.size := by have := hb1.size; simp at this; omega
  clear hown1 hb1 hgg
  go_wp2_with fail
  go_loopg [14, 15, 16, 17] 16 (fun gh iv _ _ _ wr => ∃ j : Nat, j + gh = 16 ∧ iv = .int .i64 j ∧ Below w1.heap.size w1 wr)
  case atStart => exact ⟨0, by omega, rfl, Below.refl _ _⟩
  case round =>
    obtain ⟨j, hj, rfl, hb⟩ := hrel
    have Hb := Lib.hid hb
    clear hb
    by_cases hlt : j < 16
    · obtain ⟨A', c', hcut, hc', hcr⟩ := cut_h (some ⟨g, 0, none⟩) 16 cap j (by omega) hcap
      have hl16 : (j : Int) < 16 := by omega
      have hg := Hd.get_any (.slice A' j c') (R.take j) w1.heap.size wr ⟨A', c', by rw [List.length_take, HF.out.len, Nat.min_eq_left (by omega)], by rw [List.length_take, HF.out.len]; omega, hcr _ _ _ HF.out.len (O1.out.below Hb.out (Nat.le_refl _))⟩ Hb.out.size (by rw [List.length_take]; omega) (HT.out.on (hbstep B1.out Hb.out)) _ (HF.out.short j hlt)
      have Hg := Lib.hid hg
      clear hg hcr
      go_wp2_with fail
      refine Hg.out.mono ?_
      rintro e w2 ⟨rfl, hb2⟩
      have Hb2 := Lib.hid (Hb.out.trans (hb2.mono Hb.out.size))
      clear hb2 Hg
      go_wp2_with fail
      go_roundg (gk - 1)
      case measure => omega
      case rel => exact ⟨j + 1, by omega, by go_num, Hb2.out⟩
    · obtain rfl : j = 16 := by omega
      go_wp2_with fail
      have hd : Below w1.heap.size w1 wr.drew := below_drewN Hb.out 1
      have HD := Lib.hid hd
      have BD := Lib.hid (hbstep B1.out hd)
      have S1D := Lib.hid hd.size
      refine wp_region_noPanic ?_
      refine wp_region_held_drew (S := fun _ => True) (by kernel_rfl) trivial (fun hHeld => ?_)
      clear hd Hb
      generalize World.drew _ = W2 at *
      refine wpAnyH_take (i := 0) (v := ?_) opAt_0 (by kernel_rfl) (by kernel_rfl) (by kernel_rfl) (fun _ _ _ h => h) (Or.inl ⟨by rfl, ?_⟩) trivial ?_
      rotate_left
      · (intro w hSw; go_simp; try with_reducible rfl)
      try simp only [Act.put, List.setIfInBounds_toArray, List.set_cons_zero, List.set_cons_succ]
      refine wpAnyH_take (i := 2) (v := ?_) opAt_2 (by kernel_rfl) (by kernel_rfl) (by kernel_rfl) (fun _ _ _ h => h) (Or.inl ⟨by rfl, ?_⟩) trivial ?_
      rotate_left
      · (intro w hSw; go_simp; try with_reducible rfl)
      try simp only [Act.put, List.setIfInBounds_toArray, List.set_cons_zero, List.set_cons_succ]
      refine wpAnyH_take (i := 3) (v := ?_) opAt_3 (by kernel_rfl) (by kernel_rfl) (by kernel_rfl) (fun _ _ _ h => h) (Or.inl ⟨by rfl, ?_⟩) trivial ?_
      rotate_left
      · (intro w hSw; go_simp; try with_reducible rfl)
      try simp only [Act.put, List.setIfInBounds_toArray, List.set_cons_zero, List.set_cons_succ]
      refine wpAnyH_take (i := 4) (v := ?_) opAt_4 (by kernel_rfl) (by kernel_rfl) (by kernel_rfl) (fun _ _ _ h => h) (Or.inl ⟨by rfl, ?_⟩) trivial ?_
      rotate_left
      · (intro w hSw; go_simp; try with_reducible rfl)
      try simp only [Act.put, List.setIfInBounds_toArray, List.set_cons_zero, List.set_cons_succ]
      refine wpAnyH_take (i := 5) (v := ?_) opAt_5 (by kernel_rfl) (by kernel_rfl) (by kernel_rfl) (fun _ _ _ h => h) (Or.inl ⟨by rfl, ?_⟩) trivial ?_
      rotate_left
      · (intro w hSw; go_simp; try with_reducible rfl)
      try simp only [Act.put, List.setIfInBounds_toArray, List.set_cons_zero, List.set_cons_succ]
      refine wpAnyH_take (i := 6) (v := ?_) opAt_6 (by kernel_rfl) (by kernel_rfl) (by kernel_rfl) (fun _ _ _ h => h) (Or.inl ⟨by rfl, ?_⟩) trivial ?_
      rotate_left
      · (intro w hSw; go_simp; try with_reducible rfl)
      try simp only [Act.put, List.setIfInBounds_toArray, List.set_cons_zero, List.set_cons_succ]
      refine wpAnyH_ready (rs := [1]) (by kernel_rfl) (by simp) ?_
      refine AllReadyH.cons rfl (fun K hK => ?_) AllReadyH.nil
      refine step_append_rd (o := (⟨some 58, _, _, _, _, _⟩ : Oper)) _ rfl (.const (.slice none 0 0)) (.tmp 57) 30 rfl W2.heap.size 5 i0 (.int .u8 0) 1 1 Tryd.underlying30 hi0' hz0 hz1 hz2 rfl (by omega) (.slice none 0 0) 0 [] rfl (World.ownsRow_nil _ _ _ _) w1.heap.size (some ⟨g, 0, none⟩) 16 cap (bvs R) rfl (by rw [bvs_length, HF.out.len]) (O1.out.below HD.out (Nat.le_refl _)) (bvs_one _) (by unfold maxLen; omega) (by omega) (Nat.le_refl _) ?_
      intro v3 w3 hown3 hb3 _
      have HO3 := Lib.hid hown3
      have HB3 := Lib.hid hb3
      have RB3 := Lib.hid (bs_cut (S1.out w3 w.heap.size (HBS.out.below (hbstep BD.out hb3) (Nat.le_refl _)))).1
      have hs3 := hb3.size
      clear hown3 hb3
      dsimp only [Act.put, Array.getElem_toList, List.getElem_toArray, List.getElem_cons_succ, List.getElem_cons_zero]
      refine hK.out _ _ trivial (fun _ => ?_)
      try simp only [Act.put, List.setIfInBounds_toArray, List.set_cons_zero, List.set_cons_succ]
      clear hK K
      refine wpAnyH_ready (rs := [7]) (by kernel_rfl) (by simp) ?_
      refine AllReadyH.cons rfl (fun K hK => ?_) AllReadyH.nil
      refine step_append_rd (o := (⟨some 64, _, _, _, _, _⟩ : Oper)) _ rfl (.tmp 58) (.tmp 63) 30 rfl W2.heap.size 5 i0 (.int .u8 0) 1 1 Tryd.underlying30 hi0' hz0 hz1 hz2 rfl (by omega) v3 (0 + 16) ([] ++ bvs R) rfl HO3.out w.heap.size A1' k1 c1' (bvs (l.take 50)) rfl (by rw [bvs_length, Nat.mul_one]; exact HK1.out.symm) RB3.out (bvs_one _) (by unfold maxLen; omega) (by omega) hs3 ?_
      intro v4 w4 hown4 hb4 _
      rw [List.nil_append, ← bvs_append, show 0 + 16 + k1 = 16 + k1 by omega] at hown4
      obtain ⟨g2, cap2, rfl, hge2, hgl2⟩ := hown4.form (by omega)
      have HO4 := Lib.hid hown4
      have HB4 := Lib.hid (HB3.out.trans hb4)
      have hs4 := Nat.le_trans hs3 hb4.size
      clear hown4 hb4 HO3 HB3 RB3
      dsimp only [Act.put, Array.getElem_toList, List.getElem_toArray, List.getElem_cons_succ, List.getElem_cons_zero]
      refine hK.out _ _ trivial (fun _ => ?_)
      try simp only [Act.put, List.setIfInBounds_toArray, List.set_cons_zero, List.set_cons_succ]
      clear hK K
      refine wpAnyH_take (i := 8) (v := ?_) opAt_8 (by kernel_rfl) (by kernel_rfl) (by kernel_rfl) (fun _ _ _ h => h) (Or.inl ⟨by rfl, ?_⟩) trivial ?_
      rotate_left
      · (intro w hSw; go_simp; try with_reducible rfl)
      try simp only [Act.put, List.setIfInBounds_toArray, List.set_cons_zero, List.set_cons_succ]
      refine wpAnyH_done (by kernel_rfl) ?_ _
      refine NoPanic.normal ?_
      have HKm := Lib.hid HK1.out
      have HL : Hid ((R ++ l.take 50).length = 16 + k1) := Lib.hid (by rw [List.length_append, HF.out.len, HK1.out])
      have hk50 : k1 ≤ 50 := by rw [HK1.out, List.length_take]; omega
      have B4 := Lib.hid (hbstep BD.out HB4.out)
      have HX0 := Lib.hid ((HB4.out.cell (p := ⟨w.heap.size, 0, none⟩) (by have := S1D.out; show w.heap.size < _; omega)).trans ((HD.out.cell (p := ⟨w.heap.size, 0, none⟩) hsw1).trans HX0.out))
      have HX1 := Lib.hid ((HB4.out.cell (p := ⟨w.heap.size, 1, none⟩) (by have := S1D.out; show w.heap.size < _; omega)).trans ((HD.out.cell (p := ⟨w.heap.size, 1, none⟩) hsw1).trans HX1.out))
      have K4 := Lib.hid (Bs.of_own HO4.out)
      generalize l.take 50 = m at *
      go_wp2_with fail
      have hga : Calls Tryd.prog 24 #[.slice (some ⟨g2, 0, none⟩) (16 + k1) cap2] w4 fun e w' => e = .returned (.tuple #[.int .i64 2, .int .u32 0, .int .i64 0]) ∧ Below w4.heap.size w4 w' := Hd.get_any _ (R ++ m) _ _ K4.out (Nat.le_refl _) (by rw [HL.out]; omega) (HT.out.on B4.out) _ (HF.out.get m)
      refine hga.mono ?_
      rintro e w5 ⟨rfl, hb5⟩
      have HB5 := Lib.hid hb5
      have hs5 := hb5.size
      clear hga hb5
      go_wp2_with fail
      have hgc : Calls Tryd.prog 26 #[.slice (some ⟨g2, 0, none⟩) (16 + k1) cap2, .int .i64 2, .int .u32 0] w5 fun e w' => e = .returned (.int .i64 0) ∧ Below w5.heap.size w5 w' := Hd.check_any _ (R ++ m) _ 2 0 _ (K4.out.below HB5.out (Nat.le_refl _)) hs5 (by rw [HL.out]; omega) (HT.out.on (hbstep B4.out HB5.out)) 0 (by rw [HF.out.chk, if_pos ⟨rfl, rfl⟩])
      refine hgc.mono ?_
      rintro e w6 ⟨rfl, hb6⟩
      have HB6 := Lib.hid (HB5.out.trans (hb6.mono hs5))
      have hs6 := Nat.le_trans hs5 hb6.size
      have hx0 := (HB6.out.cell (p := ⟨w.heap.size, 0, none⟩) (by have := S1D.out; show w.heap.size < _; omega)).trans HX0.out
      have hx1 := (HB6.out.cell (p := ⟨w.heap.size, 1, none⟩) (by have := S1D.out; show w.heap.size < _; omega)).trans HX1.out
      clear hgc hb6 HB5
      go_wp2_with fail
      have HB7 : Hid (Below w4.heap.size w4 w6.drew) := Lib.hid (below_drewN HB6.out 1)
      have hs7 : w4.heap.size ≤ w6.drew.heap.size := hs6
      clear HB6
      refine wp_region_noPanic ?_
      refine wp_region_held_drew (S := fun w' : World => w'.cell? ⟨w.heap.size, 0, none⟩ = some (.int .u32 x4) ∧ w'.cell? ⟨w.heap.size, 1, none⟩ = some (.int .u32 y4)) (by kernel_rfl) (⟨hx0, hx1⟩) (fun hHeld => ?_)
      refine wpAnyH_take (i := 0) (v := ?_) opAt_0 (by kernel_rfl) (by kernel_rfl) (by kernel_rfl) (fun _ _ _ h => h) (Or.inl ⟨by rfl, ?_⟩) (by assumption) ?_
      rotate_left
      · (intro w hSw; (try dsimp only at hSw); go_simp; try with_reducible rfl)
      try simp only [Act.put, List.setIfInBounds_toArray, List.set_cons_zero, List.set_cons_succ]
      refine wpAnyH_take (i := 1) (v := ?_) opAt_1 (by kernel_rfl) (by kernel_rfl) (by kernel_rfl) (fun _ _ _ h => h) (Or.inl ⟨by rfl, ?_⟩) (by assumption) ?_
      rotate_left
      · (intro w hSw; (try dsimp only at hSw); go_simp; try with_reducible rfl)
      try simp only [Act.put, List.setIfInBounds_toArray, List.set_cons_zero, List.set_cons_succ]
      refine wpAnyH_take (i := 2) (v := ?_) opAt_2 (by kernel_rfl) (by kernel_rfl) (by kernel_rfl) (fun _ _ _ h => h) (Or.inl ⟨by rfl, ?_⟩) (by assumption) ?_
      rotate_left
      · (intro w hSw; (try dsimp only at hSw); go_simp; try with_reducible rfl)
      try simp only [Act.put, List.setIfInBounds_toArray, List.set_cons_zero, List.set_cons_succ]
      refine wpAnyH_take (i := 3) (v := ?_) opAt_3 (by kernel_rfl) (by kernel_rfl) (by kernel_rfl) (fun _ _ _ h => h) (Or.inl ⟨by rfl, ?_⟩) (by assumption) ?_
      rotate_left
      · (intro w hSw; (try dsimp only at hSw); go_simp; try with_reducible rfl)
      try simp only [Act.put, List.setIfInBounds_toArray, List.set_cons_zero, List.set_cons_succ]
      refine wpAnyH_take (i := 6) (v := ?_) opAt_6 (by kernel_rfl) (by kernel_rfl) (by kernel_rfl) (fun _ _ _ h => h) (Or.inl ⟨by rfl, ?_⟩) (by assumption) ?_
      rotate_left
      · (intro w hSw; (try dsimp only at hSw); go_simp; try with_reducible rfl)
      try simp only [Act.put, List.setIfInBounds_toArray, List.set_cons_zero, List.set_cons_succ]
      refine wpAnyH_take (i := 4) (v := ?_) opAt_4 (by kernel_rfl) (by kernel_rfl) (by kernel_rfl) (fun _ _ _ h => h) (Or.inl ⟨by rfl, ?_⟩) (by assumption) ?_
      rotate_left
      · (intro w hSw; (try dsimp only at hSw); go_simp; try with_reducible rfl)
      try simp only [Act.put, List.setIfInBounds_toArray, List.set_cons_zero, List.set_cons_succ]
      refine wpAnyH_take (i := 5) (v := ?_) opAt_5 (by kernel_rfl) (by kernel_rfl) (by kernel_rfl) (fun _ _ _ h => h) (Or.inl ⟨by rfl, ?_⟩) (by assumption) ?_
      rotate_left
      · (intro w hSw; (try dsimp only at hSw); go_simp; try with_reducible rfl)
      try simp only [Act.put, List.setIfInBounds_toArray, List.set_cons_zero, List.set_cons_succ]
      refine wpAnyH_take (i := 7) (v := ?_) opAt_7 (by kernel_rfl) (by kernel_rfl) (by kernel_rfl) (fun _ _ _ h => h) (Or.inl ⟨by rfl, ?_⟩) (by assumption) ?_
      rotate_left
      · (intro w hSw; (try dsimp only at hSw); go_simp; try with_reducible rfl)
      try simp only [Act.put, List.setIfInBounds_toArray, List.set_cons_zero, List.set_cons_succ]
      refine wpAnyH_done (by kernel_rfl) ?_ _
      refine NoPanic.normal ?_
      clear hHeld
      generalize World.drew _ = W7 at *
      go_wp2_with fail
      rw [h4]
      have hgd : Calls Tryd.prog 26 #[.slice (some ⟨g2, 0, none⟩) (16 + k1) cap2, .int .i64 k4, .int .u32 y4] W7 fun e w' => e = .returned (.int .i64 23) ∧ Below W7.heap.size W7 w' := Hd.check_any _ (R ++ m) _ k4 y4 _ (K4.out.below HB7.out (Nat.le_refl _)) hs7 (by rw [HL.out]; omega) (HT.out.on (hbstep B4.out HB7.out)) 23 (by rw [HF.out.chk]; exact HCK.out)
      refine hgd.mono ?_
      rintro e w8 ⟨rfl, hb8⟩
      have HB8 := Lib.hid (HB7.out.trans (hb8.mono hs7))
      have hs8 := Nat.le_trans hs7 hb8.size
      clear hgd hb8 HB7 hx0 hx1
      go_wp2_with fail
      rw [hf]
      have O8 : Hid (w8.ownsRow W2.heap.size 5 1 (.slice (some ⟨g2, 0, none⟩) (16 + k1) cap2) (16 + k1) (bvs (R ++ m))) := Lib.hid (own_below HO4.out HB8.out (Nat.le_refl _))
      have BW8 := Lib.hid (hbstep B4.out HB8.out)
      have hsW := Nat.le_trans hs4 hs8
      have hw2 : w.heap.size ≤ W2.heap.size := by have := S1D.out; omega
      clear HO4 K4
      clear e1 e2 p4 h4 z2 z4 hb' cut1 m1 h20 hf
      go_loopg [25] 32 (fun gh iv wr => ∃ (j : Nat) (lj : List UInt8), j + gh = 32 ∧ j ≤ 128 - f ∧ iv = .int .i64 j ∧ wr.ownsRow W2.heap.size 5 1 (.slice (some ⟨g2, 0, none⟩) (16 + k1) cap2) (16 + k1) (bvs (lj ++ m)) ∧ Cx.turned R b' f j lj ∧ Below W2.heap.size w8 wr)
      case atStart => exact ⟨0, R, by omega, by omega, rfl, O8.out, Cx.turned_zero R b' f, Below.refl _ _⟩
      case round =>
        obtain ⟨j, lj, hj, hjf, rfl, hown, htu, hb⟩ := hrel
        have Htu := Lib.hid htu
        clear htu
        have Hlj : Hid (lj.length = 16) := Lib.hid (by rw [Htu.out.1, HF.out.len])
        by_cases hgo : j < 32 ∧ f + j < 128
        · obtain ⟨hj32, hfj⟩ := hgo
          have t1 : (j : Int) < 32 := by omega
          have t2 : (f : Int) + (j : Int) < 128 := by omega
          have hbit := bit_j b' j
          have Hown1 := Lib.hid hown
          rcases hbb : b'.getLsbD j with _ | _
          · rw [hbb] at hbit
            have Hbb := Lib.hid hbb
            clear hbb
            go_wp2_with fail
            go_roundg (gk - 1)
            case measure => omega
            case rel => exact ⟨j + 1, lj, by omega, by omega, by go_num, Hown1.out, Cx.turned_same Htu.out hj32 Hbb.out, hb⟩
          · rw [hbb] at hbit
            have Hbb := Lib.hid hbb
            clear hbb
            obtain ⟨p, hp⟩ : ∃ p : Nat, ((f : Int) + (j : Int)) / 8 = (p : Int) := ⟨(f + j) / 8, by omega⟩
            obtain ⟨q, hq⟩ : ∃ q : Nat, ((f : Int) + (j : Int)) % 8 = (q : Int) := ⟨(f + j) % 8, by omega⟩
            have hpq : f + j = 8 * p + q := by omega
            have hq8 : q < 8 := by omega
            have hpn : p < 16 := by omega
            have hpk : p < 16 + k1 := by omega
            have hcell := Hown1.out.cellAt p (by omega)
            have hfr := Hown1.out.frozenAt p
            obtain ⟨x, hx⟩ : ∃ x, lj[p]? = some x := ⟨lj[p]'(by rw [Hlj.out]; exact hpn), List.getElem?_eq_getElem _⟩
            rw [show (bvs (lj ++ m))[p]? = some (bv x) by unfold bvs; rw [List.getElem?_map, List.getElem?_append_left (by rw [Hlj.out]; exact hpn), hx]; rfl] at hcell
            unfold bv at hcell
            have Hx := Lib.hid hx
            have Hpq := Lib.hid hpq
            clear hx hpq hown
            go_wp2_with fail
            go_region
            go_wp2_with fail
            go_roundg (gk - 1)
            case measure => omega
            case rel =>
              obtain ⟨hst, _⟩ := Hown1.out.stored p (bv (x ^^^ UInt8.ofNat (2 ^ q)))
              rw [← bvs_set, List.set_append_left _ _ (by rw [Hlj.out]; exact hpn)] at hst
              unfold bv at hst
              rw [← turn8 x q hq8] at hst
              exact ⟨j + 1, lj.set p (x ^^^ UInt8.ofNat (2 ^ q)), by omega, by omega, by go_num, hst.drew, Cx.turned_bit Htu.out hj32 Hbb.out Hx.out hq8 Hpq.out, (hb.setCell hge2 _).drew⟩
        · have hj0 : 0 < j := by omega
          have hgt := HF.out.tget _ _ _ _ Htu.out (by omega) hj0 Hb0.out m
          have hgc := HF.out.tchk _ _ _ _ Htu.out (by omega) hj0 Hb0.out m 2 0
          have HGT := Lib.hid hgt
          have HGC := Lib.hid hgc
          have HBR := Lib.hid hb
          have hszr := hb.size
          have hL2 : (lj ++ m).length = 16 + k1 := by rw [List.length_append, Hlj.out, HKm.out]
          have HKR := Lib.hid (Bs.of_own hown)
          have BWR := Lib.hid (BW8.out.trans (hb.mono hw2))
          clear hgt hgc hb hown
          have hpass : (decide ((j : Int) < 32) = false) ∨ (decide ((j : Int) < 32) = true ∧ decide ((f : Int) + (j : Int) < 128) = false) := by
            by_cases h32 : j < 32
            · exact .inr ⟨by simp; omega, by simp; omega⟩
            · exact .inl (by simp; omega)
          rcases hpass with t1 | ⟨t1, t2⟩
          all_goals
            go_wp2_with fail
            have hge : Calls Tryd.prog 24 #[.slice (some ⟨g2, 0, none⟩) (16 + k1) cap2] wr fun e w' => e = .returned (.tuple #[.int .i64 0, .int .u32 0, .int .i64 23]) ∧ Below wr.heap.size wr w' := Hd.get_any _ (lj ++ m) _ _ HKR.out (Nat.le_refl _) (by rw [hL2]; omega) (HT.out.on BWR.out) _ HGT.out
            refine hge.mono ?_
            rintro e w10 ⟨rfl, hb10⟩
            have HB10 := Lib.hid hb10
            have B10 := Lib.hid (hbstep BWR.out hb10)
            clear hge hb10
            go_wp2_with fail
            have hgf : Calls Tryd.prog 26 #[.slice (some ⟨g2, 0, none⟩) (16 + k1) cap2, .int .i64 2, .int .u32 0] w10 fun e w' => e = .returned (.int .i64 23) ∧ Below w10.heap.size w10 w' := Hd.check_any _ (lj ++ m) _ 2 0 _ (HKR.out.below HB10.out (Nat.le_refl _)) HB10.out.size (by rw [hL2]; omega) (HT.out.on B10.out) 23 HGC.out
            refine hgf.mono ?_
            rintro e w11 ⟨rfl, hb11⟩
            have B11 := Lib.hid (hbstep B10.out hb11)
            clear hgf hb11
            go_wp2_with fail
            refine (knows_any _ (HT.out.on B11.out)).mono ?_
            rintro e w12 ⟨rfl, hb12⟩
            go_wp2_with fail
            go_ret
            exact ⟨rfl, hbstep B11.out hb12⟩
set_option maxRecDepth 100000 in
set_option maxHeartbeats 16000000 in
theorem walk_z2 (a0 : Int) (hid : bits .and .u32 a0 16777215 = 0) (v1 : Value) (l : List UInt8) (a2 : Int) (b : BitVec 32) (x4 y4 k4 : Int) (w : World) (hbs : Bs w w.heap.size v1 l) (hll : l.length ≤ 140737488351232) (h20 : 0 ≤ a2) (h21 : a2 ≤ 255) (p4 : 0 ≤ x4) (h4 : x4 % 4 = k4) (h40 : 0 ≤ k4) (h41 : k4 < 4) (e1 : (k4 == 2) = true) (e2 : (y4 == 0) = true) (ht : Crc.Tab w) :
    Calls Tryd.prog 6 #[.int .u32 a0, v1, .int .u8 a2, .int .u32 (b.toNat : Int), .agg #[.int .u32 x4, .int .u32 y4]] w fun e w' => e = .returned (.bool true) ∧ Below w.heap.size w w' := by
  obtain ⟨i0, hi0', hz0, hz1, hz2⟩ := info_parts byte_info
  obtain ⟨A1, c1, k1, A1', c1', rfl, m1, hk1, cut1, s1⟩ := cut_min v1 l w.heap.size 50 w hbs
  have e50 : ((50 : Nat) : Int) = 50 := rfl
  rw [e50] at m1
  have hm : mayB ((2 : Nat) : Int) ((0 : Nat) : Int) = true := by decide
  have hF := facts hm
  have b0 := hbnew w (.cells #[.int .u32 x4, .int .u32 y4] 60)
  have hp : Calls Tryd.prog 22 #[.int .i64 2, .int .u32 0] (w.alloc (.cells #[.int .u32 x4, .int .u32 y4] 60)) _ := put_ok 2 0 _ hm (ht.on b0)
  have hx0 : (w.alloc (.cells #[.int .u32 x4, .int .u32 y4] 60)).cell? ⟨w.heap.size, 0, none⟩ = some (.int .u32 x4) := by
    rw [cell_of_row _ w.heap.size 0 #[.int .u32 x4, .int .u32 y4] 60 (0, 0) (heap_alloc_new w _)]; rfl
  have hx1 : (w.alloc (.cells #[.int .u32 x4, .int .u32 y4] 60)).cell? ⟨w.heap.size, 1, none⟩ = some (.int .u32 y4) := by
    rw [cell_of_row _ w.heap.size 1 #[.int .u32 x4, .int .u32 y4] 60 (0, 0) (heap_alloc_new w _)]; rfl
  generalize headL 2 0 = R at hp hF
  have hck : (if ((2 : Nat) : Int) = k4 ∧ ((0 : Nat) : Int) = y4 then 0 else 23) = 0 := by
    simp at e1 e2
    rw [if_pos ⟨e1.symm, e2.symm⟩]
  have HCK := Lib.hid hck
  have HP := Lib.hid hp
  have HF := Lib.hid hF
  have HT := Lib.hid ht
  have B0 := Lib.hid b0
  have HX0 := Lib.hid hx0
  have HX1 := Lib.hid hx1
  have HBS := Lib.hid hbs
  have S1 := Lib.hid s1
  have HK1 : Hid (k1 = (l.take 50).length) := Lib.hid (bs_cut (s1 w w.heap.size hbs)).2
  have z2 : IntKind.i64.wrap a2 = a2 := IntWalk.i64_in _ (by omega)
  have z4 : IntKind.i64.wrap k4 = k4 := IntWalk.i64_in _ (by omega)
  obtain ⟨b', hb', hb0⟩ := or_one b
  have Hb0 := Lib.hid hb0
  obtain ⟨f, hf⟩ := Int.eq_ofNat_of_zero_le (show 0 ≤ a2 % 128 by omega)
  have hf2 : f < 128 := by omega
  have H4 := Lib.hid (And.intro h40 h41)
  clear hck hp hF ht b0 hx0 hx1 hbs s1 hb0 hm e50 h40 h41 h21
  generalize hn : l.length = n at *
  have Hn := Lib.hid hn
  clear hn
  go_enter Tryd.func6, Tryd.ntmps6
  go_wp2_with fail
  refine HP.out.mono ?_
  rintro e w1 ⟨v1, rfl, hown1, hb1⟩
  obtain ⟨g, cap, rfl, hgg, hgl⟩ := hown1.form (by omega)
  have hcap : 16 ≤ cap := by have := own_slice hown1; obtain ⟨A2, c2, e2', h2, _⟩ := this; injection e2' with _ _ e3; omega
  have B1 := Lib.hid (hbstep B0.out hb1)
  have HX0 := Lib.hid ((hb1.cell (p := ⟨w.heap.size, 0, none⟩) (by simp)).trans HX0.out)
  have HX1 := Lib.hid ((hb1.cell (p := ⟨w.heap.size, 1, none⟩) (by simp)).trans HX1.out)
  have O1 := Lib.hid (Rd.of_own hown1)
  have hsw1 : w.heap.size < w1.heap.size := by have := hb1.size; simp at this; omega
  clear hown1 hb1 hgg
  go_wp2_with fail
  go_loopg [14, 15, 16, 17] 16 (fun gh iv _ _ _ wr => ∃ j : Nat, j + gh = 16 ∧ iv = .int .i64 j ∧ Below w1.heap.size w1 wr)
  case atStart => exact ⟨0, by omega, rfl, Below.refl _ _⟩
  case round =>
    obtain ⟨j, hj, rfl, hb⟩ := hrel
    have Hb := Lib.hid hb
    clear hb
    by_cases hlt : j < 16
    · obtain ⟨A', c', hcut, hc', hcr⟩ := cut_h (some ⟨g, 0, none⟩) 16 cap j (by omega) hcap
      have hl16 : (j : Int) < 16 := by omega
      have hg := Hd.get_any (.slice A' j c') (R.take j) w1.heap.size wr ⟨A', c', by rw [List.length_take, HF.out.len, Nat.min_eq_left (by omega)], by rw [List.length_take, HF.out.len]; omega, hcr _ _ _ HF.out.len (O1.out.below Hb.out (Nat.le_refl _))⟩ Hb.out.size (by rw [List.length_take]; omega) (HT.out.on (hbstep B1.out Hb.out)) _ (HF.out.short j hlt)
      have Hg := Lib.hid hg
      clear hg hcr
      go_wp2_with fail
      refine Hg.out.mono ?_
      rintro e w2 ⟨rfl, hb2⟩
      have Hb2 := Lib.hid (Hb.out.trans (hb2.mono Hb.out.size))
      clear hb2 Hg
      go_wp2_with fail
      go_roundg (gk - 1)
      case measure => omega
      case rel => exact ⟨j + 1, by omega, by go_num, Hb2.out⟩
    · obtain rfl : j = 16 := by omega
      go_wp2_with fail
      have hd : Below w1.heap.size w1 wr.drew := below_drewN Hb.out 1
      have HD := Lib.hid hd
      have BD := Lib.hid (hbstep B1.out hd)
      have S1D := Lib.hid hd.size
      refine wp_region_noPanic ?_
      refine wp_region_held_drew (S := fun _ => True) (by kernel_rfl) trivial (fun hHeld => ?_)
      clear hd Hb
      generalize World.drew _ = W2 at *
      refine wpAnyH_take (i := 0) (v := ?_) opAt_0 (by kernel_rfl) (by kernel_rfl) (by kernel_rfl) (fun _ _ _ h => h) (Or.inl ⟨by rfl, ?_⟩) trivial ?_
      rotate_left
      · (intro w hSw; go_simp; try with_reducible rfl)
      try simp only [Act.put, List.setIfInBounds_toArray, List.set_cons_zero, List.set_cons_succ]
      refine wpAnyH_take (i := 2) (v := ?_) opAt_2 (by kernel_rfl) (by kernel_rfl) (by kernel_rfl) (fun _ _ _ h => h) (Or.inl ⟨by rfl, ?_⟩) trivial ?_
      rotate_left
      · (intro w hSw; go_simp; try with_reducible rfl)
      try simp only [Act.put, List.setIfInBounds_toArray, List.set_cons_zero, List.set_cons_succ]
      refine wpAnyH_take (i := 3) (v := ?_) opAt_3 (by kernel_rfl) (by kernel_rfl) (by kernel_rfl) (fun _ _ _ h => h) (Or.inl ⟨by rfl, ?_⟩) trivial ?_
      rotate_left
      · (intro w hSw; go_simp; try with_reducible rfl)
      try simp only [Act.put, List.setIfInBounds_toArray, List.set_cons_zero, List.set_cons_succ]
      refine wpAnyH_take (i := 4) (v := ?_) opAt_4 (by kernel_rfl) (by kernel_rfl) (by kernel_rfl) (fun _ _ _ h => h) (Or.inl ⟨by rfl, ?_⟩) trivial ?_
      rotate_left
      · (intro w hSw; go_simp; try with_reducible rfl)
      try simp only [Act.put, List.setIfInBounds_toArray, List.set_cons_zero, List.set_cons_succ]
      refine wpAnyH_take (i := 5) (v := ?_) opAt_5 (by kernel_rfl) (by kernel_rfl) (by kernel_rfl) (fun _ _ _ h => h) (Or.inl ⟨by rfl, ?_⟩) trivial ?_
      rotate_left
      · (intro w hSw; go_simp; try with_reducible rfl)
      try simp only [Act.put, List.setIfInBounds_toArray, List.set_cons_zero, List.set_cons_succ]
      refine wpAnyH_take (i := 6) (v := ?_) opAt_6 (by kernel_rfl) (by kernel_rfl) (by kernel_rfl) (fun _ _ _ h => h) (Or.inl ⟨by rfl, ?_⟩) trivial ?_
      rotate_left
      · (intro w hSw; go_simp; try with_reducible rfl)
      try simp only [Act.put, List.setIfInBounds_toArray, List.set_cons_zero, List.set_cons_succ]
      refine wpAnyH_ready (rs := [1]) (by kernel_rfl) (by simp) ?_
      refine AllReadyH.cons rfl (fun K hK => ?_) AllReadyH.nil
      refine step_append_rd (o := (⟨some 58, _, _, _, _, _⟩ : Oper)) _ rfl (.const (.slice none 0 0)) (.tmp 57) 30 rfl W2.heap.size 5 i0 (.int .u8 0) 1 1 Tryd.underlying30 hi0' hz0 hz1 hz2 rfl (by omega) (.slice none 0 0) 0 [] rfl (World.ownsRow_nil _ _ _ _) w1.heap.size (some ⟨g, 0, none⟩) 16 cap (bvs R) rfl (by rw [bvs_length, HF.out.len]) (O1.out.below HD.out (Nat.le_refl _)) (bvs_one _) (by unfold maxLen; omega) (by omega) (Nat.le_refl _) ?_
      intro v3 w3 hown3 hb3 _
      have HO3 := Lib.hid hown3
      have HB3 := Lib.hid hb3
      have RB3 := Lib.hid (bs_cut (S1.out w3 w.heap.size (HBS.out.below (hbstep BD.out hb3) (Nat.le_refl _)))).1
      have hs3 := hb3.size
      clear hown3 hb3
      dsimp only [Act.put, Array.getElem_toList, List.getElem_toArray, List.getElem_cons_succ, List.getElem_cons_zero]
      refine hK.out _ _ trivial (fun _ => ?_)
      try simp only [Act.put, List.setIfInBounds_toArray, List.set_cons_zero, List.set_cons_succ]
      clear hK K
      refine wpAnyH_ready (rs := [7]) (by kernel_rfl) (by simp) ?_
      refine AllReadyH.cons rfl (fun K hK => ?_) AllReadyH.nil
      refine step_append_rd (o := (⟨some 64, _, _, _, _, _⟩ : Oper)) _ rfl (.tmp 58) (.tmp 63) 30 rfl W2.heap.size 5 i0 (.int .u8 0) 1 1 Tryd.underlying30 hi0' hz0 hz1 hz2 rfl (by omega) v3 (0 + 16) ([] ++ bvs R) rfl HO3.out w.heap.size A1' k1 c1' (bvs (l.take 50)) rfl (by rw [bvs_length, Nat.mul_one]; exact HK1.out.symm) RB3.out (bvs_one _) (by unfold maxLen; omega) (by omega) hs3 ?_
      intro v4 w4 hown4 hb4 _
      rw [List.nil_append, ← bvs_append, show 0 + 16 + k1 = 16 + k1 by omega] at hown4
      obtain ⟨g2, cap2, rfl, hge2, hgl2⟩ := hown4.form (by omega)
      have HO4 := Lib.hid hown4
      have HB4 := Lib.hid (HB3.out.trans hb4)
      have hs4 := Nat.le_trans hs3 hb4.size
      clear hown4 hb4 HO3 HB3 RB3
      dsimp only [Act.put, Array.getElem_toList, List.getElem_toArray, List.getElem_cons_succ, List.getElem_cons_zero]
      refine hK.out _ _ trivial (fun _ => ?_)
      try simp only [Act.put, List.setIfInBounds_toArray, List.set_cons_zero, List.set_cons_succ]
      clear hK K
      refine wpAnyH_take (i := 8) (v := ?_) opAt_8 (by kernel_rfl) (by kernel_rfl) (by kernel_rfl) (fun _ _ _ h => h) (Or.inl ⟨by rfl, ?_⟩) trivial ?_
      rotate_left
      · (intro w hSw; go_simp; try with_reducible rfl)
      try simp only [Act.put, List.setIfInBounds_toArray, List.set_cons_zero, List.set_cons_succ]
      refine wpAnyH_done (by kernel_rfl) ?_ _
      refine NoPanic.normal ?_
      have HKm := Lib.hid HK1.out
      have HL : Hid ((R ++ l.take 50).length = 16 + k1) := Lib.hid (by rw [List.length_append, HF.out.len, HK1.out])
      have hk50 : k1 ≤ 50 := by rw [HK1.out, List.length_take]; omega
      have B4 := Lib.hid (hbstep BD.out HB4.out)
      have HX0 := Lib.hid ((HB4.out.cell (p := ⟨w.heap.size, 0, none⟩) (by have := S1D.out; show w.heap.size < _; omega)).trans ((HD.out.cell (p := ⟨w.heap.size, 0, none⟩) hsw1).trans HX0.out))
      have HX1 := Lib.hid ((HB4.out.cell (p := ⟨w.heap.size, 1, none⟩) (by have := S1D.out; show w.heap.size < _; omega)).trans ((HD.out.cell (p := ⟨w.heap.size, 1, none⟩) hsw1).trans HX1.out))
      have K4 := Lib.hid (Bs.of_own HO4.out)
      generalize l.take 50 = m at *
      go_wp2_with fail
      have hga : Calls Tryd.prog 24 #[.slice (some ⟨g2, 0, none⟩) (16 + k1) cap2] w4 fun e w' => e = .returned (.tuple #[.int .i64 2, .int .u32 0, .int .i64 0]) ∧ Below w4.heap.size w4 w' := Hd.get_any _ (R ++ m) _ _ K4.out (Nat.le_refl _) (by rw [HL.out]; omega) (HT.out.on B4.out) _ (HF.out.get m)
      refine hga.mono ?_
      rintro e w5 ⟨rfl, hb5⟩
      have HB5 := Lib.hid hb5
      have hs5 := hb5.size
      clear hga hb5
      go_wp2_with fail
      have hgc : Calls Tryd.prog 26 #[.slice (some ⟨g2, 0, none⟩) (16 + k1) cap2, .int .i64 2, .int .u32 0] w5 fun e w' => e = .returned (.int .i64 0) ∧ Below w5.heap.size w5 w' := Hd.check_any _ (R ++ m) _ 2 0 _ (K4.out.below HB5.out (Nat.le_refl _)) hs5 (by rw [HL.out]; omega) (HT.out.on (hbstep B4.out HB5.out)) 0 (by rw [HF.out.chk, if_pos ⟨rfl, rfl⟩])
      refine hgc.mono ?_
      rintro e w6 ⟨rfl, hb6⟩
      have HB6 := Lib.hid (HB5.out.trans (hb6.mono hs5))
      have hs6 := Nat.le_trans hs5 hb6.size
      have hx0 := (HB6.out.cell (p := ⟨w.heap.size, 0, none⟩) (by have := S1D.out; show w.heap.size < _; omega)).trans HX0.out
      have hx1 := (HB6.out.cell (p := ⟨w.heap.size, 1, none⟩) (by have := S1D.out; show w.heap.size < _; omega)).trans HX1.out
      clear hgc hb6 HB5
      go_wp2_with fail
      have HB7 : Hid (Below w4.heap.size w4 w6.drew) := Lib.hid (below_drewN HB6.out 1)
      have hs7 : w4.heap.size ≤ w6.drew.heap.size := hs6
      clear HB6
      refine wp_region_noPanic ?_
      refine wp_region_held_drew (S := fun w' : World => w'.cell? ⟨w.heap.size, 0, none⟩ = some (.int .u32 x4) ∧ w'.cell? ⟨w.heap.size, 1, none⟩ = some (.int .u32 y4)) (by kernel_rfl) (⟨hx0, hx1⟩) (fun hHeld => ?_)
      refine wpAnyH_take (i := 0) (v := ?_) opAt_0 (by kernel_rfl) (by kernel_rfl) (by kernel_rfl) (fun _ _ _ h => h) (Or.inl ⟨by rfl, ?_⟩) (by assumption) ?_
      rotate_left
      · (intro w hSw; (try dsimp only at hSw); go_simp; try with_reducible rfl)
      try simp only [Act.put, List.setIfInBounds_toArray, List.set_cons_zero, List.set_cons_succ]
      refine wpAnyH_take (i := 1) (v := ?_) opAt_1 (by kernel_rfl) (by kernel_rfl) (by kernel_rfl) (fun _ _ _ h => h) (Or.inl ⟨by rfl, ?_⟩) (by assumption) ?_
      rotate_left
      · (intro w hSw; (try dsimp only at hSw); go_simp; try with_reducible rfl)
      try simp only [Act.put, List.setIfInBounds_toArray, List.set_cons_zero, List.set_cons_succ]
      refine wpAnyH_take (i := 2) (v := ?_) opAt_2 (by kernel_rfl) (by kernel_rfl) (by kernel_rfl) (fun _ _ _ h => h) (Or.inl ⟨by rfl, ?_⟩) (by assumption) ?_
      rotate_left
      · (intro w hSw; (try dsimp only at hSw); go_simp; try with_reducible rfl)
      try simp only [Act.put, List.setIfInBounds_toArray, List.set_cons_zero, List.set_cons_succ]
      refine wpAnyH_take (i := 3) (v := ?_) opAt_3 (by kernel_rfl) (by kernel_rfl) (by kernel_rfl) (fun _ _ _ h => h) (Or.inl ⟨by rfl, ?_⟩) (by assumption) ?_
      rotate_left
      · (intro w hSw; (try dsimp only at hSw); go_simp; try with_reducible rfl)
      try simp only [Act.put, List.setIfInBounds_toArray, List.set_cons_zero, List.set_cons_succ]
      refine wpAnyH_take (i := 6) (v := ?_) opAt_6 (by kernel_rfl) (by kernel_rfl) (by kernel_rfl) (fun _ _ _ h => h) (Or.inl ⟨by rfl, ?_⟩) (by assumption) ?_
      rotate_left
      · (intro w hSw; (try dsimp only at hSw); go_simp; try with_reducible rfl)
      try simp only [Act.put, List.setIfInBounds_toArray, List.set_cons_zero, List.set_cons_succ]
      refine wpAnyH_take (i := 4) (v := ?_) opAt_4 (by kernel_rfl) (by kernel_rfl) (by kernel_rfl) (fun _ _ _ h => h) (Or.inl ⟨by rfl, ?_⟩) (by assumption) ?_
      rotate_left
      · (intro w hSw; (try dsimp only at hSw); go_simp; try with_reducible rfl)
      try simp only [Act.put, List.setIfInBounds_toArray, List.set_cons_zero, List.set_cons_succ]
      refine wpAnyH_take (i := 5) (v := ?_) opAt_5 (by kernel_rfl) (by kernel_rfl) (by kernel_rfl) (fun _ _ _ h => h) (Or.inl ⟨by rfl, ?_⟩) (by assumption) ?_
      rotate_left
      · (intro w hSw; (try dsimp only at hSw); go_simp; try with_reducible rfl)
      try simp only [Act.put, List.setIfInBounds_toArray, List.set_cons_zero, List.set_cons_succ]
      refine wpAnyH_take (i := 7) (v := ?_) opAt_7 (by kernel_rfl) (by kernel_rfl) (by kernel_rfl) (fun _ _ _ h => h) (Or.inl ⟨by rfl, ?_⟩) (by assumption) ?_
      rotate_left
      · (intro w hSw; (try dsimp only at hSw); go_simp; try with_reducible rfl)
      try simp only [Act.put, List.setIfInBounds_toArray, List.set_cons_zero, List.set_cons_succ]
      refine wpAnyH_done (by kernel_rfl) ?_ _
      refine NoPanic.normal ?_
      clear hHeld
      generalize World.drew _ = W7 at *
      go_wp2_with fail
      rw [h4]
      have hgd : Calls Tryd.prog 26 #[.slice (some ⟨g2, 0, none⟩) (16 + k1) cap2, .int .i64 k4, .int .u32 y4] W7 fun e w' => e = .returned (.int .i64 0) ∧ Below W7.heap.size W7 w' := Hd.check_any _ (R ++ m) _ k4 y4 _ (K4.out.below HB7.out (Nat.le_refl _)) hs7 (by rw [HL.out]; omega) (HT.out.on (hbstep B4.out HB7.out)) 0 (by rw [HF.out.chk]; exact HCK.out)
      refine hgd.mono ?_
      rintro e w8 ⟨rfl, hb8⟩
      have HB8 := Lib.hid (HB7.out.trans (hb8.mono hs7))
      have hs8 := Nat.le_trans hs7 hb8.size
      clear hgd hb8 HB7 hx0 hx1
      go_wp2_with fail
      rw [hf]
      have O8 : Hid (w8.ownsRow W2.heap.size 5 1 (.slice (some ⟨g2, 0, none⟩) (16 + k1) cap2) (16 + k1) (bvs (R ++ m))) := Lib.hid (own_below HO4.out HB8.out (Nat.le_refl _))
      have BW8 := Lib.hid (hbstep B4.out HB8.out)
      have hsW := Nat.le_trans hs4 hs8
      have hw2 : w.heap.size ≤ W2.heap.size := by have := S1D.out; omega
      clear HO4 K4
      clear e1 e2 p4 h4 z2 z4 hb' cut1 m1 h20 hf
      go_loopg [25] 32 (fun gh iv wr => ∃ (j : Nat) (lj : List UInt8), j + gh = 32 ∧ j ≤ 128 - f ∧ iv = .int .i64 j ∧ wr.ownsRow W2.heap.size 5 1 (.slice (some ⟨g2, 0, none⟩) (16 + k1) cap2) (16 + k1) (bvs (lj ++ m)) ∧ Cx.turned R b' f j lj ∧ Below W2.heap.size w8 wr)
      case atStart => exact ⟨0, R, by omega, by omega, rfl, O8.out, Cx.turned_zero R b' f, Below.refl _ _⟩
      case round =>
        obtain ⟨j, lj, hj, hjf, rfl, hown, htu, hb⟩ := hrel
        have Htu := Lib.hid htu
        clear htu
        have Hlj : Hid (lj.length = 16) := Lib.hid (by rw [Htu.out.1, HF.out.len])
        by_cases hgo : j < 32 ∧ f + j < 128
        · obtain ⟨hj32, hfj⟩ := hgo
          have t1 : (j : Int) < 32 := by omega
          have t2 : (f : Int) + (j : Int) < 128 := by omega
          have hbit := bit_j b' j
          have Hown1 := Lib.hid hown
          rcases hbb : b'.getLsbD j with _ | _
          · rw [hbb] at hbit
            have Hbb := Lib.hid hbb
            clear hbb
            go_wp2_with fail
            go_roundg (gk - 1)
            case measure => omega
            case rel => exact ⟨j + 1, lj, by omega, by omega, by go_num, Hown1.out, Cx.turned_same Htu.out hj32 Hbb.out, hb⟩
          · rw [hbb] at hbit
            have Hbb := Lib.hid hbb
            clear hbb
            obtain ⟨p, hp⟩ : ∃ p : Nat, ((f : Int) + (j : Int)) / 8 = (p : Int) := ⟨(f + j) / 8, by omega⟩
            obtain ⟨q, hq⟩ : ∃ q : Nat, ((f : Int) + (j : Int)) % 8 = (q : Int) := ⟨(f + j) % 8, by omega⟩
            have hpq : f + j = 8 * p + q := by omega
            have hq8 : q < 8 := by omega
            have hpn : p < 16 := by omega
            have hpk : p < 16 + k1 := by omega
            have hcell := Hown1.out.cellAt p (by omega)
            have hfr := Hown1.out.frozenAt p
            obtain ⟨x, hx⟩ : ∃ x, lj[p]? = some x := ⟨lj[p]'(by rw [Hlj.out]; exact hpn), List.getElem?_eq_getElem _⟩
            rw [show (bvs (lj ++ m))[p]? = some (bv x) by unfold bvs; rw [List.getElem?_map, List.getElem?_append_left (by rw [Hlj.out]; exact hpn), hx]; rfl] at hcell
            unfold bv at hcell
            have Hx := Lib.hid hx
            have Hpq := Lib.hid hpq
            clear hx hpq hown
            go_wp2_with fail
            go_region
            go_wp2_with fail
            go_roundg (gk - 1)
            case measure => omega
            case rel =>
              obtain ⟨hst, _⟩ := Hown1.out.stored p (bv (x ^^^ UInt8.ofNat (2 ^ q)))
              rw [← bvs_set, List.set_append_left _ _ (by rw [Hlj.out]; exact hpn)] at hst
              unfold bv at hst
              rw [← turn8 x q hq8] at hst
              exact ⟨j + 1, lj.set p (x ^^^ UInt8.ofNat (2 ^ q)), by omega, by omega, by go_num, hst.drew, Cx.turned_bit Htu.out hj32 Hbb.out Hx.out hq8 Hpq.out, (hb.setCell hge2 _).drew⟩
        · have hj0 : 0 < j := by omega
          have hgt := HF.out.tget _ _ _ _ Htu.out (by omega) hj0 Hb0.out m
          have hgc := HF.out.tchk _ _ _ _ Htu.out (by omega) hj0 Hb0.out m 2 0
          have HGT := Lib.hid hgt
          have HGC := Lib.hid hgc
          have HBR := Lib.hid hb
          have hszr := hb.size
          have hL2 : (lj ++ m).length = 16 + k1 := by rw [List.length_append, Hlj.out, HKm.out]
          have HKR := Lib.hid (Bs.of_own hown)
          have BWR := Lib.hid (BW8.out.trans (hb.mono hw2))
          clear hgt hgc hb hown
          have hpass : (decide ((j : Int) < 32) = false) ∨ (decide ((j : Int) < 32) = true ∧ decide ((f : Int) + (j : Int) < 128) = false) := by
            by_cases h32 : j < 32
            · exact .inr ⟨by simp; omega, by simp; omega⟩
            · exact .inl (by simp; omega)
          rcases hpass with t1 | ⟨t1, t2⟩
          all_goals
            go_wp2_with fail
            have hge : Calls Tryd.prog 24 #[.slice (some ⟨g2, 0, none⟩) (16 + k1) cap2] wr fun e w' => e = .returned (.tuple #[.int .i64 0, .int .u32 0, .int .i64 23]) ∧ Below wr.heap.size wr w' := Hd.get_any _ (lj ++ m) _ _ HKR.out (Nat.le_refl _) (by rw [hL2]; omega) (HT.out.on BWR.out) _ HGT.out
            refine hge.mono ?_
            rintro e w10 ⟨rfl, hb10⟩
            have HB10 := Lib.hid hb10
            have B10 := Lib.hid (hbstep BWR.out hb10)
            clear hge hb10
            go_wp2_with fail
            have hgf : Calls Tryd.prog 26 #[.slice (some ⟨g2, 0, none⟩) (16 + k1) cap2, .int .i64 2, .int .u32 0] w10 fun e w' => e = .returned (.int .i64 23) ∧ Below w10.heap.size w10 w' := Hd.check_any _ (lj ++ m) _ 2 0 _ (HKR.out.below HB10.out (Nat.le_refl _)) HB10.out.size (by rw [hL2]; omega) (HT.out.on B10.out) 23 HGC.out
            refine hgf.mono ?_
            rintro e w11 ⟨rfl, hb11⟩
            have B11 := Lib.hid (hbstep B10.out hb11)
            clear hgf hb11
            go_wp2_with fail
            refine (knows_any _ (HT.out.on B11.out)).mono ?_
            rintro e w12 ⟨rfl, hb12⟩
            go_wp2_with fail
            go_ret
            exact ⟨rfl, hbstep B11.out hb12⟩
set_option maxRecDepth 100000 in
set_option maxHeartbeats 16000000 in
theorem walk_s0 (i : Nat) (hi0 : ¬ i = 0) (hi1 : i ≤ 16777215) (a0 : Int) (hid : bits .and .u32 a0 16777215 = (i : Int)) (v1 : Value) (l : List UInt8) (a2 : Int) (b : BitVec 32) (x4 y4 k4 : Int) (w : World) (hbs : Bs w w.heap.size v1 l) (hll : l.length ≤ 140737488351232) (h20 : 0 ≤ a2) (h21 : a2 ≤ 255) (p4 : 0 ≤ x4) (h4 : x4 % 4 = k4) (h40 : 0 ≤ k4) (h41 : k4 < 4) (e1 : (k4 == 1) = false) (ht : Crc.Tab w) :
    Calls Tryd.prog 6 #[.int .u32 a0, v1, .int .u8 a2, .int .u32 (b.toNat : Int), .agg #[.int .u32 x4, .int .u32 y4]] w fun e w' => e = .returned (.bool true) ∧ Below w.heap.size w w' := by
  obtain ⟨i0, hi0', hz0, hz1, hz2⟩ := info_parts byte_info
  obtain ⟨A1, c1, k1, A1', c1', rfl, m1, hk1, cut1, s1⟩ := cut_min v1 l w.heap.size 50 w hbs
  have e50 : ((50 : Nat) : Int) = 50 := rfl
  rw [e50] at m1
  have hm : mayB ((1 : Nat) : Int) ((i : Nat) : Int) = true := by simp [mayB]; omega
  have hF := facts hm
  have b0 := hbnew w (.cells #[.int .u32 x4, .int .u32 y4] 60)
  have hp : Calls Tryd.prog 22 #[.int .i64 1, .int .u32 (i : Int)] (w.alloc (.cells #[.int .u32 x4, .int .u32 y4] 60)) _ := put_ok 1 i _ hm (ht.on b0)
  have hx0 : (w.alloc (.cells #[.int .u32 x4, .int .u32 y4] 60)).cell? ⟨w.heap.size, 0, none⟩ = some (.int .u32 x4) := by
    rw [cell_of_row _ w.heap.size 0 #[.int .u32 x4, .int .u32 y4] 60 (0, 0) (heap_alloc_new w _)]; rfl
  have hx1 : (w.alloc (.cells #[.int .u32 x4, .int .u32 y4] 60)).cell? ⟨w.heap.size, 1, none⟩ = some (.int .u32 y4) := by
    rw [cell_of_row _ w.heap.size 1 #[.int .u32 x4, .int .u32 y4] 60 (0, 0) (heap_alloc_new w _)]; rfl
  generalize headL 1 i = R at hp hF
  have hck : (if ((1 : Nat) : Int) = k4 ∧ ((i : Nat) : Int) = y4 then 0 else 23) = 23 := by
    simp at e1
    rw [if_neg (fun h => e1 h.1.symm)]
  have HCK := Lib.hid hck
  have HP := Lib.hid hp
  have HF := Lib.hid hF
  have HT := Lib.hid ht
  have B0 := Lib.hid b0
  have HX0 := Lib.hid hx0
  have HX1 := Lib.hid hx1
  have HBS := Lib.hid hbs
  have S1 := Lib.hid s1
  have HK1 : Hid (k1 = (l.take 50).length) := Lib.hid (bs_cut (s1 w w.heap.size hbs)).2
  have z2 : IntKind.i64.wrap a2 = a2 := IntWalk.i64_in _ (by omega)
  have z4 : IntKind.i64.wrap k4 = k4 := IntWalk.i64_in _ (by omega)
  obtain ⟨b', hb', hb0⟩ := or_one b
  have Hb0 := Lib.hid hb0
  obtain ⟨f, hf⟩ := Int.eq_ofNat_of_zero_le (show 0 ≤ a2 % 128 by omega)
  have hf2 : f < 128 := by omega
  have H4 := Lib.hid (And.intro h40 h41)
  clear hck hp hF ht b0 hx0 hx1 hbs s1 hb0 hm e50 h40 h41 h21
  generalize hn : l.length = n at *
  have Hn := Lib.hid hn
  clear hn
  go_enter Tryd.func6, Tryd.ntmps6
  go_wp2_with fail
  refine HP.out.mono ?_
  rintro e w1 ⟨v1, rfl, hown1, hb1⟩
  obtain ⟨g, cap, rfl, hgg, hgl⟩ := hown1.form (by omega)
  have hcap : 16 ≤ cap := by have := own_slice hown1; obtain ⟨A2, c2, e2', h2, _⟩ := this; injection e2' with _ _ e3; omega
  have B1 := Lib.hid (hbstep B0.out hb1)
  have HX0 := Lib.hid ((hb1.cell (p := ⟨w.heap.size, 0, none⟩) (by simp)).trans HX0.out)
  have HX1 := Lib.hid ((hb1.cell (p := ⟨w.heap.size, 1, none⟩) (by simp)).trans HX1.out)
  have O1 := Lib.hid (Rd.of_own hown1)
  have hsw1 : w.heap.size < w1.heap.size := by have := hb1.size; simp at this; omega
  clear hown1 hb1 hgg
  go_wp2_with fail
  go_loopg [14, 15, 16, 17] 16 (fun gh iv _ _ _ wr => ∃ j : Nat, j + gh = 16 ∧ iv = .int .i64 j ∧ Below w1.heap.size w1 wr)
  case atStart => exact ⟨0, by omega, rfl, Below.refl _ _⟩
  case round =>
    obtain ⟨j, hj, rfl, hb⟩ := hrel
    have Hb := Lib.hid hb
    clear hb
    by_cases hlt : j < 16
    · obtain ⟨A', c', hcut, hc', hcr⟩ := cut_h (some ⟨g, 0, none⟩) 16 cap j (by omega) hcap
      have hl16 : (j : Int) < 16 := by omega
      have hg := Hd.get_any (.slice A' j c') (R.take j) w1.heap.size wr ⟨A', c', by rw [List.length_take, HF.out.len, Nat.min_eq_left (by omega)], by rw [List.length_take, HF.out.len]; omega, hcr _ _ _ HF.out.len (O1.out.below Hb.out (Nat.le_refl _))⟩ Hb.out.size (by rw [List.length_take]; omega) (HT.out.on (hbstep B1.out Hb.out)) _ (HF.out.short j hlt)
      have Hg := Lib.hid hg
      clear hg hcr
      go_wp2_with fail
      refine Hg.out.mono ?_
      rintro e w2 ⟨rfl, hb2⟩
      have Hb2 := Lib.hid (Hb.out.trans (hb2.mono Hb.out.size))
      clear hb2 Hg
      go_wp2_with fail
      go_roundg (gk - 1)
      case measure => omega
      case rel => exact ⟨j + 1, by omega, by go_num, Hb2.out⟩
    · obtain rfl : j = 16 := by omega
      go_wp2_with fail
      have hd : Below w1.heap.size w1 wr.drew := below_drewN Hb.out 1
      have HD := Lib.hid hd
      have BD := Lib.hid (hbstep B1.out hd)
      have S1D := Lib.hid hd.size
      refine wp_region_noPanic ?_
      refine wp_region_held_drew (S := fun _ => True) (by kernel_rfl) trivial (fun hHeld => ?_)
      clear hd Hb
      generalize World.drew _ = W2 at *
      refine wpAnyH_take (i := 0) (v := ?_) opAt_0 (by kernel_rfl) (by kernel_rfl) (by kernel_rfl) (fun _ _ _ h => h) (Or.inl ⟨by rfl, ?_⟩) trivial ?_
      rotate_left
      · (intro w hSw; go_simp; try with_reducible rfl)
      try simp only [Act.put, List.setIfInBounds_toArray, List.set_cons_zero, List.set_cons_succ]
      refine wpAnyH_take (i := 2) (v := ?_) opAt_2 (by kernel_rfl) (by kernel_rfl) (by kernel_rfl) (fun _ _ _ h => h) (Or.inl ⟨by rfl, ?_⟩) trivial ?_
      rotate_left
      · (intro w hSw; go_simp; try with_reducible rfl)
      try simp only [Act.put, List.setIfInBounds_toArray, List.set_cons_zero, List.set_cons_succ]
      refine wpAnyH_take (i := 3) (v := ?_) opAt_3 (by kernel_rfl) (by kernel_rfl) (by kernel_rfl) (fun _ _ _ h => h) (Or.inl ⟨by rfl, ?_⟩) trivial ?_
      rotate_left
      · (intro w hSw; go_simp; try with_reducible rfl)
      try simp only [Act.put, List.setIfInBounds_toArray, List.set_cons_zero, List.set_cons_succ]
      refine wpAnyH_take (i := 4) (v := ?_) opAt_4 (by kernel_rfl) (by kernel_rfl) (by kernel_rfl) (fun _ _ _ h => h) (Or.inl ⟨by rfl, ?_⟩) trivial ?_
      rotate_left
      · (intro w hSw; go_simp; try with_reducible rfl)
      try simp only [Act.put, List.setIfInBounds_toArray, List.set_cons_zero, List.set_cons_succ]
      refine wpAnyH_take (i := 5) (v := ?_) opAt_5 (by kernel_rfl) (by kernel_rfl) (by kernel_rfl) (fun _ _ _ h => h) (Or.inl ⟨by rfl, ?_⟩) trivial ?_
      rotate_left
      · (intro w hSw; go_simp; try with_reducible rfl)
      try simp only [Act.put, List.setIfInBounds_toArray, List.set_cons_zero, List.set_cons_succ]
      refine wpAnyH_take (i := 6) (v := ?_) opAt_6 (by kernel_rfl) (by kernel_rfl) (by kernel_rfl) (fun _ _ _ h => h) (Or.inl ⟨by rfl, ?_⟩) trivial ?_
      rotate_left
      · (intro w hSw; go_simp; try with_reducible rfl)
      try simp only [Act.put, List.setIfInBounds_toArray, List.set_cons_zero, List.set_cons_succ]
      refine wpAnyH_ready (rs := [1]) (by kernel_rfl) (by simp) ?_
      refine AllReadyH.cons rfl (fun K hK => ?_) AllReadyH.nil
      refine step_append_rd (o := (⟨some 58, _, _, _, _, _⟩ : Oper)) _ rfl (.const (.slice none 0 0)) (.tmp 57) 30 rfl W2.heap.size 5 i0 (.int .u8 0) 1 1 Tryd.underlying30 hi0' hz0 hz1 hz2 rfl (by omega) (.slice none 0 0) 0 [] rfl (World.ownsRow_nil _ _ _ _) w1.heap.size (some ⟨g, 0, none⟩) 16 cap (bvs R) rfl (by rw [bvs_length, HF.out.len]) (O1.out.below HD.out (Nat.le_refl _)) (bvs_one _) (by unfold maxLen; omega) (by omega) (Nat.le_refl _) ?_
      intro v3 w3 hown3 hb3 _
      have HO3 := Lib.hid hown3
      have HB3 := Lib.hid hb3
      have RB3 := Lib.hid (bs_cut (S1.out w3 w.heap.size (HBS.out.below (hbstep BD.out hb3) (Nat.le_refl _)))).1
      have hs3 := hb3.size
      clear hown3 hb3
      dsimp only [Act.put, Array.getElem_toList, List.getElem_toArray, List.getElem_cons_succ, List.getElem_cons_zero]
      refine hK.out _ _ trivial (fun _ => ?_)
      try simp only [Act.put, List.setIfInBounds_toArray, List.set_cons_zero, List.set_cons_succ]
      clear hK K
      refine wpAnyH_ready (rs := [7]) (by kernel_rfl) (by simp) ?_
      refine AllReadyH.cons rfl (fun K hK => ?_) AllReadyH.nil
      refine step_append_rd (o := (⟨some 64, _, _, _, _, _⟩ : Oper)) _ rfl (.tmp 58) (.tmp 63) 30 rfl W2.heap.size 5 i0 (.int .u8 0) 1 1 Tryd.underlying30 hi0' hz0 hz1 hz2 rfl (by omega) v3 (0 + 16) ([] ++ bvs R) rfl HO3.out w.heap.size A1' k1 c1' (bvs (l.take 50)) rfl (by rw [bvs_length, Nat.mul_one]; exact HK1.out.symm) RB3.out (bvs_one _) (by unfold maxLen; omega) (by omega) hs3 ?_
      intro v4 w4 hown4 hb4 _
      rw [List.nil_append, ← bvs_append, show 0 + 16 + k1 = 16 + k1 by omega] at hown4
      obtain ⟨g2, cap2, rfl, hge2, hgl2⟩ := hown4.form (by omega)
      have HO4 := Lib.hid hown4
      have HB4 := Lib.hid (HB3.out.trans hb4)
      have hs4 := Nat.le_trans hs3 hb4.size
      clear hown4 hb4 HO3 HB3 RB3
      dsimp only [Act.put, Array.getElem_toList, List.getElem_toArray, List.getElem_cons_succ, List.getElem_cons_zero]
      refine hK.out _ _ trivial (fun _ => ?_)
      try simp only [Act.put, List.setIfInBounds_toArray, List.set_cons_zero, List.set_cons_succ]
      clear hK K
      refine wpAnyH_take (i := 8) (v := ?_) opAt_8 (by kernel_rfl) (by kernel_rfl) (by kernel_rfl) (fun _ _ _ h => h) (Or.inl ⟨by rfl, ?_⟩) trivial ?_
      rotate_left
      · (intro w hSw; go_simp; try with_reducible rfl)
      try simp only [Act.put, List.setIfInBounds_toArray, List.set_cons_zero, List.set_cons_succ]
      refine wpAnyH_done (by kernel_rfl) ?_ _
      refine NoPanic.normal ?_
      have HKm := Lib.hid HK1.out
      have HL : Hid ((R ++ l.take 50).length = 16 + k1) := Lib.hid (by rw [List.length_append, HF.out.len, HK1.out])
      have hk50 : k1 ≤ 50 := by rw [HK1.out, List.length_take]; omega
      have B4 := Lib.hid (hbstep BD.out HB4.out)
      have HX0 := Lib.hid ((HB4.out.cell (p := ⟨w.heap.size, 0, none⟩) (by have := S1D.out; show w.heap.size < _; omega)).trans ((HD.out.cell (p := ⟨w.heap.size, 0, none⟩) hsw1).trans HX0.out))
      have HX1 := Lib.hid ((HB4.out.cell (p := ⟨w.heap.size, 1, none⟩) (by have := S1D.out; show w.heap.size < _; omega)).trans ((HD.out.cell (p := ⟨w.heap.size, 1, none⟩) hsw1).trans HX1.out))
      have K4 := Lib.hid (Bs.of_own HO4.out)
      generalize l.take 50 = m at *
      go_wp2_with fail
      have hga : Calls Tryd.prog 24 #[.slice (some ⟨g2, 0, none⟩) (16 + k1) cap2] w4 fun e w' => e = .returned (.tuple #[.int .i64 1, .int .u32 (i : Int), .int .i64 0]) ∧ Below w4.heap.size w4 w' := Hd.get_any _ (R ++ m) _ _ K4.out (Nat.le_refl _) (by rw [HL.out]; omega) (HT.out.on B4.out) _ (HF.out.get m)
      refine hga.mono ?_
      rintro e w5 ⟨rfl, hb5⟩
      have HB5 := Lib.hid hb5
      have hs5 := hb5.size
      clear hga hb5
      go_wp2_with fail
      have hgc : Calls Tryd.prog 26 #[.slice (some ⟨g2, 0, none⟩) (16 + k1) cap2, .int .i64 1, .int .u32 (i : Int)] w5 fun e w' => e = .returned (.int .i64 0) ∧ Below w5.heap.size w5 w' := Hd.check_any _ (R ++ m) _ 1 (i : Int) _ (K4.out.below HB5.out (Nat.le_refl _)) hs5 (by rw [HL.out]; omega) (HT.out.on (hbstep B4.out HB5.out)) 0 (by rw [HF.out.chk, if_pos ⟨rfl, rfl⟩])
      refine hgc.mono ?_
      rintro e w6 ⟨rfl, hb6⟩
      have HB6 := Lib.hid (HB5.out.trans (hb6.mono hs5))
      have hs6 := Nat.le_trans hs5 hb6.size
      have hx0 := (HB6.out.cell (p := ⟨w.heap.size, 0, none⟩) (by have := S1D.out; show w.heap.size < _; omega)).trans HX0.out
      have hx1 := (HB6.out.cell (p := ⟨w.heap.size, 1, none⟩) (by have := S1D.out; show w.heap.size < _; omega)).trans HX1.out
      clear hgc hb6 HB5
      go_wp2_with fail
      have HB7 : Hid (Below w4.heap.size w4 w6.drew) := Lib.hid (below_drewN HB6.out 1)
      have hs7 : w4.heap.size ≤ w6.drew.heap.size := hs6
      clear HB6
      refine wp_region_noPanic ?_
      refine wp_region_held_drew (S := fun w' : World => w'.cell? ⟨w.heap.size, 0, none⟩ = some (.int .u32 x4) ∧ w'.cell? ⟨w.heap.size, 1, none⟩ = some (.int .u32 y4)) (by kernel_rfl) (⟨hx0, hx1⟩) (fun hHeld => ?_)
      refine wpAnyH_take (i := 0) (v := ?_) opAt_0 (by kernel_rfl) (by kernel_rfl) (by kernel_rfl) (fun _ _ _ h => h) (Or.inl ⟨by rfl, ?_⟩) (by assumption) ?_
      rotate_left
      · (intro w hSw; (try dsimp only at hSw); go_simp; try with_reducible rfl)
      try simp only [Act.put, List.setIfInBounds_toArray, List.set_cons_zero, List.set_cons_succ]
      refine wpAnyH_take (i := 1) (v := ?_) opAt_1 (by kernel_rfl) (by kernel_rfl) (by kernel_rfl) (fun _ _ _ h => h) (Or.inl ⟨by rfl, ?_⟩) (by assumption) ?_
      rotate_left
      · (intro w hSw; (try dsimp only at hSw); go_simp; try with_reducible rfl)
      try simp only [Act.put, List.setIfInBounds_toArray, List.set_cons_zero, List.set_cons_succ]
      refine wpAnyH_take (i := 2) (v := ?_) opAt_2 (by kernel_rfl) (by kernel_rfl) (by kernel_rfl) (fun _ _ _ h => h) (Or.inl ⟨by rfl, ?_⟩) (by assumption) ?_
      rotate_left
      · (intro w hSw; (try dsimp only at hSw); go_simp; try with_reducible rfl)
      try simp only [Act.put, List.setIfInBounds_toArray, List.set_cons_zero, List.set_cons_succ]
      refine wpAnyH_take (i := 3) (v := ?_) opAt_3 (by kernel_rfl) (by kernel_rfl) (by kernel_rfl) (fun _ _ _ h => h) (Or.inl ⟨by rfl, ?_⟩) (by assumption) ?_
      rotate_left
      · (intro w hSw; (try dsimp only at hSw); go_simp; try with_reducible rfl)
      try simp only [Act.put, List.setIfInBounds_toArray, List.set_cons_zero, List.set_cons_succ]
      refine wpAnyH_take (i := 6) (v := ?_) opAt_6 (by kernel_rfl) (by kernel_rfl) (by kernel_rfl) (fun _ _ _ h => h) (Or.inl ⟨by rfl, ?_⟩) (by assumption) ?_
      rotate_left
      · (intro w hSw; (try dsimp only at hSw); go_simp; try with_reducible rfl)
      try simp only [Act.put, List.setIfInBounds_toArray, List.set_cons_zero, List.set_cons_succ]
      refine wpAnyH_take (i := 4) (v := ?_) opAt_4 (by kernel_rfl) (by kernel_rfl) (by kernel_rfl) (fun _ _ _ h => h) (Or.inl ⟨by rfl, ?_⟩) (by assumption) ?_
      rotate_left
      · (intro w hSw; (try dsimp only at hSw); go_simp; try with_reducible rfl)
      try simp only [Act.put, List.setIfInBounds_toArray, List.set_cons_zero, List.set_cons_succ]
      refine wpAnyH_take (i := 5) (v := ?_) opAt_5 (by kernel_rfl) (by kernel_rfl) (by kernel_rfl) (fun _ _ _ h => h) (Or.inl ⟨by rfl, ?_⟩) (by assumption) ?_
      rotate_left
      · (intro w hSw; (try dsimp only at hSw); go_simp; try with_reducible rfl)
      try simp only [Act.put, List.setIfInBounds_toArray, List.set_cons_zero, List.set_cons_succ]
      refine wpAnyH_take (i := 7) (v := ?_) opAt_7 (by kernel_rfl) (by kernel_rfl) (by kernel_rfl) (fun _ _ _ h => h) (Or.inl ⟨by rfl, ?_⟩) (by assumption) ?_
      rotate_left
      · (intro w hSw; (try dsimp only at hSw); go_simp; try with_reducible rfl)
      try simp only [Act.put, List.setIfInBounds_toArray, List.set_cons_zero, List.set_cons_succ]
      refine wpAnyH_done (by kernel_rfl) ?_ _
      refine NoPanic.normal ?_
      clear hHeld
      generalize World.drew _ = W7 at *
      go_wp2_with fail
      rw [h4]
      have hgd : Calls Tryd.prog 26 #[.slice (some ⟨g2, 0, none⟩) (16 + k1) cap2, .int .i64 k4, .int .u32 y4] W7 fun e w' => e = .returned (.int .i64 23) ∧ Below W7.heap.size W7 w' := Hd.check_any _ (R ++ m) _ k4 y4 _ (K4.out.below HB7.out (Nat.le_refl _)) hs7 (by rw [HL.out]; omega) (HT.out.on (hbstep B4.out HB7.out)) 23 (by rw [HF.out.chk]; exact HCK.out)
      refine hgd.mono ?_
      rintro e w8 ⟨rfl, hb8⟩
      have HB8 := Lib.hid (HB7.out.trans (hb8.mono hs7))
      have hs8 := Nat.le_trans hs7 hb8.size
      clear hgd hb8 HB7 hx0 hx1
      go_wp2_with fail
      rw [hf]
      have O8 : Hid (w8.ownsRow W2.heap.size 5 1 (.slice (some ⟨g2, 0, none⟩) (16 + k1) cap2) (16 + k1) (bvs (R ++ m))) := Lib.hid (own_below HO4.out HB8.out (Nat.le_refl _))
      have BW8 := Lib.hid (hbstep B4.out HB8.out)
      have hsW := Nat.le_trans hs4 hs8
      have hw2 : w.heap.size ≤ W2.heap.size := by have := S1D.out; omega
      clear HO4 K4
      clear e1 p4 h4 z2 z4 hb' cut1 m1 h20 hf
      go_loopg [25] 32 (fun gh iv wr => ∃ (j : Nat) (lj : List UInt8), j + gh = 32 ∧ j ≤ 128 - f ∧ iv = .int .i64 j ∧ wr.ownsRow W2.heap.size 5 1 (.slice (some ⟨g2, 0, none⟩) (16 + k1) cap2) (16 + k1) (bvs (lj ++ m)) ∧ Cx.turned R b' f j lj ∧ Below W2.heap.size w8 wr)
      case atStart => exact ⟨0, R, by omega, by omega, rfl, O8.out, Cx.turned_zero R b' f, Below.refl _ _⟩
      case round =>
        obtain ⟨j, lj, hj, hjf, rfl, hown, htu, hb⟩ := hrel
        have Htu := Lib.hid htu
        clear htu
        have Hlj : Hid (lj.length = 16) := Lib.hid (by rw [Htu.out.1, HF.out.len])
        by_cases hgo : j < 32 ∧ f + j < 128
        · obtain ⟨hj32, hfj⟩ := hgo
          have t1 : (j : Int) < 32 := by omega
          have t2 : (f : Int) + (j : Int) < 128 := by omega
          have hbit := bit_j b' j
          have Hown1 := Lib.hid hown
          rcases hbb : b'.getLsbD j with _ | _
          · rw [hbb] at hbit
            have Hbb := Lib.hid hbb
            clear hbb
            go_wp2_with fail
            go_roundg (gk - 1)
            case measure => omega
            case rel => exact ⟨j + 1, lj, by omega, by omega, by go_num, Hown1.out, Cx.turned_same Htu.out hj32 Hbb.out, hb⟩
          · rw [hbb] at hbit
            have Hbb := Lib.hid hbb
            clear hbb
            obtain ⟨p, hp⟩ : ∃ p : Nat, ((f : Int) + (j : Int)) / 8 = (p : Int) := ⟨(f + j) / 8, by omega⟩
            obtain ⟨q, hq⟩ : ∃ q : Nat, ((f : Int) + (j : Int)) % 8 = (q : Int) := ⟨(f + j) % 8, by omega⟩
            have hpq : f + j = 8 * p + q := by omega
            have hq8 : q < 8 := by omega
            have hpn : p < 16 := by omega
            have hpk : p < 16 + k1 := by omega
            have hcell := Hown1.out.cellAt p (by omega)
            have hfr := Hown1.out.frozenAt p
            obtain ⟨x, hx⟩ : ∃ x, lj[p]? = some x := ⟨lj[p]'(by rw [Hlj.out]; exact hpn), List.getElem?_eq_getElem _⟩
            rw [show (bvs (lj ++ m))[p]? = some (bv x) by unfold bvs; rw [List.getElem?_map, List.getElem?_append_left (by rw [Hlj.out]; exact hpn), hx]; rfl] at hcell
            unfold bv at hcell
            have Hx := Lib.hid hx
            have Hpq := Lib.hid hpq
            clear hx hpq hown
            go_wp2_with fail
            go_region
            go_wp2_with fail
            go_roundg (gk - 1)
            case measure => omega
            case rel =>
              obtain ⟨hst, _⟩ := Hown1.out.stored p (bv (x ^^^ UInt8.ofNat (2 ^ q)))
              rw [← bvs_set, List.set_append_left _ _ (by rw [Hlj.out]; exact hpn)] at hst
              unfold bv at hst
              rw [← turn8 x q hq8] at hst
              exact ⟨j + 1, lj.set p (x ^^^ UInt8.ofNat (2 ^ q)), by omega, by omega, by go_num, hst.drew, Cx.turned_bit Htu.out hj32 Hbb.out Hx.out hq8 Hpq.out, (hb.setCell hge2 _).drew⟩
        · have hj0 : 0 < j := by omega
          have hgt := HF.out.tget _ _ _ _ Htu.out (by omega) hj0 Hb0.out m
          have hgc := HF.out.tchk _ _ _ _ Htu.out (by omega) hj0 Hb0.out m 1 (i : Int)
          have HGT := Lib.hid hgt
          have HGC := Lib.hid hgc
          have HBR := Lib.hid hb
          have hszr := hb.size
          have hL2 : (lj ++ m).length = 16 + k1 := by rw [List.length_append, Hlj.out, HKm.out]
          have HKR := Lib.hid (Bs.of_own hown)
          have BWR := Lib.hid (BW8.out.trans (hb.mono hw2))
          clear hgt hgc hb hown
          have hpass : (decide ((j : Int) < 32) = false) ∨ (decide ((j : Int) < 32) = true ∧ decide ((f : Int) + (j : Int) < 128) = false) := by
            by_cases h32 : j < 32
            · exact .inr ⟨by simp; omega, by simp; omega⟩
            · exact .inl (by simp; omega)
          rcases hpass with t1 | ⟨t1, t2⟩
          all_goals
            go_wp2_with fail
            have hge : Calls Tryd.prog 24 #[.slice (some ⟨g2, 0, none⟩) (16 + k1) cap2] wr fun e w' => e = .returned (.tuple #[.int .i64 0, .int .u32 0, .int .i64 23]) ∧ Below wr.heap.size wr w' := Hd.get_any _ (lj ++ m) _ _ HKR.out (Nat.le_refl _) (by rw [hL2]; omega) (HT.out.on BWR.out) _ HGT.out
            refine hge.mono ?_
            rintro e w10 ⟨rfl, hb10⟩
            have HB10 := Lib.hid hb10
            have B10 := Lib.hid (hbstep BWR.out hb10)
            clear hge hb10
            go_wp2_with fail
            have hgf : Calls Tryd.prog 26 #[.slice (some ⟨g2, 0, none⟩) (16 + k1) cap2, .int .i64 1, .int .u32 (i : Int)] w10 fun e w' => e = .returned (.int .i64 23) ∧ Below w10.heap.size w10 w' := Hd.check_any _ (lj ++ m) _ 1 (i : Int) _ (HKR.out.below HB10.out (Nat.le_refl _)) HB10.out.size (by rw [hL2]; omega) (HT.out.on B10.out) 23 HGC.out
            refine hgf.mono ?_
            rintro e w11 ⟨rfl, hb11⟩
            have B11 := Lib.hid (hbstep B10.out hb11)
            clear hgf hb11
            go_wp2_with fail
            refine (knows_any _ (HT.out.on B11.out)).mono ?_
            rintro e w12 ⟨rfl, hb12⟩
            go_wp2_with fail
            go_ret
            exact ⟨rfl, hbstep B11.out hb12⟩
set_option maxRecDepth 100000 in
set_option maxHeartbeats 16000000 in
theorem walk_s1 (i : Nat) (hi0 : ¬ i = 0) (hi1 : i ≤ 16777215) (a0 : Int) (hid : bits .and .u32 a0 16777215 = (i : Int)) (v1 : Value) (l : List UInt8) (a2 : Int) (b : BitVec 32) (x4 y4 k4 : Int) (w : World) (hbs : Bs w w.heap.size v1 l) (hll : l.length ≤ 140737488351232) (h20 : 0 ≤ a2) (h21 : a2 ≤ 255) (p4 : 0 ≤ x4) (h4 : x4 % 4 = k4) (h40 : 0 ≤ k4) (h41 : k4 < 4) (e1 : (k4 == 1) = true) (e2 : (y4 == (i : Int)) = false) (ht : Crc.Tab w) :
    Calls Tryd.prog 6 #[.int .u32 a0, v1, .int .u8 a2, .int .u32 (b.toNat : Int), .agg #[.int .u32 x4, .int .u32 y4]] w fun e w' => e = .returned (.bool true) ∧ Below w.heap.size w w' := by
  obtain ⟨i0, hi0', hz0, hz1, hz2⟩ := info_parts byte_info
  obtain ⟨A1, c1, k1, A1', c1', rfl, m1, hk1, cut1, s1⟩ := cut_min v1 l w.heap.size 50 w hbs
  have e50 : ((50 : Nat) : Int) = 50 := rfl
  rw [e50] at m1
  have hm : mayB ((1 : Nat) : Int) ((i : Nat) : Int) = true := by simp [mayB]; omega
  have hF := facts hm
  have b0 := hbnew w (.cells #[.int .u32 x4, .int .u32 y4] 60)
  have hp : Calls Tryd.prog 22 #[.int .i64 1, .int .u32 (i : Int)] (w.alloc (.cells #[.int .u32 x4, .int .u32 y4] 60)) _ := put_ok 1 i _ hm (ht.on b0)
  have hx0 : (w.alloc (.cells #[.int .u32 x4, .int .u32 y4] 60)).cell? ⟨w.heap.size, 0, none⟩ = some (.int .u32 x4) := by
    rw [cell_of_row _ w.heap.size 0 #[.int .u32 x4, .int .u32 y4] 60 (0, 0) (heap_alloc_new w _)]; rfl
  have hx1 : (w.alloc (.cells #[.int .u32 x4, .int .u32 y4] 60)).cell? ⟨w.heap.size, 1, none⟩ = some (.int .u32 y4) := by
    rw [cell_of_row _ w.heap.size 1 #[.int .u32 x4, .int .u32 y4] 60 (0, 0) (heap_alloc_new w _)]; rfl
  generalize headL 1 i = R at hp hF
  have hck : (if ((1 : Nat) : Int) = k4 ∧ ((i : Nat) : Int) = y4 then 0 else 23) = 23 := by
    simp at e1 e2
    rw [if_neg (fun h => e2 h.2.symm)]
  have HCK := Lib.hid hck
  have HP := Lib.hid hp
  have HF := Lib.hid hF
  have HT := Lib.hid ht
  have B0 := Lib.hid b0
  have HX0 := Lib.hid hx0
  have HX1 := Lib.hid hx1
  have HBS := Lib.hid hbs
  have S1 := Lib.hid s1
  have HK1 : Hid (k1 = (l.take 50).length) := Lib.hid (bs_cut (s1 w w.heap.size hbs)).2
  have z2 : IntKind.i64.wrap a2 = a2 := IntWalk.i64_in _ (by omega)
  have z4 : IntKind.i64.wrap k4 = k4 := IntWalk.i64_in _ (by omega)
  obtain ⟨b', hb', hb0⟩ := or_one b
  have Hb0 := Lib.hid hb0
  obtain ⟨f, hf⟩ := Int.eq_ofNat_of_zero_le (show 0 ≤ a2 % 128 by omega)
  have hf2 : f < 128 := by omega
  have H4 := Lib.hid (And.intro h40 h41)
  clear hck hp hF ht b0 hx0 hx1 hbs s1 hb0 hm e50 h40 h41 h21
  generalize hn : l.length = n at *
  have Hn := Lib.hid hn
  clear hn
  go_enter Tryd.func6, Tryd.ntmps6
  go_wp2_with fail
  refine HP.out.mono ?_
  rintro e w1 ⟨v1, rfl, hown1, hb1⟩
  obtain ⟨g, cap, rfl, hgg, hgl⟩ := hown1.form (by omega)
  have hcap : 16 ≤ cap := by have := own_slice hown1; obtain ⟨A2, c2, e2', h2, _⟩ := this; injection e2' with _ _ e3; omega
  have B1 := Lib.hid (hbstep B0.out hb1)
  have HX0 := Lib.hid ((hb1.cell (p := ⟨w.heap.size, 0, none⟩) (by simp)).trans HX0.out)
  have HX1 := Lib.hid ((hb1.cell (p := ⟨w.heap.size, 1, none⟩) (by simp)).trans HX1.out)
  have O1 := Lib.hid (Rd.of_own hown1)
  have hsw1 : w.heap.size < w1.heap.size := by have := hb1.size; simp at this; omega
  clear hown1 hb1 hgg
  go_wp2_with fail
  go_loopg [14, 15, 16, 17] 16 (fun gh iv _ _ _ wr => ∃ j : Nat, j + gh = 16 ∧ iv = .int .i64 j ∧ Below w1.heap.size w1 wr)
  case atStart => exact ⟨0, by omega, rfl, Below.refl _ _⟩
  case round =>
    obtain ⟨j, hj, rfl, hb⟩ := hrel
    have Hb := Lib.hid hb
    clear hb
    by_cases hlt : j < 16
    · obtain ⟨A', c', hcut, hc', hcr⟩ := cut_h (some ⟨g, 0, none⟩) 16 cap j (by omega) hcap
      have hl16 : (j : Int) < 16 := by omega
      have hg := Hd.get_any (.slice A' j c') (R.take j) w1.heap.size wr ⟨A', c', by rw [List.length_take, HF.out.len, Nat.min_eq_left (by omega)], by rw [List.length_take, HF.out.len]; omega, hcr _ _ _ HF.out.len (O1.out.below Hb.out (Nat.le_refl _))⟩ Hb.out.size (by rw [List.length_take]; omega) (HT.out.on (hbstep B1.out Hb.out)) _ (HF.out.short j hlt)
      have Hg := Lib.hid hg
      clear hg hcr
      go_wp2_with fail
      refine Hg.out.mono ?_
      rintro e w2 ⟨rfl, hb2⟩
      have Hb2 := Lib.hid (Hb.out.trans (hb2.mono Hb.out.size))
      clear hb2 Hg
      go_wp2_with fail
      go_roundg (gk - 1)
      case measure => omega
      case rel => exact ⟨j + 1, by omega, by go_num, Hb2.out⟩
    · obtain rfl : j = 16 := by omega
      go_wp2_with fail
      have hd : Below w1.heap.size w1 wr.drew := below_drewN Hb.out 1
      have HD := Lib.hid hd
      have BD := Lib.hid (hbstep B1.out hd)
      have S1D := Lib.hid hd.size
      refine wp_region_noPanic ?_
      refine wp_region_held_drew (S := fun _ => True) (by kernel_rfl) trivial (fun hHeld => ?_)
      clear hd Hb
      generalize World.drew _ = W2 at *
      refine wpAnyH_take (i := 0) (v := ?_) opAt_0 (by kernel_rfl) (by kernel_rfl) (by kernel_rfl) (fun _ _ _ h => h) (Or.inl ⟨by rfl, ?_⟩) trivial ?_
      rotate_left
      · (intro w hSw; go_simp; try with_reducible rfl)
      try simp only [Act.put, List.setIfInBounds_toArray, List.set_cons_zero, List.set_cons_succ]
      refine wpAnyH_take (i := 2) (v := ?_) opAt_2 (by kernel_rfl) (by kernel_rfl) (by kernel_rfl) (fun _ _ _ h => h) (Or.inl ⟨by rfl, ?_⟩) trivial ?_
      rotate_left
      · (intro w hSw; go_simp; try with_reducible rfl)
      try simp only [Act.put, List.setIfInBounds_toArray, List.set_cons_zero, List.set_cons_succ]
      refine wpAnyH_take (i := 3) (v := ?_) opAt_3 (by kernel_rfl) (by kernel_rfl) (by kernel_rfl) (fun _ _ _ h => h) (Or.inl ⟨by rfl, ?_⟩) trivial ?_
      rotate_left
      · (intro w hSw; go_simp; try with_reducible rfl)
      try simp only [Act.put, List.setIfInBounds_toArray, List.set_cons_zero, List.set_cons_succ]
      refine wpAnyH_take (i := 4) (v := ?_) opAt_4 (by kernel_rfl) (by kernel_rfl) (by kernel_rfl) (fun _ _ _ h => h) (Or.inl ⟨by rfl, ?_⟩) trivial ?_
      rotate_left
      · (intro w hSw; go_simp; try with_reducible rfl)
      try simp only [Act.put, List.setIfInBounds_toArray, List.set_cons_zero, List.set_cons_succ]
      refine wpAnyH_take (i := 5) (v := ?_) opAt_5 (by kernel_rfl) (by kernel_rfl) (by kernel_rfl) (fun _ _ _ h => h) (Or.inl ⟨by rfl, ?_⟩) trivial ?_
      rotate_left
      · (intro w hSw; go_simp; try with_reducible rfl)
      try simp only [Act.put, List.setIfInBounds_toArray, List.set_cons_zero, List.set_cons_succ]
      refine wpAnyH_take (i := 6) (v := ?_) opAt_6 (by kernel_rfl) (by kernel_rfl) (by kernel_rfl) (fun _ _ _ h => h) (Or.inl ⟨by rfl, ?_⟩) trivial ?_
      rotate_left
      · (intro w hSw; go_simp; try with_reducible rfl)
      try simp only [Act.put, List.setIfInBounds_toArray, List.set_cons_zero, List.set_cons_succ]
      refine wpAnyH_ready (rs := [1]) (by kernel_rfl) (by simp) ?_
      refine AllReadyH.cons rfl (fun K hK => ?_) AllReadyH.nil
      refine step_append_rd (o := (⟨some 58, _, _, _, _, _⟩ : Oper)) _ rfl (.const (.slice none 0 0)) (.tmp 57) 30 rfl W2.heap.size 5 i0 (.int .u8 0) 1 1 Tryd.underlying30 hi0' hz0 hz1 hz2 rfl (by omega) (.slice none 0 0) 0 [] rfl (World.ownsRow_nil _ _ _ _) w1.heap.size (some ⟨g, 0, none⟩) 16 cap (bvs R) rfl (by rw [bvs_length, HF.out.len]) (O1.out.below HD.out (Nat.le_refl _)) (bvs_one _) (by unfold maxLen; omega) (by omega) (Nat.le_refl _) ?_
      intro v3 w3 hown3 hb3 _
      have HO3 := Lib.hid hown3
      have HB3 := Lib.hid hb3
      have RB3 := Lib.hid (bs_cut (S1.out w3 w.heap.size (HBS.out.below (hbstep BD.out hb3) (Nat.le_refl _)))).1
      have hs3 := hb3.size
      clear hown3 hb3
      dsimp only [Act.put, Array.getElem_toList, List.getElem_toArray, List.getElem_cons_succ, List.getElem_cons_zero]
      refine hK.out _ _ trivial (fun _ => ?_)
      try simp only [Act.put, List.setIfInBounds_toArray, List.set_cons_zero, List.set_cons_succ]
      clear hK K
      refine wpAnyH_ready (rs := [7]) (by kernel_rfl) (by simp) ?_
      refine AllReadyH.cons rfl (fun K hK => ?_) AllReadyH.nil
      refine step_append_rd (o := (⟨some 64, _, _, _, _, _⟩ : Oper)) _ rfl (.tmp 58) (.tmp 63) 30 rfl W2.heap.size 5 i0 (.int .u8 0) 1 1 Tryd.underlying30 hi0' hz0 hz1 hz2 rfl (by omega) v3 (0 + 16) ([] ++ bvs R) rfl HO3.out w.heap.size A1' k1 c1' (bvs (l.take 50)) rfl (by rw [bvs_length, Nat.mul_one]; exact HK1.out.symm) RB3.out (bvs_one _) (by unfold maxLen; omega) (by omega) hs3 ?_
      intro v4 w4 hown4 hb4 _
      rw [List.nil_append, ← bvs_append, show 0 + 16 + k1 = 16 + k1 by omega] at hown4
      obtain ⟨g2, cap2, rfl, hge2, hgl2⟩ := hown4.form (by omega)
      have HO4 := Lib.hid hown4
      have HB4 := Lib.hid (HB3.out.trans hb4)
      have hs4 := Nat.le_trans hs3 hb4.size
      clear hown4 hb4 HO3 HB3 RB3
      dsimp only [Act.put, Array.getElem_toList, List.getElem_toArray, List.getElem_cons_succ, List.getElem_cons_zero]
      refine hK.out _ _ trivial (fun _ => ?_)
      try simp only [Act.put, List.setIfInBounds_toArray, List.set_cons_zero, List.set_cons_succ]
      clear hK K
      refine wpAnyH_take (i := 8) (v := ?_) opAt_8 (by kernel_rfl) (by kernel_rfl) (by kernel_rfl) (fun _ _ _ h => h) (Or.inl ⟨by rfl, ?_⟩) trivial ?_
      rotate_left
      · (intro w hSw; go_simp; try with_reducible rfl)
      try simp only [Act.put, List.setIfInBounds_toArray, List.set_cons_zero, List.set_cons_succ]
      refine wpAnyH_done (by kernel_rfl) ?_ _
      refine NoPanic.normal ?_
      have HKm := Lib.hid HK1.out
      have HL : Hid ((R ++ l.take 50).length = 16 + k1) := Lib.hid (by rw [List.length_append, HF.out.len, HK1.out])
      have hk50 : k1 ≤ 50 := by rw [HK1.out, List.length_take]; omega
      have B4 := Lib.hid (hbstep BD.out HB4.out)
      have HX0 := Lib.hid ((HB4.out.cell (p := ⟨w.heap.size, 0, none⟩) (by have := S1D.out; show w.heap.size < _; omega)).trans ((HD.out.cell (p := ⟨w.heap.size, 0, none⟩) hsw1).trans HX0.out))
      have HX1 := Lib.hid ((HB4.out.cell (p := ⟨w.heap.size, 1, none⟩) (by have := S1D.out; show w.heap.size < _; omega)).trans ((HD.out.cell (p := ⟨w.heap.size, 1, none⟩) hsw1).trans HX1.out))
      have K4 := Lib.hid (Bs.of_own HO4.out)
      generalize l.take 50 = m at *
      go_wp2_with fail
      have hga : Calls Tryd.prog 24 #[.slice (some ⟨g2, 0, none⟩) (16 + k1) cap2] w4 fun e w' => e = .returned (.tuple #[.int .i64 1, .int .u32 (i : Int), .int .i64 0]) ∧ Below w4.heap.size w4 w' := Hd.get_any _ (R ++ m) _ _ K4.out (Nat.le_refl _) (by rw [HL.out]; omega) (HT.out.on B4.out) _ (HF.out.get m)
      refine hga.mono ?_
      rintro e w5 ⟨rfl, hb5⟩
      have HB5 := Lib.hid hb5
      have hs5 := hb5.size
      clear hga hb5
      go_wp2_with fail
      have hgc : Calls Tryd.prog 26 #[.slice (some ⟨g2, 0, none⟩) (16 + k1) cap2, .int .i64 1, .int .u32 (i : Int)] w5 fun e w' => e = .returned (.int .i64 0) ∧ Below w5.heap.size w5 w' := Hd.check_any _ (R ++ m) _ 1 (i : Int) _ (K4.out.below HB5.out (Nat.le_refl _)) hs5 (by rw [HL.out]; omega) (HT.out.on (hbstep B4.out HB5.out)) 0 (by rw [HF.out.chk, if_pos ⟨rfl, rfl⟩])
      refine hgc.mono ?_
      rintro e w6 ⟨rfl, hb6⟩
      have HB6 := Lib.hid (HB5.out.trans (hb6.mono hs5))
      have hs6 := Nat.le_trans hs5 hb6.size
      have hx0 := (HB6.out.cell (p := ⟨w.heap.size, 0, none⟩) (by have := S1D.out; show w.heap.size < _; omega)).trans HX0.out
      have hx1 := (HB6.out.cell (p := ⟨w.heap.size, 1, none⟩) (by have := S1D.out; show w.heap.size < _; omega)).trans HX1.out
      clear hgc hb6 HB5
      go_wp2_with fail
      have HB7 : Hid (Below w4.heap.size w4 w6.drew) := Lib.hid (below_drewN HB6.out 1)
      have hs7 : w4.heap.size ≤ w6.drew.heap.size := hs6
      clear HB6
      refine wp_region_noPanic ?_
      refine wp_region_held_drew (S := fun w' : World => w'.cell? ⟨w.heap.size, 0, none⟩ = some (.int .u32 x4) ∧ w'.cell? ⟨w.heap.size, 1, none⟩ = some (.int .u32 y4)) (by kernel_rfl) (⟨hx0, hx1⟩) (fun hHeld => ?_)
      refine wpAnyH_take (i := 0) (v := ?_) opAt_0 (by kernel_rfl) (by kernel_rfl) (by kernel_rfl) (fun _ _ _ h => h) (Or.inl ⟨by rfl, ?_⟩) (by assumption) ?_
      rotate_left
      · (intro w hSw; (try dsimp only at hSw); go_simp; try with_reducible rfl)
      try simp only [Act.put, List.setIfInBounds_toArray, List.set_cons_zero, List.set_cons_succ]
      refine wpAnyH_take (i := 1) (v := ?_) opAt_1 (by kernel_rfl) (by kernel_rfl) (by kernel_rfl) (fun _ _ _ h => h) (Or.inl ⟨by rfl, ?_⟩) (by assumption) ?_
      rotate_left
      · (intro w hSw; (try dsimp only at hSw); go_simp; try with_reducible rfl)
      try simp only [Act.put, List.setIfInBounds_toArray, List.set_cons_zero, List.set_cons_succ]
      refine wpAnyH_take (i := 2) (v := ?_) opAt_2 (by kernel_rfl) (by kernel_rfl) (by kernel_rfl) (fun _ _ _ h => h) (Or.inl ⟨by rfl, ?_⟩) (by assumption) ?_
      rotate_left
      · (intro w hSw; (try dsimp only at hSw); go_simp; try with_reducible rfl)
      try simp only [Act.put, List.setIfInBounds_toArray, List.set_cons_zero, List.set_cons_succ]
      refine wpAnyH_take (i := 3) (v := ?_) opAt_3 (by kernel_rfl) (by kernel_rfl) (by kernel_rfl) (fun _ _ _ h => h) (Or.inl ⟨by rfl, ?_⟩) (by assumption) ?_
      rotate_left
      · (intro w hSw; (try dsimp only at hSw); go_simp; try with_reducible rfl)
      try simp only [Act.put, List.setIfInBounds_toArray, List.set_cons_zero, List.set_cons_succ]
      refine wpAnyH_take (i := 6) (v := ?_) opAt_6 (by kernel_rfl) (by kernel_rfl) (by kernel_rfl) (fun _ _ _ h => h) (Or.inl ⟨by rfl, ?_⟩) (by assumption) ?_
      rotate_left
      · (intro w hSw; (try dsimp only at hSw); go_simp; try with_reducible rfl)
      try simp only [Act.put, List.setIfInBounds_toArray, List.set_cons_zero, List.set_cons_succ]
      refine wpAnyH_take (i := 4) (v := ?_) opAt_4 (by kernel_rfl) (by kernel_rfl) (by kernel_rfl) (fun _ _ _ h => h) (Or.inl ⟨by rfl, ?_⟩) (by assumption) ?_
      rotate_left
      · (intro w hSw; (try dsimp only at hSw); go_simp; try with_reducible rfl)
      try simp only [Act.put, List.setIfInBounds_toArray, List.set_cons_zero, List.set_cons_succ]
      refine wpAnyH_take (i := 5) (v := ?_) opAt_5 (by kernel_rfl) (by kernel_rfl) (by kernel_rfl) (fun _ _ _ h => h) (Or.inl ⟨by rfl, ?_⟩) (by assumption) ?_
      rotate_left
      · (intro w hSw; (try dsimp only at hSw); go_simp; try with_reducible rfl)
      try simp only [Act.put, List.setIfInBounds_toArray, List.set_cons_zero, List.set_cons_succ]
      refine wpAnyH_take (i := 7) (v := ?_) opAt_7 (by kernel_rfl) (by kernel_rfl) (by kernel_rfl) (fun _ _ _ h => h) (Or.inl ⟨by rfl, ?_⟩) (by assumption) ?_
      rotate_left
      · (intro w hSw; (try dsimp only at hSw); go_simp; try with_reducible rfl)
      try simp only [Act.put, List.setIfInBounds_toArray, List.set_cons_zero, List.set_cons_succ]
      refine wpAnyH_done (by kernel_rfl) ?_ _
      refine NoPanic.normal ?_
      clear hHeld
      generalize World.drew _ = W7 at *
      go_wp2_with fail
      rw [h4]
      have hgd : Calls Tryd.prog 26 #[.slice (some ⟨g2, 0, none⟩) (16 + k1) cap2, .int .i64 k4, .int .u32 y4] W7 fun e w' => e = .returned (.int .i64 23) ∧ Below W7.heap.size W7 w' := Hd.check_any _ (R ++ m) _ k4 y4 _ (K4.out.below HB7.out (Nat.le_refl _)) hs7 (by rw [HL.out]; omega) (HT.out.on (hbstep B4.out HB7.out)) 23 (by rw [HF.out.chk]; exact HCK.out)
      refine hgd.mono ?_
      rintro e w8 ⟨rfl, hb8⟩
      have HB8 := Lib.hid (HB7.out.trans (hb8.mono hs7))
      have hs8 := Nat.le_trans hs7 hb8.size
      clear hgd hb8 HB7 hx0 hx1
      go_wp2_with fail
      rw [hf]
      have O8 : Hid (w8.ownsRow W2.heap.size 5 1 (.slice (some ⟨g2, 0, none⟩) (16 + k1) cap2) (16 + k1) (bvs (R ++ m))) := Lib.hid (own_below HO4.out HB8.out (Nat.le_refl _))
      have BW8 := Lib.hid (hbstep B4.out HB8.out)
      have hsW := Nat.le_trans hs4 hs8
      have hw2 : w.heap.size ≤ W2.heap.size := by have := S1D.out; omega
      clear HO4 K4
      clear e1 e2 p4 h4 z2 z4 hb' cut1 m1 h20 hf
      go_loopg [25] 32 (fun gh iv wr => ∃ (j : Nat) (lj : List UInt8), j + gh = 32 ∧ j ≤ 128 - f ∧ iv = .int .i64 j ∧ wr.ownsRow W2.heap.size 5 1 (.slice (some ⟨g2, 0, none⟩) (16 + k1) cap2) (16 + k1) (bvs (lj ++ m)) ∧ Cx.turned R b' f j lj ∧ Below W2.heap.size w8 wr)
      case atStart => exact ⟨0, R, by omega, by omega, rfl, O8.out, Cx.turned_zero R b' f, Below.refl _ _⟩
      case round =>
        obtain ⟨j, lj, hj, hjf, rfl, hown, htu, hb⟩ := hrel
        have Htu := Lib.hid htu
        clear htu
        have Hlj : Hid (lj.length = 16) := Lib.hid (by rw [Htu.out.1, HF.out.len])
        by_cases hgo : j < 32 ∧ f + j < 128
        · obtain ⟨hj32, hfj⟩ := hgo
          have t1 : (j : Int) < 32 := by omega
          have t2 : (f : Int) + (j : Int) < 128 := by omega
          have hbit := bit_j b' j
          have Hown1 := Lib.hid hown
          rcases hbb : b'.getLsbD j with _ | _
          · rw [hbb] at hbit
            have Hbb := Lib.hid hbb
            clear hbb
            go_wp2_with fail
            go_roundg (gk - 1)
            case measure => omega
            case rel => exact ⟨j + 1, lj, by omega, by omega, by go_num, Hown1.out, Cx.turned_same Htu.out hj32 Hbb.out, hb⟩
          · rw [hbb] at hbit
            have Hbb := Lib.hid hbb
            clear hbb
            obtain ⟨p, hp⟩ : ∃ p : Nat, ((f : Int) + (j : Int)) / 8 = (p : Int) := ⟨(f + j) / 8, by omega⟩
            obtain ⟨q, hq⟩ : ∃ q : Nat, ((f : Int) + (j : Int)) % 8 = (q : Int) := ⟨(f + j) % 8, by omega⟩
            have hpq : f + j = 8 * p + q := by omega
            have hq8 : q < 8 := by omega
            have hpn : p < 16 := by omega
            have hpk : p < 16 + k1 := by omega
            have hcell := Hown1.out.cellAt p (by omega)
            have hfr := Hown1.out.frozenAt p
            obtain ⟨x, hx⟩ : ∃ x, lj[p]? = some x := ⟨lj[p]'(by rw [Hlj.out]; exact hpn), List.getElem?_eq_getElem _⟩
            rw [show (bvs (lj ++ m))[p]? = some (bv x) by unfold bvs; rw [List.getElem?_map, List.getElem?_append_left (by rw [Hlj.out]; exact hpn), hx]; rfl] at hcell
            unfold bv at hcell
            have Hx := Lib.hid hx
            have Hpq := Lib.hid hpq
            clear hx hpq hown
            go_wp2_with fail
            go_region
            go_wp2_with fail
            go_roundg (gk - 1)
            case measure => omega
            case rel =>
              obtain ⟨hst, _⟩ := Hown1.out.stored p (bv (x ^^^ UInt8.ofNat (2 ^ q)))
              rw [← bvs_set, List.set_append_left _ _ (by rw [Hlj.out]; exact hpn)] at hst
              unfold bv at hst
              rw [← turn8 x q hq8] at hst
              exact ⟨j + 1, lj.set p (x ^^^ UInt8.ofNat (2 ^ q)), by omega, by omega, by go_num, hst.drew, Cx.turned_bit Htu.out hj32 Hbb.out Hx.out hq8 Hpq.out, (hb.setCell hge2 _).drew⟩
        · have hj0 : 0 < j := by omega
          have hgt := HF.out.tget _ _ _ _ Htu.out (by omega) hj0 Hb0.out m
          have hgc := HF.out.tchk _ _ _ _ Htu.out (by omega) hj0 Hb0.out m 1 (i : Int)
          have HGT := Lib.hid hgt
          have HGC := Lib.hid hgc
          have HBR := Lib.hid hb
          have hszr := hb.size
          have hL2 : (lj ++ m).length = 16 + k1 := by rw [List.length_append, Hlj.out, HKm.out]
          have HKR := Lib.hid (Bs.of_own hown)
          have BWR := Lib.hid (BW8.out.trans (hb.mono hw2))
          clear hgt hgc hb hown
          have hpass : (decide ((j : Int) < 32) = false) ∨ (decide ((j : Int) < 32) = true ∧ decide ((f : Int) + (j : Int) < 128) = false) := by
            by_cases h32 : j < 32
            · exact .inr ⟨by simp; omega, by simp; omega⟩
            · exact .inl (by simp; omega)
          rcases hpass with t1 | ⟨t1, t2⟩
          all_goals
            go_wp2_with fail
            have hge : Calls Tryd.prog 24 #[.slice (some ⟨g2, 0, none⟩) (16 + k1) cap2] wr fun e w' => e = .returned (.tuple #[.int .i64 0, .int .u32 0, .int .i64 23]) ∧ Below wr.heap.size wr w' := Hd.get_any _ (lj ++ m) _ _ HKR.out (Nat.le_refl _) (by rw [hL2]; omega) (HT.out.on BWR.out) _ HGT.out
            refine hge.mono ?_
            rintro e w10 ⟨rfl, hb10⟩
            have HB10 := Lib.hid hb10
            have B10 := Lib.hid (hbstep BWR.out hb10)
            clear hge hb10
            go_wp2_with fail
            have hgf : Calls Tryd.prog 26 #[.slice (some ⟨g2, 0, none⟩) (16 + k1) cap2, .int .i64 1, .int .u32 (i : Int)] w10 fun e w' => e = .returned (.int .i64 23) ∧ Below w10.heap.size w10 w' := Hd.check_any _ (lj ++ m) _ 1 (i : Int) _ (HKR.out.below HB10.out (Nat.le_refl _)) HB10.out.size (by rw [hL2]; omega) (HT.out.on B10.out) 23 HGC.out
            refine hgf.mono ?_
            rintro e w11 ⟨rfl, hb11⟩
            have B11 := Lib.hid (hbstep B10.out hb11)
            clear hgf hb11
            go_wp2_with fail
            refine (knows_any _ (HT.out.on B11.out)).mono ?_
            rintro e w12 ⟨rfl, hb12⟩
            go_wp2_with fail
            go_ret
            exact ⟨rfl, hbstep B11.out hb12⟩
set_option maxRecDepth 100000 in
set_option maxHeartbeats 16000000 in
theorem walk_s2 (i : Nat) (hi0 : ¬ i = 0) (hi1 : i ≤ 16777215) (a0 : Int) (hid : bits .and .u32 a0 16777215 = (i : Int)) (v1 : Value) (l : List UInt8) (a2 : Int) (b : BitVec 32) (x4 y4 k4 : Int) (w : World) (hbs : Bs w w.heap.size v1 l) (hll : l.length ≤ 140737488351232) (h20 : 0 ≤ a2) (h21 : a2 ≤ 255) (p4 : 0 ≤ x4) (h4 : x4 % 4 = k4) (h40 : 0 ≤ k4) (h41 : k4 < 4) (e1 : (k4 == 1) = true) (e2 : (y4 == (i : Int)) = true) (ht : Crc.Tab w) :
    Calls Tryd.prog 6 #[.int .u32 a0, v1, .int .u8 a2, .int .u32 (b.toNat : Int), .agg #[.int .u32 x4, .int .u32 y4]] w fun e w' => e = .returned (.bool true) ∧ Below w.heap.size w w' := by
  obtain ⟨i0, hi0', hz0, hz1, hz2⟩ := info_parts byte_info
  obtain ⟨A1, c1, k1, A1', c1', rfl, m1, hk1, cut1, s1⟩ := cut_min v1 l w.heap.size 50 w hbs
  have e50 : ((50 : Nat) : Int) = 50 := rfl
  rw [e50] at m1
  have hm : mayB ((1 : Nat) : Int) ((i : Nat) : Int) = true := by simp [mayB]; omega
  have hF := facts hm
  have b0 := hbnew w (.cells #[.int .u32 x4, .int .u32 y4] 60)
  have hp : Calls Tryd.prog 22 #[.int .i64 1, .int .u32 (i : Int)] (w.alloc (.cells #[.int .u32 x4, .int .u32 y4] 60)) _ := put_ok 1 i _ hm (ht.on b0)
  have hx0 : (w.alloc (.cells #[.int .u32 x4, .int .u32 y4] 60)).cell? ⟨w.heap.size, 0, none⟩ = some (.int .u32 x4) := by
    rw [cell_of_row _ w.heap.size 0 #[.int .u32 x4, .int .u32 y4] 60 (0, 0) (heap_alloc_new w _)]; rfl
  have hx1 : (w.alloc (.cells #[.int .u32 x4, .int .u32 y4] 60)).cell? ⟨w.heap.size, 1, none⟩ = some (.int .u32 y4) := by
    rw [cell_of_row _ w.heap.size 1 #[.int .u32 x4, .int .u32 y4] 60 (0, 0) (heap_alloc_new w _)]; rfl
  generalize headL 1 i = R at hp hF
  have hck : (if ((1 : Nat) : Int) = k4 ∧ ((i : Nat) : Int) = y4 then 0 else 23) = 0 := by
    simp at e1 e2
    rw [if_pos ⟨e1.symm, e2.symm⟩]
  have HCK := Lib.hid hck
  have HP := Lib.hid hp
  have HF := Lib.hid hF
  have HT := Lib.hid ht
  have B0 := Lib.hid b0
  have HX0 := Lib.hid hx0
  have HX1 := Lib.hid hx1
  have HBS := Lib.hid hbs
  have S1 := Lib.hid s1
  have HK1 : Hid (k1 = (l.take 50).length) := Lib.hid (bs_cut (s1 w w.heap.size hbs)).2
  have z2 : IntKind.i64.wrap a2 = a2 := IntWalk.i64_in _ (by omega)
  have z4 : IntKind.i64.wrap k4 = k4 := IntWalk.i64_in _ (by omega)
  obtain ⟨b', hb', hb0⟩ := or_one b
  have Hb0 := Lib.hid hb0
  obtain ⟨f, hf⟩ := Int.eq_ofNat_of_zero_le (show 0 ≤ a2 % 128 by omega)
  have hf2 : f < 128 := by omega
  have H4 := Lib.hid (And.intro h40 h41)
  clear hck hp hF ht b0 hx0 hx1 hbs s1 hb0 hm e50 h40 h41 h21
  generalize hn : l.length = n at *
  have Hn := Lib.hid hn
  clear hn
  go_enter Tryd.func6, Tryd.ntmps6
  go_wp2_with fail
  refine HP.out.mono ?_
  rintro e w1 ⟨v1, rfl, hown1, hb1⟩
  obtain ⟨g, cap, rfl, hgg, hgl⟩ := hown1.form (by omega)
  have hcap : 16 ≤ cap := by have := own_slice hown1; obtain ⟨A2, c2, e2', h2, _⟩ := this; injection e2' with _ _ e3; omega
  have B1 := Lib.hid (hbstep B0.out hb1)
  have HX0 := Lib.hid ((hb1.cell (p := ⟨w.heap.size, 0, none⟩) (by simp)).trans HX0.out)
  have HX1 := Lib.hid ((hb1.cell (p := ⟨w.heap.size, 1, none⟩) (by simp)).trans HX1.out)
  have O1 := Lib.hid (Rd.of_own hown1)
  have hsw1 : w.heap.size < w1.heap.size := by have := hb1.size; simp at this; omega
  clear hown1 hb1 hgg
  go_wp2_with fail
  go_loopg [14, 15, 16, 17] 16 (fun gh iv _ _ _ wr => ∃ j : Nat, j + gh = 16 ∧ iv = .int .i64 j ∧ Below w1.heap.size w1 wr)
  case atStart => exact ⟨0, by omega, rfl, Below.refl _ _⟩
  case round =>
    obtain ⟨j, hj, rfl, hb⟩ := hrel
    have Hb := Lib.hid hb
    clear hb
    by_cases hlt : j < 16
    · obtain ⟨A', c', hcut, hc', hcr⟩ := cut_h (some ⟨g, 0, none⟩) 16 cap j (by omega) hcap
      have hl16 : (j : Int) < 16 := by omega
      have hg := Hd.get_any (.slice A' j c') (R.take j) w1.heap.size wr ⟨A', c', by rw [List.length_take, HF.out.len, Nat.min_eq_left (by omega)], by rw [List.length_take, HF.out.len]; omega, hcr _ _ _ HF.out.len (O1.out.below Hb.out (Nat.le_refl _))⟩ Hb.out.size (by rw [List.length_take]; omega) (HT.out.on (hbstep B1.out Hb.out)) _ (HF.out.short j hlt)
      have Hg := Lib.hid hg
      clear hg hcr
      go_wp2_with fail
      refine Hg.out.mono ?_
      rintro e w2 ⟨rfl, hb2⟩
      have Hb2 := Lib.hid (Hb.out.trans (hb2.mono Hb.out.size))
      clear hb2 Hg
      go_wp2_with fail
      go_roundg (gk - 1)
      case measure => omega
      case rel => exact ⟨j + 1, by omega, by go_num, Hb2.out⟩
    · obtain rfl : j = 16 := by omega
      go_wp2_with fail
      have hd : Below w1.heap.size w1 wr.drew := below_drewN Hb.out 1
      have HD := Lib.hid hd
      have BD := Lib.hid (hbstep B1.out hd)
      have S1D := Lib.hid hd.size
      refine wp_region_noPanic ?_
      refine wp_region_held_drew (S := fun _ => True) (by kernel_rfl) trivial (fun hHeld => ?_)
      clear hd Hb
      generalize World.drew _ = W2 at *
      refine wpAnyH_take (i := 0) (v := ?_) opAt_0 (by kernel_rfl) (by kernel_rfl) (by kernel_rfl) (fun _ _ _ h => h) (Or.inl ⟨by rfl, ?_⟩) trivial ?_
      rotate_left
      · (intro w hSw; go_simp; try with_reducible rfl)
      try simp only [Act.put, List.setIfInBounds_toArray, List.set_cons_zero, List.set_cons_succ]
      refine wpAnyH_take (i := 2) (v := ?_) opAt_2 (by kernel_rfl) (by kernel_rfl) (by kernel_rfl) (fun _ _ _ h => h) (Or.inl ⟨by rfl, ?_⟩) trivial ?_
      rotate_left
      · (intro w hSw; go_simp; try with_reducible rfl)
      try simp only [Act.put, List.setIfInBounds_toArray, List.set_cons_zero, List.set_cons_succ]
      refine wpAnyH_take (i := 3) (v := ?_) opAt_3 (by kernel_rfl) (by kernel_rfl) (by kernel_rfl) (fun _ _ _ h => h) (Or.inl ⟨by rfl, ?_⟩) trivial ?_
      rotate_left
      · (intro w hSw; go_simp; try with_reducible rfl)
      try simp only [Act.put, List.setIfInBounds_toArray, List.set_cons_zero, List.set_cons_succ]
      refine wpAnyH_take (i := 4) (v := ?_) opAt_4 (by kernel_rfl) (by kernel_rfl) (by kernel_rfl) (fun _ _ _ h => h) (Or.inl ⟨by rfl, ?_⟩) trivial ?_
      rotate_left
      · (intro w hSw; go_simp; try with_reducible rfl)
      try simp only [Act.put, List.setIfInBounds_toArray, List.set_cons_zero, List.set_cons_succ]
      refine wpAnyH_take (i := 5) (v := ?_) opAt_5 (by kernel_rfl) (by kernel_rfl) (by kernel_rfl) (fun _ _ _ h => h) (Or.inl ⟨by rfl, ?_⟩) trivial ?_
      rotate_left
      · (intro w hSw; go_simp; try with_reducible rfl)
      try simp only [Act.put, List.setIfInBounds_toArray, List.set_cons_zero, List.set_cons_succ]
      refine wpAnyH_take (i := 6) (v := ?_) opAt_6 (by kernel_rfl) (by kernel_rfl) (by kernel_rfl) (fun _ _ _ h => h) (Or.inl ⟨by rfl, ?_⟩) trivial ?_
      rotate_left
      · (intro w hSw; go_simp; try with_reducible rfl)
      try simp only [Act.put, List.setIfInBounds_toArray, List.set_cons_zero, List.set_cons_succ]
      refine wpAnyH_ready (rs := [1]) (by kernel_rfl) (by simp) ?_
      refine AllReadyH.cons rfl (fun K hK => ?_) AllReadyH.nil
      refine step_append_rd (o := (⟨some 58, _, _, _, _, _⟩ : Oper)) _ rfl (.const (.slice none 0 0)) (.tmp 57) 30 rfl W2.heap.size 5 i0 (.int .u8 0) 1 1 Tryd.underlying30 hi0' hz0 hz1 hz2 rfl (by omega) (.slice none 0 0) 0 [] rfl (World.ownsRow_nil _ _ _ _) w1.heap.size (some ⟨g, 0, none⟩) 16 cap (bvs R) rfl (by rw [bvs_length, HF.out.len]) (O1.out.below HD.out (Nat.le_refl _)) (bvs_one _) (by unfold maxLen; omega) (by omega) (Nat.le_refl _) ?_
      intro v3 w3 hown3 hb3 _
      have HO3 := Lib.hid hown3
      have HB3 := Lib.hid hb3
      have RB3 := Lib.hid (bs_cut (S1.out w3 w.heap.size (HBS.out.below (hbstep BD.out hb3) (Nat.le_refl _)))).1
      have hs3 := hb3.size
      clear hown3 hb3
      dsimp only [Act.put, Array.getElem_toList, List.getElem_toArray, List.getElem_cons_succ, List.getElem_cons_zero]
      refine hK.out _ _ trivial (fun _ => ?_)
      try simp only [Act.put, List.setIfInBounds_toArray, List.set_cons_zero, List.set_cons_succ]
      clear hK K
      refine wpAnyH_ready (rs := [7]) (by kernel_rfl) (by simp) ?_
      refine AllReadyH.cons rfl (fun K hK => ?_) AllReadyH.nil
      refine step_append_rd (o := (⟨some 64, _, _, _, _, _⟩ : Oper)) _ rfl (.tmp 58) (.tmp 63) 30 rfl W2.heap.size 5 i0 (.int .u8 0) 1 1 Tryd.underlying30 hi0' hz0 hz1 hz2 rfl (by omega) v3 (0 + 16) ([] ++ bvs R) rfl HO3.out w.heap.size A1' k1 c1' (bvs (l.take 50)) rfl (by rw [bvs_length, Nat.mul_one]; exact HK1.out.symm) RB3.out (bvs_one _) (by unfold maxLen; omega) (by omega) hs3 ?_
      intro v4 w4 hown4 hb4 _
      rw [List.nil_append, ← bvs_append, show 0 + 16 + k1 = 16 + k1 by omega] at hown4
      obtain ⟨g2, cap2, rfl, hge2, hgl2⟩ := hown4.form (by omega)
      have HO4 := Lib.hid hown4
      have HB4 := Lib.hid (HB3.out.trans hb4)
      have hs4 := Nat.le_trans hs3 hb4.size
      clear hown4 hb4 HO3 HB3 RB3
      dsimp only [Act.put, Array.getElem_toList, List.getElem_toArray, List.getElem_cons_succ, List.getElem_cons_zero]
      refine hK.out _ _ trivial (fun _ => ?_)
      try simp only [Act.put, List.setIfInBounds_toArray, List.set_cons_zero, List.set_cons_succ]
      clear hK K
      refine wpAnyH_take (i := 8) (v := ?_) opAt_8 (by kernel_rfl) (by kernel_rfl) (by kernel_rfl) (fun _ _ _ h => h) (Or.inl ⟨by rfl, ?_⟩) trivial ?_
      rotate_left
      · (intro w hSw; go_simp; try with_reducible rfl)
      try simp only [Act.put, List.setIfInBounds_toArray, List.set_cons_zero, List.set_cons_succ]
      refine wpAnyH_done (by kernel_rfl) ?_ _
      refine NoPanic.normal ?_
      have HKm := Lib.hid HK1.out
      have HL : Hid ((R ++ l.take 50).length = 16 + k1) := Lib.hid (by rw [List.length_append, HF.out.len, HK1.out])
      have hk50 : k1 ≤ 50 := by rw [HK1.out, List.length_take]; omega
      have B4 := Lib.hid (hbstep BD.out HB4.out)
      have HX0 := Lib.hid ((HB4.out.cell (p := ⟨w.heap.size, 0, none⟩) (by have := S1D.out; show w.heap.size < _; omega)).trans ((HD.out.cell (p := ⟨w.heap.size, 0, none⟩) hsw1).trans HX0.out))
      have HX1 := Lib.hid ((HB4.out.cell (p := ⟨w.heap.size, 1, none⟩) (by have := S1D.out; show w.heap.size < _; omega)).trans ((HD.out.cell (p := ⟨w.heap.size, 1, none⟩) hsw1).trans HX1.out))
      have K4 := Lib.hid (Bs.of_own HO4.out)
      generalize l.take 50 = m at *
      go_wp2_with fail
      have hga : Calls Tryd.prog 24 #[.slice (some ⟨g2, 0, none⟩) (16 + k1) cap2] w4 fun e w' => e = .returned (.tuple #[.int .i64 1, .int .u32 (i : Int), .int .i64 0]) ∧ Below w4.heap.size w4 w' := Hd.get_any _ (R ++ m) _ _ K4.out (Nat.le_refl _) (by rw [HL.out]; omega) (HT.out.on B4.out) _ (HF.out.get m)
      refine hga.mono ?_
      rintro e w5 ⟨rfl, hb5⟩
      have HB5 := Lib.hid hb5
      have hs5 := hb5.size
      clear hga hb5
      go_wp2_with fail
      have hgc : Calls Tryd.prog 26 #[.slice (some ⟨g2, 0, none⟩) (16 + k1) cap2, .int .i64 1, .int .u32 (i : Int)] w5 fun e w' => e = .returned (.int .i64 0) ∧ Below w5.heap.size w5 w' := Hd.check_any _ (R ++ m) _ 1 (i : Int) _ (K4.out.below HB5.out (Nat.le_refl _)) hs5 (by rw [HL.out]; omega) (HT.out.on (hbstep B4.out HB5.out)) 0 (by rw [HF.out.chk, if_pos ⟨rfl, rfl⟩])
      refine hgc.mono ?_
      rintro e w6 ⟨rfl, hb6⟩
      have HB6 := Lib.hid (HB5.out.trans (hb6.mono hs5))
      have hs6 := Nat.le_trans hs5 hb6.size
      have hx0 := (HB6.out.cell (p := ⟨w.heap.size, 0, none⟩) (by have := S1D.out; show w.heap.size < _; omega)).trans HX0.out
      have hx1 := (HB6.out.cell (p := ⟨w.heap.size, 1, none⟩) (by have := S1D.out; show w.heap.size < _; omega)).trans HX1.out
      clear hgc hb6 HB5
      go_wp2_with fail
      have HB7 : Hid (Below w4.heap.size w4 w6.drew) := Lib.hid (below_drewN HB6.out 1)
      have hs7 : w4.heap.size ≤ w6.drew.heap.size := hs6
      clear HB6
      refine wp_region_noPanic ?_
      refine wp_region_held_drew (S := fun w' : World => w'.cell? ⟨w.heap.size, 0, none⟩ = some (.int .u32 x4) ∧ w'.cell? ⟨w.heap.size, 1, none⟩ = some (.int .u32 y4)) (by kernel_rfl) (⟨hx0, hx1⟩) (fun hHeld => ?_)
      refine wpAnyH_take (i := 0) (v := ?_) opAt_0 (by kernel_rfl) (by kernel_rfl) (by kernel_rfl) (fun _ _ _ h => h) (Or.inl ⟨by rfl, ?_⟩) (by assumption) ?_
      rotate_left
      · (intro w hSw; (try dsimp only at hSw); go_simp; try with_reducible rfl)
      try simp only [Act.put, List.setIfInBounds_toArray, List.set_cons_zero, List.set_cons_succ]
      refine wpAnyH_take (i := 1) (v := ?_) opAt_1 (by kernel_rfl) (by kernel_rfl) (by kernel_rfl) (fun _ _ _ h => h) (Or.inl ⟨by rfl, ?_⟩) (by assumption) ?_
      rotate_left
      · (intro w hSw; (try dsimp only at hSw); go_simp; try with_reducible rfl)
      try simp only [Act.put, List.setIfInBounds_toArray, List.set_cons_zero, List.set_cons_succ]
      refine wpAnyH_take (i := 2) (v := ?_) opAt_2 (by kernel_rfl) (by kernel_rfl) (by kernel_rfl) (fun _ _ _ h => h) (Or.inl ⟨by rfl, ?_⟩) (by assumption) ?_
      rotate_left
      · (intro w hSw; (try dsimp only at hSw); go_simp; try with_reducible rfl)
      try simp only [Act.put, List.setIfInBounds_toArray, List.set_cons_zero, List.set_cons_succ]
      refine wpAnyH_take (i := 3) (v := ?_) opAt_3 (by kernel_rfl) (by kernel_rfl) (by kernel_rfl) (fun _ _ _ h => h) (Or.inl ⟨by rfl, ?_⟩) (by assumption) ?_
      rotate_left
      · (intro w hSw; (try dsimp only at hSw); go_simp; try with_reducible rfl)
      try simp only [Act.put, List.setIfInBounds_toArray, List.set_cons_zero, List.set_cons_succ]
      refine wpAnyH_take (i := 6) (v := ?_) opAt_6 (by kernel_rfl) (by kernel_rfl) (by kernel_rfl) (fun _ _ _ h => h) (Or.inl ⟨by rfl, ?_⟩) (by assumption) ?_
      rotate_left
      · (intro w hSw; (try dsimp only at hSw); go_simp; try with_reducible rfl)
      try simp only [Act.put, List.setIfInBounds_toArray, List.set_cons_zero, List.set_cons_succ]
      refine wpAnyH_take (i := 4) (v := ?_) opAt_4 (by kernel_rfl) (by kernel_rfl) (by kernel_rfl) (fun _ _ _ h => h) (Or.inl ⟨by rfl, ?_⟩) (by assumption) ?_
      rotate_left
      · (intro w hSw; (try dsimp only at hSw); go_simp; try with_reducible rfl)
      try simp only [Act.put, List.setIfInBounds_toArray, List.set_cons_zero, List.set_cons_succ]
      refine wpAnyH_take (i := 5) (v := ?_) opAt_5 (by kernel_rfl) (by kernel_rfl) (by kernel_rfl) (fun _ _ _ h => h) (Or.inl ⟨by rfl, ?_⟩) (by assumption) ?_
      rotate_left
      · (intro w hSw; (try dsimp only at hSw); go_simp; try with_reducible rfl)
      try simp only [Act.put, List.setIfInBounds_toArray, List.set_cons_zero, List.set_cons_succ]
      refine wpAnyH_take (i := 7) (v := ?_) opAt_7 (by kernel_rfl) (by kernel_rfl) (by kernel_rfl) (fun _ _ _ h => h) (Or.inl ⟨by rfl, ?_⟩) (by assumption) ?_
      rotate_left
      · (intro w hSw; (try dsimp only at hSw); go_simp; try with_reducible rfl)
      try simp only [Act.put, List.setIfInBounds_toArray, List.set_cons_zero, List.set_cons_succ]
      refine wpAnyH_done (by kernel_rfl) ?_ _
      refine NoPanic.normal ?_
      clear hHeld
      generalize World.drew _ = W7 at *
      go_wp2_with fail
      rw [h4]
      have hgd : Calls Tryd.prog 26 #[.slice (some ⟨g2, 0, none⟩) (16 + k1) cap2, .int .i64 k4, .int .u32 y4] W7 fun e w' => e = .returned (.int .i64 0) ∧ Below W7.heap.size W7 w' := Hd.check_any _ (R ++ m) _ k4 y4 _ (K4.out.below HB7.out (Nat.le_refl _)) hs7 (by rw [HL.out]; omega) (HT.out.on (hbstep B4.out HB7.out)) 0 (by rw [HF.out.chk]; exact HCK.out)
      refine hgd.mono ?_
      rintro e w8 ⟨rfl, hb8⟩
      have HB8 := Lib.hid (HB7.out.trans (hb8.mono hs7))
      have hs8 := Nat.le_trans hs7 hb8.size
      clear hgd hb8 HB7 hx0 hx1
      go_wp2_with fail
      rw [hf]
      have O8 : Hid (w8.ownsRow W2.heap.size 5 1 (.slice (some ⟨g2, 0, none⟩) (16 + k1) cap2) (16 + k1) (bvs (R ++ m))) := Lib.hid (own_below HO4.out HB8.out (Nat.le_refl _))
      have BW8 := Lib.hid (hbstep B4.out HB8.out)
      have hsW := Nat.le_trans hs4 hs8
      have hw2 : w.heap.size ≤ W2.heap.size := by have := S1D.out; omega
      clear HO4 K4
      clear e1 e2 p4 h4 z2 z4 hb' cut1 m1 h20 hf
      go_loopg [25] 32 (fun gh iv wr => ∃ (j : Nat) (lj : List UInt8), j + gh = 32 ∧ j ≤ 128 - f ∧ iv = .int .i64 j ∧ wr.ownsRow W2.heap.size 5 1 (.slice (some ⟨g2, 0, none⟩) (16 + k1) cap2) (16 + k1) (bvs (lj ++ m)) ∧ Cx.turned R b' f j lj ∧ Below W2.heap.size w8 wr)
      case atStart => exact ⟨0, R, by omega, by omega, rfl, O8.out, Cx.turned_zero R b' f, Below.refl _ _⟩
      case round =>
        obtain ⟨j, lj, hj, hjf, rfl, hown, htu, hb⟩ := hrel
        have Htu := Lib.hid htu
        clear htu
        have Hlj : Hid (lj.length = 16) := Lib.hid (by rw [Htu.out.1, HF.out.len])
        by_cases hgo : j < 32 ∧ f + j < 128
        · obtain ⟨hj32, hfj⟩ := hgo
          have t1 : (j : Int) < 32 := by omega
          have t2 : (f : Int) + (j : Int) < 128 := by omega
          have hbit := bit_j b' j
          have Hown1 := Lib.hid hown
          rcases hbb : b'.getLsbD j with _ | _
          · rw [hbb] at hbit
            have Hbb := Lib.hid hbb
            clear hbb
            go_wp2_with fail
            go_roundg (gk - 1)
            case measure => omega
            case rel => exact ⟨j + 1, lj, by omega, by omega, by go_num, Hown1.out, Cx.turned_same Htu.out hj32 Hbb.out, hb⟩
          · rw [hbb] at hbit
            have Hbb := Lib.hid hbb
            clear hbb
            obtain ⟨p, hp⟩ : ∃ p : Nat, ((f : Int) + (j : Int)) / 8 = (p : Int) := ⟨(f + j) / 8, by omega⟩
            obtain ⟨q, hq⟩ : ∃ q : Nat, ((f : Int) + (j : Int)) % 8 = (q : Int) := ⟨(f + j) % 8, by omega⟩
            have hpq : f + j = 8 * p + q := by omega
            have hq8 : q < 8 := by omega
            have hpn : p < 16 := by omega
            have hpk : p < 16 + k1 := by omega
            have hcell := Hown1.out.cellAt p (by omega)
            have hfr := Hown1.out.frozenAt p
            obtain ⟨x, hx⟩ : ∃ x, lj[p]? = some x := ⟨lj[p]'(by rw [Hlj.out]; exact hpn), List.getElem?_eq_getElem _⟩
            rw [show (bvs (lj ++ m))[p]? = some (bv x) by unfold bvs; rw [List.getElem?_map, List.getElem?_append_left (by rw [Hlj.out]; exact hpn), hx]; rfl] at hcell
            unfold bv at hcell
            have Hx := Lib.hid hx
            have Hpq := Lib.hid hpq
            clear hx hpq hown
            go_wp2_with fail
            go_region
            go_wp2_with fail
            go_roundg (gk - 1)
            case measure => omega
            case rel =>
              obtain ⟨hst, _⟩ := Hown1.out.stored p (bv (x ^^^ UInt8.ofNat (2 ^ q)))
              rw [← bvs_set, List.set_append_left _ _ (by rw [Hlj.out]; exact hpn)] at hst
              unfold bv at hst
              rw [← turn8 x q hq8] at hst
              exact ⟨j + 1, lj.set p (x ^^^ UInt8.ofNat (2 ^ q)), by omega, by omega, by go_num, hst.drew, Cx.turned_bit Htu.out hj32 Hbb.out Hx.out hq8 Hpq.out, (hb.setCell hge2 _).drew⟩
        · have hj0 : 0 < j := by omega
          have hgt := HF.out.tget _ _ _ _ Htu.out (by omega) hj0 Hb0.out m
          have hgc := HF.out.tchk _ _ _ _ Htu.out (by omega) hj0 Hb0.out m 1 (i : Int)
          have HGT := Lib.hid hgt
          have HGC := Lib.hid hgc
          have HBR := Lib.hid hb
          have hszr := hb.size
          have hL2 : (lj ++ m).length = 16 + k1 := by rw [List.length_append, Hlj.out, HKm.out]
          have HKR := Lib.hid (Bs.of_own hown)
          have BWR := Lib.hid (BW8.out.trans (hb.mono hw2))
          clear hgt hgc hb hown
          have hpass : (decide ((j : Int) < 32) = false) ∨ (decide ((j : Int) < 32) = true ∧ decide ((f : Int) + (j : Int) < 128) = false) := by
            by_cases h32 : j < 32
            · exact .inr ⟨by simp; omega, by simp; omega⟩
            · exact .inl (by simp; omega)
          rcases hpass with t1 | ⟨t1, t2⟩
          all_goals
            go_wp2_with fail
            have hge : Calls Tryd.prog 24 #[.slice (some ⟨g2, 0, none⟩) (16 + k1) cap2] wr fun e w' => e = .returned (.tuple #[.int .i64 0, .int .u32 0, .int .i64 23]) ∧ Below wr.heap.size wr w' := Hd.get_any _ (lj ++ m) _ _ HKR.out (Nat.le_refl _) (by rw [hL2]; omega) (HT.out.on BWR.out) _ HGT.out
            refine hge.mono ?_
            rintro e w10 ⟨rfl, hb10⟩
            have HB10 := Lib.hid hb10
            have B10 := Lib.hid (hbstep BWR.out hb10)
            clear hge hb10
            go_wp2_with fail
            have hgf : Calls Tryd.prog 26 #[.slice (some ⟨g2, 0, none⟩) (16 + k1) cap2, .int .i64 1, .int .u32 (i : Int)] w10 fun e w' => e = .returned (.int .i64 23) ∧ Below w10.heap.size w10 w' := Hd.check_any _ (lj ++ m) _ 1 (i : Int) _ (HKR.out.below HB10.out (Nat.le_refl _)) HB10.out.size (by rw [hL2]; omega) (HT.out.on B10.out) 23 HGC.out
            refine hgf.mono ?_
            rintro e w11 ⟨rfl, hb11⟩
            have B11 := Lib.hid (hbstep B10.out hb11)
            clear hgf hb11
            go_wp2_with fail
            refine (knows_any _ (HT.out.on B11.out)).mono ?_
            rintro e w12 ⟨rfl, hb12⟩
            go_wp2_with fail
            go_ret
            exact ⟨rfl, hbstep B11.out hb12⟩
set_option maxRecDepth 100000 in
theorem walk (a0 : Int) (v1 : Value) (z1 : List Int) (a2 : Int) (a3 : Int) (x4 y4 : Int) (w : World) (w0 : (Lit.int .u32 a0).wf = true) (w1 : Ints w w.heap.size .u8 v1 z1) (g1 : ∀ n ∈ z1, (Lit.int .u8 n).wf = true) (s1 : z1.length * 1 ≤ 140737488351232) (w2 : (Lit.int .u8 a2).wf = true) (w3 : (Lit.int .u32 a3).wf = true) (wx4 : (Lit.int .u32 x4).wf = true) (wy4 : (Lit.int .u32 y4).wf = true) (ht : Crc.Tab w) :
    Calls Tryd.prog 6 #[.int .u32 a0, v1, .int .u8 a2, .int .u32 a3, .agg #[.int .u32 x4, .int .u32 y4]] w fun e w' => e = .returned (.bool true) ∧ Below w.heap.size w w' := by
  have hbs := bs_of_ints w1 (fun z hz => bounds_u8 (g1 z hz))
  have hll : (z1.map fun z => UInt8.ofNat z.toNat).length ≤ 140737488351232 := by rw [List.length_map]; omega
  generalize z1.map (fun z => UInt8.ofNat z.toNat) = l at hbs hll
  obtain ⟨h20, h21⟩ := bounds_u8 w2
  obtain ⟨b, rfl⟩ := u32_letter w3
  obtain ⟨b0, rfl⟩ := u32_letter w0
  obtain ⟨i, hid, hi⟩ := and_max b0
  obtain ⟨p4, q4⟩ := bounds_u32 wx4
  obtain ⟨k4, h4⟩ : ∃ k4, x4 % 4 = k4 := ⟨_, rfl⟩
  have h40 : 0 ≤ k4 := by omega
  have h41 : k4 < 4 := by omega
  by_cases hi0 : i = 0
  · subst hi0
    by_cases c1 : k4 = 2
    · by_cases c2 : y4 = 0
      · exact walk_z2 _ hid v1 l a2 b x4 y4 k4 w hbs hll h20 h21 p4 h4 h40 h41 (by simp [c1]) (by simp [c2]) ht
      · exact walk_z1 _ hid v1 l a2 b x4 y4 k4 w hbs hll h20 h21 p4 h4 h40 h41 (by simp [c1]) (by simp [c2]) ht
    · exact walk_z0 _ hid v1 l a2 b x4 y4 k4 w hbs hll h20 h21 p4 h4 h40 h41 (by simp [c1]) ht
  · by_cases c1 : k4 = 1
    · by_cases c2 : y4 = (i : Int)
      · exact walk_s2 i hi0 hi _ hid v1 l a2 b x4 y4 k4 w hbs hll h20 h21 p4 h4 h40 h41 (by simp [c1]) (by simp [c2]) ht
      · exact walk_s1 i hi0 hi _ hid v1 l a2 b x4 y4 k4 w hbs hll h20 h21 p4 h4 h40 h41 (by simp [c1]) (by simp [c2]) ht
    · exact walk_s0 i hi0 hi _ hid v1 l a2 b x4 y4 k4 w hbs hll h20 h21 p4 h4 h40 h41 (by simp [c1]) ht
end Go.Proofs.YtggijjknfcofoaaDoor.headIs
