
/-
  The walk of the law LocCalls: it returns true, and writes nothing that was there.
-/
import Derived.Test.YtikdpldfklbdoaaLxBox
import Derived.Test.YtikdpldfklbdoaaLxWakes
import Derived.Test.YtikdpldfklbdoaaLrMem
import Derived.Test.YtikdpldfklbdoaaRegion
import Derived.Deep.DeepCutAuto
import Derived.Deep.DrawnRows
import Derived.OpenShut
set_option linter.unusedVariables false
set_option linter.unusedSimpArgs false
namespace Go.Proofs.Ytikdpldfklbdoaa.locCalls
open Go.RowKit

/-- what is held of the world through the law -/
structure Held (w W : World) (s0 o0 s1 o1 n2 : Int) (b2 v7 v8 : Value) (l2 la : List UInt8) : Prop where
  bel : Below w.heap.size w W
  box0 : LBox W w.heap.size s0 o0
  box1 : LBox W (w.heap.size + 1) s1 o1
  any : ABox W (w.heap.size + 1 + 1) n2 b2
  bs7 : Bs W W.heap.size v7 la
  bs8 : Bs W W.heap.size v8 la
section
variable {w W W' : World} {s0 o0 s1 o1 n2 : Int} {b2 v7 v8 : Value} {l2 la : List UInt8}
theorem Held.on (h : Held w W s0 o0 s1 o1 n2 b2 v7 v8 l2 la) (hb : Below W.heap.size W W') : Held w W' s0 o0 s1 o1 n2 b2 v7 v8 l2 la :=
  ⟨bstep h.bel hb, h.box0.on hb, h.box1.on hb, h.any.on hb, h.bs7.on hb, h.bs8.on hb⟩
theorem Held.drew (h : Held w W s0 o0 s1 o1 n2 b2 v7 v8 l2 la) : Held w W.drew s0 o0 s1 o1 n2 b2 v7 v8 l2 la := h.on (Below.refl _ _).drew
theorem Held.two (h : Held w W s0 o0 s1 o1 n2 b2 v7 v8 l2 la) : LBox W w.heap.size s0 o0 ∧ LBox W (w.heap.size + 1) s1 o1 := ⟨h.box0, h.box1⟩
end

set_option maxRecDepth 100000 in
set_option maxHeartbeats 8000000 in
theorem walk (s0 o0 : Int) (s1 o1 : Int) (n2 : Int) (b2 : Value) (l2 : List UInt8) (w : World) (ps0 : 0 ≤ s0 ∧ s0 < 4294967296) (po0 : 0 ≤ o0 ∧ o0 < 4294967296) (ps1 : 0 ≤ s1 ∧ s1 < 4294967296) (po1 : 0 ≤ o1 ∧ o1 < 4294967296) (pn2 : 0 ≤ n2 ∧ n2 < 18446744073709551616) (hl2 : Bs w w.heap.size b2 l2) (sz2 : l2.length ≤ 140737488351232) :
    Calls Try.prog 3 #[lv s0 o0, lv s1 o1, .agg #[.int .u64 n2, b2]] w fun e w' => e = .returned (.bool true) ∧ Below w.heap.size w w' := by
  obtain ⟨p1, p1'⟩ := ps0
  obtain ⟨q1, q1'⟩ := po0
  obtain ⟨p2, p2'⟩ := ps1
  obtain ⟨q2, q2'⟩ := po1
  obtain ⟨pn, pn'⟩ := pn2
  obtain ⟨A2, c2, rfl, hc2, hr2⟩ := hl2
  have Hr2 := Lib.hid hr2
  clear hr2
  obtain ⟨la, hla⟩ : ∃ la, la = l2.take 40 := ⟨_, rfl⟩
  have hlen : la.length = min l2.length 40 := by rw [hla, List.length_take]; omega
  have h40 : la.length ≤ 40 := by omega
  have hmin : min (l2.length : Int) 40 = (la.length : Int) := by omega
  have hcc : (la.length : Int) ≤ (c2 : Int) := by omega
  have Hlen := Lib.hid hlen
  have Hla := Lib.hid hla
  clear hlen hla
  unfold lv
  go_enter Try.func3, Try.ntmps3
  go_wp2_with fail
  have b0 := balloc (balloc (bnew w (.cells #[.int .u32 s0, .int .u32 o0] 24)) (.cells #[.int .u32 s1, .int .u32 o1] 24)) (.cells #[.int .u64 n2, .slice A2 l2.length c2] 28)
  have HB0 : Hid (LBox _ w.heap.size s0 o0) := ((LBox.new w s0 o0 24).on (bnew _ (.cells #[.int .u32 s1, .int .u32 o1] 24))).on (bnew _ (.cells #[.int .u64 n2, .slice A2 l2.length c2] 28))
  have HB1 : Hid (LBox _ (w.heap.size + 1) s1 o1) := (LBox.new2 w (.cells #[.int .u32 s0, .int .u32 o0] 24) s1 o1 24).on (bnew _ (.cells #[.int .u64 n2, .slice A2 l2.length c2] 28))
  have hA := ABox.new2 (w.alloc (.cells #[.int .u32 s0, .int .u32 o0] 24)) (.cells #[.int .u32 s1, .int .u32 o1] 24) n2 (.slice A2 l2.length c2) 28
  rw [World.size_alloc] at hA
  have HA := Lib.hid hA
  clear hA
  have HV : Hid (Bs w w.heap.size (.slice A2 la.length c2) la) := by
    refine ⟨A2, c2, rfl, by omega, ?_⟩
    rw [Hla.out, bvs_take]
    exact Hr2.out.take 40
  refine (own_b _ la _ (HV.out.on b0) (by omega)).mono ?_
  rintro e w1 ⟨v8, rfl, hown, hb⟩
  have HH : Hid (Held w w1 s0 o0 s1 o1 n2 (.slice A2 l2.length c2) (.slice A2 la.length c2) v8 l2 la) := ⟨bstep b0 hb, HB0.out.on hb, HB1.out.on hb, HA.out.on hb, (HV.out.on b0).on hb, Bs.of_own hown⟩
  clear hown hb b0 HB0 HB1 HA HV hmin hcc
  -- Pack, twice
  obtain ⟨c0, c1, f0, f1, hz⟩ := HH.out.box0
  go_wp2_with fail
  refine (pack_any s0 o0 _ p1 p1' q1 q1').mono ?_
  rintro e w2 ⟨rfl, hb⟩
  replace HH := Lib.hid (HH.out.on hb)
  clear hb c0 c1 f0 f1 hz
  have hme : (Lx.pkE s0 o0 == 0) = Lx.mayB s0 o0 := by unfold Lx.pkE; cases Lx.mayB s0 o0 <;> rfl
  generalize hmb : Lx.mayB s0 o0 = mb at *
  have Hmb := Lib.hid hmb
  generalize hpn : Lx.pkN s0 o0 = pN at *
  have Hpn := Lib.hid hpn
  generalize hpe : Lx.pkE s0 o0 = pE at *
  have Hpe := Lib.hid hpe
  have Hme := Lib.hid hme
  clear hmb hpn hpe hme
  obtain ⟨c0, c1, f0, f1, hz⟩ := HH.out.box0
  go_wp2_with fail
  refine (r3pack_any s0 o0 _ p1 p1' q1 q1').mono ?_
  rintro e w3 ⟨rfl, hb⟩
  rw [Hpn.out, Hpe.out]
  replace HH := Lib.hid (HH.out.on hb)
  clear hb c0 c1 f0 f1 hz
  -- Unpack, twice
  obtain ⟨c0, c1, hz⟩ := HH.out.any
  go_wp2_with fail
  refine (unpack_any n2 _ pn pn').mono ?_
  rintro e w4 ⟨rfl, hb⟩
  replace HH := Lib.hid (HH.out.on hb)
  clear hb c0 c1 hz
  generalize hus : Lx.unS n2 = uS at *
  generalize huo : Lx.unO n2 = uO at *
  generalize hue : Lx.unE n2 = uE at *
  have Hus := Lib.hid hus
  have Huo := Lib.hid huo
  have Hue := Lib.hid hue
  clear hus huo hue
  unfold lv
  have HL1 := Lib.hid (LBox.new w4 uS uO 24)
  obtain ⟨c0, c1, hz⟩ := HH.out.any
  go_wp2_with fail
  refine (r3unpack_any n2 _ pn pn').mono ?_
  rintro e w5 ⟨rfl, hb⟩
  rw [Hus.out, Huo.out, Hue.out]
  replace HH := Lib.hid ((HH.out.on (bnew _ (.cells #[.int .u32 uS, .int .u32 uO] 24))).on hb)
  replace HL1 := Lib.hid (HL1.out.on hb)
  clear hb c0 c1 hz
  generalize w4.heap.size = g1 at *
  unfold lv
  have HL2 := Lib.hid (LBox.new w5 uS uO 24)
  replace HL1 := Lib.hid (HL1.out.on (bnew _ (.cells #[.int .u32 uS, .int .u32 uO] 24)))
  obtain ⟨c0, c1, f0, f1, hz⟩ := HH.out.box0
  go_wp2_with fail
  -- Put, twice
  replace HH := Lib.hid (HH.out.on (bnew _ (.cells #[.int .u32 uS, .int .u32 uO] 24)))
  refine (lput_any _ la s0 o0 _ HH.out.bs8 p1 p1' q1 q1' (by omega)).mono ?_
  rintro e w6 ⟨r6, rfl, hs6, hb⟩
  rw [Hpe.out]
  have HS6 := Lib.hid hs6
  replace HH := Lib.hid (HH.out.on hb)
  replace HL1 := Lib.hid (HL1.out.on hb)
  replace HL2 := Lib.hid (HL2.out.on hb)
  clear hb c0 c1 f0 f1 hz hs6
  generalize w5.heap.size = g2 at *
  obtain ⟨c0, c1, f0, f1, hz⟩ := HH.out.box0
  go_wp2_with fail
  refine (r3put_any _ la s0 o0 _ HH.out.bs7 p1 p1' q1 q1' (by omega)).mono ?_
  rintro e w7 ⟨r7, rfl, hs7, hb⟩
  rw [Hpe.out]
  have HS7 := Lib.hid hs7
  replace HH := Lib.hid (HH.out.on hb)
  replace HL1 := Lib.hid (HL1.out.on hb)
  replace HL2 := Lib.hid (HL2.out.on hb)
  replace HS6 := Lib.hid (HS6.out.on hb)
  clear hb c0 c1 f0 f1 hz hs7
  -- Get, twice
  go_wp2_with fail
  refine (lget_any _ la _ HH.out.bs8 (by omega)).mono ?_
  rintro e w8 ⟨rfl, hb⟩
  replace HH := Lib.hid (HH.out.on hb)
  replace HL1 := Lib.hid (HL1.out.on hb)
  replace HL2 := Lib.hid (HL2.out.on hb)
  replace HS6 := Lib.hid (HS6.out.on hb)
  replace HS7 := Lib.hid (HS7.out.on hb)
  clear hb
  obtain ⟨gs, go, gk, ge, hgq⟩ : ∃ gs go gk ge, Lx.getQ la = (gs, go, gk, ge) := ⟨_, _, _, _, rfl⟩
  have HGQ := Lib.hid (Lx.getV_eq hgq)
  clear hgq
  rw [HGQ.out]
  unfold Lx.gV lv
  go_wp2_with fail
  have HL3 := Lib.hid (LBox.new w8 gs go 24)
  replace HH := Lib.hid (HH.out.on (bnew _ (.cells #[.int .u32 gs, .int .u32 go] 24)))
  replace HL1 := Lib.hid (HL1.out.on (bnew _ (.cells #[.int .u32 gs, .int .u32 go] 24)))
  replace HL2 := Lib.hid (HL2.out.on (bnew _ (.cells #[.int .u32 gs, .int .u32 go] 24)))
  replace HS6 := Lib.hid (HS6.out.on (bnew _ (.cells #[.int .u32 gs, .int .u32 go] 24)))
  replace HS7 := Lib.hid (HS7.out.on (bnew _ (.cells #[.int .u32 gs, .int .u32 go] 24)))
  refine (r3get_any _ la _ HH.out.bs7 (by omega)).mono ?_
  rintro e w9 ⟨rfl, hb⟩
  replace HH := Lib.hid (HH.out.on hb)
  replace HL1 := Lib.hid (HL1.out.on hb)
  replace HL2 := Lib.hid (HL2.out.on hb)
  replace HL3 := Lib.hid (HL3.out.on hb)
  replace HS6 := Lib.hid (HS6.out.on hb)
  replace HS7 := Lib.hid (HS7.out.on hb)
  clear hb
  generalize w8.heap.size = g3 at *
  rw [HGQ.out]
  unfold Lx.gV lv
  have he := run_eql_loc
  have hg := guard_loc
  obtain ⟨c0, c1, f0, f1, hz⟩ := HL1.out
  obtain ⟨d0, d1, h0, h1, hy⟩ := HL2.out
  go_wp2_with fail
  replace HH := Lib.hid (HH.out.on (bnew _ (.cells #[.int .u32 gs, .int .u32 go] 24)))
  replace HL3 := Lib.hid (HL3.out.on (bnew _ (.cells #[.int .u32 gs, .int .u32 go] 24)))
  replace HS6 := Lib.hid (HS6.out.on (bnew _ (.cells #[.int .u32 gs, .int .u32 go] 24)))
  replace HS7 := Lib.hid (HS7.out.on (bnew _ (.cells #[.int .u32 gs, .int .u32 go] 24)))
  have HL4 := Lib.hid (LBox.new w9 gs go 24)
  refine (equal_b _ _ _ _ _ _ _ HS6.out HS7.out).mono ?_
  rintro e w10 ⟨rfl, hw⟩
  rw [show (Lx.putR la s0 o0 == Lx.putR la s0 o0) = true by simp]
  rw [hw] at HH HL3 HL4
  clear c0 c1 f0 f1 hz d0 d1 h0 h1 hy HL1 HL2 HS6 HS7 hw
  obtain ⟨c0, c1, f0, f1, hz⟩ := HL3.out
  obtain ⟨d0, d1, h0, h1, hy⟩ := HL4.out
  generalize w9.heap.size = g4 at *
  go_wp2_with fail
  clear c0 c1 f0 f1 hz d0 d1 h0 h1 hy HL3 HL4
  have hme := Hme.out
  refine wp_region_noPanic ?_
  refine wp_region_held_drew (S := fun w' => LBox w' w.heap.size s0 o0 ∧ LBox w' (w.heap.size + 1) s1 o1) (by kernel_rfl) HH.out.drew.two (fun hHeld => ?_)
  replace HH := Lib.hid HH.out.drew
  generalize World.drew _ = W at *
  refine wpAnyH_take (i := 0) (v := ?_) opAt_0 (by kernel_rfl) (by kernel_rfl) (by kernel_rfl) (fun _ _ _ h => h) (Or.inl ⟨by rfl, ?_⟩) hHeld ?_
  rotate_left
  · (intro w' hSw; obtain ⟨⟨c0, c1, f0, f1, hz⟩, d0, d1, g0, g1, hy⟩ := hSw; go_simp; try with_reducible rfl)
  try simp only [Act.put, List.setIfInBounds_toArray, List.set_cons_zero, List.set_cons_succ]
  refine wpAnyH_take (i := 1) (v := ?_) opAt_1 (by kernel_rfl) (by kernel_rfl) (by kernel_rfl) (fun _ _ _ h => h) (Or.inl ⟨by rfl, ?_⟩) hHeld ?_
  rotate_left
  · (intro w' hSw; obtain ⟨⟨c0, c1, f0, f1, hz⟩, d0, d1, g0, g1, hy⟩ := hSw; go_simp; try with_reducible rfl)
  try simp only [Act.put, List.setIfInBounds_toArray, List.set_cons_zero, List.set_cons_succ]
  refine wpAnyH_take (i := 2) (v := ?_) opAt_2 (by kernel_rfl) (by kernel_rfl) (by kernel_rfl) (fun _ _ _ h => h) (Or.inl ⟨by rfl, ?_⟩) hHeld ?_
  rotate_left
  · (intro w' hSw; obtain ⟨⟨c0, c1, f0, f1, hz⟩, d0, d1, g0, g1, hy⟩ := hSw; go_simp; try with_reducible rfl)
  try simp only [Act.put, List.setIfInBounds_toArray, List.set_cons_zero, List.set_cons_succ]
  refine wpAnyH_take (i := 3) (v := ?_) opAt_3 (by kernel_rfl) (by kernel_rfl) (by kernel_rfl) (fun _ _ _ h => h) (Or.inl ⟨by rfl, ?_⟩) hHeld ?_
  rotate_left
  · (intro w' hSw; obtain ⟨⟨c0, c1, f0, f1, hz⟩, d0, d1, g0, g1, hy⟩ := hSw; go_simp; try with_reducible rfl)
  try simp only [Act.put, List.setIfInBounds_toArray, List.set_cons_zero, List.set_cons_succ]
  refine wpAnyH_take (i := 5) (v := ?_) opAt_5 (by kernel_rfl) (by kernel_rfl) (by kernel_rfl) (fun _ _ _ h => h) (Or.inl ⟨by rfl, ?_⟩) hHeld ?_
  rotate_left
  · (intro w' hSw; obtain ⟨⟨c0, c1, f0, f1, hz⟩, d0, d1, g0, g1, hy⟩ := hSw; go_simp; try with_reducible rfl)
  try simp only [Act.put, List.setIfInBounds_toArray, List.set_cons_zero, List.set_cons_succ]
  refine wpAnyH_take (i := 6) (v := ?_) opAt_6 (by kernel_rfl) (by kernel_rfl) (by kernel_rfl) (fun _ _ _ h => h) (Or.inl ⟨by rfl, ?_⟩) hHeld ?_
  rotate_left
  · (intro w' hSw; obtain ⟨⟨c0, c1, f0, f1, hz⟩, d0, d1, g0, g1, hy⟩ := hSw; go_simp; try with_reducible rfl)
  try simp only [Act.put, List.setIfInBounds_toArray, List.set_cons_zero, List.set_cons_succ]
  refine wpAnyH_ready (rs := [4]) (by kernel_rfl) (by simp) ?_
  refine AllReadyH.cons rfl (fun K hK => ?_) AllReadyH.nil
  go_simp
  refine (compare_any s0 o0 s1 o1 _).mono ?_
  rintro e x1 ⟨rfl, hb⟩
  replace HH := Lib.hid (HH.out.on hb)
  clear hb
  generalize hc : Lx.cmpL s0 o0 s1 o1 = c at *
  have Hc := Lib.hid hc
  clear hc
  go_wp2_with fail
  refine hK.out _ _ HH.out.two (fun hHeld => ?_)
  clear hK K
  try simp only [Act.put, List.setIfInBounds_toArray, List.set_cons_zero, List.set_cons_succ]
  refine wpAnyH_ready (rs := [7]) (by kernel_rfl) (by simp) ?_
  refine AllReadyH.cons rfl (fun K hK => ?_) AllReadyH.nil
  go_simp
  refine (r3compare_any s0 o0 s1 o1 _).mono ?_
  rintro e x2 ⟨rfl, hb⟩
  replace HH := Lib.hid (HH.out.on hb)
  clear hb
  rw [Hc.out]
  go_wp2_with fail
  refine hK.out _ _ HH.out.two (fun hHeld => ?_)
  clear hK K
  try simp only [Act.put, List.setIfInBounds_toArray, List.set_cons_zero, List.set_cons_succ]
  refine wpAnyH_take (i := 8) (v := ?_) opAt_8 (by kernel_rfl) (by kernel_rfl) (by kernel_rfl) (fun _ _ _ h => h) (Or.inl ⟨by rfl, ?_⟩) hHeld ?_
  rotate_left
  · (intro w' hSw; obtain ⟨⟨c0, c1, f0, f1, hz⟩, d0, d1, g0, g1, hy⟩ := hSw; go_simp; try with_reducible rfl)
  try simp only [Act.put, List.setIfInBounds_toArray, List.set_cons_zero, List.set_cons_succ]
  refine wpAnyH_take (i := 9) (v := ?_) opAt_9 (by kernel_rfl) (by kernel_rfl) (by kernel_rfl) (fun _ _ _ h => h) (Or.inl ⟨by rfl, ?_⟩) hHeld ?_
  rotate_left
  · (intro w' hSw; obtain ⟨⟨c0, c1, f0, f1, hz⟩, d0, d1, g0, g1, hy⟩ := hSw; go_simp; try with_reducible rfl)
  try simp only [Act.put, List.setIfInBounds_toArray, List.set_cons_zero, List.set_cons_succ]
  refine wpAnyH_take (i := 10) (v := ?_) opAt_10 (by kernel_rfl) (by kernel_rfl) (by kernel_rfl) (fun _ _ _ h => h) (Or.inl ⟨by rfl, ?_⟩) hHeld ?_
  rotate_left
  · (intro w' hSw; obtain ⟨⟨c0, c1, f0, f1, hz⟩, d0, d1, g0, g1, hy⟩ := hSw; go_simp; try with_reducible rfl)
  try simp only [Act.put, List.setIfInBounds_toArray, List.set_cons_zero, List.set_cons_succ]
  refine wpAnyH_take (i := 11) (v := ?_) opAt_11 (by kernel_rfl) (by kernel_rfl) (by kernel_rfl) (fun _ _ _ h => h) (Or.inl ⟨by rfl, ?_⟩) hHeld ?_
  rotate_left
  · (intro w' hSw; obtain ⟨⟨c0, c1, f0, f1, hz⟩, d0, d1, g0, g1, hy⟩ := hSw; go_simp; try with_reducible rfl)
  try simp only [Act.put, List.setIfInBounds_toArray, List.set_cons_zero, List.set_cons_succ]
  refine wpAnyH_take (i := 13) (v := ?_) opAt_13 (by kernel_rfl) (by kernel_rfl) (by kernel_rfl) (fun _ _ _ h => h) (Or.inl ⟨by rfl, ?_⟩) hHeld ?_
  rotate_left
  · (intro w' hSw; obtain ⟨⟨c0, c1, f0, f1, hz⟩, d0, d1, g0, g1, hy⟩ := hSw; go_simp; try with_reducible rfl)
  try simp only [Act.put, List.setIfInBounds_toArray, List.set_cons_zero, List.set_cons_succ]
  refine wpAnyH_take (i := 14) (v := ?_) opAt_14 (by kernel_rfl) (by kernel_rfl) (by kernel_rfl) (fun _ _ _ h => h) (Or.inl ⟨by rfl, ?_⟩) hHeld ?_
  rotate_left
  · (intro w' hSw; obtain ⟨⟨c0, c1, f0, f1, hz⟩, d0, d1, g0, g1, hy⟩ := hSw; go_simp; try with_reducible rfl)
  try simp only [Act.put, List.setIfInBounds_toArray, List.set_cons_zero, List.set_cons_succ]
  refine wpAnyH_ready (rs := [12]) (by kernel_rfl) (by simp) ?_
  refine AllReadyH.cons rfl (fun K hK => ?_) AllReadyH.nil
  go_simp
  refine (may_b s0 o0 _ p1 p1' q1 q1' mb Hmb.out).mono ?_
  rintro e x3 ⟨rfl, hb⟩
  replace HH := Lib.hid (HH.out.on hb)
  clear hb
  go_wp2_with fail
  refine hK.out _ _ HH.out.two (fun hHeld => ?_)
  clear hK K
  try simp only [Act.put, List.setIfInBounds_toArray, List.set_cons_zero, List.set_cons_succ]
  refine wpAnyH_take (i := 15) (v := ?_) opAt_15 (by kernel_rfl) (by kernel_rfl) (by kernel_rfl) (fun _ _ _ h => h) (Or.inl ⟨by rfl, ?_⟩) hHeld ?_
  rotate_left
  · (intro w' hSw; obtain ⟨⟨c0, c1, f0, f1, hz⟩, d0, d1, g0, g1, hy⟩ := hSw; go_simp; try with_reducible rfl)
  try simp only [Act.put, List.setIfInBounds_toArray, List.set_cons_zero, List.set_cons_succ]
  refine wpAnyH_take (i := 16) (v := ?_) opAt_16 (by kernel_rfl) (by kernel_rfl) (by kernel_rfl) (fun _ _ _ h => h) (Or.inl ⟨by rfl, ?_⟩) hHeld ?_
  rotate_left
  · (intro w' hSw; obtain ⟨⟨c0, c1, f0, f1, hz⟩, d0, d1, g0, g1, hy⟩ := hSw; go_simp; try with_reducible rfl)
  try simp only [Act.put, List.setIfInBounds_toArray, List.set_cons_zero, List.set_cons_succ]
  refine wpAnyH_take (i := 17) (v := ?_) opAt_17 (by kernel_rfl) (by kernel_rfl) (by kernel_rfl) (fun _ _ _ h => h) (Or.inl ⟨by rfl, ?_⟩) hHeld ?_
  rotate_left
  · (intro w' hSw; obtain ⟨⟨c0, c1, f0, f1, hz⟩, d0, d1, g0, g1, hy⟩ := hSw; go_simp; try with_reducible rfl)
  try simp only [Act.put, List.setIfInBounds_toArray, List.set_cons_zero, List.set_cons_succ]
  refine wpAnyH_take (i := 18) (v := ?_) opAt_18 (by kernel_rfl) (by kernel_rfl) (by kernel_rfl) (fun _ _ _ h => h) (Or.inl ⟨by rfl, ?_⟩) hHeld ?_
  rotate_left
  · (intro w' hSw; obtain ⟨⟨c0, c1, f0, f1, hz⟩, d0, d1, g0, g1, hy⟩ := hSw; go_simp; try with_reducible rfl)
  try simp only [Act.put, List.setIfInBounds_toArray, List.set_cons_zero, List.set_cons_succ]
  refine wpAnyH_take (i := 20) (v := ?_) opAt_20 (by kernel_rfl) (by kernel_rfl) (by kernel_rfl) (fun _ _ _ h => h) (Or.inl ⟨by rfl, ?_⟩) hHeld ?_
  rotate_left
  · (intro w' hSw; obtain ⟨⟨c0, c1, f0, f1, hz⟩, d0, d1, g0, g1, hy⟩ := hSw; go_simp; try with_reducible rfl)
  try simp only [Act.put, List.setIfInBounds_toArray, List.set_cons_zero, List.set_cons_succ]
  refine wpAnyH_take (i := 21) (v := ?_) opAt_21 (by kernel_rfl) (by kernel_rfl) (by kernel_rfl) (fun _ _ _ h => h) (Or.inl ⟨by rfl, ?_⟩) hHeld ?_
  rotate_left
  · (intro w' hSw; obtain ⟨⟨c0, c1, f0, f1, hz⟩, d0, d1, g0, g1, hy⟩ := hSw; go_simp; try with_reducible rfl)
  try simp only [Act.put, List.setIfInBounds_toArray, List.set_cons_zero, List.set_cons_succ]
  refine wpAnyH_take (i := 22) (v := ?_) opAt_22 (by kernel_rfl) (by kernel_rfl) (by kernel_rfl) (fun _ _ _ h => h) (Or.inl ⟨by rfl, ?_⟩) hHeld ?_
  rotate_left
  · (intro w' hSw; obtain ⟨⟨c0, c1, f0, f1, hz⟩, d0, d1, g0, g1, hy⟩ := hSw; go_simp; try with_reducible rfl)
  try simp only [Act.put, List.setIfInBounds_toArray, List.set_cons_zero, List.set_cons_succ]
  refine wpAnyH_ready (rs := [19]) (by kernel_rfl) (by simp) ?_
  refine AllReadyH.cons rfl (fun K hK => ?_) AllReadyH.nil
  go_simp
  refine (none_b s0 o0 _ (decide (s0 = 0) && decide (o0 = 0)) (by unfold Lx.noneB; simp)).mono ?_
  rintro e x4 ⟨rfl, hb⟩
  replace HH := Lib.hid (HH.out.on hb)
  clear hb
  go_wp2_with fail
  refine hK.out _ _ HH.out.two (fun hHeld => ?_)
  clear hK K
  try simp only [Act.put, List.setIfInBounds_toArray, List.set_cons_zero, List.set_cons_succ]
  refine wpAnyH_take (i := 23) (v := ?_) opAt_23 (by kernel_rfl) (by kernel_rfl) (by kernel_rfl) (fun _ _ _ h => h) (Or.inl ⟨by rfl, ?_⟩) hHeld ?_
  rotate_left
  · (intro w' hSw; obtain ⟨⟨c0, c1, f0, f1, hz⟩, d0, d1, g0, g1, hy⟩ := hSw; go_simp; try with_reducible rfl)
  try simp only [Act.put, List.setIfInBounds_toArray, List.set_cons_zero, List.set_cons_succ]
  refine wpAnyH_take (i := 24) (v := ?_) opAt_24 (by kernel_rfl) (by kernel_rfl) (by kernel_rfl) (fun _ _ _ h => h) (Or.inl ⟨by rfl, ?_⟩) hHeld ?_
  rotate_left
  · (intro w' hSw; obtain ⟨⟨c0, c1, f0, f1, hz⟩, d0, d1, g0, g1, hy⟩ := hSw; go_simp; try with_reducible rfl)
  try simp only [Act.put, List.setIfInBounds_toArray, List.set_cons_zero, List.set_cons_succ]
  refine wpAnyH_take (i := 25) (v := ?_) opAt_25 (by kernel_rfl) (by kernel_rfl) (by kernel_rfl) (fun _ _ _ h => h) (Or.inl ⟨by rfl, ?_⟩) hHeld ?_
  rotate_left
  · (intro w' hSw; obtain ⟨⟨c0, c1, f0, f1, hz⟩, d0, d1, g0, g1, hy⟩ := hSw; go_simp; try with_reducible rfl)
  try simp only [Act.put, List.setIfInBounds_toArray, List.set_cons_zero, List.set_cons_succ]
  refine wpAnyH_take (i := 26) (v := ?_) opAt_26 (by kernel_rfl) (by kernel_rfl) (by kernel_rfl) (fun _ _ _ h => h) (Or.inl ⟨by rfl, ?_⟩) hHeld ?_
  rotate_left
  · (intro w' hSw; obtain ⟨⟨c0, c1, f0, f1, hz⟩, d0, d1, g0, g1, hy⟩ := hSw; go_simp; try with_reducible rfl)
  try simp only [Act.put, List.setIfInBounds_toArray, List.set_cons_zero, List.set_cons_succ]
  refine wpAnyH_take (i := 27) (v := ?_) opAt_27 (by kernel_rfl) (by kernel_rfl) (by kernel_rfl) (fun _ _ _ h => h) (Or.inl ⟨by rfl, ?_⟩) hHeld ?_
  rotate_left
  · (intro w' hSw; obtain ⟨⟨c0, c1, f0, f1, hz⟩, d0, d1, g0, g1, hy⟩ := hSw; go_simp; try with_reducible rfl)
  try simp only [Act.put, List.setIfInBounds_toArray, List.set_cons_zero, List.set_cons_succ]
  refine wpAnyH_ready (rs := [28]) (by kernel_rfl) (by simp) ?_
  refine AllReadyH.cons rfl (fun K hK => ?_) AllReadyH.nil
  go_simp
  refine (equal_b _ _ _ _ _ _ _ HH.out.bs8 HH.out.bs7).mono ?_
  rintro e x5 ⟨rfl, rfl⟩
  rw [show (la == la) = true by simp]
  go_wp2_with fail
  refine hK.out _ _ HH.out.two (fun hHeld => ?_)
  clear hK K
  try simp only [Act.put, List.setIfInBounds_toArray, List.set_cons_zero, List.set_cons_succ]
  refine wpAnyH_take (i := 29) (v := ?_) opAt_29 (by kernel_rfl) (by kernel_rfl) (by kernel_rfl) (fun _ _ _ h => h) (Or.inl ⟨by rfl, ?_⟩) hHeld ?_
  rotate_left
  · (intro w' hSw; obtain ⟨⟨c0, c1, f0, f1, hz⟩, d0, d1, g0, g1, hy⟩ := hSw; go_simp; try with_reducible rfl)
  try simp only [Act.put, List.setIfInBounds_toArray, List.set_cons_zero, List.set_cons_succ]
  refine wpAnyH_take (i := 30) (v := ?_) opAt_30 (by kernel_rfl) (by kernel_rfl) (by kernel_rfl) (fun _ _ _ h => h) (Or.inl ⟨by rfl, ?_⟩) hHeld ?_
  rotate_left
  · (intro w' hSw; obtain ⟨⟨c0, c1, f0, f1, hz⟩, d0, d1, g0, g1, hy⟩ := hSw; go_simp; try with_reducible rfl)
  try simp only [Act.put, List.setIfInBounds_toArray, List.set_cons_zero, List.set_cons_succ]
  refine wpAnyH_ready (rs := [31]) (by kernel_rfl) (by simp) ?_
  refine AllReadyH.cons rfl (fun K hK => ?_) AllReadyH.nil
  go_simp
  refine (wakes3_any _).mono ?_
  rintro e x6 ⟨rfl, hb⟩
  replace HH := Lib.hid (HH.out.on hb)
  clear hb
  go_wp2_with fail
  refine hK.out _ _ HH.out.two (fun hHeld => ?_)
  clear hK K
  try simp only [Act.put, List.setIfInBounds_toArray, List.set_cons_zero, List.set_cons_succ]
  refine wpAnyH_take (i := 32) (v := ?_) opAt_32 (by kernel_rfl) (by kernel_rfl) (by kernel_rfl) (fun _ _ _ h => h) (Or.inl ⟨by rfl, ?_⟩) hHeld ?_
  rotate_left
  · (intro w' hSw; obtain ⟨⟨c0, c1, f0, f1, hz⟩, d0, d1, g0, g1, hy⟩ := hSw; go_simp; try with_reducible rfl)
  try simp only [Act.put, List.setIfInBounds_toArray, List.set_cons_zero, List.set_cons_succ]
  refine wpAnyH_take (i := 33) (v := ?_) opAt_33 (by kernel_rfl) (by kernel_rfl) (by kernel_rfl) (fun _ _ _ h => h) (Or.inl ⟨by rfl, ?_⟩) hHeld ?_
  rotate_left
  · (intro w' hSw; obtain ⟨⟨c0, c1, f0, f1, hz⟩, d0, d1, g0, g1, hy⟩ := hSw; go_simp; try with_reducible rfl)
  try simp only [Act.put, List.setIfInBounds_toArray, List.set_cons_zero, List.set_cons_succ]
  refine wpAnyH_done (by kernel_rfl) ?_ _
  refine NoPanic.normal ?_
  go_wp2_with fail
  go_ret
  exact ⟨rfl, HH.out.bel⟩
end Go.Proofs.Ytikdpldfklbdoaa.locCalls
