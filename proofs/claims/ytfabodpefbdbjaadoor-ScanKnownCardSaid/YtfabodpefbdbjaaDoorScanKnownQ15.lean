/-
  ScanKnown, part 15 of what the law's proof leans on: WScanKnown.
-/
import Derived.Test.YtfabodpefbdbjaaDoorScanKnownQ14
/- WScanKnown -/

/-
  The walk of the law ScanKnown (printed by tools/gen/sc_scanknown.py).
-/
set_option linter.unusedVariables false
set_option linter.unusedSimpArgs false
namespace Go.Proofs.YtfabodpefbdbjaaDoor.scanKnown
open Go.RowKit Go.Proofs.YtfabodpefbdbjaaDoor Go.Proofs.YtfabodpefbdbjaaDoor.Sc

theorem bs_nil (w : World) : Bs w w.heap.size (.slice none 0 0) [] := ⟨none, 0, rfl, Nat.zero_le _, fun h => absurd rfl h⟩
theorem rd_nil (w : World) : Rd w 0 none (([] : List Nat).map fun n : Nat => Value.int .u64 (n : Int)) := fun h => absurd rfl h
theorem fewW : ∀ s : S, s = kqW ∨ s = ⟨3, [], [], 0, 22⟩ → Rise s := by
  rintro s (rfl | rfl)
  · have := of_rise 3 (layB 3 ([2, 4, 9].map kv))
    rwa [kq_w] at this
  · have := of_rise 3 []
    rwa [kq_c] at this
set_option maxRecDepth 100000 in
set_option maxHeartbeats 8000000 in
theorem walk (w : World) (ht : RTab w) : Calls Tryd.prog 7 #[] w fun e w' => e = .returned (.bool true) ∧ Below w.heap.size w w' := by
  have HT := Lib.hid ht
  clear ht
  have HB0 := Lib.hid (Below.refl w.heap.size w)
  obtain ⟨s0, hs0⟩ : ∃ g, w.heap.size = g := ⟨_, rfl⟩
  have HC := Lib.hid (Below.refl w.heap.size w)
  obtain ⟨R1, hR1⟩ : ∃ V, w.alloc (.cells #[.int .u64 5, .int .u64 5] 24) = V := ⟨_, rfl⟩
  have hbR : Below w.heap.size w R1 := by rw [← hR1]; exact (Below.refl _ _).alloc (Nat.le_refl _) _
  have hkR : R1.heap[s0]? = some (.cells #[.int .u64 5, .int .u64 5] 24 (0, 0)) := by rw [← hR1, ← hs0]; exact heap_alloc_new w _
  have hrR : Rd R1 (s0 + 1) (some ⟨s0, 0, none⟩) (([5, 5] : List Nat).map fun n : Nat => Value.int .u64 (n : Int)) := fun _ => ⟨s0, 0, rfl, by omega, fun j u hu => by
    rw [cell_of_row R1 s0 (0 + j) _ _ _ hkR]
    simpa using hu⟩
  have HL := Lib.hid (slaid [5, 5] (c := 2) hrR (by have := (Array.getElem?_eq_some_iff.1 hkR).1; omega) (by decide) (by decide))
  have HB1R := Lib.hid (HB0.out.trans (hbR.mono HB0.out.size))
  have HC := Lib.hid (HC.out.trans (hbR.mono HC.out.size))
  have HE1 := Lib.hid hR1
  have HCS := Lib.hid hbR.size
  clear hbR hkR hrR hR1
  go_enter Tryd.func7, Tryd.ntmps7
  go_wp2_with fail
  try rw [HE1.out]
  refine HL.out.mono ?_
  rintro e u1 ⟨v, rfl, how, hb⟩
  have hown : u1.ownsRow R1.heap.size 5 1 v 70 (bvs (layB 3 ([5, 5].map kv)))   := how
  have HBU := Lib.hid (HB1R.out.trans (hb.mono HB1R.out.size))
  have HC := Lib.hid (HC.out.trans (hb.mono HC.out.size))
  have hus := hb.size
  clear HL hb how
  have HOf := Lib.hid (sof v (layB 3 ([5, 5].map kv)) 3 u1 (Bs.of_own (l := layB 3 ([5, 5].map kv)) hown) (by rw [layB_length, kv_len]; decide) (by decide) (HT.out.on HBU.out))
  rw [kq_a] at HOf
  obtain ⟨Av, cv, rfl, hjunk⟩ := own_slice hown
  clear hown hjunk hus
  go_wp2_with fail
  refine HOf.out.mono ?_
  rintro e v1 ⟨rv, rfl, hs, hb⟩
  have HBV := Lib.hid (HBU.out.trans (hb.mono HBU.out.size))
  have HC := Lib.hid (HC.out.trans (hb.mono HC.out.size))
  obtain ⟨Af1, cf1, Ap1, cp1, rfl, hx⟩ := hs.boxed
  obtain ⟨g1, hg1⟩ : ∃ g, v1.heap.size = g := ⟨_, rfl⟩
  obtain ⟨W1, hW1⟩ : ∃ V, v1.alloc (.cells #[.int .u32 3, .slice Af1 1 cf1, .slice Ap1 0 cp1, .int .i64 43, .int .i64 23] 31) = V := ⟨_, rfl⟩
  obtain ⟨hx1, hx2, hx3⟩ := hx W1 hW1.symm
  rw [hg1] at hx1 hx3
  obtain ⟨s1, hs1⟩ : ∃ g, g1 + 1 = g := ⟨_, rfl⟩
  have hsz1 : W1.heap.size = s1 := by rw [hx3, hs1]
  have HX1 := Lib.hid hx1
  have HB1 := Lib.hid (HBV.out.trans (hx2.mono HBV.out.size))
  have HC := Lib.hid (HC.out.trans (hx2.mono HC.out.size))
  have HW1 := Lib.hid hW1
  have HZ1 := Lib.hid hsz1
  clear hs hx hx1 hx2 hx3 hW1 hsz1 hb HOf HBV HBU
  have HC := Lib.hid (Below.refl W1.heap.size W1)
  have HL := Lib.hid (slaid [] (c := 0) (rd_nil W1) (Nat.zero_le _) (by decide) (by decide))
  go_wp2_with fail
  try rw [HW1.out]
  refine HL.out.mono ?_
  rintro e u2 ⟨v, rfl, how, hb⟩
  have hown : u2.ownsRow W1.heap.size 5 1 v 16 (bvs (layB 3 (([] : List Nat).map kv)))   := how
  have HBU := Lib.hid (HB1.out.trans (hb.mono HB1.out.size))
  have HC := Lib.hid (HC.out.trans (hb.mono HC.out.size))
  have hus := hb.size
  clear HL hb how
  have HOf := Lib.hid (sof v (layB 3 (([] : List Nat).map kv)) 3 u2 (Bs.of_own (l := layB 3 (([] : List Nat).map kv)) hown) (by rw [layB_length, kv_len]; decide) (by decide) (HT.out.on HBU.out))
  rw [kq_b] at HOf
  obtain ⟨Av, cv, rfl, hjunk⟩ := own_slice hown
  clear hown hjunk hus
  go_wp2_with fail
  refine HOf.out.mono ?_
  rintro e v2 ⟨rv, rfl, hs, hb⟩
  have HBV := Lib.hid (HBU.out.trans (hb.mono HBU.out.size))
  have HC := Lib.hid (HC.out.trans (hb.mono HC.out.size))
  obtain ⟨Af2, cf2, Ap2, cp2, rfl, hx⟩ := hs.boxed
  obtain ⟨g2, hg2⟩ : ∃ g, v2.heap.size = g := ⟨_, rfl⟩
  obtain ⟨W2, hW2⟩ : ∃ V, v2.alloc (.cells #[.int .u32 3, .slice Af2 0 cf2, .slice Ap2 0 cp2, .int .i64 16, .int .i64 0] 31) = V := ⟨_, rfl⟩
  obtain ⟨hx1, hx2, hx3⟩ := hx W2 hW2.symm
  rw [hg2] at hx1 hx3
  obtain ⟨s2, hs2⟩ : ∃ g, g2 + 1 = g := ⟨_, rfl⟩
  have hsz2 : W2.heap.size = s2 := by rw [hx3, hs2]
  have HX2 := Lib.hid hx1
  have HB2 := Lib.hid (HBV.out.trans (hx2.mono HBV.out.size))
  have HC := Lib.hid (HC.out.trans (hx2.mono HC.out.size))
  have HX1 := Lib.hid (HX1.out.on HC.out)
  have HW2 := Lib.hid hW2
  have HZ2 := Lib.hid hsz2
  clear hs hx hx1 hx2 hx3 hW2 hsz2 hb HOf HBV HBU
  have HC := Lib.hid (Below.refl W2.heap.size W2)
  have HOf := Lib.hid (sof (.slice none 0 0) [] 3 W2 (bs_nil _) (by decide) (by decide) (HT.out.on HB2.out))
  rw [kq_c] at HOf
  go_wp2_with fail
  try rw [HW2.out]
  refine HOf.out.mono ?_
  rintro e v3 ⟨rv, rfl, hs, hb⟩
  have HBV := Lib.hid (HB2.out.trans (hb.mono HB2.out.size))
  have HC := Lib.hid (HC.out.trans (hb.mono HC.out.size))
  obtain ⟨Af3, cf3, Ap3, cp3, rfl, hx⟩ := hs.boxed
  obtain ⟨g3, hg3⟩ : ∃ g, v3.heap.size = g := ⟨_, rfl⟩
  obtain ⟨W3, hW3⟩ : ∃ V, v3.alloc (.cells #[.int .u32 3, .slice Af3 0 cf3, .slice Ap3 0 cp3, .int .i64 0, .int .i64 22] 31) = V := ⟨_, rfl⟩
  obtain ⟨hx1, hx2, hx3⟩ := hx W3 hW3.symm
  rw [hg3] at hx1 hx3
  obtain ⟨s3, hs3⟩ : ∃ g, g3 + 1 = g := ⟨_, rfl⟩
  have hsz3 : W3.heap.size = s3 := by rw [hx3, hs3]
  have HX3 := Lib.hid hx1
  have HB3 := Lib.hid (HBV.out.trans (hx2.mono HBV.out.size))
  have HC := Lib.hid (HC.out.trans (hx2.mono HC.out.size))
  have HX1 := Lib.hid (HX1.out.on HC.out)
  have HX2 := Lib.hid (HX2.out.on HC.out)
  have HW3 := Lib.hid hW3
  have HZ3 := Lib.hid hsz3
  clear hs hx hx1 hx2 hx3 hW3 hsz3 hb HOf HBV
  have HC := Lib.hid (Below.refl W3.heap.size W3)
  have HL := Lib.hid (slaid [] (c := 0) (rd_nil W3) (Nat.zero_le _) (by decide) (by decide))
  go_wp2_with fail
  try rw [HW3.out]
  refine HL.out.mono ?_
  rintro e u4 ⟨v, rfl, how, hb⟩
  have hown : u4.ownsRow W3.heap.size 5 1 v 16 (bvs (layB 3 (([] : List Nat).map kv)))   := how
  have HBU := Lib.hid (HB3.out.trans (hb.mono HB3.out.size))
  have HC := Lib.hid (HC.out.trans (hb.mono HC.out.size))
  have hus := hb.size
  clear HL hb how
  have HOf := Lib.hid (sof v (layB 3 (([] : List Nat).map kv)) 0 u4 (Bs.of_own (l := layB 3 (([] : List Nat).map kv)) hown) (by rw [layB_length, kv_len]; decide) (by decide) (HT.out.on HBU.out))
  rw [kq_d] at HOf
  obtain ⟨Av, cv, rfl, hjunk⟩ := own_slice hown
  clear hown hjunk hus
  go_wp2_with fail
  refine HOf.out.mono ?_
  rintro e v4 ⟨rv, rfl, hs, hb⟩
  have HBV := Lib.hid (HBU.out.trans (hb.mono HBU.out.size))
  have HC := Lib.hid (HC.out.trans (hb.mono HC.out.size))
  obtain ⟨Af4, cf4, Ap4, cp4, rfl, hx⟩ := hs.boxed
  obtain ⟨g4, hg4⟩ : ∃ g, v4.heap.size = g := ⟨_, rfl⟩
  obtain ⟨W4, hW4⟩ : ∃ V, v4.alloc (.cells #[.int .u32 0, .slice Af4 0 cf4, .slice Ap4 0 cp4, .int .i64 0, .int .i64 23] 31) = V := ⟨_, rfl⟩
  obtain ⟨hx1, hx2, hx3⟩ := hx W4 hW4.symm
  rw [hg4] at hx1 hx3
  obtain ⟨s4, hs4⟩ : ∃ g, g4 + 1 = g := ⟨_, rfl⟩
  have hsz4 : W4.heap.size = s4 := by rw [hx3, hs4]
  have HX4 := Lib.hid hx1
  have HB4 := Lib.hid (HBV.out.trans (hx2.mono HBV.out.size))
  have HC := Lib.hid (HC.out.trans (hx2.mono HC.out.size))
  have HX1 := Lib.hid (HX1.out.on HC.out)
  have HX2 := Lib.hid (HX2.out.on HC.out)
  have HX3 := Lib.hid (HX3.out.on HC.out)
  have HW4 := Lib.hid hW4
  have HZ4 := Lib.hid hsz4
  clear hs hx hx1 hx2 hx3 hW4 hsz4 hb HOf HBV HBU
  have HC := Lib.hid (Below.refl W4.heap.size W4)
  obtain ⟨R5, hR5⟩ : ∃ V, W4.alloc (.cells #[.int .u64 4] 24) = V := ⟨_, rfl⟩
  have hbR : Below W4.heap.size W4 R5 := by rw [← hR5]; exact (Below.refl _ _).alloc (Nat.le_refl _) _
  have hkR : R5.heap[s4]? = some (.cells #[.int .u64 4] 24 (0, 0)) := by rw [← hR5, ← HZ4.out]; exact heap_alloc_new W4 _
  have hrR : Rd R5 (s4 + 1) (some ⟨s4, 0, none⟩) (([4] : List Nat).map fun n : Nat => Value.int .u64 (n : Int)) := fun _ => ⟨s4, 0, rfl, by omega, fun j u hu => by
    rw [cell_of_row R5 s4 (0 + j) _ _ _ hkR]
    simpa using hu⟩
  have HL := Lib.hid (slaid [4] (c := 1) hrR (by have := (Array.getElem?_eq_some_iff.1 hkR).1; omega) (by decide) (by decide))
  have HB5R := Lib.hid (HB4.out.trans (hbR.mono HB4.out.size))
  have HC := Lib.hid (HC.out.trans (hbR.mono HC.out.size))
  have HE5 := Lib.hid hR5
  have HCS := Lib.hid hbR.size
  clear hbR hkR hrR hR5
  go_wp2_with fail
  try rw [HW4.out, HE5.out]
  refine HL.out.mono ?_
  rintro e u5 ⟨v, rfl, how, hb⟩
  have hown : u5.ownsRow R5.heap.size 5 1 v 43 (bvs (layB 3 ([4].map kv)))   := how
  have HBU := Lib.hid (HB5R.out.trans (hb.mono HB5R.out.size))
  have HC := Lib.hid (HC.out.trans (hb.mono HC.out.size))
  have hus := hb.size
  clear HL hb how
  obtain ⟨i0, hi0, hz0, hz1, hz2⟩ := info_parts byte_infoS
  have HOW := Lib.hid hown
  have HUS := Lib.hid hus
  clear hown hus
  go_wp2_with (at_builtin; refine wpList_append_zeros _ rfl _ _ _ _ rfl R5.heap.size _ i0 (.int .u8 0) .i64 .i64 1 1 (by kernel_rfl) (by kernel_rfl) hi0 hz0 hz1 hz2 rfl (by omega) _ _ _ rfl HOW.out 21 rfl (by omega) (by rw [zerosL_one (.int .u8 0) _ rfl]; intro u hu; rw [List.eq_of_mem_replicate hu]; rfl) (by decide) (by decide) HUS.out ?_; rintro va ua hown hb _ _)
  have hown : ua.ownsRow R5.heap.size 5 1 va 64 (bvs (layB 3 ([4].map kv) ++ List.replicate 21 0)) := by
    rw [bvs_append, ← show zerosL (.int .u8 0) 21 = bvs (List.replicate 21 0) by rw [zerosL_one (.int .u8 0) _ rfl]; rfl]
    exact hown
  have HBU := Lib.hid (HBU.out.trans (hb.mono (by have := HB5R.out.size; exact this)))
  have HC := Lib.hid (HC.out.trans (hb.mono HCS.out))
  obtain ⟨Av, cv, rfl, hjunk⟩ := own_slice hown
  clear hb hjunk
  have HOf := Lib.hid (sof (.slice Av 64 cv) (layB 3 ([4].map kv) ++ List.replicate 21 0) 3 ua (Bs.of_own (l := layB 3 ([4].map kv) ++ List.replicate 21 0) hown) (by rw [List.length_append, layB_length, kv_len]; decide) (by decide) (HT.out.on HBU.out))
  rw [kq_e] at HOf
  clear hown
  go_wp2_with fail
  refine HOf.out.mono ?_
  rintro e v5 ⟨rv, rfl, hs, hb⟩
  have HBV := Lib.hid (HBU.out.trans (hb.mono HBU.out.size))
  have HC := Lib.hid (HC.out.trans (hb.mono HC.out.size))
  obtain ⟨Af5, cf5, Ap5, cp5, rfl, hx⟩ := hs.boxed
  obtain ⟨g5, hg5⟩ : ∃ g, v5.heap.size = g := ⟨_, rfl⟩
  obtain ⟨W5, hW5⟩ : ∃ V, v5.alloc (.cells #[.int .u32 3, .slice Af5 1 cf5, .slice Ap5 0 cp5, .int .i64 43, .int .i64 23] 31) = V := ⟨_, rfl⟩
  obtain ⟨hx1, hx2, hx3⟩ := hx W5 hW5.symm
  rw [hg5] at hx1 hx3
  obtain ⟨s5, hs5⟩ : ∃ g, g5 + 1 = g := ⟨_, rfl⟩
  have hsz5 : W5.heap.size = s5 := by rw [hx3, hs5]
  have HX5 := Lib.hid hx1
  have HB5 := Lib.hid (HBV.out.trans (hx2.mono HBV.out.size))
  have HC := Lib.hid (HC.out.trans (hx2.mono HC.out.size))
  have HX1 := Lib.hid (HX1.out.on HC.out)
  have HX2 := Lib.hid (HX2.out.on HC.out)
  have HX3 := Lib.hid (HX3.out.on HC.out)
  have HX4 := Lib.hid (HX4.out.on HC.out)
  have HW5 := Lib.hid hW5
  have HZ5 := Lib.hid hsz5
  clear hs hx hx1 hx2 hx3 hW5 hsz5 hb HOf HBV HBU
  have HC := Lib.hid (Below.refl W5.heap.size W5)
  obtain ⟨R6, hR6⟩ : ∃ V, W5.alloc (.cells #[.int .u64 2, .int .u64 4, .int .u64 9] 24) = V := ⟨_, rfl⟩
  have hbR : Below W5.heap.size W5 R6 := by rw [← hR6]; exact (Below.refl _ _).alloc (Nat.le_refl _) _
  have hkR : R6.heap[s5]? = some (.cells #[.int .u64 2, .int .u64 4, .int .u64 9] 24 (0, 0)) := by rw [← hR6, ← HZ5.out]; exact heap_alloc_new W5 _
  have hrR : Rd R6 (s5 + 1) (some ⟨s5, 0, none⟩) (([2, 4, 9] : List Nat).map fun n : Nat => Value.int .u64 (n : Int)) := fun _ => ⟨s5, 0, rfl, by omega, fun j u hu => by
    rw [cell_of_row R6 s5 (0 + j) _ _ _ hkR]
    simpa using hu⟩
  have HL := Lib.hid (slaid [2, 4, 9] (c := 3) hrR (by have := (Array.getElem?_eq_some_iff.1 hkR).1; omega) (by decide) (by decide))
  have HB6R := Lib.hid (HB5.out.trans (hbR.mono HB5.out.size))
  have HC := Lib.hid (HC.out.trans (hbR.mono HC.out.size))
  have HE6 := Lib.hid hR6
  have HCS := Lib.hid hbR.size
  clear hbR hkR hrR hR6
  go_wp2_with fail
  try rw [HW5.out, HE6.out]
  refine HL.out.mono ?_
  rintro e u6 ⟨v, rfl, how, hb⟩
  have hown : u6.ownsRow R6.heap.size 5 1 v 97 (bvs (layB 3 ([2, 4, 9].map kv)))   := how
  have HBU := Lib.hid (HB6R.out.trans (hb.mono HB6R.out.size))
  have HC := Lib.hid (HC.out.trans (hb.mono HC.out.size))
  have hus := hb.size
  clear HL hb how
  have HOf := Lib.hid (sof v (layB 3 ([2, 4, 9].map kv)) 3 u6 (Bs.of_own (l := layB 3 ([2, 4, 9].map kv)) hown) (by rw [layB_length, kv_len]; decide) (by decide) (HT.out.on HBU.out))
  rw [show of 3 (layB 3 ([2, 4, 9].map kv)) = ⟨3, [⟨16, 27, kv 2⟩, ⟨43, 27, kv 4⟩, ⟨70, 27, kv 9⟩], [], 97, 0⟩ from kq_w] at HOf
  obtain ⟨Av, cv, rfl, hjunk⟩ := own_slice hown
  clear hown hjunk hus
  go_wp2_with fail
  refine HOf.out.mono ?_
  rintro e v6 ⟨rv, rfl, hs, hb⟩
  have HBV := Lib.hid (HBU.out.trans (hb.mono HBU.out.size))
  have HC := Lib.hid (HC.out.trans (hb.mono HC.out.size))
  obtain ⟨Af6, cf6, Ap6, cp6, rfl, hx⟩ := hs.boxed
  obtain ⟨g6, hg6⟩ : ∃ g, v6.heap.size = g := ⟨_, rfl⟩
  obtain ⟨W6, hW6⟩ : ∃ V, v6.alloc (.cells #[.int .u32 3, .slice Af6 3 cf6, .slice Ap6 0 cp6, .int .i64 97, .int .i64 0] 31) = V := ⟨_, rfl⟩
  obtain ⟨hx1, hx2, hx3⟩ := hx W6 hW6.symm
  rw [hg6] at hx1 hx3
  obtain ⟨s6, hs6⟩ : ∃ g, g6 + 1 = g := ⟨_, rfl⟩
  have hsz6 : W6.heap.size = s6 := by rw [hx3, hs6]
  have HX6 := Lib.hid hx1
  have HB6 := Lib.hid (HBV.out.trans (hx2.mono HBV.out.size))
  have HC := Lib.hid (HC.out.trans (hx2.mono HC.out.size))
  have HX1 := Lib.hid (HX1.out.on HC.out)
  have HX2 := Lib.hid (HX2.out.on HC.out)
  have HX3 := Lib.hid (HX3.out.on HC.out)
  have HX4 := Lib.hid (HX4.out.on HC.out)
  have HX5 := Lib.hid (HX5.out.on HC.out)
  have HW6 := Lib.hid hW6
  have HZ6 := Lib.hid hsz6
  clear hs hx hx1 hx2 hx3 hW6 hsz6 hb HOf HBV HBU
  go_wp2_with fail
  try rw [HW6.out]
  have hv : ScanV 52 W6 _ (.agg #[.int .u32 3, .slice Af6 3 cf6, .slice Ap6 0 cp6, .int .i64 97, .int .i64 0]) ⟨3, [⟨16, 27, kv 2⟩, ⟨43, 27, kv 4⟩, ⟨70, 27, kv 9⟩], [], 97, 0⟩ := HX6.out.2
  refine (slost (x := ⟨4, 97, 3, 2, 9⟩) hv (fewW _ (.inl rfl)) (by decide) (by decide) (by decide) ⟨by decide, by decide, by decide, by decide, by decide⟩).mono ?_
  rintro e L7 ⟨rv7, rfl, hl, hb⟩
  rw [show lostL ⟨3, [⟨16, 27, kv 2⟩, ⟨43, 27, kv 4⟩, ⟨70, 27, kv 9⟩], [], 97, 0⟩ ⟨4, 97, 3, 2, 9⟩ = [(2, 9)] from kq_l] at hl
  have HB7 := Lib.hid (HB6.out.trans (hb.mono HB6.out.size))
  have HX1 := Lib.hid (HX1.out.on hb)
  have HX2 := Lib.hid (HX2.out.on hb)
  have HX3 := Lib.hid (HX3.out.on hb)
  have HX4 := Lib.hid (HX4.out.on hb)
  have HX5 := Lib.hid (HX5.out.on hb)
  have HX6 := Lib.hid (HX6.out.on hb)
  have HL7 := Lib.hid hl
  clear hl hv hb
  obtain ⟨ya0, ya1, ya2, ya3, ya4⟩ := (show L7.cell? ⟨g6, 0, none⟩ = some (.int .u32 3) ∧ L7.cell? ⟨g6, 1, none⟩ = some (.slice Af6 3 cf6) ∧ L7.cell? ⟨g6, 2, none⟩ = some (.slice Ap6 0 cp6) ∧ L7.cell? ⟨g6, 3, none⟩ = some (.int .i64 97) ∧ L7.cell? ⟨g6, 4, none⟩ = some (.int .i64 0) from rw5 HX6.out.1)
  go_wp2_with fail
  clear ya0 ya1 ya2 ya3 ya4
  have hv : ScanV 52 L7 _ (.agg #[.int .u32 3, .slice Af6 3 cf6, .slice Ap6 0 cp6, .int .i64 97, .int .i64 0]) ⟨3, [⟨16, 27, kv 2⟩, ⟨43, 27, kv 4⟩, ⟨70, 27, kv 9⟩], [], 97, 0⟩ := HX6.out.2
  refine (slost (x := ⟨3, 97, 3, 2, 8⟩) hv (fewW _ (.inl rfl)) (by decide) (by decide) (by decide) ⟨by decide, by decide, by decide, by decide, by decide⟩).mono ?_
  rintro e L8 ⟨rv8, rfl, hl, hb⟩
  rw [show lostL ⟨3, [⟨16, 27, kv 2⟩, ⟨43, 27, kv 4⟩, ⟨70, 27, kv 9⟩], [], 97, 0⟩ ⟨3, 97, 3, 2, 8⟩ = [(2, 8)] from kq_m] at hl
  have HB8 := Lib.hid (HB7.out.trans (hb.mono HB7.out.size))
  have HX1 := Lib.hid (HX1.out.on hb)
  have HX2 := Lib.hid (HX2.out.on hb)
  have HX3 := Lib.hid (HX3.out.on hb)
  have HX4 := Lib.hid (HX4.out.on hb)
  have HX5 := Lib.hid (HX5.out.on hb)
  have HX6 := Lib.hid (HX6.out.on hb)
  have HL7 := Lib.hid (HL7.out.on hb)
  have HL8 := Lib.hid hl
  clear hl hv hb
  obtain ⟨ya0, ya1, ya2, ya3, ya4⟩ := (show L8.cell? ⟨g6, 0, none⟩ = some (.int .u32 3) ∧ L8.cell? ⟨g6, 1, none⟩ = some (.slice Af6 3 cf6) ∧ L8.cell? ⟨g6, 2, none⟩ = some (.slice Ap6 0 cp6) ∧ L8.cell? ⟨g6, 3, none⟩ = some (.int .i64 97) ∧ L8.cell? ⟨g6, 4, none⟩ = some (.int .i64 0) from rw5 HX6.out.1)
  go_wp2_with fail
  clear ya0 ya1 ya2 ya3 ya4
  have hv : ScanV 52 L8 _ (.agg #[.int .u32 3, .slice Af6 3 cf6, .slice Ap6 0 cp6, .int .i64 97, .int .i64 0]) ⟨3, [⟨16, 27, kv 2⟩, ⟨43, 27, kv 4⟩, ⟨70, 27, kv 9⟩], [], 97, 0⟩ := HX6.out.2
  refine (slost (x := ⟨3, 98, 4, 2, 12⟩) hv (fewW _ (.inl rfl)) (by decide) (by decide) (by decide) ⟨by decide, by decide, by decide, by decide, by decide⟩).mono ?_
  rintro e L9 ⟨rv9, rfl, hl, hb⟩
  rw [show lostL ⟨3, [⟨16, 27, kv 2⟩, ⟨43, 27, kv 4⟩, ⟨70, 27, kv 9⟩], [], 97, 0⟩ ⟨3, 98, 4, 2, 12⟩ = [(10, 12)] from kq_n] at hl
  have HB9 := Lib.hid (HB8.out.trans (hb.mono HB8.out.size))
  have HX1 := Lib.hid (HX1.out.on hb)
  have HX2 := Lib.hid (HX2.out.on hb)
  have HX3 := Lib.hid (HX3.out.on hb)
  have HX4 := Lib.hid (HX4.out.on hb)
  have HX5 := Lib.hid (HX5.out.on hb)
  have HX6 := Lib.hid (HX6.out.on hb)
  have HL7 := Lib.hid (HL7.out.on hb)
  have HL8 := Lib.hid (HL8.out.on hb)
  have HL9 := Lib.hid hl
  clear hl hv hb
  obtain ⟨ya0, ya1, ya2, ya3, ya4⟩ := (show L9.cell? ⟨g6, 0, none⟩ = some (.int .u32 3) ∧ L9.cell? ⟨g6, 1, none⟩ = some (.slice Af6 3 cf6) ∧ L9.cell? ⟨g6, 2, none⟩ = some (.slice Ap6 0 cp6) ∧ L9.cell? ⟨g6, 3, none⟩ = some (.int .i64 97) ∧ L9.cell? ⟨g6, 4, none⟩ = some (.int .i64 0) from rw5 HX6.out.1)
  go_wp2_with fail
  clear ya0 ya1 ya2 ya3 ya4
  have hv : ScanV 52 L9 _ (.agg #[.int .u32 3, .slice Af6 3 cf6, .slice Ap6 0 cp6, .int .i64 97, .int .i64 0]) ⟨3, [⟨16, 27, kv 2⟩, ⟨43, 27, kv 4⟩, ⟨70, 27, kv 9⟩], [], 97, 0⟩ := HX6.out.2
  refine (slost (x := ⟨3, 97, 3, 2, 9⟩) hv (fewW _ (.inl rfl)) (by decide) (by decide) (by decide) ⟨by decide, by decide, by decide, by decide, by decide⟩).mono ?_
  rintro e L10 ⟨rv10, rfl, hl, hb⟩
  rw [show lostL ⟨3, [⟨16, 27, kv 2⟩, ⟨43, 27, kv 4⟩, ⟨70, 27, kv 9⟩], [], 97, 0⟩ ⟨3, 97, 3, 2, 9⟩ = [] from kq_o] at hl
  have HB10 := Lib.hid (HB9.out.trans (hb.mono HB9.out.size))
  have HX1 := Lib.hid (HX1.out.on hb)
  have HX2 := Lib.hid (HX2.out.on hb)
  have HX3 := Lib.hid (HX3.out.on hb)
  have HX4 := Lib.hid (HX4.out.on hb)
  have HX5 := Lib.hid (HX5.out.on hb)
  have HX6 := Lib.hid (HX6.out.on hb)
  have HL7 := Lib.hid (HL7.out.on hb)
  have HL8 := Lib.hid (HL8.out.on hb)
  have HL9 := Lib.hid (HL9.out.on hb)
  obtain ⟨Al10, nl10, cl10, rfl, hnl, hol⟩ := hl
  obtain rfl : 0 = nl10 := hnl
  clear hol hv hb
  obtain ⟨ya0, ya1, ya2, ya3, ya4⟩ := (show L10.cell? ⟨g3, 0, none⟩ = some (.int .u32 3) ∧ L10.cell? ⟨g3, 1, none⟩ = some (.slice Af3 0 cf3) ∧ L10.cell? ⟨g3, 2, none⟩ = some (.slice Ap3 0 cp3) ∧ L10.cell? ⟨g3, 3, none⟩ = some (.int .i64 0) ∧ L10.cell? ⟨g3, 4, none⟩ = some (.int .i64 22) from rw5 HX3.out.1)
  go_wp2_with fail
  clear ya0 ya1 ya2 ya3 ya4
  have hv : ScanV 52 L10 _ (.agg #[.int .u32 3, .slice Af3 0 cf3, .slice Ap3 0 cp3, .int .i64 0, .int .i64 22]) ⟨3, [], [], 0, 22⟩ := HX3.out.2
  refine (slost (x := ⟨3, 97, 3, 2, 9⟩) hv (fewW _ (.inr rfl)) (by decide) (by decide) (by decide) ⟨by decide, by decide, by decide, by decide, by decide⟩).mono ?_
  rintro e L11 ⟨rv11, rfl, hl, hb⟩
  rw [show lostL ⟨3, [], [], 0, 22⟩ ⟨3, 97, 3, 2, 9⟩ = [(2, 9)] from kq_p] at hl
  have HB11 := Lib.hid (HB10.out.trans (hb.mono HB10.out.size))
  have HX1 := Lib.hid (HX1.out.on hb)
  have HX2 := Lib.hid (HX2.out.on hb)
  have HX3 := Lib.hid (HX3.out.on hb)
  have HX4 := Lib.hid (HX4.out.on hb)
  have HX5 := Lib.hid (HX5.out.on hb)
  have HX6 := Lib.hid (HX6.out.on hb)
  have HL7 := Lib.hid (HL7.out.on hb)
  have HL8 := Lib.hid (HL8.out.on hb)
  have HL9 := Lib.hid (HL9.out.on hb)
  have HL11 := Lib.hid hl
  clear hl hv hb
  obtain ⟨ya0, ya1, ya2, ya3, ya4⟩ := (show L11.cell? ⟨g3, 0, none⟩ = some (.int .u32 3) ∧ L11.cell? ⟨g3, 1, none⟩ = some (.slice Af3 0 cf3) ∧ L11.cell? ⟨g3, 2, none⟩ = some (.slice Ap3 0 cp3) ∧ L11.cell? ⟨g3, 3, none⟩ = some (.int .i64 0) ∧ L11.cell? ⟨g3, 4, none⟩ = some (.int .i64 22) from rw5 HX3.out.1)
  go_wp2_with fail
  clear ya0 ya1 ya2 ya3 ya4
  have hv : ScanV 52 L11 _ (.agg #[.int .u32 3, .slice Af3 0 cf3, .slice Ap3 0 cp3, .int .i64 0, .int .i64 22]) ⟨3, [], [], 0, 22⟩ := HX3.out.2
  refine (slost (x := ⟨3, 16, 0, 0, 0⟩) hv (fewW _ (.inr rfl)) (by decide) (by decide) (by decide) ⟨by decide, by decide, by decide, by decide, by decide⟩).mono ?_
  rintro e L12 ⟨rv12, rfl, hl, hb⟩
  rw [show lostL ⟨3, [], [], 0, 22⟩ ⟨3, 16, 0, 0, 0⟩ = [] from kq_q] at hl
  have HB12 := Lib.hid (HB11.out.trans (hb.mono HB11.out.size))
  have HX1 := Lib.hid (HX1.out.on hb)
  have HX2 := Lib.hid (HX2.out.on hb)
  have HX3 := Lib.hid (HX3.out.on hb)
  have HX4 := Lib.hid (HX4.out.on hb)
  have HX5 := Lib.hid (HX5.out.on hb)
  have HX6 := Lib.hid (HX6.out.on hb)
  have HL7 := Lib.hid (HL7.out.on hb)
  have HL8 := Lib.hid (HL8.out.on hb)
  have HL9 := Lib.hid (HL9.out.on hb)
  have HL11 := Lib.hid (HL11.out.on hb)
  obtain ⟨Al12, nl12, cl12, rfl, hnl, hol⟩ := hl
  obtain rfl : 0 = nl12 := hnl
  clear hol hv hb
  obtain ⟨ya0, ya1, ya2, ya3, ya4⟩ := (show L12.cell? ⟨g1, 0, none⟩ = some (.int .u32 3) ∧ L12.cell? ⟨g1, 1, none⟩ = some (.slice Af1 1 cf1) ∧ L12.cell? ⟨g1, 2, none⟩ = some (.slice Ap1 0 cp1) ∧ L12.cell? ⟨g1, 3, none⟩ = some (.int .i64 43) ∧ L12.cell? ⟨g1, 4, none⟩ = some (.int .i64 23) from rw5 HX1.out.1)
  obtain ⟨yb0, yb1, yb2, yb3, yb4⟩ := (show L12.cell? ⟨g2, 0, none⟩ = some (.int .u32 3) ∧ L12.cell? ⟨g2, 1, none⟩ = some (.slice Af2 0 cf2) ∧ L12.cell? ⟨g2, 2, none⟩ = some (.slice Ap2 0 cp2) ∧ L12.cell? ⟨g2, 3, none⟩ = some (.int .i64 16) ∧ L12.cell? ⟨g2, 4, none⟩ = some (.int .i64 0) from rw5 HX2.out.1)
  obtain ⟨yc0, yc1, yc2, yc3, yc4⟩ := (show L12.cell? ⟨g3, 0, none⟩ = some (.int .u32 3) ∧ L12.cell? ⟨g3, 1, none⟩ = some (.slice Af3 0 cf3) ∧ L12.cell? ⟨g3, 2, none⟩ = some (.slice Ap3 0 cp3) ∧ L12.cell? ⟨g3, 3, none⟩ = some (.int .i64 0) ∧ L12.cell? ⟨g3, 4, none⟩ = some (.int .i64 22) from rw5 HX3.out.1)
  obtain ⟨yd0, yd1, yd2, yd3, yd4⟩ := (show L12.cell? ⟨g4, 0, none⟩ = some (.int .u32 0) ∧ L12.cell? ⟨g4, 1, none⟩ = some (.slice Af4 0 cf4) ∧ L12.cell? ⟨g4, 2, none⟩ = some (.slice Ap4 0 cp4) ∧ L12.cell? ⟨g4, 3, none⟩ = some (.int .i64 0) ∧ L12.cell? ⟨g4, 4, none⟩ = some (.int .i64 23) from rw5 HX4.out.1)
  obtain ⟨ye0, ye1, ye2, ye3, ye4⟩ := (show L12.cell? ⟨g5, 0, none⟩ = some (.int .u32 3) ∧ L12.cell? ⟨g5, 1, none⟩ = some (.slice Af5 1 cf5) ∧ L12.cell? ⟨g5, 2, none⟩ = some (.slice Ap5 0 cp5) ∧ L12.cell? ⟨g5, 3, none⟩ = some (.int .i64 43) ∧ L12.cell? ⟨g5, 4, none⟩ = some (.int .i64 23) from rw5 HX5.out.1)
  go_wp2_with fail
  clear ya0 ya1 ya2 ya3 ya4 yb0 yb1 yb2 yb3 yb4 yc0 yc1 yc2 yc3 yc4 yd0 yd1 yd2 yd3 yd4 ye0 ye1 ye2 ye3 ye4
  have hv : ScanV 52 L12 _ (.agg #[.int .u32 3, .slice Af2 0 cf2, .slice Ap2 0 cp2, .int .i64 16, .int .i64 0]) ⟨3, [], [], 16, 0⟩ := HX2.out.2
  refine (sseal12 hv (by decide) (by decide) (by decide) (by intro f hf; cases hf)).mono ?_
  rintro e M1 ⟨he, hb⟩
  have he : e = .returned (.agg #[.int .u32 3, .int .u32 16, .int .u32 0, .int .u64 0, .int .u64 0]) := he
  subst he
  have HBM1 := Lib.hid (HB12.out.trans (hb.mono HB12.out.size))
  have HX1 := Lib.hid (HX1.out.on hb)
  have HX2 := Lib.hid (HX2.out.on hb)
  have HX3 := Lib.hid (HX3.out.on hb)
  have HX4 := Lib.hid (HX4.out.on hb)
  have HX5 := Lib.hid (HX5.out.on hb)
  have HX6 := Lib.hid (HX6.out.on hb)
  have HL7 := Lib.hid (HL7.out.on hb)
  have HL8 := Lib.hid (HL8.out.on hb)
  have HL9 := Lib.hid (HL9.out.on hb)
  have HL11 := Lib.hid (HL11.out.on hb)
  clear hb
  clear hv
  obtain ⟨yc0, yc1, yc2, yc3, yc4⟩ := (show M1.cell? ⟨g3, 0, none⟩ = some (.int .u32 3) ∧ M1.cell? ⟨g3, 1, none⟩ = some (.slice Af3 0 cf3) ∧ M1.cell? ⟨g3, 2, none⟩ = some (.slice Ap3 0 cp3) ∧ M1.cell? ⟨g3, 3, none⟩ = some (.int .i64 0) ∧ M1.cell? ⟨g3, 4, none⟩ = some (.int .i64 22) from rw5 HX3.out.1)
  obtain ⟨yd0, yd1, yd2, yd3, yd4⟩ := (show M1.cell? ⟨g4, 0, none⟩ = some (.int .u32 0) ∧ M1.cell? ⟨g4, 1, none⟩ = some (.slice Af4 0 cf4) ∧ M1.cell? ⟨g4, 2, none⟩ = some (.slice Ap4 0 cp4) ∧ M1.cell? ⟨g4, 3, none⟩ = some (.int .i64 0) ∧ M1.cell? ⟨g4, 4, none⟩ = some (.int .i64 23) from rw5 HX4.out.1)
  obtain ⟨ye0, ye1, ye2, ye3, ye4⟩ := (show M1.cell? ⟨g5, 0, none⟩ = some (.int .u32 3) ∧ M1.cell? ⟨g5, 1, none⟩ = some (.slice Af5 1 cf5) ∧ M1.cell? ⟨g5, 2, none⟩ = some (.slice Ap5 0 cp5) ∧ M1.cell? ⟨g5, 3, none⟩ = some (.int .i64 43) ∧ M1.cell? ⟨g5, 4, none⟩ = some (.int .i64 23) from rw5 HX5.out.1)
  go_wp2_with fail
  clear yc0 yc1 yc2 yc3 yc4 yd0 yd1 yd2 yd3 yd4 ye0 ye1 ye2 ye3 ye4
  refine (one_any HL7.out).mono ?_
  rintro e N7 ⟨rfl, hb⟩
  have HBN7 := Lib.hid (HBM1.out.trans (hb.mono HBM1.out.size))
  have HX1 := Lib.hid (HX1.out.on hb)
  have HX2 := Lib.hid (HX2.out.on hb)
  have HX3 := Lib.hid (HX3.out.on hb)
  have HX4 := Lib.hid (HX4.out.on hb)
  have HX5 := Lib.hid (HX5.out.on hb)
  have HX6 := Lib.hid (HX6.out.on hb)
  have HL7 := Lib.hid (HL7.out.on hb)
  have HL8 := Lib.hid (HL8.out.on hb)
  have HL9 := Lib.hid (HL9.out.on hb)
  have HL11 := Lib.hid (HL11.out.on hb)
  clear hb
  go_wp2_with fail
  refine (one_any HL8.out).mono ?_
  rintro e N8 ⟨rfl, hb⟩
  have HBN8 := Lib.hid (HBN7.out.trans (hb.mono HBN7.out.size))
  have HX1 := Lib.hid (HX1.out.on hb)
  have HX2 := Lib.hid (HX2.out.on hb)
  have HX3 := Lib.hid (HX3.out.on hb)
  have HX4 := Lib.hid (HX4.out.on hb)
  have HX5 := Lib.hid (HX5.out.on hb)
  have HX6 := Lib.hid (HX6.out.on hb)
  have HL7 := Lib.hid (HL7.out.on hb)
  have HL8 := Lib.hid (HL8.out.on hb)
  have HL9 := Lib.hid (HL9.out.on hb)
  have HL11 := Lib.hid (HL11.out.on hb)
  clear hb
  go_wp2_with fail
  refine (one_any HL9.out).mono ?_
  rintro e N9 ⟨rfl, hb⟩
  have HBN9 := Lib.hid (HBN8.out.trans (hb.mono HBN8.out.size))
  have HX1 := Lib.hid (HX1.out.on hb)
  have HX2 := Lib.hid (HX2.out.on hb)
  have HX3 := Lib.hid (HX3.out.on hb)
  have HX4 := Lib.hid (HX4.out.on hb)
  have HX5 := Lib.hid (HX5.out.on hb)
  have HX6 := Lib.hid (HX6.out.on hb)
  have HL7 := Lib.hid (HL7.out.on hb)
  have HL8 := Lib.hid (HL8.out.on hb)
  have HL9 := Lib.hid (HL9.out.on hb)
  have HL11 := Lib.hid (HL11.out.on hb)
  clear hb
  go_wp2_with fail
  refine (one_any HL11.out).mono ?_
  rintro e N11 ⟨rfl, hb⟩
  have HBN11 := Lib.hid (HBN9.out.trans (hb.mono HBN9.out.size))
  have HX1 := Lib.hid (HX1.out.on hb)
  have HX2 := Lib.hid (HX2.out.on hb)
  have HX3 := Lib.hid (HX3.out.on hb)
  have HX4 := Lib.hid (HX4.out.on hb)
  have HX5 := Lib.hid (HX5.out.on hb)
  have HX6 := Lib.hid (HX6.out.on hb)
  have HL7 := Lib.hid (HL7.out.on hb)
  have HL8 := Lib.hid (HL8.out.on hb)
  have HL9 := Lib.hid (HL9.out.on hb)
  have HL11 := Lib.hid (HL11.out.on hb)
  clear hb
  go_wp2_with fail
  refine (knows12 _ (HT.out.on HBN11.out)).mono ?_
  rintro e O1 ⟨rfl, hb⟩
  have HBO := Lib.hid (HBN11.out.trans (hb.mono HBN11.out.size))
  clear hb
  go_wp2_with fail
  go_ret
  exact ⟨rfl, HBO.out⟩
end Go.Proofs.YtfabodpefbdbjaaDoor.scanKnown

