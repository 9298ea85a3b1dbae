/-
  The walk of the law CrcParts: it returns true, and writes nothing that was there.
-/
import Derived.Test.YtcgcopkalcjmpaaDoorCxKnows
import Derived.Test.YtcgcopkalcjmpaaDoorCut
import Derived.OpenShut
set_option linter.unusedVariables false
set_option linter.unusedSimpArgs false
namespace Go.Proofs.YtcgcopkalcjmpaaDoor.crcParts
open Go.RowKit
/-- three parts of a row -/
theorem parts (l : List UInt8) (n i k m r : Nat) (hn : n ≤ l.length) (hk : k = i + m) (hr : n = k + r) :
    ∃ X Y Z : List UInt8, l.take n = X ++ Y ++ Z ∧ X.length = i ∧ Y.length = m ∧ Z.length = r ∧ X = (l.take n).take i ∧ Y = ((l.take n).drop i).take m ∧ Z = (l.take n).drop k := by
  have hl : (l.take n).length = n := by rw [List.length_take]; omega
  generalize l.take n = L at *
  refine ⟨L.take i, (L.drop i).take m, L.drop k, ?_, by rw [List.length_take]; omega, by rw [List.length_take, List.length_drop]; omega, by rw [List.length_drop]; omega, rfl, rfl, rfl⟩
  subst hk
  rw [List.append_assoc, ← List.drop_drop, List.take_append_drop, List.take_append_drop]
theorem swap (x0 x1 : Int) (n : Nat) (p0 : 0 ≤ x0) (p1 : 0 ≤ x1) : ∃ i k : Nat, i ≤ k ∧ k ≤ n ∧
    ((x0 % ((n : Int) + 1) = (k : Int) ∧ x1 % ((n : Int) + 1) = (i : Int) ∧ decide (i < k) = true) ∨ (x0 % ((n : Int) + 1) = (i : Int) ∧ x1 % ((n : Int) + 1) = (k : Int) ∧ decide (k < i) = false)) := by
  have a0 := Int.emod_nonneg x0 (by omega : (n : Int) + 1 ≠ 0)
  have a1 := Int.emod_nonneg x1 (by omega : (n : Int) + 1 ≠ 0)
  have b0 := Int.emod_lt_of_pos x0 (by omega : 0 < (n : Int) + 1)
  have b1 := Int.emod_lt_of_pos x1 (by omega : 0 < (n : Int) + 1)
  obtain ⟨a, ha⟩ := Int.eq_ofNat_of_zero_le a0
  obtain ⟨b, hb⟩ := Int.eq_ofNat_of_zero_le a1
  rw [ha] at a0 b0 ⊢
  rw [hb] at a1 b1 ⊢
  by_cases h : b < a
  · exact ⟨b, a, by omega, by omega, .inl ⟨rfl, rfl, by simpa using h⟩⟩
  · exact ⟨a, b, by omega, by omega, .inr ⟨rfl, rfl, by simpa using h⟩⟩
set_option maxRecDepth 100000 in
set_option maxHeartbeats 4000000 in
theorem walk (v0 : Value) (z0 : List Int) (x0 x1 x2 : Int) (w : World) (w0 : Ints w w.heap.size .u8 v0 z0) (g0 : ∀ n ∈ z0, (Lit.int .u8 n).wf = true) (s0 : z0.length * 1 ≤ 140737488351232)
    (y0 : (Lit.int .u16 x0).wf = true) (y1 : (Lit.int .u16 x1).wf = true) (y2 : (Lit.int .u16 x2).wf = true) (ht : Tab w) :
    Calls Tryd.prog 5 #[v0, .agg #[.int .u16 x0, .int .u16 x1, .int .u16 x2]] w fun e w' => e = .returned (.bool true) ∧ Below w.heap.size w w' := by
  have hbs := bs_of_ints w0 (fun z hz => bounds_u8 (g0 z hz))
  have hll : (z0.map fun z => UInt8.ofNat z.toNat).length ≤ 140737488351232 := by rw [List.length_map]; omega
  generalize z0.map (fun z => UInt8.ofNat z.toNat) = l at hbs hll
  clear w0 g0 s0
  obtain ⟨A, c, rfl, hc, hr⟩ := hbs
  have h0 := bounds_u16 y0
  have h1 := bounds_u16 y1
  clear y0 y1 y2
  have Hr := Lib.hid hr
  have Ht := Lib.hid ht
  clear hr ht
  obtain ⟨p0, q0⟩ := h0
  obtain ⟨p1, q1⟩ := h1
  obtain ⟨n, hn⟩ : ∃ n : Nat, min l.length 3000 = n := ⟨_, rfl⟩
  have hn1 : n ≤ l.length := by omega
  have hn2 : n ≤ 3000 := by omega
  have hmin : min (l.length : Int) 3000 = (n : Int) := by omega
  have Hn := Lib.hid hn
  clear hn
  go_enter Tryd.func5, Tryd.ntmps5
  go_wp2_with fail
  have hn0 : 0 ≤ (n : Int) + 1 := by omega
  go_region
  obtain ⟨i, k, hik, hkn, hsw⟩ := swap x0 x1 n p0 p1
  obtain ⟨m, hm⟩ : ∃ m, k = i + m := ⟨k - i, by omega⟩
  obtain ⟨r, hr⟩ : ∃ r, n = k + r := ⟨n - k, by omega⟩
  have hcn : n ≤ c := by omega
  obtain ⟨A2, c2, hr2, hc2, hrd2⟩ := cut_lh A n c i k m hm (by omega)
  obtain ⟨A3, c3, hr3, hc3, hrd3⟩ := cut_l A n c k r hr hcn
  have Hrd2 := Lib.hid hrd2
  have Hrd3 := Lib.hid hrd3
  have Hm := Lib.hid hm
  have Hrr := Lib.hid hr
  clear hrd2 hrd3 hm hr
  have hin : i ≤ n := by omega
  rcases hsw with ⟨e0, e1, e2⟩ | ⟨e0, e1, e2⟩
  all_goals
    go_wp2_with fail
    go_region
    clear e0 e1 e2
    go_wp2_with fail
    have b1 : Below w.heap.size w (w.alloc (Obj.cells #[Value.int IntKind.u16 x0, Value.int IntKind.u16 x1, Value.int IntKind.u16 x2] 40)).drew.drew := ((Below.refl _ _).alloc (Nat.le_refl _) _).drew.drew
    generalize (w.alloc (Obj.cells #[Value.int IntKind.u16 x0, Value.int IntKind.u16 x1, Value.int IntKind.u16 x2] 40)).drew.drew = w1 at *
    obtain ⟨X, Y, Z, hXYZ, lX, lY, lZ, eX, eY, eZ⟩ := parts l n i k m r hn1 Hm.out Hrr.out
    have HL := Lib.hid (show Bs w1 w.heap.size (.slice A n c) (X ++ Y ++ Z) from ⟨A, c, by rw [← hXYZ, List.length_take]; congr 1; omega, by rw [← hXYZ, List.length_take]; omega, by rw [← hXYZ, bvs_take]; exact (Hr.out.below b1 (Nat.le_refl _)).take n⟩)
    have HX := Lib.hid (show Bs w1 w.heap.size (.slice A i c) X from ⟨A, c, by rw [lX], by omega, by rw [eX, bvs_take, bvs_take]; exact ((Hr.out.below b1 (Nat.le_refl _)).take n).take i⟩)
    have HY := Lib.hid (show Bs w1 w.heap.size (.slice A2 m c2) Y from ⟨A2, c2, by rw [lY], by omega, by rw [eY]; exact Hrd2.out w1 _ _ (by rw [List.length_take]; omega) (by rw [bvs_take]; exact (Hr.out.below b1 (Nat.le_refl _)).take n)⟩)
    have HZ := Lib.hid (show Bs w1 w.heap.size (.slice A3 r c3) Z from ⟨A3, c3, by rw [lZ], by omega, by rw [eZ]; exact Hrd3.out w1 _ _ (by rw [List.length_take]; omega) (by rw [bvs_take]; exact (Hr.out.below b1 (Nat.le_refl _)).take n)⟩)
    have Ht1 := Lib.hid (Ht.out.on b1)
    have LX := Lib.hid lX
    have LY := Lib.hid lY
    have LZ := Lib.hid lZ
    clear hXYZ lX lY lZ eX eY eZ Hr hr2 hr3 Hrd2 Hrd3 Ht hmin Hn
    have hi3 : i ≤ 3000 := by omega
    have hm3 : m ≤ 3000 := by have := Hm.out; omega
    have hr3 : r ≤ 3000 := by have := Hrr.out; omega
    have hl3 : (X ++ Y ++ Z).length ≤ 9223372036854775807 := by rw [List.length_append, List.length_append, LX.out, LY.out, LZ.out]; omega
    clear hll hc hn1 hn2 hik hkn hin Hm Hrr
    have Hl3 := Lib.hid hl3
    clear hl3
    refine (sum_b _ _ _ _ HL.out Ht1.out Hl3.out).mono ?_
    rintro e w2 ⟨rfl, rfl⟩
    generalize hall : Cx.sum (X ++ Y ++ Z) = all
    have Hall := Lib.hid hall
    clear hall
    go_wp2_with fail
    refine (sum_b _ _ _ _ HX.out Ht1.out (by rw [LX.out]; omega)).mono ?_
    rintro e w2 ⟨rfl, rfl⟩
    go_wp2_with fail
    refine (sum_b _ _ _ _ HY.out Ht1.out (by rw [LY.out]; omega)).mono ?_
    rintro e w2 ⟨rfl, rfl⟩
    go_wp2_with fail
    refine (join_ok _ _ _ _ (by omega) (by omega)).mono ?_
    rintro e w2 ⟨rfl, b2⟩
    rw [Int.toNat_natCast]
    have HX2 := Lib.hid (HX.out.below b2 b1.size)
    have HY2 := Lib.hid (HY.out.below b2 b1.size)
    have HZ2 := Lib.hid (HZ.out.below b2 b1.size)
    have Ht2 := Lib.hid (Ht1.out.on b2)
    have hb2 := b1.trans (b2.mono b1.size)
    clear HX HY HZ Ht1 b1 b2 HL
    go_wp2_with fail
    refine (sum_b _ _ _ _ HZ2.out Ht2.out (by rw [LZ.out]; omega)).mono ?_
    rintro e w3 ⟨rfl, rfl⟩
    go_wp2_with fail
    refine (join_ok _ _ _ _ (by omega) (by omega)).mono ?_
    rintro e w3 ⟨rfl, b3⟩
    rw [Int.toNat_natCast]
    have HX3 := Lib.hid (HX2.out.below b3 hb2.size)
    have HY3 := Lib.hid (HY2.out.below b3 hb2.size)
    have HZ3 := Lib.hid (HZ2.out.below b3 hb2.size)
    have Ht3 := Lib.hid (Ht2.out.on b3)
    have hb3 := hb2.trans (b3.mono hb2.size)
    clear HX2 HY2 HZ2 Ht2 hb2 b3
    rw [show Cx.join (Cx.join (Cx.sum X) (Cx.sum Y) m) (Cx.sum Z) r = all by rw [← LY.out, ← LZ.out, Cx.join_sum, Cx.join_sum, ← Cx.sum_append, ← Cx.sum_append, Hall.out]]
    go_wp2_with fail
    refine (sum_b _ _ _ _ HY3.out Ht3.out (by rw [LY.out]; omega)).mono ?_
    rintro e w4 ⟨rfl, rfl⟩
    go_wp2_with fail
    refine (sum_b _ _ _ _ HZ3.out Ht3.out (by rw [LZ.out]; omega)).mono ?_
    rintro e w4 ⟨rfl, rfl⟩
    go_wp2_with fail
    refine (join_ok _ _ _ _ (by omega) (by omega)).mono ?_
    rintro e w4 ⟨rfl, b4⟩
    rw [Int.toNat_natCast]
    have HX4 := Lib.hid (HX3.out.below b4 hb3.size)
    have HY4 := Lib.hid (HY3.out.below b4 hb3.size)
    have HZ4 := Lib.hid (HZ3.out.below b4 hb3.size)
    have Ht4 := Lib.hid (Ht3.out.on b4)
    have hb4 := hb3.trans (b4.mono hb3.size)
    clear HX3 HY3 HZ3 Ht3 hb3 b4
    go_wp2_with fail
    refine (sum_b _ _ _ _ HX4.out Ht4.out (by rw [LX.out]; omega)).mono ?_
    rintro e w5 ⟨rfl, rfl⟩
    go_wp2_with fail
    refine (join_ok _ _ _ _ (by omega) (by omega)).mono ?_
    rintro e w5 ⟨rfl, b5⟩
    have HX5 := Lib.hid (HX4.out.below b5 hb4.size)
    have HY5 := Lib.hid (HY4.out.below b5 hb4.size)
    have HZ5 := Lib.hid (HZ4.out.below b5 hb4.size)
    have Ht5 := Lib.hid (Ht4.out.on b5)
    have hb5 := hb4.trans (b5.mono hb4.size)
    clear HX4 HY4 HZ4 Ht4 hb4 b5
    rw [show Cx.join (Cx.sum X) (Cx.join (Cx.sum Y) (Cx.sum Z) r) ((m : Int) + (r : Int)).toNat = all by
      rw [show ((m : Int) + (r : Int)).toNat = m + r by omega, ← LY.out, ← LZ.out, Cx.join_join _ 0#32, Cx.join_sum, Cx.join_sum, ← Cx.sum_append, ← Cx.sum_append, Hall.out]]
    go_wp2_with fail
    refine (sum_b _ _ _ _ HX5.out Ht5.out (by rw [LX.out]; omega)).mono ?_
    rintro e w6 ⟨rfl, rfl⟩
    go_wp2_with fail
    refine (more_b _ _ _ _ _ HY5.out Ht5.out (by rw [LY.out]; omega)).mono ?_
    rintro e w6 ⟨rfl, rfl⟩
    rw [← Cx.sum_append]
    go_wp2_with fail
    refine (more_b _ _ _ _ _ HZ5.out Ht5.out (by rw [LZ.out]; omega)).mono ?_
    rintro e w6 ⟨rfl, rfl⟩
    rw [← Cx.sum_append, Hall.out]
    go_wp2_with fail
    refine (knows_any _ Ht5.out).mono ?_
    rintro e w6 ⟨rfl, b6⟩
    go_wp2_with fail
    go_ret
    exact ⟨rfl, hb5.trans (b6.mono hb5.size)⟩
end Go.Proofs.YtcgcopkalcjmpaaDoor.crcParts
