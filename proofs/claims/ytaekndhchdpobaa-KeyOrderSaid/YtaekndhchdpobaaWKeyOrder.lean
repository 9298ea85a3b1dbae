
/-
  The walk of the law KeyOrder: it returns true, and writes nothing that was there.
-/
import Derived.Test.YtaekndhchdpobaaKyO
import Derived.OpenShut
import Derived.IntWalk
import Derived.Test.YtaekndhchdpobaaOrdL
import Derived.Test.YtaekndhchdpobaaRegion
set_option linter.unusedVariables false
set_option linter.unusedSimpArgs false
namespace Go.Proofs.Ytaekndhchdpobaa.keyOrder
open Go.RowKit

/-- a row's first bytes, as letters -/
theorem first (v : Value) (l : List UInt8) (w : World) (k0 : Nat) (h : Bs w w.heap.size v l) : ∃ (A : Option Addr) (n c : Nat) (A' : Option Addr) (c' k : Nat) (m : List UInt8), v = .slice A n c ∧ n = l.length ∧
    (∀ w, (Instr.sliceAt 53 (.slice A n c) none (some (.int .i64 (k : Int))) none).run Try.prog w = .ok (.slice A' k c') w) ∧ min (n : Int) (k0 : Int) = (k : Int) ∧ k ≤ k0 ∧ k ≤ c' ∧ m.length = k ∧ Rd w w.heap.size A' (bvs m) := by
  obtain ⟨A, c, rfl, hc, hr⟩ := h
  obtain ⟨A', c', h1, h2, h3⟩ := cut_h A l.length c (min l.length k0) (by omega) hc
  exact ⟨A, l.length, c, A', c', min l.length k0, l.take (min l.length k0), rfl, rfl, h1, by omega, by omega, h2, by rw [List.length_take]; omega, h3 w w.heap.size l rfl hr⟩

set_option maxRecDepth 100000 in
set_option maxHeartbeats 8000000 in
theorem walk (v0 : Value) (z0 : List Int) (v1 : Value) (z1 : List Int) (v2 : Value) (z2 : List Int) (v3 : Value) (z3 : List Int) (w : World) (w0 : Ints w w.heap.size .u8 v0 z0) (g0 : ∀ n ∈ z0, (Lit.int .u8 n).wf = true) (s0 : z0.length * 1 ≤ 140737488351232) (w1 : Ints w w.heap.size .u8 v1 z1) (g1 : ∀ n ∈ z1, (Lit.int .u8 n).wf = true) (s1 : z1.length * 1 ≤ 140737488351232) (w2 : Ints w w.heap.size .u8 v2 z2) (g2 : ∀ n ∈ z2, (Lit.int .u8 n).wf = true) (s2 : z2.length * 1 ≤ 140737488351232) (w3 : Ints w w.heap.size .u8 v3 z3) (g3 : ∀ n ∈ z3, (Lit.int .u8 n).wf = true) (s3 : z3.length * 1 ≤ 140737488351232) :
    Calls Try.prog 6 #[v0, v1, v2, v3] w fun e w' => e = .returned (.bool true) ∧ Below w.heap.size w w' := by
  have hb0 := bs_of_ints w0 (fun z hz => bounds_u8 (g0 z hz))
  have hb1 := bs_of_ints w1 (fun z hz => bounds_u8 (g1 z hz))
  have hb2 := bs_of_ints w2 (fun z hz => bounds_u8 (g2 z hz))
  have hb3 := bs_of_ints w3 (fun z hz => bounds_u8 (g3 z hz))
  have hl0 : (z0.map fun z => UInt8.ofNat z.toNat).length ≤ 140737488351232 := by rw [List.length_map]; omega
  have hl1 : (z1.map fun z => UInt8.ofNat z.toNat).length ≤ 140737488351232 := by rw [List.length_map]; omega
  have hl2 : (z2.map fun z => UInt8.ofNat z.toNat).length ≤ 140737488351232 := by rw [List.length_map]; omega
  have hl3 : (z3.map fun z => UInt8.ofNat z.toNat).length ≤ 140737488351232 := by rw [List.length_map]; omega
  clear w0 w1 w2 w3 g0 g1 g2 g3 s0 s1 s2 s3
  obtain ⟨A0, n0, c0, B0, d0, k0, a, rfl, e0, run0, min0, le0, ld0, len0, rd0⟩ := first _ _ _ 80 hb0
  obtain ⟨A1, n1, c1, B1, d1, k1, b, rfl, e1, run1, min1, le1, ld1, len1, rd1⟩ := first _ _ _ 80 hb1
  obtain ⟨A2, n2, c2, B2, d2, k2, c, rfl, e2, run2, min2, le2, ld2, len2, rd2⟩ := first _ _ _ 80 hb2
  obtain ⟨A3, n3, c3, B3, d3, k3, p, rfl, e3, run3, min3, le3, ld3, len3, rd3⟩ := first _ _ _ 80 hb3
  rw [← e0] at hl0
  rw [← e1] at hl1
  rw [← e2] at hl2
  rw [← e3] at hl3
  clear hb0 hb1 hb2 hb3 e0 e1 e2 e3
  have s0 : Bs w w.heap.size (.slice B0 k0 d0) a := ⟨B0, d0, by rw [len0], by omega, rd0⟩
  have s1 : Bs w w.heap.size (.slice B1 k1 d1) b := ⟨B1, d1, by rw [len1], by omega, rd1⟩
  have s2 : Bs w w.heap.size (.slice B2 k2 d2) c := ⟨B2, d2, by rw [len2], by omega, rd2⟩
  have S0 := Lib.hid s0
  have S1 := Lib.hid s1
  have S2 := Lib.hid s2
  have R3 := Lib.hid rd3
  have L0 := Lib.hid len0
  have L1 := Lib.hid len1
  have L3 := Lib.hid len3
  clear s0 s1 s2 rd0 rd1 rd2 rd3 len0 len1 len2 len3 ld0 ld1 ld2
  rw [show ((80 : Nat) : Int) = 80 by rfl] at min0 min1 min2 min3
  go_enter Try.func6, Try.ntmps6
  go_wp2_with fail
  refine wp_region_noPanic ?_
  have hc0 : (w.alloc (.cells #[.slice A3 n3 c3] 53)).drew.cell? ⟨w.heap.size, 0, none⟩ = some (.slice A3 n3 c3) := World.cell?_alloc_new ..
  have hf0 : (w.alloc (.cells #[.slice A3 n3 c3] 53)).drew.frozen? ⟨w.heap.size, 0, none⟩ = false := by simp
  have HB := Lib.hid (bdrew4 (bnew4 w (.cells #[.slice A3 n3 c3] 53)))
  have hsz : w.heap.size < (w.alloc (.cells #[.slice A3 n3 c3] 53)).drew.heap.size := by simp
  refine OrdL.wpL_region (fun w' => w'.cell? ⟨w.heap.size, 0, none⟩ = some (.slice A3 n3 c3)) 23 (by kernel_rfl) ?_
  generalize World.drew _ = W at *
  have hHeld := hc0
  refine OrdL.wpL_take (i := 0) (v := ?_) opAt_0 [] (by kernel_rfl) (by kernel_rfl) (by kernel_rfl) (by kernel_rfl) (by kernel_rfl) (by kernel_rfl) (fun _ _ _ h => h) (Or.inl ⟨by rfl, ?_⟩) hHeld ?_
  rotate_left
  · (intro w' hSw; go_simp; try with_reducible rfl)
  try simp only [Act.put, List.setIfInBounds_toArray, List.set_cons_zero, List.set_cons_succ]
  refine OrdL.wpL_take (i := 1) (v := ?_) opAt_1 [] (by kernel_rfl) (by kernel_rfl) (by kernel_rfl) (by kernel_rfl) (by kernel_rfl) (by kernel_rfl) (fun _ _ _ h => h) (Or.inl ⟨by rfl, ?_⟩) hHeld ?_
  rotate_left
  · (intro w' hSw; go_simp; try with_reducible rfl)
  try simp only [Act.put, List.setIfInBounds_toArray, List.set_cons_zero, List.set_cons_succ]
  refine OrdL.wpL_take (i := 2) (v := ?_) opAt_2 [] (by kernel_rfl) (by kernel_rfl) (by kernel_rfl) (by kernel_rfl) (by kernel_rfl) (by kernel_rfl) (fun _ _ _ h => h) (Or.inl ⟨by rfl, ?_⟩) hHeld ?_
  rotate_left
  · (intro w' hSw; go_simp; try with_reducible rfl)
  try simp only [Act.put, List.setIfInBounds_toArray, List.set_cons_zero, List.set_cons_succ]
  refine OrdL.wpL_take (i := 3) (v := ?_) opAt_3 [] (by kernel_rfl) (by kernel_rfl) (by kernel_rfl) (by kernel_rfl) (by kernel_rfl) (by kernel_rfl) (fun _ _ _ h => h) (Or.inl ⟨by rfl, ?_⟩) hHeld ?_
  rotate_left
  · (intro w' hSw; go_simp; try with_reducible rfl)
  try simp only [Act.put, List.setIfInBounds_toArray, List.set_cons_zero, List.set_cons_succ]
  refine OrdL.wpL_take (i := 4) (v := ?_) opAt_4 [] (by kernel_rfl) (by kernel_rfl) (by kernel_rfl) (by kernel_rfl) (by kernel_rfl) (by kernel_rfl) (fun _ _ _ h => h) (Or.inl ⟨by rfl, ?_⟩) hHeld ?_
  rotate_left
  · (intro w' hSw; go_simp; try with_reducible rfl)
  try simp only [Act.put, List.setIfInBounds_toArray, List.set_cons_zero, List.set_cons_succ]
  refine OrdL.wpL_take (i := 5) (v := ?_) opAt_5 [] (by kernel_rfl) (by kernel_rfl) (by kernel_rfl) (by kernel_rfl) (by kernel_rfl) (by kernel_rfl) (fun _ _ _ h => h) (Or.inl ⟨by rfl, ?_⟩) hHeld ?_
  rotate_left
  · (intro w' hSw; go_simp; try with_reducible rfl)
  try simp only [Act.put, List.setIfInBounds_toArray, List.set_cons_zero, List.set_cons_succ]
  refine OrdL.wpL_take (i := 6) (v := ?_) opAt_6 [] (by kernel_rfl) (by kernel_rfl) (by kernel_rfl) (by kernel_rfl) (by kernel_rfl) (by kernel_rfl) (fun _ _ _ h => h) (Or.inl ⟨by rfl, ?_⟩) hHeld ?_
  rotate_left
  · (intro w' hSw; go_simp; try with_reducible rfl)
  try simp only [Act.put, List.setIfInBounds_toArray, List.set_cons_zero, List.set_cons_succ]
  refine OrdL.wpL_take (i := 7) (v := ?_) opAt_7 [] (by kernel_rfl) (by kernel_rfl) (by kernel_rfl) (by kernel_rfl) (by kernel_rfl) (by kernel_rfl) (fun _ _ _ h => h) (Or.inl ⟨by rfl, ?_⟩) hHeld ?_
  rotate_left
  · (intro w' hSw; go_simp; try with_reducible rfl)
  try simp only [Act.put, List.setIfInBounds_toArray, List.set_cons_zero, List.set_cons_succ]
  refine OrdL.wpL_take (i := 8) (v := ?_) opAt_8 [] (by kernel_rfl) (by kernel_rfl) (by kernel_rfl) (by kernel_rfl) (by kernel_rfl) (by kernel_rfl) (fun _ _ _ h => h) (Or.inl ⟨by rfl, ?_⟩) hHeld ?_
  rotate_left
  · (intro w' hSw; go_simp; try with_reducible rfl)
  try simp only [Act.put, List.setIfInBounds_toArray, List.set_cons_zero, List.set_cons_succ]
  refine OrdL.wpL_take (i := 9) (v := ?_) opAt_9 [] (by kernel_rfl) (by kernel_rfl) (by kernel_rfl) (by kernel_rfl) (by kernel_rfl) (by kernel_rfl) (fun _ _ _ h => h) (Or.inl ⟨by rfl, ?_⟩) hHeld ?_
  rotate_left
  · (intro w' hSw; go_simp; try with_reducible rfl)
  try simp only [Act.put, List.setIfInBounds_toArray, List.set_cons_zero, List.set_cons_succ]
  refine OrdL.wpL_take (i := 10) (v := ?_) opAt_10 [] (by kernel_rfl) (by kernel_rfl) (by kernel_rfl) (by kernel_rfl) (by kernel_rfl) (by kernel_rfl) (fun _ _ _ h => h) (Or.inl ⟨by rfl, ?_⟩) hHeld ?_
  rotate_left
  · (intro w' hSw; go_simp; try with_reducible rfl)
  try simp only [Act.put, List.setIfInBounds_toArray, List.set_cons_zero, List.set_cons_succ]
  refine OrdL.wpL_take (i := 11) (v := ?_) opAt_11 [] (by kernel_rfl) (by kernel_rfl) (by kernel_rfl) (by kernel_rfl) (by kernel_rfl) (by kernel_rfl) (fun _ _ _ h => h) (Or.inl ⟨by rfl, ?_⟩) hHeld ?_
  rotate_left
  · (intro w' hSw; go_simp; try with_reducible rfl)
  try simp only [Act.put, List.setIfInBounds_toArray, List.set_cons_zero, List.set_cons_succ]
  refine OrdL.wpL_take (i := 12) (v := ?_) opAt_12 [] (by kernel_rfl) (by kernel_rfl) (by kernel_rfl) (by kernel_rfl) (by kernel_rfl) (by kernel_rfl) (fun _ _ _ h => h) (Or.inl ⟨by rfl, ?_⟩) hHeld ?_
  rotate_left
  · (intro w' hSw; go_simp; try with_reducible rfl)
  try simp only [Act.put, List.setIfInBounds_toArray, List.set_cons_zero, List.set_cons_succ]
  refine OrdL.wpL_take (i := 13) (v := ?_) opAt_13 [] (by kernel_rfl) (by kernel_rfl) (by kernel_rfl) (by kernel_rfl) (by kernel_rfl) (by kernel_rfl) (fun _ _ _ h => h) (Or.inl ⟨by rfl, ?_⟩) hHeld ?_
  rotate_left
  · (intro w' hSw; go_simp; try with_reducible rfl)
  try simp only [Act.put, List.setIfInBounds_toArray, List.set_cons_zero, List.set_cons_succ]
  refine OrdL.wpL_take (i := 14) (v := ?_) opAt_14 [] (by kernel_rfl) (by kernel_rfl) (by kernel_rfl) (by kernel_rfl) (by kernel_rfl) (by kernel_rfl) (fun _ _ _ h => h) (Or.inl ⟨by rfl, ?_⟩) hHeld ?_
  rotate_left
  · (intro w' hSw; go_simp; try with_reducible rfl)
  try simp only [Act.put, List.setIfInBounds_toArray, List.set_cons_zero, List.set_cons_succ]
  refine OrdL.wpL_take (i := 15) (v := ?_) opAt_15 [] (by kernel_rfl) (by kernel_rfl) (by kernel_rfl) (by kernel_rfl) (by kernel_rfl) (by kernel_rfl) (fun _ _ _ h => h) (Or.inl ⟨by rfl, ?_⟩) hHeld ?_
  rotate_left
  · (intro w' hSw; go_simp; try with_reducible rfl)
  try simp only [Act.put, List.setIfInBounds_toArray, List.set_cons_zero, List.set_cons_succ]
  refine OrdL.wpL_take (i := 16) (v := ?_) opAt_16 [] (by kernel_rfl) (by kernel_rfl) (by kernel_rfl) (by kernel_rfl) (by kernel_rfl) (by kernel_rfl) (fun _ _ _ h => h) (Or.inl ⟨by rfl, ?_⟩) hHeld ?_
  rotate_left
  · (intro w' hSw; go_simp; try with_reducible rfl)
  try simp only [Act.put, List.setIfInBounds_toArray, List.set_cons_zero, List.set_cons_succ]
  refine OrdL.wpL_take (i := 17) (v := ?_) opAt_17 [] (by kernel_rfl) (by kernel_rfl) (by kernel_rfl) (by kernel_rfl) (by kernel_rfl) (by kernel_rfl) (fun _ _ _ h => h) (Or.inl ⟨by rfl, ?_⟩) hHeld ?_
  rotate_left
  · (intro w' hSw; go_simp; try with_reducible rfl)
  try simp only [Act.put, List.setIfInBounds_toArray, List.set_cons_zero, List.set_cons_succ]
  refine OrdL.wpL_take (i := 18) (v := ?_) opAt_18 [] (by kernel_rfl) (by kernel_rfl) (by kernel_rfl) (by kernel_rfl) (by kernel_rfl) (by kernel_rfl) (fun _ _ _ h => h) (Or.inl ⟨by rfl, ?_⟩) hHeld ?_
  rotate_left
  · (intro w' hSw; go_simp; try with_reducible rfl)
  try simp only [Act.put, List.setIfInBounds_toArray, List.set_cons_zero, List.set_cons_succ]
  refine OrdL.wpL_take (i := 19) (v := ?_) opAt_19 [] (by kernel_rfl) (by kernel_rfl) (by kernel_rfl) (by kernel_rfl) (by kernel_rfl) (by kernel_rfl) (fun _ _ _ h => h) (Or.inl ⟨by rfl, ?_⟩) hHeld ?_
  rotate_left
  · (intro w' hSw; go_simp; try with_reducible rfl)
  try simp only [Act.put, List.setIfInBounds_toArray, List.set_cons_zero, List.set_cons_succ]
  refine OrdL.wpL_take (i := 20) (v := ?_) opAt_20 [] (by kernel_rfl) (by kernel_rfl) (by kernel_rfl) (by kernel_rfl) (by kernel_rfl) (by kernel_rfl) (fun _ _ _ h => h) (Or.inl ⟨by rfl, ?_⟩) hHeld ?_
  rotate_left
  · (intro w' hSw; go_simp; try with_reducible rfl)
  try simp only [Act.put, List.setIfInBounds_toArray, List.set_cons_zero, List.set_cons_succ]
  refine OrdL.wpL_take (i := 21) (v := ?_) opAt_21 [] (by kernel_rfl) (by kernel_rfl) (by kernel_rfl) (by kernel_rfl) (by kernel_rfl) (by kernel_rfl) (fun _ _ _ h => h) (Or.inl ⟨by rfl, ?_⟩) hHeld ?_
  rotate_left
  · (intro w' hSw; go_simp; try with_reducible rfl)
  try simp only [Act.put, List.setIfInBounds_toArray, List.set_cons_zero, List.set_cons_succ]
  refine OrdL.wpL_take (i := 22) (v := ?_) opAt_22 [] (by kernel_rfl) (by kernel_rfl) (by kernel_rfl) (by kernel_rfl) (by kernel_rfl) (by kernel_rfl) (fun _ _ _ h => h) (Or.inl ⟨by rfl, ?_⟩) hHeld ?_
  rotate_left
  · (intro w' hSw; go_simp; try with_reducible rfl)
  try simp only [Act.put, List.setIfInBounds_toArray, List.set_cons_zero, List.set_cons_succ]
  refine OrdL.wpL_ready (rs := [23]) (by kernel_rfl) (by simp) ?_
  refine OrdL.AllL.cons rfl (fun K hK => ?_) OrdL.AllL.nil
  go_simp
  refine hK.out _ _ (fun h => absurd h (by decide)) ?_
  clear hK K
  try simp only [Act.put, List.setIfInBounds_toArray, List.set_cons_zero, List.set_cons_succ]
  refine OrdL.wpL_done (by kernel_rfl) ?_ _
  refine NoPanic.normal ?_
  have hc1 : (W.setCell ⟨w.heap.size, 0, none⟩ (.slice B3 k3 d3)).cell? ⟨w.heap.size, 0, none⟩ = some (.slice B3 k3 d3) := World.cell?_setCell_same _ _ _ hc0
  have HB1 := Lib.hid (HB.out.setCell (p := ⟨w.heap.size, 0, none⟩) (Nat.le_refl _) (.slice B3 k3 d3))
  have hsz1 : w.heap.size < (W.setCell ⟨w.heap.size, 0, none⟩ (.slice B3 k3 d3)).heap.size := by simpa using hsz
  clear hc0 hf0 HB hsz hHeld
  generalize World.setCell _ _ _ = W1 at *
  replace S0 := Lib.hid (Bs.keepB S0.out HB1.out)
  replace S1 := Lib.hid (Bs.keepB S1.out HB1.out)
  replace S2 := Lib.hid (Bs.keepB S2.out HB1.out)
  replace R3 := Lib.hid ((R3.out.below HB1.out (Nat.le_refl _)).mono HB1.out.size)
  have HC := Lib.hid hc1
  clear hc1
  obtain ⟨x, hx⟩ : ∃ x, Go.Lib.compareBytes a b = x := ⟨_, rfl⟩
  obtain ⟨y, hy⟩ : ∃ y, Go.Lib.compareBytes b c = y := ⟨_, rfl⟩
  obtain ⟨z, hz⟩ : ∃ z, Go.Lib.compareBytes a c = z := ⟨_, rfl⟩
  obtain ⟨t, ht⟩ : ∃ t, Go.Lib.compareBytes b a = t := ⟨_, rfl⟩
  have rt := Ky.cmp_range b a
  have hxt := Ky.cmp_neg b a
  have hx0 := Ky.cmp_zero a b
  have htr := Ky.cmp_trans a b c
  have htr2 := Ky.cmp_trans c b a
  rw [Ky.cmp_neg b c, Ky.cmp_neg a b, Ky.cmp_neg a c, hx, hy, hz] at htr2
  rw [ht] at rt hxt
  rw [hx] at hxt hx0 htr
  rw [hy, hz] at htr
  have hP := Lib.hid (Ky.cmp_pre p a b)
  have heq : (a == b) = decide (x = 0) := by rw [Bool.eq_iff_iff]; simp [hx0]
  have HX := Lib.hid hx
  have HY := Lib.hid hy
  have HZ := Lib.hid hz
  have HT := Lib.hid ht
  have HE := Lib.hid heq
  clear hx hy hz ht hx0 heq
  go_wp2_with fail
  refine (kcompare_b _ _ _ _ _ _ _ S0.out S1.out).mono ?_
  rintro e w1 ⟨rfl, rfl⟩
  rw [HX.out]
  go_wp2_with fail
  refine (kcompare_b _ _ _ _ _ _ _ S1.out S2.out).mono ?_
  rintro e w1 ⟨rfl, rfl⟩
  rw [HY.out]
  go_wp2_with fail
  refine (kcompare_b _ _ _ _ _ _ _ S0.out S2.out).mono ?_
  rintro e w1 ⟨rfl, rfl⟩
  rw [HZ.out]
  go_wp2_with fail
  refine (kcompare_b _ _ _ _ _ _ _ S1.out S0.out).mono ?_
  rintro e w1 ⟨rfl, rfl⟩
  rw [HT.out]
  have hn : -t = x := by omega
  have HN := Lib.hid hn
  have hways : (x < 0 ∧ y ≤ 0 ∧ z ≤ 0) ∨ (x < 0 ∧ 0 < y) ∨ (x = 0 ∧ y < 0 ∧ z ≤ 0) ∨ (x = 0 ∧ y = 0 ∧ z = 0) ∨ (x = 0 ∧ 0 < y ∧ 0 ≤ z) ∨ (0 < x ∧ 0 ≤ y ∧ 0 ≤ z) ∨ (0 < x ∧ y < 0) := by omega
  have HR := Lib.hid (⟨rt, hxt, htr, htr2⟩ : _ ∧ _ ∧ _ ∧ _)
  clear hxt htr htr2 hn
  obtain ⟨rt1, rt2⟩ := rt
  rcases hways with hw | hw | hw | hw | hw | hw | hw
  all_goals
    have hn := HN.out
    (first | (have dx0 : (x == 0) = true := (by simp; omega)) | (have dx0 : (x == 0) = false := (by simp; omega)))
    (first | (have hq : (a == b) = true := (by rw [HE.out]; simp; omega)) | (have hq : (a == b) = false := (by rw [HE.out]; simp; omega)))
    have HQ := Lib.hid hq
    clear hq
    (first | (have q1 : decide (x ≤ 0) = true := (by simp; omega)) | (have q1 : decide (x ≤ 0) = false := (by simp; omega)) | skip)
    (first | (have q2 : decide (0 ≤ x) = true := (by simp; omega)) | (have q2 : decide (0 ≤ x) = false := (by simp; omega)) | skip)
    (first | (have q3 : decide (y ≤ 0) = true := (by simp; omega)) | (have q3 : decide (y ≤ 0) = false := (by simp; omega)) | skip)
    (first | (have q4 : decide (0 ≤ y) = true := (by simp; omega)) | (have q4 : decide (0 ≤ y) = false := (by simp; omega)) | skip)
    (first | (have q5 : decide (0 < z) = true := (by simp; omega)) | (have q5 : decide (0 < z) = false := (by simp; omega)) | skip)
    (first | (have q6 : decide (z < 0) = true := (by simp; omega)) | (have q6 : decide (z < 0) = false := (by simp; omega)) | skip)
    have HW := Lib.hid hw
    clear hw
    go_wp2_with fail
    refine (equal_b _ _ _ _ _ _ _ S0.out S1.out).mono ?_
    rintro e w1 ⟨rfl, rfl⟩
    rw [HQ.out]
    go_wp2_with fail
    clear rt1 rt2 hn
    refine (with_any _ p a B3 d3 w.heap.size W1 S0.out R3.out (by rw [L3.out]; assumption) (by rw [L3.out]; exact HC.out) (by rw [L3.out]; omega) (by rw [L0.out]; omega)).mono ?_
    rintro e w4 ⟨r4, rfl, hs4, hb4⟩
    have HS4 := Lib.hid hs4
    have HB4 := Lib.hid (HB1.out.trans (hb4.mono HB1.out.size))
    have S14 := Lib.hid (Bs.keepB S1.out hb4)
    have R34 := Lib.hid ((R3.out.below hb4 (Nat.le_refl _)).mono hb4.size)
    have HC4 := Lib.hid ((hb4.cell (p := ⟨w.heap.size, 0, none⟩) hsz1).trans HC.out)
    clear hs4 hb4
    go_wp2_with fail
    refine (with_any _ p b B3 d3 w.heap.size w4 S14.out R34.out (by rw [L3.out]; assumption) (by rw [L3.out]; exact HC4.out) (by rw [L3.out]; omega) (by rw [L1.out]; omega)).mono ?_
    rintro e w5 ⟨r5, rfl, hs5, hb5⟩
    have HS5 := Lib.hid hs5
    have HS45 := Lib.hid (Bs.keepB HS4.out hb5)
    have HB5 := Lib.hid (HB4.out.trans (hb5.mono HB4.out.size))
    clear hs5 hb5
    go_wp2_with fail
    refine (kcompare_b _ _ _ _ _ _ _ HS45.out HS5.out).mono ?_
    rintro e w6 ⟨rfl, rfl⟩
    rw [hP.out, HX.out]
    go_wp2_with fail
    refine (knows4 _).mono ?_
    rintro e w7 ⟨rfl, hb7⟩
    go_wp2_with fail
    go_ret
    exact ⟨rfl, HB5.out.trans (hb7.mono HB5.out.size)⟩
end Go.Proofs.Ytaekndhchdpobaa.keyOrder
