/-
  The walk of the law CrcXors: it returns true, and writes nothing that was there.
-/
import Derived.Test.YtcgcopkalcjmpaaDoorCxKnows
import Derived.OpenShut
set_option linter.unusedVariables false
set_option linter.unusedSimpArgs false
namespace Go.Proofs.YtcgcopkalcjmpaaDoor.crcXors
open Go.RowKit
theorem b8_xor (x y : UInt8) : ∃ z : UInt8, bits .xor .u8 (x.toNat : Int) (y.toNat : Int) = (z.toNat : Int) ∧ z = x ^^^ y :=
  ⟨_, by rw [u8_xor_nat _ _ (UInt8.toNat_lt x) (UInt8.toNat_lt y), UInt8.toNat_xor], rfl⟩
theorem b32_xor (x y : BitVec 32) : ∃ z : BitVec 32, bits .xor .u32 (x.toNat : Int) (y.toNat : Int) = (z.toNat : Int) ∧ z = x ^^^ y := ⟨_, b_xor x y, rfl⟩
theorem xor3_succ (a b c : List UInt8) (j : Nat) (ha : j < a.length) (hb : j < b.length) (hc : j < c.length) :
    Cx.xor3 (a.take (j + 1)) (b.take (j + 1)) (c.take (j + 1)) = Cx.xor3 (a.take j) (b.take j) (c.take j) ++ [a[j] ^^^ b[j] ^^^ c[j]] := by
  unfold Cx.xor3
  rw [List.take_succ_eq_append_getElem ha, List.take_succ_eq_append_getElem hb, List.take_succ_eq_append_getElem hc, List.zip_append (by simp; omega), List.zipWith_append (by simp; omega)]
  rfl
theorem run_min4 {P : Program} (ts : Array TypeId) (t : TypeId) (x y z u : Int) (w : World) :
    (Builtin.min_ ts t #[.int .i64 x, .int .i64 y, .int .i64 z, .int .i64 u]).run P w = .ok (.int .i64 (min (min (min x y) z) u)) w := by
  have e : ∀ a b : Int, (if b < a then b else a) = min a b := fun a b => by rw [Int.min_def]; split <;> split <;> omega
  simp [Builtin.min_, Builtin.min2, e]
theorem still_of {P : Program} {f : FuncId} {args : Array Value} {w : World} {v : Value} (h : Calls P f args w fun e w' => e = .returned v ∧ w = w') : Calls P f args w fun e w' => e = .returned v ∧ w' = w :=
  h.mono fun _ _ ⟨he, hw⟩ => ⟨he, hw.symm⟩
set_option maxRecDepth 100000 in
set_option maxHeartbeats 4000000 in
theorem walk (v0 : Value) (z0 : List Int) (v1 : Value) (z1 : List Int) (v2 : Value) (z2 : List Int) (w : World) (w0 : Ints w w.heap.size .u8 v0 z0) (g0 : ∀ n ∈ z0, (Lit.int .u8 n).wf = true) (s0 : z0.length * 1 ≤ 140737488351232) (w1 : Ints w w.heap.size .u8 v1 z1) (g1 : ∀ n ∈ z1, (Lit.int .u8 n).wf = true) (s1 : z1.length * 1 ≤ 140737488351232) (w2 : Ints w w.heap.size .u8 v2 z2) (g2 : ∀ n ∈ z2, (Lit.int .u8 n).wf = true) (s2 : z2.length * 1 ≤ 140737488351232) (ht : Tab w) :
    Calls Tryd.prog 7 #[v0, v1, v2] w fun e w' => e = .returned (.bool true) ∧ Below w.heap.size w w' := by
  obtain ⟨i0, hi0, hz0, hz1, hz2⟩ := info_parts byte_info
  have ha := bs_of_ints w0 (fun z hz => bounds_u8 (g0 z hz))
  have hla : (z0.map fun z => UInt8.ofNat z.toNat).length ≤ 140737488351232 := by rw [List.length_map]; omega
  have hb := bs_of_ints w1 (fun z hz => bounds_u8 (g1 z hz))
  have hlb : (z1.map fun z => UInt8.ofNat z.toNat).length ≤ 140737488351232 := by rw [List.length_map]; omega
  have hc := bs_of_ints w2 (fun z hz => bounds_u8 (g2 z hz))
  have hlc : (z2.map fun z => UInt8.ofNat z.toNat).length ≤ 140737488351232 := by rw [List.length_map]; omega
  generalize z0.map (fun z => UInt8.ofNat z.toNat) = a at ha hla
  generalize z1.map (fun z => UInt8.ofNat z.toNat) = b at hb hlb
  generalize z2.map (fun z => UInt8.ofNat z.toNat) = c at hc hlc
  clear w0 g0 s0 w1 g1 s1 w2 g2 s2
  obtain ⟨A, ca, rfl, hca, hra⟩ := ha
  obtain ⟨B, cb, rfl, hcb, hrb⟩ := hb
  obtain ⟨C, cc, rfl, hcc, hrc⟩ := hc
  have Ha := Lib.hid hra
  have Hb := Lib.hid hrb
  have Hc := Lib.hid hrc
  have Ht := Lib.hid ht
  clear hra hrb hrc ht
  obtain ⟨n, hn⟩ : ∃ n : Nat, min (min (min a.length b.length) c.length) 500 = n := ⟨_, rfl⟩
  have hna : n ≤ a.length := by omega
  have hnb : n ≤ b.length := by omega
  have hnc : n ≤ c.length := by omega
  have hn5 : n ≤ 500 := by omega
  have hm4 := run_min4 (P := Tryd.prog)
  have hmin : min (a.length : Int) (min (b.length : Int) (min (c.length : Int) 500)) = (n : Int) := by omega
  have Hn := Lib.hid hn
  clear hn
  go_enter Tryd.func7, Tryd.ntmps7
  go_wp2_with fail
  clear hmin hm4
  go_loopg [8, 9] n (fun g o i wr => ∃ j : Nat, j + g = n ∧ i = .int .i64 j ∧ wr.ownsRow w.heap.size 5 1 o j (bvs (Cx.xor3 (a.take j) (b.take j) (c.take j))) ∧ Below w.heap.size w wr)
  case atStart => exact ⟨0, by omega, rfl, World.ownsRow_nil _ _ _ _, Below.refl _ _⟩
  case round =>
    obtain ⟨j, hj, rfl, hown, hb⟩ := hrel
    by_cases hlt : j < n
    · obtain ⟨ba, oa, rfl, hba, hcella⟩ := Ha.out (by intro e; have := congrArg List.length e; simp [bvs] at this; subst this; simp at hna; omega)
      obtain ⟨bb, ob, rfl, hbb, hcellb⟩ := Hb.out (by intro e; have := congrArg List.length e; simp [bvs] at this; subst this; simp at hnb; omega)
      obtain ⟨bc, oc, rfl, hbc, hcellc⟩ := Hc.out (by intro e; have := congrArg List.length e; simp [bvs] at this; subst this; simp at hnc; omega)
      have ka := (hb.cell (p := ⟨ba, oa + j, none⟩) hba).trans (hcella j _ (bvs_get a j (by omega)))
      have kb := (hb.cell (p := ⟨bb, ob + j, none⟩) hbb).trans (hcellb j _ (bvs_get b j (by omega)))
      have kc := (hb.cell (p := ⟨bc, oc + j, none⟩) hbc).trans (hcellc j _ (bvs_get c j (by omega)))
      unfold bv at ka kb kc
      have Hx := Lib.hid (xor3_succ a b c j (by omega) (by omega) (by omega))
      generalize a[j] = xa at ka Hx
      generalize b[j] = xb at kb Hx
      generalize c[j] = xc at kc Hx
      obtain ⟨x1, h1, h1'⟩ := b8_xor xa xb
      obtain ⟨x2, h2, h2'⟩ := b8_xor x1 xc
      have H2 := Lib.hid (h2'.trans (by rw [h1']))
      clear h1' h2' hcella hcellb hcellc
      go_wp2_with fail
      have ag : u8.ownBlock ≠ some ba := fun e => by have := (hown.lt _ e).1; omega
      have bg : u8.ownBlock ≠ some bb := fun e => by have := (hown.lt _ e).1; omega
      have cg : u8.ownBlock ≠ some bc := fun e => by have := (hown.lt _ e).1; omega
      have hsz := hb.size
      have p1 : (0 : Int) ≤ (j : Int) := Int.natCast_nonneg _
      have p2 : (j : Int) < (a.length : Int) := by omega
      have p3 : (j : Int) < (b.length : Int) := by omega
      have p4 : (j : Int) < (c.length : Int) := by omega
      go_region_held3 (fun w' => w'.cell? ⟨ba, oa + j, none⟩ = some (.int .u8 (xa.toNat : Int)) ∧ w'.cell? ⟨bb, ob + j, none⟩ = some (.int .u8 (xb.toNat : Int)) ∧ w'.cell? ⟨bc, oc + j, none⟩ = some (.int .u8 (xc.toNat : Int)))
        (first
          | go_keep
          | (go_split_ands
             refine ⟨?_, ?_, ?_⟩
             · (rw [hgrow.cell_far _ (by simp; omega) (Ne.symm ag)]; assumption)
             · (rw [hgrow.cell_far _ (by simp; omega) (Ne.symm bg)]; assumption)
             · (rw [hgrow.cell_far _ (by simp; omega) (Ne.symm cg)]; assumption)))
        ((refine step_append_lies _ (by rfl) _ _ _ (by rfl) w.heap.size 5 i0 _ 1 1 Tryd.underlying22 hi0 hz0 hz1 hz2 rfl (by omega) u8 j _ (by rfl) ((hown.alloc _).drew)
            ⟨wr.heap.size, 0, none⟩ 1 1 [.int .u8 (x2.toNat : Int)] (by rfl) (by rfl) (World.news_of_block (cs := #[.int .u8 (x2.toNat : Int)]) (t := 5) (fr := (0, 0)) (heap_alloc_new wr _)) (by simp [Value.oneCell'])
            (by omega) (by unfold maxLen; omega) (by omega) (by simp; omega) (wr.heap.size + 1) (by simp) ?_; intro gg cap w1 hown1 hgrow hat hlt))
      have hb2 : Below w.heap.size w w1 := ((hb.alloc hb.size _).drew).grown hgrow (by simp; omega) (fun g hg => (hown.lt g hg).1)
      clear hgrow hat hlt hb hown
      go_wp2_with fail
      go_roundg (gk - 1)
      case measure => omega
      case rel => exact ⟨j + 1, by omega, by go_num, by rw [Hx.out, bvs_append, ← H2.out]; exact hown1, hb2⟩
    · obtain rfl : j = n := by omega
      have hsX : Bs wr wr.heap.size u8 (Cx.xor3 (a.take j) (b.take j) (c.take j)) := Bs.of_own hown
      have hlX : (Cx.xor3 (a.take j) (b.take j) (c.take j)).length = j := by simp [Cx.xor3, List.length_zipWith, List.length_zip, List.length_take]; omega
      have Hsum := Lib.hid (Cx.sum_xor3 j (a.take j) (b.take j) (c.take j) (by rw [List.length_take]; omega) (by rw [List.length_take]; omega) (by rw [List.length_take]; omega))
      generalize Cx.xor3 (a.take j) (b.take j) (c.take j) = X at *
      have HA := Lib.hid (show Bs wr w.heap.size (.slice A j ca) (a.take j) from ⟨A, ca, by rw [List.length_take]; congr 1; omega, by rw [List.length_take]; omega, by rw [bvs_take]; exact (Ha.out.below hb (Nat.le_refl _)).take j⟩)
      have HB := Lib.hid (show Bs wr w.heap.size (.slice B j cb) (b.take j) from ⟨B, cb, by rw [List.length_take]; congr 1; omega, by rw [List.length_take]; omega, by rw [bvs_take]; exact (Hb.out.below hb (Nat.le_refl _)).take j⟩)
      have HC := Lib.hid (show Bs wr w.heap.size (.slice C j cc) (c.take j) from ⟨C, cc, by rw [List.length_take]; congr 1; omega, by rw [List.length_take]; omega, by rw [bvs_take]; exact (Hc.out.below hb (Nat.le_refl _)).take j⟩)
      have la : (a.take j).length ≤ 9223372036854775807 := by rw [List.length_take]; omega
      have lb : (b.take j).length ≤ 9223372036854775807 := by rw [List.length_take]; omega
      have lc : (c.take j).length ≤ 9223372036854775807 := by rw [List.length_take]; omega
      have Ht1 := Lib.hid (Ht.out.on hb)
      have HX := Lib.hid hsX
      have LX := Lib.hid hlX
      clear hsX hlX hown Ha Hb Hc Ht
      have hja : (j : Int) ≤ (ca : Int) := by omega
      have hjb : (j : Int) ≤ (cb : Int) := by omega
      have hjc : (j : Int) ≤ (cc : Int) := by omega
      go_wp2_with fail
      refine wp_region_still_tail 18 (by kernel_rfl) (by kernel_rfl) ?_
      simp only [List.take_succ_cons, List.take_zero, List.drop_succ_cons, List.drop_zero]
      obtain ⟨y1, k1, k1'⟩ := b32_xor (Cx.sum (a.take j)) (Cx.sum (b.take j))
      obtain ⟨y2, k2, k2'⟩ := b32_xor y1 (Cx.sum (c.take j))
      have K2 := Lib.hid (k2'.trans (by rw [k1', ← Hsum.out]))
      clear k1' k2'
      have C1 := Lib.hid (still_of (sum_b u8 X wr.heap.size wr.drew HX.out Ht1.out (by rw [LX.out]; omega)))
      have C2 := Lib.hid (still_of (sum_b _ _ _ wr.drew HA.out Ht1.out la))
      have C3 := Lib.hid (still_of (sum_b _ _ _ wr.drew HB.out Ht1.out lb))
      have C4 := Lib.hid (still_of (sum_b _ _ _ wr.drew HC.out Ht1.out lc))
      generalize Cx.sum (a.take j) = sa at *
      generalize Cx.sum (b.take j) = sb at *
      generalize Cx.sum (c.take j) = sc at *
      generalize Cx.sum X = sX at *
      obtain rfl := K2.out
      repeat still_step
      still_call C1.out
      repeat still_step
      still_call C2.out
      repeat still_step
      still_call C3.out
      repeat still_step
      still_call C4.out
      repeat still_step
      refine wpStill_nil ?_
      go_wp2_with fail
      refine (knows_any _ (show Tab wr.drew from Ht1.out)).mono ?_
      rintro e w5 ⟨rfl, b5⟩
      go_wp2_with fail
      go_ret
      exact ⟨rfl, hb.drew.trans (b5.mono hb.drew.size)⟩
end Go.Proofs.YtcgcopkalcjmpaaDoor.crcXors
