/-
  The walk of the law CrcKnown: it returns true, and writes nothing that was there.
-/
import Derived.Test.YtcgcopkalcjmpaaDoorCxKnows
import Derived.OpenShut
import Derived.Deep.DeepCutAuto
import Derived.OneCell
set_option linter.unusedVariables false
set_option linter.unusedSimpArgs false
namespace Go.Proofs.YtcgcopkalcjmpaaDoor.crcKnown
open Go.RowKit
theorem make32 {i0 : TypeInfo} (hi0 : Tryd.prog.info? 5 = some i0) (hz0 : i0.zero = some (.int .u8 0)) (hz1 : i0.size = 1) (hz2 : i0.bytes = 1) (w : World) :
    (Instr.makeSlice 22 (.int .i64 32) (.int .i64 32)).run Tryd.prog w = .ok (.slice (some ⟨w.heap.size, 0, none⟩) 32 32) (w.alloc (.cells (bvs (List.replicate 32 0)).toArray 5)) := by
  have h := run_make (P := Tryd.prog) w 22 5 i0 (.int .u8 0) Tryd.underlying22 hi0 hz0 .i64 .i64 32 32 (by omega) (by omega) (by rw [hz2]; omega) (by omega)
  rw [h, hz1]
  have e : madeCells (Value.int .u8 0).cells ((32 : Int).toNat * 1) = (bvs (List.replicate 32 0)).toArray := by
    apply Array.toList_inj.1
    rw [show (Value.int .u8 0).cells = #[Value.int .u8 0] by rfl, toList_madeCells_one]
    simp [bvs, bv]
  rw [e]
  rfl
theorem make4 {i0 : TypeInfo} (hi0 : Tryd.prog.info? 5 = some i0) (hz0 : i0.zero = some (.int .u8 0)) (hz1 : i0.size = 1) (hz2 : i0.bytes = 1) (w : World) :
    (Instr.makeSlice 22 (.int .i64 4) (.int .i64 4)).run Tryd.prog w = .ok (.slice (some ⟨w.heap.size, 0, none⟩) 4 4) (w.alloc (.cells (bvs [0, 0, 0, 0]).toArray 5)) := by
  have h := run_make (P := Tryd.prog) w 22 5 i0 (.int .u8 0) Tryd.underlying22 hi0 hz0 .i64 .i64 4 4 (by omega) (by omega) (by rw [hz2]; omega) (by omega)
  rw [h, hz1]
  have e : madeCells (Value.int .u8 0).cells ((4 : Int).toNat * 1) = (bvs [0, 0, 0, 0]).toArray := by
    apply Array.toList_inj.1
    rw [show (Value.int .u8 0).cells = #[Value.int .u8 0] by rfl, toList_madeCells_one]
    rfl
  rw [e]
  rfl
/-- 32 bytes, the first j of them written -/
def fill (f : Nat → UInt8) (j : Nat) : List UInt8 := (List.range 32).map fun i => if i < j then f i else 0
theorem fill_length (f : Nat → UInt8) (j : Nat) : (fill f j).length = 32 := by simp [fill]
theorem fill_succ (f : Nat → UInt8) (j : Nat) : (fill f j).set j (f j) = fill f (j + 1) := by
  apply List.ext_getElem?
  intro i
  rcases Nat.lt_or_ge i 32 with h | h
  · by_cases e : i = j
    · subst e
      rw [List.getElem?_set_self (by simpa [fill] using h)]
      simp [fill, h]
    · rw [List.getElem?_set_ne (Ne.symm e)]
      simp only [fill, List.getElem?_map, List.getElem?_range h, Option.map_some]
      congr 1
      by_cases h1 : i < j
      · simp [h1, show i < j + 1 by omega]
      · simp [h1, show ¬ i < j + 1 by omega]
  · rw [List.getElem?_eq_none (by simp [fill]; omega), List.getElem?_eq_none (by simp [fill]; omega)]
theorem fill_zero (f : Nat → UInt8) : fill f 0 = List.replicate 32 0 := by
  simp [fill]
  rfl
def fU (i : Nat) : UInt8 := UInt8.ofNat i
def fD (i : Nat) : UInt8 := UInt8.ofNat (31 - i)
def fF (_ : Nat) : UInt8 := 255
set_option maxRecDepth 100000 in
set_option maxHeartbeats 4000000 in
theorem walk (w : World) (ht : Tab w) :
    Calls Tryd.prog 9 #[] w fun e w' => e = .returned (.bool true) ∧ Below w.heap.size w w' := by
  obtain ⟨i0, hi0, hz0, hz1, hz2⟩ := info_parts byte_info
  have hmk := make32 hi0 hz0 hz1 hz2
  generalize hZ : (bvs (List.replicate 32 0)).toArray = Z at hmk
  have HZ := Lib.hid hZ
  clear hZ
  have Ht := Lib.hid ht
  clear ht
  go_enter Tryd.func9, Tryd.ntmps9
  go_upto_region 1 with fail
  go_cut [1, 2, 3] (fun s1 s2 s3 wx => ∃ g1 g2 g3 : Nat, w.heap.size ≤ g1 ∧ w.heap.size ≤ g2 ∧ w.heap.size ≤ g3 ∧ g1 ≠ g2 ∧ g1 ≠ g3 ∧ g2 ≠ g3 ∧ s1 = .slice (some ⟨g1, 0, none⟩) 32 32 ∧ s2 = .slice (some ⟨g2, 0, none⟩) 32 32 ∧ s3 = .slice (some ⟨g3, 0, none⟩) 32 32 ∧
    wx.ownsRow w.heap.size 5 1 (.slice (some ⟨g1, 0, none⟩) 32 32) 32 Z.toList ∧ wx.ownsRow w.heap.size 5 1 (.slice (some ⟨g2, 0, none⟩) 32 32) 32 Z.toList ∧ wx.ownsRow w.heap.size 5 1 (.slice (some ⟨g3, 0, none⟩) 32 32) 32 Z.toList ∧ Below w.heap.size w wx)
  case first =>
    have hzs : Z.size = 32 * 1 := by rw [← HZ.out]; simp [bvs]
    have o1 := Lib.hid ((((World.ownsRow_lit (base := w.heap.size) (e := 5) (size := 1) w Z 32 (Nat.le_refl _) (by unfold maxLen; omega) hzs).alloc (.cells Z 5)).alloc (.cells Z 5)).drew)
    have o2 := Lib.hid (((World.ownsRow_lit (base := w.heap.size) (e := 5) (size := 1) (w.alloc (.cells Z 5)) Z 32 (by simp) (by unfold maxLen; omega) hzs).alloc (.cells Z 5)).drew)
    have o3 := Lib.hid ((World.ownsRow_lit (base := w.heap.size) (e := 5) (size := 1) ((w.alloc (.cells Z 5)).alloc (.cells Z 5)) Z 32 (by simp; omega) (by unfold maxLen; omega) hzs).drew)
    have bl : Below w.heap.size w (((w.alloc (.cells Z 5)).alloc (.cells Z 5)).alloc (.cells Z 5)).drew := ((((Below.refl _ _).alloc (Nat.le_refl _) _).alloc (by simp) _).alloc (by simp; omega) _).drew
    simp only [World.size_alloc] at o2 o3
    clear hzs
    go_region
    all_goals go_wp2_with fail
    all_goals go_meet
    · exact ⟨_, _, _, by omega, by omega, by omega, by omega, by omega, by omega, rfl, rfl, rfl, o1.out, o2.out, o3.out, bl⟩
    · exact ⟨_, _, _, by omega, by omega, by omega, by omega, by omega, by omega, rfl, rfl, rfl, o1.out, o3.out, o2.out, bl⟩
    · exact ⟨_, _, _, by omega, by omega, by omega, by omega, by omega, by omega, rfl, rfl, rfl, o2.out, o1.out, o3.out, bl⟩
    · exact ⟨_, _, _, by omega, by omega, by omega, by omega, by omega, by omega, rfl, rfl, rfl, o3.out, o1.out, o2.out, bl⟩
    · exact ⟨_, _, _, by omega, by omega, by omega, by omega, by omega, by omega, rfl, rfl, rfl, o2.out, o3.out, o1.out, bl⟩
    · exact ⟨_, _, _, by omega, by omega, by omega, by omega, by omega, by omega, rfl, rfl, rfl, o3.out, o2.out, o1.out, bl⟩
  case rest =>
    obtain ⟨g1, g2, g3, hg1, hg2, hg3, n12, n13, n23, rfl, rfl, rfl, o1, o2, o3, b1⟩ := hcut
    go_wp2_with fail
    go_loopg [4] 32 (fun k i wr => ∃ j : Nat, j + k = 32 ∧ i = .int .i64 j ∧ wr.ownsRow w.heap.size 5 1 (.slice (some ⟨g1, 0, none⟩) 32 32) 32 (bvs (fill fF j)) ∧ wr.ownsRow w.heap.size 5 1 (.slice (some ⟨g2, 0, none⟩) 32 32) 32 (bvs (fill fU j)) ∧ wr.ownsRow w.heap.size 5 1 (.slice (some ⟨g3, 0, none⟩) 32 32) 32 (bvs (fill fD j)) ∧ Below w.heap.size w wr)
    case atStart =>
      rw [← HZ.out] at o1 o2 o3
      exact ⟨0, by omega, rfl, by rw [fill_zero]; exact o1, by rw [fill_zero]; exact o2, by rw [fill_zero]; exact o3, b1⟩
    case round =>
      obtain ⟨j, hj, rfl, p1, p2, p3, hb⟩ := hrel
      by_cases hlt : j < 32
      · have f1 := p1.frozenAt j
        have f2 := p2.frozenAt j
        have f3 := p3.frozenAt j
        have c1 := p1.cellAt j (by omega)
        have c2 := p2.cellAt j (by omega)
        have c3 := p3.cellAt j (by omega)
        rw [bvs_get _ j (by rw [fill_length]; exact hlt)] at c1 c2 c3
        unfold bv at c1 c2 c3
        generalize (fill fF j)[j]'(by rw [fill_length]; exact hlt) = e1 at c1
        generalize (fill fU j)[j]'(by rw [fill_length]; exact hlt) = e2 at c2
        generalize (fill fD j)[j]'(by rw [fill_length]; exact hlt) = e3 at c3
        have P1 := Lib.hid p1
        have P2 := Lib.hid p2
        have P3 := Lib.hid p3
        clear p1 p2 p3
        have t1 : (j : Int) < 32 := by omega
        have t2 : (0 : Int) ≤ 31 - (j : Int) := by omega
        go_wp2_with fail
        go_roundg (gk - 1)
        case measure => omega
        case rel =>
          have q1 := (P1.out.stored j (bv (fF j))).1
          have q2 := ((ownsRow_setCell_other P2.out (a := ⟨g1, j, none⟩) (by simp [Value.ownBlock]; omega) (.int .u8 255)).stored j (bv (fU j))).1
          have q3 := ((ownsRow_setCell_other (ownsRow_setCell_other P3.out (a := ⟨g1, j, none⟩) (by simp [Value.ownBlock]; omega) (.int .u8 255)) (a := ⟨g2, j, none⟩) (by simp [Value.ownBlock]; omega) (.int .u8 (j : Int))).stored j (bv (fD j))).1
          rw [← bvs_set, fill_succ] at q1 q2 q3
          have eU : bv (fU j) = .int .u8 (j : Int) := (bv_lit j (by omega)).symm
          have eD : bv (fD j) = .int .u8 (31 - (j : Int)) := by
            have := bv_lit (31 - j) (by omega)
            rw [show fD j = UInt8.ofNat (31 - j) by rfl, ← this]
            congr 1
            omega
          rw [eU] at q2
          rw [eD] at q3
          refine ⟨j + 1, by omega, by go_num, ?_, ?_, q3, ((hb.setCell hg1 _).setCell hg2 _).setCell hg3 _⟩
          · exact ownsRow_setCell_other (ownsRow_setCell_other q1 (a := ⟨g2, j, none⟩) (by simp [Value.ownBlock]; omega) _) (a := ⟨g3, j, none⟩) (by simp [Value.ownBlock]; omega) _
          · exact ownsRow_setCell_other q2 (a := ⟨g3, j, none⟩) (by simp [Value.ownBlock]; omega) _
      · obtain rfl : j = 32 := by omega
        have S1 := Lib.hid (Bs.of_own p1)
        have S2 := Lib.hid (Bs.of_own p2)
        have S3 := Lib.hid (Bs.of_own p3)
        have Htr := Lib.hid (Ht.out.on hb)
        clear p1 p2 p3 o1 o2 o3 b1 n12 n13 n23 hg1 hg2 hg3 HZ hmk
        go_wp2_with fail
        refine (power_arg _ _ (by omega)).mono ?_
        rintro e w2 ⟨rfl, rfl⟩
        go_wp2_with fail
        refine (join_arg _ _ _ _ (by omega)).mono ?_
        rintro e w2 ⟨rfl, rfl⟩
        go_wp2_with fail
        refine (join_ok 7#32 0#32 0 _ (by omega) (by omega)).mono ?_
        rintro e w2 ⟨rfl, b2⟩
        rw [show ((Cx.join 7#32 0#32 (0 : Int).toNat).toNat : Int) = 7 by decide +kernel]
        have T1 := Lib.hid (S1.out.on b2)
        have T2 := Lib.hid (S2.out.on b2)
        have T3 := Lib.hid (S3.out.on b2)
        have Ht2 := Lib.hid (Htr.out.on b2)
        have hb2 := hb.trans (b2.mono hb.size)
        clear S1 S2 S3 Htr b2 hb
        go_wp2_with fail
        refine (sum_b _ _ _ _ T1.out Ht2.out (by rw [fill_length]; omega)).mono ?_
        rintro e w3 ⟨rfl, rfl⟩
        rw [show ((Cx.sum (fill fF 32)).toNat : Int) = 1655221059 by decide +kernel]
        go_wp2_with fail
        refine (sum_b _ _ _ _ T2.out Ht2.out (by rw [fill_length]; omega)).mono ?_
        rintro e w3 ⟨rfl, rfl⟩
        rw [show ((Cx.sum (fill fU 32)).toNat : Int) = 1188919630 by decide +kernel]
        go_wp2_with fail
        refine (sum_b _ _ _ _ T3.out Ht2.out (by rw [fill_length]; omega)).mono ?_
        rintro e w3 ⟨rfl, rfl⟩
        rw [show ((Cx.sum (fill fD 32)).toNat : Int) = 289397596 by decide +kernel]
        clear T1 T2 T3
        go_wp2_with fail
        refine (more_b _ [] w2.heap.size 9#32 _ (by exact Bs.none_) Ht2.out (by simp)).mono ?_
        rintro e w3 ⟨rfl, rfl⟩
        rw [show ((Cx.more 9#32 []).toNat : Int) = 9 by decide +kernel]
        go_wp2_with fail
        refine (right_b _ [] w2.heap.size _ (by exact Bs.none_) Ht2.out (by simp)).mono ?_
        rintro e w3 ⟨rfl, rfl⟩
        rw [show Cx.right [] = false by decide +kernel]
        have hmk4 := make4 hi0 hz0 hz1 hz2
        have kc := fun (w : World) (C : Array Value) (n c : Nat) => Lib.run_convert_bytes_const (P := Tryd.prog) w 22 5 C n c Tryd.underlying22 Tryd.underlying5
        go_wp2_with fail
        have b3 : Below w2.heap.size w2 (w2.alloc (Obj.cells (bvs [0, 0, 0, 0]).toArray 5)) := (Below.refl _ _).alloc (Nat.le_refl _) _
        refine (right_b _ [0, 0, 0, 0] (w2.heap.size + 1) _ (by exact Bs.new w2 [0, 0, 0, 0] 5) (Ht2.out.on b3) (by simp)).mono ?_
        rintro e w3 ⟨rfl, hw⟩
        rw [show Cx.right [0, 0, 0, 0] = true by decide +kernel]
        rw [hw] at b3
        have hb3 := hb2.trans (b3.mono hb2.size)
        have Ht3 := Lib.hid (Ht2.out.on b3)
        clear hw b3 hb2 Ht2 hmk4
        go_wp2_with fail
        have b4 : Below w3.heap.size w3 (w3.alloc (Obj.cells #[Value.int .u8 0, Value.int .u8 0, Value.int .u8 0] 5)) := (Below.refl _ _).alloc (Nat.le_refl _) _
        refine (right_b _ [0, 0, 0] (w3.heap.size + 1) _ (by exact Bs.new w3 [0, 0, 0] 5) (Ht3.out.on b4) (by simp)).mono ?_
        rintro e w4 ⟨rfl, hw⟩
        rw [show Cx.right [0, 0, 0] = false by decide +kernel]
        rw [hw] at b4
        have hb4 := hb3.trans (b4.mono hb3.size)
        have Ht4 := Lib.hid (Ht3.out.on b4)
        clear hw b4 hb3 Ht3
        go_wp2_with fail
        have b5 : Below w4.heap.size w4 (w4.alloc (Obj.cells #[Value.int .u8 49, Value.int .u8 50, Value.int .u8 51, Value.int .u8 52, Value.int .u8 53, Value.int .u8 54, Value.int .u8 55, Value.int .u8 56, Value.int .u8 57] 5 (9, 10))) := (Below.refl _ _).alloc (Nat.le_refl _) _
        refine (cover_b _ [49, 50, 51, 52, 53, 54, 55, 56, 57] _ (by exact (Bs.newM w4 [49, 50, 51, 52, 53, 54, 55, 56, 57] 5 (9, 10)).mono (by simp)) (Ht4.out.on b5) (by simp)).mono ?_
        rintro e w6 ⟨v6, rfl, hown6, b6⟩
        have b6' := b5.trans (b6.mono b5.size)
        have hb6 := hb4.trans (b6'.mono hb4.size)
        have Ht6 := Lib.hid (Ht4.out.on b6')
        rw [show Cx.cover [49, 50, 51, 52, 53, 54, 55, 56, 57] = [49, 50, 51, 52, 53, 54, 55, 56, 57, 131, 146, 6, 227] by decide +kernel] at hown6
        obtain ⟨A6, c6, rfl, _⟩ := own_slice hown6
        have c1 : (convert 22 9 (.slice A6 13 c6)).run Tryd.prog w6 = .ok (.string ⟨#[49, 50, 51, 52, 53, 54, 55, 56, 57, 131, 146, 6, 227]⟩) w6 := convert_rd (P := Tryd.prog) (Rd.of_own hown6) c6 22 5 9 Tryd.underlying22 Tryd.underlying5 Tryd.underlying9
        clear hown6 b6 b6' b5 hb4 Ht4 kc
        go_wp2_with fail
        refine (times_any 0x40000000#32 1#32 _).mono ?_
        rintro e w7 ⟨rfl, rfl⟩
        rw [show ((Cx.mul 0x40000000#32 1#32).toNat : Int) = 2197175160 by decide +kernel]
        go_wp2_with fail
        refine (knows_any _ Ht6.out).mono ?_
        rintro e w8 ⟨rfl, b8⟩
        go_wp2_with fail
        go_ret
        exact ⟨rfl, hb6.trans (b8.mono hb6.size)⟩
end Go.Proofs.YtcgcopkalcjmpaaDoor.crcKnown
