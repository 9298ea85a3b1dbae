/-
  Layer 2: the chapter's rows ('knows').
-/
import Derived.Test.YtcgcopkalcjmpaaDoorCxCov
import Derived.Lib.SlBytesConst
set_option linter.unusedVariables false
set_option linter.unusedSimpArgs false
namespace Go.Proofs.YtcgcopkalcjmpaaDoor
open Go.RowKit

/-- a slice literal whose block bears a mark -/
theorem Bs.newM (w : World) (l : List UInt8) (e : TypeId) (fr : Nat × Nat) : Bs (w.alloc (.cells (bvs l).toArray e fr)) (w.heap.size + 1) (.slice (some ⟨w.heap.size, 0, none⟩) l.length l.length) l := by
  refine ⟨_, _, rfl, Nat.le_refl _, fun _ => ⟨w.heap.size, 0, rfl, by omega, fun j u hu => ?_⟩⟩
  rw [Nat.zero_add, cell_of_row (w.alloc (.cells (bvs l).toArray e fr)) w.heap.size j _ e fr (heap_alloc_new w _)]
  simpa using hu
theorem bs_zeros {w : World} {v : Value} {base n : Nat} {e : TypeId} (h : w.ownsRow base e 1 v n (List.replicate n (.int .u8 0))) : Bs w w.heap.size v (List.replicate n 0) := by
  have e1 : bvs (List.replicate n (0 : UInt8)) = List.replicate n (.int .u8 0) := by simp [bvs, bv]
  rw [← e1] at h
  exact Bs.of_own h

theorem made_zeros {w : World} {v : Value} {base n : Nat} {e : TypeId} (h : w.ownsRow base e 1 v n (madeCells (Value.int .u8 0).cells (n * 1)).toList) : w.ownsRow base e 1 v n (List.replicate n (.int .u8 0)) := by
  rw [Nat.mul_one, show (Value.int .u8 0).cells = #[Value.int .u8 0] by rfl, toList_madeCells_one] at h
  exact h

theorem knows_any (w : World) (ht : Tab w) : Calls Tryd.prog 17 #[] w fun e w' => e = .returned (.bool true) ∧ Below w.heap.size w w' := by
  obtain ⟨i0, hi0, hz0, hz1, hz2⟩ := info_parts byte_info
  have Ht := Lib.hid ht
  clear ht
  have kc := fun (w : World) (C : Array Value) (n c : Nat) => Lib.run_convert_bytes_const (P := Tryd.prog) w 22 5 C n c Tryd.underlying22 Tryd.underlying5
  go_enter Tryd.func17, Tryd.ntmps17
  go_wp2_with fail
  refine (power_ok _ _ (by omega) (by omega)).mono ?_
  rintro e w1 ⟨rfl, b1⟩
  rw [show ((Cx.xp (8 * (0 : Int).toNat)).toNat : Int) = 2147483648 by decide +kernel]
  go_wp2_with fail
  refine (power_ok _ _ (by omega) (by omega)).mono ?_
  rintro e w2 ⟨rfl, b2⟩
  rw [show ((Cx.xp (8 * (1 : Int).toNat)).toNat : Int) = 8388608 by decide +kernel]
  have hb2 := b1.trans (b2.mono b1.size)
  clear b1 b2
  go_wp2_with fail
  have Ht2 := Lib.hid (Ht.out.on hb2)
  have b3 : Below w2.heap.size w2 (w2.alloc (Obj.cells #[Value.int .u8 49, Value.int .u8 50, Value.int .u8 51, Value.int .u8 52, Value.int .u8 53, Value.int .u8 54, Value.int .u8 55, Value.int .u8 56, Value.int .u8 57] 5 (9, 10))) := (Below.refl _ _).alloc (Nat.le_refl _) _
  refine (sum_b _ [49, 50, 51, 52, 53, 54, 55, 56, 57] (w2.heap.size + 1) _ (by exact Bs.newM w2 [49, 50, 51, 52, 53, 54, 55, 56, 57] 5 (9, 10)) (Ht2.out.on b3) (by simp)).mono ?_
  rintro e w3 ⟨rfl, hw⟩
  rw [show ((Cx.sum [49, 50, 51, 52, 53, 54, 55, 56, 57]).toNat : Int) = 3808858755 by decide +kernel]
  rw [hw] at b3
  have hb3 := hb2.trans (b3.mono hb2.size)
  have Ht3 := Lib.hid (Ht2.out.on b3)
  clear hw b3 hb2 Ht Ht2
  go_wp2_with fail
  refine (sum_b _ [] w3.heap.size _ (by exact Bs.none_) Ht3.out (by simp)).mono ?_
  rintro e w4 ⟨rfl, rfl⟩
  rw [show ((Cx.sum []).toNat : Int) = 0 by decide +kernel]
  obtain ⟨w4, hrun, hown, hgr⟩ := run_make_full (P := Tryd.prog) w3 w3.heap.size 22 5 i0 (.int .u8 0) 1 Tryd.underlying22 hi0 hz0 hz1 .i64 .i64 32 (by rw [hz2]; omega) (by unfold maxLen; omega) (Nat.le_refl _)
  have b4 : Below w3.heap.size w3 w4 := (Below.refl _ _).grown hgr (Nat.le_refl _) (by simp)
  have Hs4 := Lib.hid (bs_zeros (made_zeros hown))
  have Ht4 := Lib.hid (Ht3.out.on b4)
  have hb4 := hb3.trans (b4.mono hb3.size)
  clear hown hgr b4 hb3 Ht3
  rw [show (((32 : Nat) : Int)) = 32 by rfl] at hrun
  go_wp2_with fail
  refine (sum_b _ _ w4.heap.size _ Hs4.out Ht4.out (by simp)).mono ?_
  rintro e w5 ⟨rfl, rfl⟩
  rw [show ((Cx.sum (List.replicate 32 0)).toNat : Int) = 2324772522 by decide +kernel]
  go_wp2_with fail
  go_ret
  exact ⟨rfl, hb4⟩
end Go.Proofs.YtcgcopkalcjmpaaDoor
