
/-
  Layer 3: the document's examples ('wakes').
-/
import Derived.Test.YtaekndhchdpobaaLxMem
set_option linter.unusedVariables false
set_option linter.unusedSimpArgs false
namespace Go.Proofs.Ytaekndhchdpobaa
open Go.RowKit

set_option maxRecDepth 100000 in
set_option maxHeartbeats 2000000 in
theorem wakes3_any (w : World) : Calls Try.prog 23 #[] w fun e w' => e = .returned (.bool true) ∧ Below w.heap.size w w' := by
  go_enter Try.func23, Try.ntmps23
  go_wp2_with fail
  refine (pack_any 3 16 _ (by omega) (by omega) (by omega) (by omega)).mono ?_
  rintro e w1 ⟨rfl, b1⟩
  rw [show Lx.pkN 3 16 = 12884901904 by decide, show Lx.pkE 3 16 = 0 by decide]
  go_wp2_with fail
  refine (unpack_any 4294967296 _ (by omega) (by omega)).mono ?_
  rintro e w2 ⟨rfl, hb⟩
  rw [show Lx.unS 4294967296 = 0 by decide, show Lx.unO 4294967296 = 0 by decide, show Lx.unE 4294967296 = 1 by decide]
  have b2 := bstep b1 hb
  clear b1 hb
  unfold lv
  go_wp2_with fail
  have b2' := balloc b2 (.cells #[.int .u32 0, .int .u32 0] 31)
  clear b2
  refine (lput_any _ [] 0 0 _ Bs.none_ (by omega) (by omega) (by omega) (by omega) (by simp)).mono ?_
  rintro e w3 ⟨r3, rfl, hs3, hb⟩
  rw [show Lx.pkE 0 0 = 0 by decide]
  rw [show Lx.putR [] 0 0 = [0] by decide] at hs3
  have b3 := bstep b2' hb
  clear b2' hb
  have Hs3 := Lib.hid hs3
  clear hs3
  go_wp2_with fail
  refine (lput_any _ [] 3 16 _ Bs.none_ (by omega) (by omega) (by omega) (by omega) (by simp)).mono ?_
  rintro e w4 ⟨r4, rfl, hs4, hb⟩
  rw [show Lx.pkE 3 16 = 0 by decide]
  rw [show Lx.putR [] 3 16 = [3, 0] by decide] at hs4
  have b4 := bstep b3 hb
  have Hs3' := Lib.hid (Hs3.out.on hb)
  clear b3 hb Hs3
  have Hs4 := Lib.hid hs4
  clear hs4
  go_wp2_with fail
  refine (lput_any _ [] 300 144 _ Bs.none_ (by omega) (by omega) (by omega) (by omega) (by simp)).mono ?_
  rintro e w5 ⟨r5, rfl, hs5, hb⟩
  rw [show Lx.pkE 300 144 = 0 by decide]
  rw [show Lx.putR [] 300 144 = [129, 44, 128, 128] by decide] at hs5
  have b5 := bstep b4 hb
  have Hs3 := Lib.hid (Hs3'.out.on hb)
  have Hs4' := Lib.hid (Hs4.out.on hb)
  clear b4 hb Hs3' Hs4
  have Hs5 := Lib.hid hs5
  clear hs5
  go_wp2_with fail
  refine (equal_b _ _ [0] [0] _ (w5.heap.size + 1) _ (by exact (Hs3.out.alloc (Nat.le_refl _) _)) (by exact Bs.new w5 [0] 5)).mono ?_
  rintro e w6 ⟨rfl, hw⟩
  rw [show ([0] == ([0] : List UInt8)) = true by decide]
  have b6 : Below w.heap.size w w6 := by rw [← hw]; exact balloc b5 _
  have Hs4 : Hid (Bs w6 w6.heap.size r4 [3, 0]) := by
    rw [← hw]
    exact Lib.hid (Hs4'.out.on (bnew _ _))
  have Hs5' : Hid (Bs w6 w6.heap.size r5 [129, 44, 128, 128]) := by
    rw [← hw]
    exact Lib.hid (Hs5.out.on (bnew _ _))
  clear Hs3 Hs4' Hs5 hw b5
  go_wp2_with fail
  refine (equal_b _ _ [3, 0] [3, 0] _ (w6.heap.size + 1) _ (by exact (Hs4.out.alloc (Nat.le_refl _) _)) (by exact Bs.new w6 [3, 0] 5)).mono ?_
  rintro e w7 ⟨rfl, hw⟩
  rw [show ([3, 0] == ([3, 0] : List UInt8)) = true by decide]
  have b7 : Below w.heap.size w w7 := by rw [← hw]; exact balloc b6 _
  have Hs5 : Hid (Bs w7 w7.heap.size r5 [129, 44, 128, 128]) := by
    rw [← hw]
    exact Lib.hid (Hs5'.out.on (bnew _ _))
  clear Hs4 Hs5' hw b6
  go_wp2_with fail
  refine (equal_b _ _ [129, 44, 128, 128] [129, 44, 128, 128] _ (w7.heap.size + 1) _ (by exact (Hs5.out.alloc (Nat.le_refl _) _)) (by exact Bs.new w7 [129, 44, 128, 128] 5)).mono ?_
  rintro e w8 ⟨rfl, hw⟩
  rw [show ([129, 44, 128, 128] == ([129, 44, 128, 128] : List UInt8)) = true by decide]
  have b8 : Below w.heap.size w w8 := by rw [← hw]; exact balloc b7 _
  clear hw b7
  go_wp2_with fail
  go_ret
  exact ⟨rfl, b8⟩
end Go.Proofs.Ytaekndhchdpobaa
