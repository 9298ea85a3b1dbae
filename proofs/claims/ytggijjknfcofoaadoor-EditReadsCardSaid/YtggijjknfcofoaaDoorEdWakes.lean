
/-
  Layer 9: the laws' own wakes (the document's examples).
-/
import Derived.Test.YtggijjknfcofoaaDoorEdFew
set_option linter.unusedVariables false
set_option linter.unusedSimpArgs false
namespace Go.Proofs.YtggijjknfcofoaaDoor
open Go.RowKit

theorem Ed.fit0 (k : Int) (nm : ByteArray) (q i : Nat) (hk0 : -9223372036854775808 ≤ k) (hk : k < 9223372036854775808) (hn : nm.size ≤ 9223372036854775807) (hq : q < 18446744073709551616) (hi : i < 4294967296) : Ed.Fit ⟨k, nm, q, i, []⟩ :=
  ⟨hk0, hk, hn, hq, hi, by simp, fun s hs => by cases hs⟩
theorem Ed.fit1 (k : Int) (nm : ByteArray) (q i : Nat) (s : Ed.Sl) (hk0 : -9223372036854775808 ≤ k) (hk : k < 9223372036854775808) (hn : nm.size ≤ 9223372036854775807) (hq : q < 18446744073709551616) (hi : i < 4294967296) (hs : Ed.FitS s) : Ed.Fit ⟨k, nm, q, i, [s]⟩ :=
  ⟨hk0, hk, hn, hq, hi, by simp, fun t ht => by rw [List.mem_singleton] at ht; subst ht; exact hs⟩
set_option maxRecDepth 100000 in
set_option maxHeartbeats 8000000 in
/-- the document's examples -/
theorem wakes9 (w : World) (ht : ETab w) : Calls Tryd.prog 18 #[] w fun e w' => e = .returned (.bool true) ∧ Below w.heap.size w w' := by
  go_enter Tryd.func18, Tryd.ntmps18
  go_wp2_with fail
  refine (eput_yes _ ⟨1, ⟨#[]⟩, 5, 0, []⟩ w ⟨.slice none 0 0, rfl, Sls.none_⟩ (Ed.fit0 _ _ _ _ (by decide) (by decide) (by decide) (by decide) (by decide)) ht (by decide)).mono ?_
  rintro e w1 ⟨⟨r1, rfl, k1⟩, b1⟩
  have R1 := Lib.hid (show Bs w1 w1.heap.size r1 [1, 5] from k1)
  have T1 := Lib.hid (ht.on b1)
  have B1 := Lib.hid b1
  clear k1 b1 ht
  go_wp2_with fail
  refine (eput_yes _ ⟨2, ⟨#[97]⟩, 300, 0, []⟩ w1 ⟨.slice none 0 0, rfl, Sls.none_⟩ (Ed.fit0 _ _ _ _ (by decide) (by decide) (by decide) (by decide) (by decide)) T1.out (by decide)).mono ?_
  rintro e w2 ⟨⟨r2, rfl, k2⟩, b2⟩
  have R2 := Lib.hid (show Bs w2 w2.heap.size r2 [2, 129, 44, 1, 97] from k2)
  have R1 := Lib.hid (R1.out.on b2)
  have T2 := Lib.hid (T1.out.on b2)
  have B2 := Lib.hid (bstep B1.out b2)
  clear k2 b2
  go_wp2_with fail
  have b3 := bnew w2 (.cells (slVs [⟨7, 100, 2, 3, 9⟩]).toArray 28)
  have S3 := Sls.one w2 ⟨7, 100, 2, 3, 9⟩ 28
  refine (eput_yes _ ⟨5, ⟨#[]⟩, 0, 0, [⟨7, 100, 2, 3, 9⟩]⟩ _ ⟨_, rfl, S3.mono (by simp)⟩ (Ed.fit1 _ _ _ _ _ (by decide) (by decide) (by decide) (by decide) (by decide) ⟨by decide, by decide, by decide, by decide, by decide⟩) (T2.out.on b3) (by decide)).mono ?_
  rintro e w3 ⟨⟨r3, rfl, k3⟩, b4⟩
  have R3 := Lib.hid (show Bs w3 w3.heap.size r3 [5, 7, 100, 2, 3, 6] from k3)
  have R1 := Lib.hid ((R1.out.on b3).on b4)
  have R2 := Lib.hid ((R2.out.on b3).on b4)
  have T3 := Lib.hid ((T2.out.on b3).on b4)
  have B3 := Lib.hid (bstep (bstep B2.out b3) b4)
  clear k3 b3 b4 S3
  go_wp2_with fail
  have b3 := bnew w3 (.cells (bvs [6, 9, 0]).toArray 5)
  refine (eget_b _ [6, 9, 0] _ ((Bs.new w3 [6, 9, 0] 5).mono (by simp)) (by decide) (T3.out.on b3)).mono ?_
  rw [show Ed.getR [6, 9, 0] = (⟨6, ⟨#[]⟩, 9, 0, []⟩, 0) from rfl]
  rintro e w4 ⟨⟨ev, rfl, sv, rfl, hsv⟩, b4⟩
  obtain ⟨A4, c4, rfl, _, _⟩ := hsv
  have R1 := Lib.hid ((R1.out.on b3).on b4)
  have R2 := Lib.hid ((R2.out.on b3).on b4)
  have R3 := Lib.hid ((R3.out.on b3).on b4)
  have B4 := Lib.hid (bstep (bstep B3.out b3) b4)
  clear b3 b4
  unfold edV
  go_wp2_with fail
  have b5 := balloc (bnew w4 (.cells #[.int .i64 6, .string ⟨#[]⟩, .int .u64 9, .int .u32 0, .slice A4 0 c4] 26)) (.cells (bvs [1, 5]).toArray 5)
  have HX := Lib.hid ((Bx.new w4 #[.int .i64 6, .string ⟨#[]⟩, .int .u64 9, .int .u32 0, .slice A4 0 c4] 26 _ rfl).alloc (.cells (bvs [1, 5]).toArray 5))
  have L5 := Bs.new (w4.alloc (.cells #[.int .i64 6, .string ⟨#[]⟩, .int .u64 9, .int .u32 0, .slice A4 0 c4] 26)) [1, 5] 5
  rw [show (w4.alloc (.cells #[.int .i64 6, .string ⟨#[]⟩, .int .u64 9, .int .u32 0, .slice A4 0 c4] 26)).heap.size = w4.heap.size + 1 by simp] at L5
  refine (equal_b _ _ [1, 5] [1, 5] _ (w4.heap.size + 1 + 1) _ (R1.out.on b5) L5).mono ?_
  rw [show ([1, 5] == ([1, 5] : List UInt8)) = true by decide]
  rintro e w5 ⟨rfl, hw⟩
  have B5 : Hid (Below w.heap.size w w5) := Lib.hid (by rw [← hw]; exact bstep B4.out b5)
  have R2 : Hid (Bs w5 w5.heap.size r2 [2, 129, 44, 1, 97]) := Lib.hid (by rw [← hw]; exact R2.out.on b5)
  have R3 : Hid (Bs w5 w5.heap.size r3 [5, 7, 100, 2, 3, 6]) := Lib.hid (by rw [← hw]; exact R3.out.on b5)
  have HX : Hid (Bx w5 w4.heap.size [.int .i64 6, .string ⟨#[]⟩, .int .u64 9, .int .u32 0, .slice A4 0 c4]) := Lib.hid (by rw [← hw]; exact HX.out)
  clear hw b5 L5
  go_wp2_with fail
  have b6 := bnew w5 (.cells (bvs [2, 129, 44, 1, 97]).toArray 5)
  refine (equal_b _ _ [2, 129, 44, 1, 97] [2, 129, 44, 1, 97] _ (w5.heap.size + 1) _ (R2.out.on b6) (Bs.new w5 [2, 129, 44, 1, 97] 5)).mono ?_
  rw [show ([2, 129, 44, 1, 97] == ([2, 129, 44, 1, 97] : List UInt8)) = true by decide]
  rintro e w6 ⟨rfl, hw⟩
  have B6 : Hid (Below w.heap.size w w6) := Lib.hid (by rw [← hw]; exact bstep B5.out b6)
  have R3 : Hid (Bs w6 w6.heap.size r3 [5, 7, 100, 2, 3, 6]) := Lib.hid (by rw [← hw]; exact R3.out.on b6)
  have HX : Hid (Bx w6 w4.heap.size [.int .i64 6, .string ⟨#[]⟩, .int .u64 9, .int .u32 0, .slice A4 0 c4]) := Lib.hid (by rw [← hw]; exact HX.out.on b6)
  clear hw b6
  go_wp2_with fail
  have b7 := bnew w6 (.cells (bvs [5, 7, 100, 2, 3, 6]).toArray 5)
  refine (equal_b _ _ [5, 7, 100, 2, 3, 6] [5, 7, 100, 2, 3, 6] _ (w6.heap.size + 1) _ (R3.out.on b7) (Bs.new w6 [5, 7, 100, 2, 3, 6] 5)).mono ?_
  rw [show ([5, 7, 100, 2, 3, 6] == ([5, 7, 100, 2, 3, 6] : List UInt8)) = true by decide]
  rintro e w7 ⟨rfl, hw⟩
  have B7 : Hid (Below w.heap.size w w7) := Lib.hid (by rw [← hw]; exact bstep B6.out b7)
  have hX : Bx w7 w4.heap.size [.int .i64 6, .string ⟨#[]⟩, .int .u64 9, .int .u32 0, .slice A4 0 c4] := by rw [← hw]; exact HX.out.on b7
  obtain ⟨x0, x1, x2, x3, x4⟩ := hX.at5
  clear hw b7 hX
  go_wp2_with fail
  go_ret
  exact ⟨rfl, B7.out⟩
end Go.Proofs.YtggijjknfcofoaaDoor
