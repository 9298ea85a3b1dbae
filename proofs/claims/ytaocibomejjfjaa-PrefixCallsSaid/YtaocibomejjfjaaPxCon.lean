/-
  Layer 1: the contracts over slices that are values, and of 'wakes'.
-/
import Derived.Test.YtaocibomejjfjaaPxGet
import Derived.Test.YtaocibomejjfjaaPxFix
set_option linter.unusedVariables false
set_option linter.unusedSimpArgs false
namespace Go.Proofs.Ytaocibomejjfjaa
open Go.RowKit

theorem equal_b (v v' : Value) (l l' : List UInt8) (B B' : Nat) (w : World) (h : Bs w B v l) (h' : Bs w B' v' l') :
    Calls Try.prog 18 #[v, v'] w fun e w' => e = .returned (.bool (l == l')) ∧ w = w' := by
  obtain ⟨A, c, rfl, _, hr⟩ := h
  obtain ⟨A', c', rfl, _, hr'⟩ := h'
  exact equal_any A A' l l' c c' B B' w hr hr'

theorem get_b (v : Value) (l : List UInt8) (B : Nat) (w : World) (h : Bs w B v l) (hl : l.length ≤ 9223372036854775807) :
    Calls Try.prog 10 #[v] w fun e w' => e = .returned (getV l) ∧ Below w.heap.size w w' := by
  obtain ⟨A, c, rfl, _, hr⟩ := h
  refine (get_any A l c B w hr hl).mono ?_
  rintro e w1 ⟨he, m, rfl⟩
  exact ⟨he, below_drewN (Below.refl _ _) m⟩

theorem put_b (v : Value) (l : List UInt8) (n : Int) (w : World) (h : Bs w w.heap.size v l) (h0 : 0 ≤ n) (h1 : n < 18446744073709551616) (hm : l.length + 9 ≤ 140737488355328) :
    Calls Try.prog 19 #[v, .int .u64 n] w fun e w' => ∃ r, e = .returned r ∧ w'.ownsRow w.heap.size 5 1 r (l.length + Px.sizeN n.toNat) (bvs (l ++ Px.formL n.toNat)) ∧ Below w.heap.size w w' := by
  obtain ⟨A, c, rfl, _, hr⟩ := h
  exact put_any A l c n w hr h0 h1 hm

theorem fixed_b (v : Value) (l : List UInt8) (n b : Int) (w : World) (h : Bs w w.heap.size v l) (h0 : 0 ≤ n) (h1 : n < 18446744073709551616) (hb : 1 ≤ b) (hb2 : b ≤ 8) (hf : n / 2 ^ (8 * b).toNat = 0) (hm : l.length + 8 ≤ 140737488355328) :
    Calls Try.prog 12 #[v, .int .u64 n, .int .i64 b] w fun e w' => ∃ r, e = .returned (.tuple #[r, .int .i64 0]) ∧ w'.ownsRow w.heap.size 5 1 r (l.length + b.toNat) (bvs (l ++ Px.leL n.toNat b.toNat)) ∧ Below w.heap.size w w' := by
  obtain ⟨A, c, rfl, _, hr⟩ := h
  exact fixed_ok A l c n b w hr h0 h1 hb hb2 hf hm

theorem read_b (v : Value) (l : List UInt8) (B : Nat) (b : Int) (w : World) (h : Bs w B v l) (hb : 1 ≤ b) (hb2 : b ≤ 8) (hl : b.toNat ≤ l.length) (hm : l.length ≤ 9223372036854775807) :
    Calls Try.prog 14 #[v, .int .i64 b] w fun e w' => e = .returned (.tuple #[.int .u64 (Px.rdN l b.toNat : Nat), .int .i64 0]) ∧ w = w' := by
  obtain ⟨A, c, rfl, _, hr⟩ := h
  exact read_ok A l c B b w hr hb hb2 hl hm

/-- the document's examples -/
theorem wakes_any (w : World) : Calls Try.prog 27 #[] w fun e w' => e = .returned (.bool true) ∧ Below w.heap.size w w' := by
  go_enter Try.func27, Try.ntmps27
  go_wp2_with fail
  have b0 : Below w.heap.size w (w.alloc (Obj.cells #[Value.int .u8 128, Value.int .u8 127] 5)) := (Below.refl _ _).alloc (Nat.le_refl _) _
  refine (get_b _ [128, 127] (w.heap.size + 1) _ (by exact Bs.new w [128, 127] 5) (by simp)).mono ?_
  rintro e w1 ⟨rfl, hb⟩
  rw [show getV [128, 127] = .tuple #[.int .u64 0, .int .i64 0, .int .i64 5] by rfl]
  have b1 := b0.trans (hb.mono b0.size)
  clear b0 hb
  go_wp2_with fail
  have b0 := b1.alloc b1.size (Obj.cells #[Value.int .u8 192, Value.int .u8 64] 5)
  refine (get_b _ [192, 64] (w1.heap.size + 1) _ (by exact Bs.new w1 [192, 64] 5) (by simp)).mono ?_
  rintro e w2 ⟨rfl, hb⟩
  rw [show getV [192, 64] = .tuple #[.int .u64 0, .int .i64 0, .int .i64 4] by rfl]
  have b2 := b0.trans (hb.mono b0.size)
  clear b0 hb b1
  go_wp2_with fail
  refine (fixed_b _ [] _ _ w2 (by exact Bs.none_) (by omega) (by omega) (by omega) (by omega) (by decide) (by simp)).mono ?_
  rintro e w3 ⟨r3, rfl, hown3, hb⟩
  have b3 := b2.trans (hb.mono b2.size)
  clear hb b2
  have hs3 : Bs w3 w3.heap.size r3 [52, 18] := Bs.of_own hown3
  clear hown3
  have Hs3 := Lib.hid hs3
  clear hs3
  go_wp2_with fail
  refine (put_b _ [] _ w3 (by exact Bs.none_) (by omega) (by omega) (by simp)).mono ?_
  rintro e w4 ⟨r4, rfl, hown, hb⟩
  have b4 := b3.trans (hb.mono b3.size)
  have hs : Bs w4 w4.heap.size r4 [128, 128] := Bs.of_own hown
  have Hs3' := Lib.hid (Hs3.out.on hb)
  clear Hs3 hown hb b3
  have Hs := Lib.hid hs
  clear hs
  go_wp2_with fail
  refine (equal_b _ _ [128, 128] [128, 128] _ (w4.heap.size + 1) _ (by exact (Hs.out.alloc (Nat.le_refl _) _)) (by exact Bs.new w4 [128, 128] 5)).mono ?_
  rintro e w5 ⟨rfl, hw⟩
  rw [show ([128, 128] == ([128, 128] : List UInt8)) = true by decide]
  have b5 : Below w.heap.size w w5 := by rw [← hw]; exact b4.alloc b4.size _
  have Hs3 : Hid (Bs w5 w5.heap.size r3 [52, 18]) := by
    rw [← hw]
    exact Lib.hid (Hs3'.out.on ((Below.refl _ _).alloc (Nat.le_refl _) _))
  clear hw Hs3' Hs b4
  go_wp2_with fail
  refine (put_b _ [] _ w5 (by exact Bs.none_) (by omega) (by omega) (by simp)).mono ?_
  rintro e w6 ⟨r6, rfl, hown, hb⟩
  have b6 := b5.trans (hb.mono b5.size)
  have hs : Bs w6 w6.heap.size r6 [192, 64, 0] := Bs.of_own hown
  have Hs3' := Lib.hid (Hs3.out.on hb)
  clear Hs3 hown hb b5
  have Hs := Lib.hid hs
  clear hs
  go_wp2_with fail
  refine (equal_b _ _ [192, 64, 0] [192, 64, 0] _ (w6.heap.size + 1) _ (by exact (Hs.out.alloc (Nat.le_refl _) _)) (by exact Bs.new w6 [192, 64, 0] 5)).mono ?_
  rintro e w7 ⟨rfl, hw⟩
  rw [show ([192, 64, 0] == ([192, 64, 0] : List UInt8)) = true by decide]
  have b7 : Below w.heap.size w w7 := by rw [← hw]; exact b6.alloc b6.size _
  have Hs3 : Hid (Bs w7 w7.heap.size r3 [52, 18]) := by
    rw [← hw]
    exact Lib.hid (Hs3'.out.on ((Below.refl _ _).alloc (Nat.le_refl _) _))
  clear hw Hs3' Hs b6
  go_wp2_with fail
  refine (put_b _ [] _ w7 (by exact Bs.none_) (by omega) (by omega) (by simp)).mono ?_
  rintro e w8 ⟨r8, rfl, hown, hb⟩
  have b8 := b7.trans (hb.mono b7.size)
  have hs : Bs w8 w8.heap.size r8 [255, 1, 0, 0, 0, 0, 0, 0, 0] := Bs.of_own hown
  have Hs3' := Lib.hid (Hs3.out.on hb)
  clear Hs3 hown hb b7
  have Hs := Lib.hid hs
  clear hs
  go_wp2_with fail
  refine (equal_b _ _ [255, 1, 0, 0, 0, 0, 0, 0, 0] [255, 1, 0, 0, 0, 0, 0, 0, 0] _ (w8.heap.size + 1) _ (by exact (Hs.out.alloc (Nat.le_refl _) _)) (by exact Bs.new w8 [255, 1, 0, 0, 0, 0, 0, 0, 0] 5)).mono ?_
  rintro e w9 ⟨rfl, hw⟩
  rw [show ([255, 1, 0, 0, 0, 0, 0, 0, 0] == ([255, 1, 0, 0, 0, 0, 0, 0, 0] : List UInt8)) = true by decide]
  have b9 : Below w.heap.size w w9 := by rw [← hw]; exact b8.alloc b8.size _
  have Hs3 : Hid (Bs w9 w9.heap.size r3 [52, 18]) := by
    rw [← hw]
    exact Lib.hid (Hs3'.out.on ((Below.refl _ _).alloc (Nat.le_refl _) _))
  clear hw Hs3' Hs b8
  go_wp2_with fail
  refine (fold_any _ _ (by omega) (by omega)).mono ?_
  rintro e w10 ⟨rfl, rfl⟩
  rw [show foldI (-1) = 1 by rfl]
  go_wp2_with fail
  refine (fold_any _ _ (by omega) (by omega)).mono ?_
  rintro e w10 ⟨rfl, rfl⟩
  rw [show foldI 1 = 2 by rfl]
  go_wp2_with fail
  refine (equal_b _ _ [52, 18] [52, 18] _ (w9.heap.size + 1) _ (by exact (Hs3.out.alloc (Nat.le_refl _) _)) (by exact Bs.new w9 [52, 18] 5)).mono ?_
  rintro e w10 ⟨rfl, hw⟩
  rw [show ([52, 18] == ([52, 18] : List UInt8)) = true by decide]
  have b10 : Below w.heap.size w w10 := by rw [← hw]; exact b9.alloc b9.size _
  clear hw
  go_wp2_with fail
  go_ret
  exact ⟨rfl, b10⟩
end Go.Proofs.Ytaocibomejjfjaa
