
/-
  Layer 4: the order of rows of bytes, plainly; and the law's own closure, which puts bytes ahead of a row.
-/
import Derived.Test.YtaekndhchdpobaaKyKnows
set_option linter.unusedVariables false
set_option linter.unusedSimpArgs false
namespace Go.Proofs.Ytaekndhchdpobaa.Ky
open Go.Lib (compareBytes)

theorem cmp_range : ∀ a b : List UInt8, -1 ≤ compareBytes a b ∧ compareBytes a b ≤ 1
  | [], [] => by simp [compareBytes]
  | [], _ :: _ => by simp [compareBytes]
  | _ :: _, [] => by simp [compareBytes]
  | x :: a, y :: b => by
    simp only [compareBytes]
    split
    · omega
    · split
      · omega
      · exact cmp_range a b
theorem cmp_cons (x y : UInt8) (a b : List UInt8) : compareBytes (x :: a) (y :: b) = if x.toNat < y.toNat then -1 else if y.toNat < x.toNat then 1 else compareBytes a b := by
  simp only [compareBytes, UInt8.lt_iff_toNat_lt]
theorem cmp_neg : ∀ a b : List UInt8, compareBytes b a = - compareBytes a b
  | [], [] => by simp [compareBytes]
  | [], _ :: _ => by simp [compareBytes]
  | _ :: _, [] => by simp [compareBytes]
  | x :: a, y :: b => by
    have ih := cmp_neg a b
    rw [cmp_cons, cmp_cons]
    split <;> split <;> (try split) <;> omega
theorem cmp_zero : ∀ a b : List UInt8, compareBytes a b = 0 ↔ a = b
  | [], [] => by simp [compareBytes]
  | [], _ :: _ => by simp [compareBytes]
  | _ :: _, [] => by simp [compareBytes]
  | x :: a, y :: b => by
    have ih := cmp_zero a b
    have h3 := @UInt8.toNat_inj x y
    rw [cmp_cons, List.cons.injEq, ← ih, ← h3]
    split
    · omega
    · split <;> omega
theorem cmp_trans : ∀ a b c : List UInt8, compareBytes a b ≤ 0 → compareBytes b c ≤ 0 → compareBytes a c ≤ 0
  | [], _, [], _, _ => by simp [compareBytes]
  | [], _, _ :: _, _, _ => by simp [compareBytes]
  | _ :: _, [], _, h, _ => by simp [compareBytes] at h
  | _ :: _, _ :: _, [], _, h => by simp [compareBytes] at h
  | x :: a, y :: b, z :: c, h, k => by
    have ih := cmp_trans a b c
    rw [cmp_cons] at h k ⊢
    split
    · omega
    · split
      · split at h
        · split at k
          · omega
          · split at k <;> omega
        · split at h
          · omega
          · split at k
            · omega
            · split at k <;> omega
      · split at h
        · split at k
          · omega
          · split at k <;> omega
        · split at h
          · omega
          · split at k
            · omega
            · split at k
              · omega
              · exact ih h k
theorem cmp_pre : ∀ p a b : List UInt8, compareBytes (p ++ a) (p ++ b) = compareBytes a b
  | [], _, _ => rfl
  | x :: p, a, b => by
    rw [List.cons_append, List.cons_append, cmp_cons, if_neg (by omega), if_neg (by omega), cmp_pre p a b]
end Go.Proofs.Ytaekndhchdpobaa.Ky

namespace Go.Proofs.Ytaekndhchdpobaa
open Go.RowKit
set_option maxRecDepth 100000 in
set_option maxHeartbeats 4000000 in
theorem with_any (v : Value) (a l : List UInt8) (A : Option Addr) (c P : Nat) (w : World) (h : Bs w w.heap.size v l) (ha : Rd w w.heap.size A (bvs a)) (hac : a.length ≤ c) (hP : w.cell? ⟨P, 0, none⟩ = some (.slice A a.length c)) (h1 : a.length ≤ 80) (h2 : l.length ≤ 80) :
    Calls Try.prog 32 #[v, .pointer (some ⟨P, 0, none⟩)] w fun e w' => ∃ r, e = .returned r ∧ Bs w' w'.heap.size r (a ++ l) ∧ Below w.heap.size w w' := by
  obtain ⟨i0, hi0, hz0, hz1, hz2⟩ := info_parts byte_info
  obtain ⟨A', c', rfl, hc', hr'⟩ := h
  have HA := Lib.hid ha
  have HL := Lib.hid hr'
  clear ha hr'
  go_enter Try.func32, Try.ntmps32
  go_wp2_with (at_builtin; first | ((refine wpList_append_rd _ rfl _ _ 53 rfl w.heap.size 5 i0 (.int .u8 0) 1 1 Try.underlying53 hi0 hz0 hz1 hz2 rfl (by omega) (.slice none 0 0) 0 [] rfl (World.ownsRow_nil _ _ _ _) w.heap.size A a.length c (bvs a) rfl (by rw [bvs_length]; omega) HA.out (bvs_one _) (by unfold maxLen; omega) (by omega) (Nat.le_refl _) ?_); intro v2 w2 hown2 hb2 hgr2 hob2; have hs2 := hb2.size; have HL2 := Lib.hid (HL.out.below hb2 (Nat.le_refl _)); have HB2 := Lib.hid hb2; have HO2 := Lib.hid hown2; clear hb2 hgr2 hown2 hob2) | ((refine wpList_append_rd _ rfl _ _ 53 rfl w.heap.size 5 i0 (.int .u8 0) 1 1 Try.underlying53 hi0 hz0 hz1 hz2 rfl (by omega) v2 (0 + a.length) ([] ++ bvs a) rfl HO2.out w.heap.size A' l.length c' (bvs l) rfl (by rw [bvs_length]; omega) HL2.out (bvs_one _) (by unfold maxLen; omega) (by omega) (by omega) ?_); intro v3 w3 hown3 hb3 hgr3 hob3))
  go_ret
  refine ⟨_, rfl, ?_, HB2.out.trans hb3⟩
  rw [List.nil_append, ← bvs_append] at hown3
  exact Bs.of_own (n := 0 + a.length + l.length) (by simpa using hown3)
end Go.Proofs.Ytaekndhchdpobaa
