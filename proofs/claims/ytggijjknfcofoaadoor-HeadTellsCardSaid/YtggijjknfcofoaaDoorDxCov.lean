
/-
  Layer 2, the document's answer: the walks of Cover and Right.
-/
import Derived.Test.YtggijjknfcofoaaDoorDxSum
import Derived.Test.YtggijjknfcofoaaDoorCxCov
import Derived.Deep.RegionHeldLaw
set_option linter.unusedVariables false
set_option linter.unusedSimpArgs false
namespace Go.Proofs.YtggijjknfcofoaaDoor.Crc
open Go.RowKit

theorem dg_step (n j : Nat) : ∃ d : UInt8, ((n / 2 ^ (8 * j) : Nat) : Int) % 256 = (d.toNat : Int) ∧ d = Cx.dg n j := ⟨_, by rw [Cx.dg_toNat]; simp, rfl⟩
theorem dg_next (n j : Nat) : ((n / 2 ^ (8 * j) : Nat) : Int) / 256 = ((n / 2 ^ (8 * (j + 1)) : Nat) : Int) := by
  rw [show 8 * (j + 1) = 8 * j + 8 by omega, Nat.pow_add, ← Nat.div_div_eq_div_mul]
  omega

theorem rcover_any (A : Option Addr) (l : List UInt8) (c : Nat) (w : World) (h : Rd w w.heap.size A (bvs l)) (hm : l.length ≤ 100000) :
    Calls Tryd.prog 44 #[.slice A l.length c] w fun e w' => ∃ v, e = .returned v ∧ w'.ownsRow w.heap.size 5 1 v (l.length + 4) (bvs (Cx.cover l)) ∧ Below w.heap.size w w' := by
  obtain ⟨i0, hi0, hz0, hz1, hz2⟩ := info_parts byte_info
  have Hh := Lib.hid h
  clear h
  go_enter Tryd.func44, Tryd.ntmps44
  go_wp2_with (at_builtin; (refine wpList_append_rd _ rfl _ _ 30 rfl w.heap.size 5 i0 (.int .u8 0) 1 1 Tryd.underlying30 hi0 hz0 hz1 hz2 rfl (by omega) (.slice none 0 0) 0 [] rfl (World.ownsRow_nil _ _ _ _) w.heap.size A l.length c (bvs l) rfl (by simp [bvs]) Hh.out (bvs_one l) (by unfold maxLen; omega) (by omega) (Nat.le_refl _) ?_); intro v1 w1 hown1 b1 _ _)
  rw [Nat.zero_add, List.nil_append] at hown1
  refine (rsum_any A l c w1 ((Hh.out.below b1 (Nat.le_refl _)).mono b1.size) hm).mono ?_
  rintro e w2 ⟨rfl, b2⟩
  have hown2 := own_below hown1 b2 (Nat.le_refl _)
  have hb2 := b1.trans (b2.mono b1.size)
  clear hown1 b1 b2
  generalize hs : Cx.sum l = s
  have Hs := Lib.hid hs
  have hs32 := s.isLt
  clear hs
  go_wp2_with fail
  go_loopg [3, 4, 5] 4 (fun k o y i wr => ∃ (j z : Nat), j + k = 4 ∧ i = .int .i64 j ∧ y = .int .u32 (z : Int) ∧ z = s.toNat / 2 ^ (8 * j) ∧ wr.ownsRow w.heap.size 5 1 o (l.length + j) (bvs (l ++ Cx.leL s.toNat j)) ∧ Below w.heap.size w wr)
  case atStart => exact ⟨0, s.toNat, by omega, rfl, rfl, by simp, by simpa [Cx.leL] using hown2, hb2⟩
  case round =>
    obtain ⟨j, z, hj, rfl, rfl, hz, hown, hb⟩ := hrel
    by_cases hlt : j < 4
    · obtain ⟨d, hd, hd'⟩ := dg_step s.toNat j
      have hnx := dg_next s.toNat j
      rw [← hz] at hd hnx
      have hz32 : z < 4294967296 := by rw [hz]; exact Nat.lt_of_le_of_lt (Nat.div_le_self _ _) hs32
      generalize hy2 : s.toNat / 2 ^ (8 * (j + 1)) = z2 at hnx
      have Hz2 := Lib.hid hy2
      have Hd := Lib.hid hd'
      have hsz := hb.size
      clear hy2 hd' hz
      have t1 : (j : Int) < 4 := by omega
      go_wp2_with (at_builtin; (refine wpList_append_1 _ rfl _ _ 30 rfl w.heap.size 5 i0 (.int .u8 0) 1 Tryd.underlying30 hi0 hz0 hz1 hz2 rfl u3 (l.length + j) (bvs (l ++ Cx.leL s.toNat j)) rfl (hown.alloc _) _ 1 (.int .u8 (d.toNat : Int)) rfl (cell_new1 _ _ _) rfl (by unfold maxLen; omega) (by omega) (by simp; omega) ?_); intro v2 w3 hown3 hbw3 _ _)
      go_roundg (gk - 1)
      case measure => omega
      case rel => exact ⟨j + 1, z2, by omega, by go_num, rfl, Hz2.out.symm, by rw [Cx.leL_succ, ← List.append_assoc, bvs_append, ← Hd.out]; exact hown3, (hb.alloc hb.size _).trans hbw3⟩
    · obtain rfl : j = 4 := by omega
      go_wp2_with fail
      go_ret
      refine ⟨_, rfl, ?_, hb⟩
      rw [Cx.cover, Hs.out]
      exact hown
theorem rcover_b (v : Value) (l : List UInt8) (B : Nat) (w : World) (h : Bs w B v l) (hB : B ≤ w.heap.size) (hm : l.length ≤ 100000) :
    Calls Tryd.prog 44 #[v] w fun e w' => ∃ (A : Option Addr) (c : Nat), e = .returned (.slice A (l.length + 4) c) ∧ (convert 30 9 (.slice A (l.length + 4) c)).run Tryd.prog w' = .ok (.string ⟨(Cx.cover l).toArray⟩) w' ∧ Below w.heap.size w w' := by
  obtain ⟨A, c, rfl, _, hr⟩ := h.mono hB
  refine (rcover_any A l c w hr hm).mono ?_
  rintro e w' ⟨v, rfl, hown, hb⟩
  obtain ⟨A', c', rfl, _⟩ := own_slice hown
  have c1 := convert_rd (P := Tryd.prog) (Rd.of_own hown) c' 30 5 9 Tryd.underlying30 Tryd.underlying5 Tryd.underlying9
  rw [Cx.cover_length] at c1
  exact ⟨A', c', rfl, c1, hb⟩

theorem rright_short (A : Option Addr) (n c : Nat) (w : World) (h : n < 4) :
    Calls Tryd.prog 47 #[.slice A n c] w fun e w' => e = .returned (.bool false) ∧ Below w.heap.size w w' := by
  have t1 : decide ((0 : Int) ≤ (n : Int) - 4) = false := by simp; omega
  have t2 : decide ((4 : Int) ≤ (n : Int)) = false := by simp; omega
  go_enter Tryd.func47, Tryd.ntmps47
  go_wp2_with fail
  go_quiet (fail)
  go_wp2_with fail
  go_ret
  exact ⟨rfl, below_drewN (Below.refl _ _) _⟩
set_option maxRecDepth 100000 in
theorem rright_long (A : Option Addr) (l : List UInt8) (c : Nat) (w : World) (h : Rd w w.heap.size A (bvs l)) (hc : l.length ≤ c) (hm : l.length ≤ 100000) (h4 : 4 ≤ l.length) :
    Calls Tryd.prog 47 #[.slice A l.length c] w fun e w' => e = .returned (.bool (Cx.right l)) ∧ Below w.heap.size w w' := by
  obtain ⟨n, hn⟩ : ∃ n, l.length = n + 4 := ⟨l.length - 4, by omega⟩
  have hc2 : ∀ w', Below w.drew.heap.size w.drew w' → (convert 30 9 (.slice A (n + 4) c)).run Tryd.prog w' = .ok (.string ⟨l.toArray⟩) w' := fun w' hb => by
    have := convert_rd (P := Tryd.prog) ((show Rd w.drew w.heap.size A (bvs l) from h).below hb (Nat.le_refl _)) c 30 5 9 Tryd.underlying30 Tryd.underlying5 Tryd.underlying9
    rw [hn] at this
    exact this
  have Hc2 := Lib.hid hc2
  have Hs := Lib.hid (show Bs w.drew w.heap.size (.slice A n c) (l.take n) from ⟨A, c, by rw [List.length_take, hn]; congr 1; omega, by rw [List.length_take]; omega, by rw [bvs_take]; exact h.take n⟩)
  have Hl := Lib.hid (show (l.take n).length = n by rw [List.length_take]; omega)
  have Hr := Lib.hid (show Cx.right l = (Cx.cover (l.take n) == l) by
    rw [Cx.right_iff, show l.length - 4 = n by omega]
    have : decide (4 ≤ l.length) = true := by simp; omega
    rw [this, Bool.true_and])
  rw [hn] at hc hm ⊢
  generalize l.take n = L at Hs Hl Hr
  clear hn h4 h hc2
  have e1 : (n : Int) ≤ (c : Int) := by omega
  have Hcc := Lib.hid (rcover_b _ L _ w.drew Hs.out (Nat.le_refl _) (by rw [Hl.out]; omega))
  rw [Hl.out] at Hcc
  have k0 := Hc2.out w.drew (Below.refl _ _)
  go_enter Tryd.func47, Tryd.ntmps47
  go_wp2_with fail
  go_region_held_law (fun w' => (convert 30 9 (.slice A (n + 4) c)).run Tryd.prog w' = .ok (.string ⟨l.toArray⟩) w')
    (first | exact k0 | exact Hc2.out _ b1 | go_keep)
    (first | (go_at_call 44; refine Hcc.out.mono ?_; rintro e w1 ⟨A1, c1, rfl, k1, b1⟩))
  go_wp2_with fail
  go_ret
  exact ⟨ret_bool Hr.out.symm, ((Below.refl _ _).drew).trans b1⟩
theorem rright_b (v : Value) (l : List UInt8) (B : Nat) (w : World) (h : Bs w B v l) (hB : B ≤ w.heap.size) (hm : l.length ≤ 100000) :
    Calls Tryd.prog 47 #[v] w fun e w' => e = .returned (.bool (Cx.right l)) ∧ Below w.heap.size w w' := by
  obtain ⟨A, c, rfl, hc, hr⟩ := h.mono hB
  rcases Nat.lt_or_ge l.length 4 with h4 | h4
  · have : Cx.right l = false := by
      unfold Cx.right
      have : decide (4 ≤ l.length) = false := by simp; omega
      rw [this, Bool.false_and]
    rw [this]
    exact rright_short A l.length c w h4
  · exact rright_long A l c w hr hc hm h4
end Go.Proofs.YtggijjknfcofoaaDoor.Crc
