
/-
  Layer 2: the walks of Cover and Right, and of the chapter's rows ('knows').
-/
import Derived.Test.YtmiljicohnfejaaDoorCxMem
import Derived.Test.YtmiljicohnfejaaDoorCxRun
import Derived.OwnWalk
set_option linter.unusedVariables false
set_option linter.unusedSimpArgs false
namespace Go.Proofs.YtmiljicohnfejaaDoor.Crc
open Go.RowKit

theorem dg_val (s : BitVec 32) (j : Nat) : ∃ d : UInt8, (s.toNat : Int) / 2 ^ (8 * j) % 256 = (d.toNat : Int) ∧ d = Cx.dg s.toNat j :=
  ⟨_, by rw [Cx.dg_toNat]; simp, rfl⟩

theorem cover_any (A : Option Addr) (l : List UInt8) (c : Nat) (w : World) (h : Rd w w.heap.size A (bvs l)) (ht : Tab w) (hm : l.length + 4 ≤ 140737488355328) :
    Calls Tryd.prog 33 #[.slice A l.length c] w fun e w' => ∃ v, e = .returned v ∧ w'.ownsRow w.heap.size 5 1 v (l.length + 4) (bvs (Cx.cover l)) ∧ Below w.heap.size w w' := by
  obtain ⟨i0, hi0, hz0, hz1, hz2⟩ := info_parts byte_info
  have Hh := Lib.hid h
  have Ht := Lib.hid ht
  clear h ht
  go_enter Tryd.func33, Tryd.ntmps33
  go_wp2_with (first
    | (at_make
       refine wpList_make_own _ rfl _ _ 23 rfl w.heap.size 5 i0 (.int .u8 0) 1 Tryd.underlying23 hi0 hz0 hz1 .i64 .i64 _ (l.length + 4) rfl rfl (by omega) (by rw [hz2]; omega) (by unfold maxLen; omega) (Nat.le_refl _) ?_
       intro w0 hown0 hgrow0)
    | (at_builtin
       refine wpList_append_rd _ rfl _ _ 23 rfl w.heap.size 5 i0 (.int .u8 0) 1 1 Tryd.underlying23 hi0 hz0 hz1 hz2 rfl (by omega) (Value.slice (some { block := w.heap.size, off := 0 }) 0 (l.length + 4)) 0 [] rfl hown0 w.heap.size A l.length c (bvs l) rfl (by simp [bvs]) (Hh.out.grown hgrow0 (Nat.le_refl _) (by simp)) (bvs_one l) (by unfold maxLen; omega) (by omega) hgrow0.size ?_
       intro v1 w1 hown1 hbw1 _ _))
  have hb0 : Below w.heap.size w w1 := ((Below.refl _ _).grown hgrow0 (Nat.le_refl _) (by simp)).trans hbw1
  rw [Nat.zero_add, List.nil_append] at hown1
  refine (sum_any A l c w.heap.size w1 (Hh.out.below hb0 (Nat.le_refl _)) (Ht.out.on hb0) (by omega)).mono ?_
  rintro e w2 ⟨rfl, rfl⟩
  generalize hs : Cx.sum l = s
  have Hs := Lib.hid hs
  clear hs hbw1 hgrow0 hown0
  go_wp2_with fail
  go_loopg [3, 15] 4 (fun k o i wr => ∃ j : Nat, j + k = 4 ∧ i = .int .i64 j ∧ wr.ownsRow w.heap.size 5 1 o (l.length + j) (bvs (l ++ Cx.leL s.toNat j)) ∧ Below w.heap.size w wr)
  case atStart => exact ⟨0, by omega, rfl, by simpa [Cx.leL] using hown1, hb0⟩
  case round =>
    obtain ⟨j, hj, rfl, hown2, hb2⟩ := hrel
    by_cases hlt : j < 4
    · obtain ⟨d, hd, hd'⟩ := dg_val s j
      have Hd := Lib.hid hd'
      clear hd'
      go_wp2_with (at_builtin; (refine wpList_append_1 _ rfl _ _ 23 rfl w.heap.size 5 i0 (.int .u8 0) 1 Tryd.underlying23 hi0 hz0 hz1 hz2 rfl u3 (l.length + j) (bvs (l ++ Cx.leL s.toNat j)) rfl (hown2.alloc _) _ 1 (.int .u8 (d.toNat : Int)) rfl (by first | exact cell_new1 _ _ _ | (rw [hd]; exact cell_new1 _ _ _)) rfl (by unfold maxLen; omega) (by omega) (by have := hb2.size; simp; omega) ?_); intro v2 w2 hown3 hbw2 _ _)
      go_roundg (gk - 1)
      case measure => omega
      case rel => exact ⟨j + 1, by omega, by go_num, by rw [Cx.leL_succ, ← List.append_assoc, bvs_append, ← Hd.out]; exact hown3, (hb2.alloc hb2.size _).trans hbw2⟩
    · obtain rfl : j = 4 := by omega
      go_wp2_with fail
      go_ret
      refine ⟨_, rfl, ?_, hb2⟩
      rw [Cx.cover, Hs.out]
      exact hown2

theorem ret_bool {a b : Bool} (h : a = b) : Ending.returned (.bool a) = .returned (.bool b) := by rw [h]
theorem int_beq (a b : Nat) : ((a : Int) == (b : Int)) = (a == b) := by
  rw [Bool.eq_iff_iff]
  simp
  omega
theorem or_rd (t : List UInt8) (j : Nat) (hj : j < 4) : ∃ z : Nat, bits .or .u32 (Cx.rdN t j : Int) (((t.getD j 0).toNat : Int) * 2 ^ (8 * j) % 4294967296) = (z : Int) ∧ z = Cx.rdN t (j + 1) := by
  have h1 := Cx.rdN_lt t j
  have h2 := Cx.rdN_lt t (j + 1)
  have h4 : 2 ^ (8 * (j + 1)) ≤ 2 ^ 32 := Nat.pow_le_pow_right (by omega) (by omega)
  simp only [Cx.rdN] at h2
  have e : ((t.getD j 0).toNat : Int) * 2 ^ (8 * j) % 4294967296 = (((t.getD j 0).toNat * 2 ^ (8 * j) : Nat) : Int) := by
    rw [show (((t.getD j 0).toNat : Int) * 2 ^ (8 * j)) = (((t.getD j 0).toNat * 2 ^ (8 * j) : Nat) : Int) by simp]
    omega
  refine ⟨_, ?_, rfl⟩
  rw [e, u32_or_nat _ _ (by omega) (by omega), Nat.or_comm, nat_join (8 * j) _ _ (Nat.mul_mod_left _ _) h1, Nat.add_comm]
  rfl

theorem right_short (A : Option Addr) (n c : Nat) (w : World) (h : n < 4) :
    Calls Tryd.prog 44 #[.slice A n c] w fun e w' => e = .returned (.bool false) ∧ w = w' := by
  go_enter Tryd.func44, Tryd.ntmps44
  go_wp2_with fail
  go_ret
  exact ⟨rfl, rfl⟩
theorem right_long (A : Option Addr) (l : List UInt8) (c B : Nat) (w : World) (h : Rd w B A (bvs l)) (hc : l.length ≤ c) (ht : Tab w) (hm : l.length ≤ 9223372036854775807) (h4 : 4 ≤ l.length) :
    Calls Tryd.prog 44 #[.slice A l.length c] w fun e w' => e = .returned (.bool (Cx.right l)) ∧ w = w' := by
  obtain ⟨n, hn⟩ : ∃ n, l.length = n + 4 := ⟨l.length - 4, by omega⟩
  obtain ⟨b, o, rfl, hbB, hcell⟩ := h (by intro e; have := congrArg List.length e; simp [bvs] at this; subst this; simp at h4)
  have Hcell := Lib.hid hcell
  have Ht := Lib.hid ht
  clear hcell ht
  have hsum := sum_any (some ⟨b, o, none⟩) (l.take n) c B w (fun hx => ⟨b, o, rfl, hbB, fun j u hu => Hcell.out j u (by
    rw [bvs_take] at hu
    rw [List.getElem?_take] at hu
    split at hu
    · exact hu
    · cases hu)⟩) Ht.out (by rw [List.length_take]; omega)
  rw [List.length_take, show min n l.length = n by omega] at hsum
  have Hsum := Lib.hid hsum
  clear hsum
  have Hn := Lib.hid hn
  rw [hn] at hc hm ⊢
  clear hn h4 h
  have hnc : ¬ (c = n) := by omega
  go_enter Tryd.func44, Tryd.ntmps44
  go_wp2_with fail
  have Ht4 := Lib.hid (show (l.drop n).length = 4 by rw [List.length_drop, Hn.out]; omega)
  have Hct := Lib.hid (show ∀ j, j < 4 → w.cell? ⟨b, o + n + j, none⟩ = some (.int .u8 (((l.drop n).getD j 0).toNat : Int)) from fun j hj => by
    have hlt : n + j < l.length := by rw [Hn.out]; omega
    have := Hcell.out (n + j) _ (bvs_get l (n + j) hlt)
    rw [Nat.add_assoc, this]
    unfold bv
    have e : (l.drop n).getD j 0 = l[n + j] := by rw [List.getD_eq_getElem?_getD, List.getElem?_drop, List.getElem?_eq_getElem hlt]; rfl
    rw [e])
  have Hright := Lib.hid (show Cx.right l = (Cx.rdN (l.drop n) 4 == (Cx.sum (l.take n)).toNat) by
    unfold Cx.right
    rw [show l.length - 4 = n by rw [Hn.out]; omega]
    have : decide (4 ≤ l.length) = true := by simp; rw [Hn.out]; omega
    rw [this, Bool.true_and])
  generalize l.drop n = t at Ht4 Hct Hright
  generalize Cx.sum (l.take n) = s at Hsum Hright
  clear Hcell
  go_loopg [4, 17] 4 (fun k a i wr => w = wr ∧ ∃ j : Nat, j + k = 4 ∧ i = .int .i64 j ∧ a = .int .u32 (Cx.rdN t j : Nat))
  case atStart => exact ⟨rfl, 0, by omega, rfl, rfl⟩
  case round =>
    obtain ⟨rfl, j, hj, rfl, rfl⟩ := hrel
    by_cases hlt : j < 4
    · have hcj := Hct.out j hlt
      have hy := UInt8.toNat_lt (t.getD j 0)
      obtain ⟨z, hz, hz'⟩ := or_rd t j hlt
      have Hz := Lib.hid hz'
      clear hz'
      generalize t.getD j 0 = y at *
      go_wp2_with fail
      go_roundg (gk - 1)
      case measure => omega
      case rel => exact ⟨rfl, j + 1, by omega, by go_num, by rw [Hz.out]⟩
    · obtain rfl : j = 4 := by omega
      go_wp2_with fail
      refine Hsum.out.mono ?_
      rintro e w1 ⟨rfl, rfl⟩
      go_wp2_with fail
      go_ret
      exact ⟨ret_bool (by rw [Hright.out]; exact int_beq _ _), rfl⟩
theorem cover_b (v : Value) (l : List UInt8) (w : World) (h : Bs w w.heap.size v l) (ht : Tab w) (hm : l.length + 4 ≤ 140737488355328) :
    Calls Tryd.prog 33 #[v] w fun e w' => ∃ v, e = .returned v ∧ w'.ownsRow w.heap.size 5 1 v (l.length + 4) (bvs (Cx.cover l)) ∧ Below w.heap.size w w' := by
  obtain ⟨A, c, rfl, _, hr⟩ := h
  exact cover_any A l c w hr ht hm
theorem right_b (v : Value) (l : List UInt8) (B : Nat) (w : World) (h : Bs w B v l) (ht : Tab w) (hm : l.length ≤ 9223372036854775807) :
    Calls Tryd.prog 44 #[v] w fun e w' => e = .returned (.bool (Cx.right l)) ∧ w = w' := by
  obtain ⟨A, c, rfl, hc, hr⟩ := h
  rcases Nat.lt_or_ge l.length 4 with h4 | h4
  · have : Cx.right l = false := by
      unfold Cx.right
      have : decide (4 ≤ l.length) = false := by simp; omega
      rw [this, Bool.false_and]
    rw [this]
    exact right_short A l.length c w h4
  · exact right_long A l c B w hr hc ht hm h4
end Go.Proofs.YtmiljicohnfejaaDoor.Crc
