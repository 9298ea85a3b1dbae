
/-
  Layer 2, the document's answer: the walks of modulus, Row and Bits.
-/
import Derived.Test.YtggijjknfcofoaaDoorCxMem
import Derived.Test.YtggijjknfcofoaaDoorDxPlain
import Derived.Deep.DeepCutAuto
import Derived.OneCell
set_option linter.unusedVariables false
set_option linter.unusedSimpArgs false
namespace Go.Proofs.YtggijjknfcofoaaDoor.Crc
open Go.RowKit

theorem bool_info : (Tryd.prog.info? 4).map (fun i => (i.zero, i.size, i.bytes)) = some (some (.bool false), 1, 1) := by kernel_rfl
/-- bools as cells -/
def blvs (l : List Bool) : List Value := l.map Value.bool
theorem blvs_length (l : List Bool) : (blvs l).length = l.length := by simp [blvs]
theorem blvs_append (l m : List Bool) : blvs (l ++ m) = blvs l ++ blvs m := by simp [blvs]
theorem blvs_get (l : List Bool) (k : Nat) (h : k < l.length) : (blvs l)[k]? = some (.bool l[k]) := by simp [blvs, h]
theorem blvs_get? (l : List Bool) (k : Nat) (c : Bool) (h : l[k]? = some c) : (blvs l)[k]? = some (.bool c) := by simp [blvs, h]
theorem blvs_set (l : List Bool) (k : Nat) (b : Bool) : blvs (l.set k b) = (blvs l).set k (.bool b) := by simp [blvs, List.map_set]
theorem blvs_one (l : List Bool) : ∀ u ∈ blvs l, u.oneCell' = true := by
  intro u hu
  simp only [blvs, List.mem_map] at hu
  obtain ⟨b, _, rfl⟩ := hu
  rfl
theorem blvs_drop (l : List Bool) (k : Nat) : blvs (l.drop k) = (blvs l).drop k := by simp [blvs, List.map_drop]

/-- the modulus' powers -/
def pw : List Nat := [28, 27, 26, 25, 23, 22, 20, 19, 18, 14, 13, 11, 10, 9, 8, 6, 0]
theorem modL_take (j : Nat) (h : j < 32) : Cx.modL.take (j + 1) = Cx.modL.take j ++ [pw.contains (31 - j)] := by
  rw [List.take_succ_eq_append_getElem (by rw [Cx.modL_length]; exact h)]
  congr 2
  simp only [Cx.modL, List.getElem_map, List.getElem_range]
  rfl
theorem contains_succ (i k : Nat) (h : i < pw.length) : (pw.take (i + 1)).contains k = ((pw.take i).contains k || (pw[i] == k)) := by
  rw [List.take_succ_eq_append_getElem h, List.contains_append]
  simp
  rw [Bool.eq_iff_iff]
  simp
  constructor
  · rintro (h | h)
    · exact .inl h
    · exact .inr h.symm
  · rintro (h | h)
    · exact .inl h
    · exact .inr h.symm

set_option maxRecDepth 100000 in
theorem modulus_any (w : World) : Calls Tryd.prog 76 #[] w fun e w' => ∃ v, e = .returned v ∧ w'.ownsRow w.heap.size 4 1 v 32 (blvs Cx.modL) ∧ Below w.heap.size w w' := by
  obtain ⟨i0, hi0, hz0, hz1, hz2⟩ := info_parts bool_info
  go_enter Tryd.func76, Tryd.ntmps76
  go_wp2_with fail
  generalize hC : #[Value.int .i64 28, Value.int .i64 27, Value.int .i64 26, Value.int .i64 25, Value.int .i64 23, Value.int .i64 22, Value.int .i64 20, Value.int .i64 19, Value.int .i64 18, Value.int .i64 14, Value.int .i64 13, Value.int .i64 11, Value.int .i64 10, Value.int .i64 9, Value.int .i64 8, Value.int .i64 6, Value.int .i64 0] = C
  have hcells : ∀ i, (h : i < 17) → C[i]? = some (.int .i64 ((pw[i]'h : Nat) : Int)) := by
    intro i hi
    have e : C = (pw.map fun n : Nat => Value.int .i64 (n : Int)).toArray := by rw [← hC]; rfl
    rw [e]
    have : i < pw.length := hi
    simp [this]
    rfl
  have Hcells := Lib.hid hcells
  clear hC hcells
  go_loopg [1, 3] 32 (fun g o k wr => ∃ j : Nat, j + g = 32 ∧ k = .int .i64 (31 - (j : Int)) ∧ wr.ownsRow (w.heap.size + 1) 4 1 o j (blvs (Cx.modL.take j)) ∧ Below (w.heap.size + 1) (w.alloc (.cells C 3)) wr)
  case atStart => exact ⟨0, by omega, rfl, World.ownsRow_nil _ _ _ _, Below.refl _ _⟩
  case round =>
    obtain ⟨j, hj, rfl, hown, hb⟩ := hrel
    have hsz := hb.size
    simp only [World.size_alloc] at hsz
    by_cases hlt : j < 32
    · obtain ⟨k, hk⟩ : ∃ k : Nat, (31 - (j : Int)) = (k : Int) := ⟨31 - j, by omega⟩
      have Hkj := Lib.hid (show 31 - j = k by omega)
      rw [hk]
      have Hk := Lib.hid hk
      have Hown := Lib.hid hown
      have Hmod := Lib.hid (modL_take j hlt)
      rw [Hkj.out] at Hmod
      have hk0 : (0 : Int) ≤ (k : Int) := by omega
      have hk31 : (k : Int) ≤ 31 := by omega
      clear hk hown
      obtain ⟨G, rfl⟩ : ∃ G, G = gk := ⟨_, rfl⟩
      go_wp2_with fail
      go_loopg [4, 5] 17 (fun g t i wx => wr = wx ∧ ∃ m : Nat, m + g = 17 ∧ i = .int .i64 m ∧ t = .bool ((pw.take m).contains k))
      case atStart => exact ⟨rfl, 0, by omega, rfl, rfl⟩
      case round =>
        obtain ⟨rfl, m, hm, rfl, rfl⟩ := hrel
        by_cases hm17 : m < 17
        · have hc1 : wr.cell? ⟨w.heap.size, m, none⟩ = some (.int .i64 ((pw[m]'hm17 : Nat) : Int)) := by
            rw [hb.cell (p := ⟨w.heap.size, m, none⟩) (Nat.lt_succ_self _), World.cell?_alloc_mark]
            exact Hcells.out m hm17
          have Hs := Lib.hid (contains_succ m k hm17)
          generalize hpm : pw[m]'hm17 = pm at hc1
          have Hpm := Lib.hid hpm
          clear hpm
          have t17 : (m : Int) < 17 := by omega
          rcases hq : ((pm : Int) == (k : Int)) with _ | _
          all_goals
            have Hq := Lib.hid hq
            go_wp2_with fail
            go_roundg (gk - 1)
            case measure => omega
            case rel =>
              refine ⟨rfl, m + 1, by omega, by go_num, ?_⟩
              rw [Hs.out, Hpm.out]
              have hq2 := Hq.out
              first
                | (have e : (pm == k) = true := by (simp at hq2 ⊢; omega)
                   rw [e]; simp; done)
                | (have e : (pm == k) = false := by (simp at hq2 ⊢; omega)
                   rw [e]; simp; done)
        · obtain rfl : m = 17 := by omega
          rw [show pw.take 17 = pw by rfl]
          generalize hx : pw.contains k = x at *
          go_wp2_with (at_builtin; (refine wpList_append_1 _ rfl _ _ 114 rfl (w.heap.size + 1) 4 i0 (.bool false) 1 Tryd.underlying114 hi0 hz0 hz1 hz2 rfl u1 j (blvs (Cx.modL.take j)) rfl (Hown.out.alloc _) _ 1 (.bool x) rfl (cell_new1 _ _ _) rfl (by unfold maxLen; omega) (by omega) (by simp; omega) ?_); intro v2 w2 hown2 hbw2 _ _)
          go_roundg (G - 1)
          case measure => omega
          case rel => exact ⟨j + 1, by omega, by rw [← Hk.out]; congr 1; omega, by rw [Hmod.out, blvs_append]; exact hown2, (hb.alloc (by omega) _).trans hbw2⟩
    · obtain rfl : j = 32 := by omega
      go_wp2_with fail
      go_ret
      refine ⟨_, rfl, own_base hown (by omega), (((Below.refl _ _).alloc (Nat.le_refl _) _).trans (hb.mono (by omega)))⟩

theorem row_bit (a : BitVec 32) (j : Nat) : ((((a.toNat / 2 ^ j : Nat) : Int) % 2) == 1) = a.getLsbD j := by
  rw [BitVec.getLsbD, Nat.testBit_eq_decide_div_mod_eq, Bool.eq_iff_iff]
  simp only [beq_iff_eq, decide_eq_true_eq]
  omega
theorem row_next (n j : Nat) : ((n / 2 ^ j : Nat) : Int) / 2 = ((n / 2 ^ (j + 1) : Nat) : Int) := by
  rw [Nat.pow_succ, ← Nat.div_div_eq_div_mul]
  omega
theorem bits_any (A : Option Addr) (l : List Bool) (c B : Nat) (w : World) (h : Rd w B A (blvs l)) (hl : l.length = 32) :
    Calls Tryd.prog 73 #[.slice A 32 c] w fun e w' => e = .returned (.int .u32 (Cx.val l).toNat) ∧ w = w' := by
  have Hres := Lib.hid (Cx.bitsN_val l hl)
  have Hl := Lib.hid hl
  obtain ⟨b, o, rfl, hbB, hcell⟩ := h (by intro e; have := congrArg List.length e; simp [blvs] at this; subst this; simp at hl)
  have Hcell := Lib.hid hcell
  clear hcell hl h
  go_enter Tryd.func73, Tryd.ntmps73
  go_wp2_with fail
  go_loopg [3, 4] 32 (fun g x k wr => w = wr ∧ ∃ (j y : Nat), j + g = 32 ∧ k = .int .i64 (31 - (j : Int)) ∧ x = .int .u32 (y : Int) ∧ y = Cx.bitsN (l.drop (32 - j)))
  case atStart => exact ⟨rfl, 0, 0, by omega, rfl, rfl, by rw [List.drop_eq_nil_of_le (by rw [Hl.out]; omega)]; rfl⟩
  case round =>
    obtain ⟨rfl, j, y, hj, rfl, rfl, hy⟩ := hrel
    have Hy := Lib.hid hy
    clear hy
    by_cases hlt : j < 32
    · obtain ⟨k, hk⟩ : ∃ k : Nat, (31 - (j : Int)) = (k : Int) := ⟨31 - j, by omega⟩
      have Hkj := Lib.hid (show 31 - j = k by omega)
      have hk31 : k ≤ 31 := by omega
      have hk0 : (0 : Int) ≤ (k : Int) := by omega
      have hk32 : (k : Int) < 32 := by omega
      rw [hk]
      have Hk := Lib.hid hk
      clear hk
      obtain ⟨x, hx⟩ : ∃ x, l[k]? = some x := ⟨l[k]'(by rw [Hl.out]; omega), List.getElem?_eq_getElem _⟩
      have hcj := Hcell.out k _ (blvs_get? l k x hx)
      have hbl := Cx.bitsN_lt (l.drop (32 - j))
      rw [← Hy.out, List.length_drop, Hl.out, show 32 - (32 - j) = j by omega] at hbl
      have hpow : 2 ^ j ≤ 2 ^ 31 := Nat.pow_le_pow_right (by omega) (by omega)
      have hy31 : y < 2147483648 := by omega
      have Hnx := Lib.hid (show Cx.bitsN (l.drop (32 - (j + 1))) = 2 * y + (if x then 1 else 0) by
        rw [show 32 - (j + 1) = k by have := Hkj.out; omega, Cx.bitsN_drop l k x hx, Hy.out, show k + 1 = 32 - j by have := Hkj.out; omega])
      clear hx hbl hpow
      rcases x with _ | _
      all_goals
        go_wp2_with fail
        go_roundg (gk - 1)
        case measure => omega
        case rel => exact ⟨rfl, j + 1, _, by omega, by rw [← Hk.out]; congr 1; omega, by rw [Hnx.out]; simp; omega, rfl⟩
    · obtain rfl : j = 32 := by omega
      rw [show (32 - 32 : Nat) = 0 by rfl, List.drop_zero] at Hy
      go_wp2_with fail
      go_ret
      exact ⟨ret_int (by rw [← Hres.out, Hy.out]), rfl⟩
end Go.Proofs.YtggijjknfcofoaaDoor.Crc
