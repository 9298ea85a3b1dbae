
/-
  The document's own answer for layer 1: the walks of Own, Bits, Number, Bytes.
-/
import Derived.Test.YtggijjknfcofoaaDoorRxPlain
import Derived.Test.YtggijjknfcofoaaDoorPxClone
set_option linter.unusedVariables false
set_option linter.unusedSimpArgs false
namespace Go.Proofs.YtggijjknfcofoaaDoor
open Go.RowKit

theorem int_info : (Tryd.prog.info? 3).map (fun i => (i.zero, i.size, i.bytes)) = some (some (.int .i64 0), 1, 8) := by kernel_rfl

/-- bits as cells -/
def nvs (l : List Nat) : List Value := l.map fun b : Nat => Value.int .i64 (b : Int)
theorem nvs_length (l : List Nat) : (nvs l).length = l.length := by simp [nvs]
theorem nvs_append (l m : List Nat) : nvs (l ++ m) = nvs l ++ nvs m := by simp [nvs]
theorem nvs_one (l : List Nat) : ∀ u ∈ nvs l, u.oneCell' = true := by
  intro u hu
  simp only [nvs, List.mem_map] at hu
  obtain ⟨b, _, rfl⟩ := hu
  rfl
theorem nvs_get (l : List Nat) (k : Nat) (h : k < l.length) : (nvs l)[k]? = some (.int .i64 (l[k] : Int)) := by simp [nvs, h]

/-- The value v is a slice that reads as the bits l, and lies below block B. -/
def Ns (w : World) (B : Nat) (v : Value) (l : List Nat) : Prop := ∃ A c, v = .slice A l.length c ∧ l.length ≤ c ∧ Rd w B A (nvs l)
theorem Ns.of_own {w : World} {v : Value} {l : List Nat} {base n : Nat} {e : TypeId} (h : w.ownsRow base e 1 v n (nvs l)) : Ns w w.heap.size v l := by
  have hn : l.length = n := by have := h.1; simpa [nvs] using this
  subst hn
  obtain ⟨A, c, rfl, hc, _⟩ := own_slice h
  exact ⟨A, c, rfl, hc, Rd.of_own h⟩
theorem Ns.on {w w' : World} {v : Value} {l : List Nat} (h : Ns w w.heap.size v l) (hb : Below w.heap.size w w') : Ns w' w'.heap.size v l := by
  obtain ⟨A, c, e, hc, hr⟩ := h
  exact ⟨A, c, e, hc, (hr.below hb (Nat.le_refl _)).mono hb.size⟩

set_option maxRecDepth 100000 in
theorem own_b (v : Value) (l : List UInt8) (w : World) (h : Bs w w.heap.size v l) (hm : l.length ≤ 140737488355328) :
    Calls Tryd.prog 19 #[v] w fun e w' => ∃ r, e = .returned r ∧ w'.ownsRow w.heap.size 5 1 r l.length (bvs l) ∧ Below w.heap.size w w' := by
  obtain ⟨i0, hi0, hz0, hz1, hz2⟩ := info_parts byte_info
  obtain ⟨A, c, rfl, hc, hr⟩ := h
  have Hr := Lib.hid hr
  clear hr
  have hown0 := World.ownsRow_nil w w.heap.size 5 1
  go_enter Tryd.func19, Tryd.ntmps19
  go_wp2_with (at_builtin; (refine wpList_append_rd _ rfl _ _ 30 rfl w.heap.size 5 i0 (.int .u8 0) 1 1 Tryd.underlying30 hi0 hz0 hz1 hz2 rfl (by omega) (.slice none 0 0) 0 [] rfl hown0 w.heap.size A l.length c (bvs l) rfl (by simp [bvs]) Hr.out (bvs_one l) (by unfold maxLen; omega) (by omega) (Nat.le_refl _) ?_); intro v1 w1 hown1 hbw1 _ _)
  go_ret
  exact ⟨v1, rfl, by simpa using hown1, hbw1⟩

set_option maxRecDepth 100000 in
theorem rbits_any (n m : Int) (w : World) (h0 : 0 ≤ n) (h1 : n < 18446744073709551616) (hm0 : 0 ≤ m) (hm : m ≤ 64) :
    Calls Tryd.prog 69 #[.int .u64 n, .int .i64 m] w fun e w' => ∃ v, e = .returned (.tuple #[v, .bool (n.toNat / 2 ^ m.toNat == 0)]) ∧
      w'.ownsRow w.heap.size 3 1 v m.toNat (nvs (Rx.bitsL n.toNat m.toNat)) ∧ Below w.heap.size w w' := by
  obtain ⟨i0, hi0, hz0, hz1, hz2⟩ := info_parts int_info
  obtain ⟨n, rfl⟩ := Int.eq_ofNat_of_zero_le h0
  obtain ⟨m, rfl⟩ := Int.eq_ofNat_of_zero_le hm0
  rw [Int.toNat_natCast, Int.toNat_natCast]
  obtain ⟨w0, hmk, hown0, hgr0⟩ := run_make_full (P := Tryd.prog) w w.heap.size 109 3 i0 (.int .i64 0) 1 Tryd.underlying109 hi0 hz0 hz1 .i64 .i64 m (by rw [hz2]; omega) (by unfold maxLen; omega) (Nat.le_refl _)
  have hb0 : Below w.heap.size w w0 := (Below.refl _ _).grown hgr0 (Nat.le_refl _) (by simp)
  have hown0' : w0.ownsRow w.heap.size 3 1 (.slice (some ⟨w.heap.size, 0, none⟩) m m) m (nvs (List.replicate m 0)) := by
    have e : (madeCells (Value.int .i64 0).cells (m * 1)).toList = nvs (List.replicate m 0) := by
      show (madeCells #[Value.int .i64 0] (m * 1)).toList = _
      rw [toList_madeCells_one, Nat.mul_one]
      simp [nvs]
    rw [← e]
    exact hown0
  clear hown0 hgr0 hi0 hz0 hz1 hz2
  go_enter Tryd.func69, Tryd.ntmps69
  go_wp2_with fail
  clear hmk
  go_loopw [0, 7] (fun x i wr => ∃ j : Nat, j ≤ m ∧ x = .int .u64 (n / 2 ^ j : Nat) ∧ i = .int .i64 ((m : Int) - 1 - j) ∧
    wr.ownsRow w.heap.size 3 1 (.slice (some ⟨w.heap.size, 0, none⟩) m m) m (nvs (List.replicate (m - j) 0 ++ Rx.bitsL n j)) ∧ Below w.heap.size w wr) (fun _ i _ => (intOf i + 1).toNat)
  case atStart => exact ⟨0, by omega, by simp, by simp, by simpa [Rx.bitsL] using hown0', hb0⟩
  case round =>
    obtain ⟨j, hj, rfl, rfl, hown, hb⟩ := hrel
    by_cases hlt : j < m
    · have hcell := hown.cellAt (m - 1 - j) (by omega)
      have hfr := hown.frozenAt (m - 1 - j)
      obtain ⟨hst, _⟩ := hown.stored (m - 1 - j) (.int .i64 ((n / 2 ^ j % 2 : Nat) : Int))
      have e1 : (nvs (List.replicate (m - j) 0 ++ Rx.bitsL n j)).set (m - 1 - j) (.int .i64 ((n / 2 ^ j % 2 : Nat) : Int)) = nvs (List.replicate (m - (j + 1)) 0 ++ Rx.bitsL n (j + 1)) := by
        obtain ⟨q, hq⟩ : ∃ q, m - j = q + 1 := ⟨m - j - 1, by omega⟩
        rw [hq, show m - 1 - j = q by omega, show m - (j + 1) = q by omega]
        rw [nvs_append, List.set_append_left _ _ (by simp [nvs])]
        have e2 : (nvs (List.replicate (q + 1) 0)).set q (.int .i64 ((n / 2 ^ j % 2 : Nat) : Int)) = nvs (List.replicate q 0) ++ nvs [n / 2 ^ j % 2] := by
          rw [List.replicate_succ', nvs_append, List.set_append_right _ _ (by simp [nvs])]
          simp [nvs]
        rw [e2, List.append_assoc, ← nvs_append, ← nvs_append]
        rfl
      rw [e1] at hst
      have Hst := Lib.hid hst
      clear hst e1
      have hlt2 : n / 2 ^ j < 18446744073709551616 := Nat.lt_of_le_of_lt (Nat.div_le_self _ _) (by omega)
      have hnx : n / 2 ^ j / 2 = n / 2 ^ (j + 1) := by rw [Nat.div_div_eq_div_mul, Nat.pow_succ]
      have Hnx := Lib.hid hnx
      clear hnx
      obtain ⟨v0, hv0⟩ : ∃ v0 : Int, wr.cell? ⟨w.heap.size, m - 1 - j, none⟩ = some (.int .i64 v0) := by
        rw [hcell, nvs_get _ _ (by simp [Rx.bitsL_length]; omega)]
        exact ⟨_, rfl⟩
      clear hcell
      have x1 : (0 : Int) ≤ (m : Int) - 1 - (j : Int) := by omega
      have x2 : (m : Int) - 1 - (j : Int) < (m : Int) := by omega
      have x3 : ((m : Int) - 1 - (j : Int)).toNat = m - 1 - j := by omega
      obtain ⟨X, hX⟩ : ∃ X : Int, ((n / 2 ^ j : Nat) : Int) = X := ⟨_, rfl⟩
      have hX0 : 0 ≤ X := by rw [← hX]; exact Int.natCast_nonneg _
      have hX1 : X < 18446744073709551616 := by rw [← hX]; exact Int.ofNat_lt.2 hlt2
      rw [hX]
      have HX := Lib.hid hX
      clear hX hlt2 h1
      go_wp2_with fail
      go_roundw
      case rel =>
        refine ⟨j + 1, by omega, ?_, by go_num, ?_, hb.setCell (Nat.le_refl _) _⟩
        · rw [← HX.out, ← Hnx.out]; congr 1
        · have := Hst.out
          rw [show ((n / 2 ^ j % 2 : Nat) : Int) = X % 2 by rw [← HX.out]; simp] at this
          exact this
      case measure => simp [intOf]; omega
    · obtain rfl : j = m := by omega
      have hX : (((n / 2 ^ j : Nat) : Int) == 0) = (n / 2 ^ j == 0) := by
        generalize n / 2 ^ j = y
        rw [Bool.eq_iff_iff]; simp only [beq_iff_eq]; omega
      have HX := Lib.hid hX
      clear hX
      generalize ((n / 2 ^ j : Nat) : Int) = X at *
      clear h1 hown0'
      go_wp2_with fail
      go_ret2
      refine ⟨_, by rw [← HX.out]; rfl, ?_, hb⟩
      simpa using hown

set_option maxRecDepth 100000 in
theorem number_any (v : Value) (l : List Nat) (B : Nat) (w : World) (h : Ns w B v l) (hb : ∀ b ∈ l, b < 2) (hl : l.length ≤ 64) :
    Calls Tryd.prog 70 #[v] w fun e w' => e = .returned (.int .u64 (Rx.numL l : Nat)) ∧ w = w' := by
  obtain ⟨A, c, rfl, hc, hr⟩ := h
  have Hr := Lib.hid hr
  clear hr
  generalize hm : l.length = m at *
  have Hm := Lib.hid hm
  have Hb := Lib.hid hb
  clear hm hb
  go_enter Tryd.func70, Tryd.ntmps70
  go_wp2_with fail
  go_loop [3, 4] (fun x i => ∃ j : Nat, j ≤ m ∧ i = .int .i64 j ∧ x = .int .u64 (Rx.numL (l.take j) : Nat)) (fun _ i => m - (intOf i).toNat)
  case atStart => exact ⟨0, by omega, rfl, rfl⟩
  case round =>
    obtain ⟨j, hj, rfl, rfl⟩ := hrel
    by_cases hlt : j < m
    · have hjl : j < l.length := by rw [Hm.out]; exact hlt
      obtain ⟨b, o, rfl, _, hcc⟩ := Hr.out (by intro e; have := congrArg List.length e; rw [nvs_length, Hm.out] at this; simp at this; omega)
      have hcj : w.cell? ⟨b, o + j, none⟩ = some (.int .i64 ((l[j] : Nat) : Int)) := hcc j _ (nvs_get l j hjl)
      have hb2 := Hb.out l[j] (List.getElem_mem hjl)
      have hs : Rx.numL (l.take (j + 1)) = 2 * Rx.numL (l.take j) + l[j] := by
        rw [List.take_succ_eq_append_getElem hjl, Rx.numL_snoc]
      have hlt2 : Rx.numL (l.take j) < 2 ^ 63 := by
        have h1 := Rx.numL_lt (l.take j) (fun b hb => Hb.out b (List.mem_of_mem_take hb))
        have h2 : (l.take j).length ≤ 63 := by rw [List.length_take]; omega
        exact Nat.lt_of_lt_of_le h1 (Nat.pow_le_pow_right (by omega) h2)
      clear hcc
      generalize l[j] = y at *
      have Hs := Lib.hid hs
      clear hs
      obtain ⟨X, hX⟩ : ∃ X : Int, ((Rx.numL (l.take j) : Nat) : Int) = X := ⟨_, rfl⟩
      have hX0 : 0 ≤ X := by rw [← hX]; exact Int.natCast_nonneg _
      have hX1 : X < 9223372036854775808 := by rw [← hX]; exact Int.ofNat_lt.2 hlt2
      rw [hX]
      have HX := Lib.hid hX
      clear hX hlt2
      go_wp2_with fail
      go_round
      case rel => exact ⟨j + 1, by omega, by go_num, by rw [Hs.out, ← HX.out]; congr 1⟩
      case measure => simp [intOf]; omega
    · obtain rfl : j = m := by omega
      have ht : l.take j = l := List.take_of_length_le (by rw [Hm.out]; exact Nat.le_refl _)
      rw [ht]
      clear ht
      go_wp2_with fail
      go_ret
      exact ⟨rfl, rfl⟩

set_option maxRecDepth 100000 in
theorem bytes_any (v : Value) (l : List Nat) (k : Nat) (w : World) (h : Ns w w.heap.size v l) (hb : ∀ b ∈ l, b < 2) (hl : l.length = 8 * k) (hk : k ≤ 100) :
    Calls Tryd.prog 74 #[v] w fun e w' => ∃ r, e = .returned r ∧ w'.ownsRow w.heap.size 5 1 r k (bvs (Rx.bytesL l k)) ∧ Below w.heap.size w w' := by
  obtain ⟨i0, hi0, hz0, hz1, hz2⟩ := info_parts byte_info
  obtain ⟨A, c, rfl, hc, hr⟩ := h
  have Hr := Lib.hid hr
  have Hb := Lib.hid hb
  have Hl := Lib.hid hl
  rw [hl] at hc ⊢
  clear hr hb hl
  go_enter Tryd.func74, Tryd.ntmps74
  go_wp2_with fail
  go_loopw [3, 4] (fun o i wr => ∃ j : Nat, j ≤ k ∧ i = .int .i64 ((8 * j : Nat) : Int) ∧ wr.ownsRow w.heap.size 5 1 o j (bvs (Rx.bytesL l j)) ∧ Below w.heap.size w wr) (fun _ i _ => 8 * k + 8 - (intOf i).toNat)
  case atStart => exact ⟨0, by omega, rfl, World.ownsRow_nil _ _ _ _, Below.refl _ _⟩
  case round =>
    obtain ⟨j, hj, rfl, hown, hbw⟩ := hrel
    by_cases hlt : j < k
    · obtain ⟨b, o, rfl, hbb, hcc⟩ := Hr.out.below hbw (Nat.le_refl _) (by intro e; have := congrArg List.length e; rw [nvs_length, Hl.out] at this; simp at this; omega)
      have hn8 : Ns wr w.heap.size (.slice (some ⟨b, o + 8 * j, none⟩) 8 (c - 8 * j)) ((l.drop (8 * j)).take 8) := by
        have hlen : ((l.drop (8 * j)).take 8).length = 8 := by rw [List.length_take, List.length_drop, Hl.out]; omega
        refine ⟨_, _, by rw [hlen], by rw [hlen]; omega, fun _ => ⟨b, o + 8 * j, rfl, hbb, fun t u hu => ?_⟩⟩
        unfold nvs at hu
        rw [List.getElem?_map, List.getElem?_take] at hu
        split at hu
        · rw [List.getElem?_drop] at hu
          rw [Nat.add_assoc]
          exact hcc (8 * j + t) u (by unfold nvs; rw [List.getElem?_map]; exact hu)
        · cases hu
      have Hn8 := Lib.hid hn8
      have hv : Rx.numL ((l.drop (8 * j)).take 8) < 256 := by
        have h1 := Rx.numL_lt ((l.drop (8 * j)).take 8) (fun b hb => Hb.out b (List.mem_of_mem_drop (List.mem_of_mem_take hb)))
        have h2 : ((l.drop (8 * j)).take 8).length ≤ 8 := by rw [List.length_take]; omega
        exact Nat.lt_of_lt_of_le h1 (Nat.pow_le_pow_right (by omega) h2)
      have hvb : ((Rx.numL ((l.drop (8 * j)).take 8) : Nat) : Int) = ((Rx.byteAt l j).toNat : Int) := by
        unfold Rx.byteAt
        rw [UInt8.toNat_ofNat_of_lt' (by simpa [UInt8.size] using hv)]
      have Hvb := Lib.hid hvb
      have hbt := UInt8.toNat_lt (Rx.byteAt l j)
      clear hcc hn8 hv hvb
      have y1 : ¬ (c = 8 * j) := by omega
      go_wp2_with fail
      refine (number_any _ _ _ _ Hn8.out (fun b hb => Hb.out b (List.mem_of_mem_drop (List.mem_of_mem_take hb))) (by rw [List.length_take]; omega)).mono ?_
      rintro e w2 ⟨rfl, rfl⟩
      rw [Hvb.out]
      go_wp2_with (at_builtin; (refine wpList_append_1 _ rfl _ _ 30 rfl w.heap.size 5 i0 (.int .u8 0) 1 Tryd.underlying30 hi0 hz0 hz1 hz2 rfl u3 j (bvs (Rx.bytesL l j)) rfl (hown.alloc _) _ 1 (.int .u8 ((Rx.byteAt l j).toNat : Int)) rfl (cell_new1 _ _ _) rfl (by unfold maxLen; omega) (by omega) (by have := hbw.size; simp; omega) ?_); intro v2 w2 hown2 hbw2 _ _)
      go_roundw
      case rel => exact ⟨j + 1, by omega, by go_num, by rw [Rx.bytesL_succ, bvs_append]; exact hown2, (hbw.alloc hbw.size _).trans hbw2⟩
      case measure => simp [intOf]; omega
    · obtain rfl : j = k := by omega
      go_wp2_with fail
      go_ret
      exact ⟨_, rfl, hown, hbw⟩
end Go.Proofs.YtggijjknfcofoaaDoor
