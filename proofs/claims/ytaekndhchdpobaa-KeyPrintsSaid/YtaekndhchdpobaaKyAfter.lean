
/-
  Layer 4: the walk of After: what is no key; a key of less than 64 bytes; one of 64.
-/
import Derived.Test.YtaekndhchdpobaaKyMem
set_option linter.unusedVariables false
set_option linter.unusedSimpArgs false
namespace Go.Proofs.Ytaekndhchdpobaa
open Go.RowKit

theorem after_no (v : Value) (l : List UInt8) (B : Nat) (w : World) (h : Bs w B v l) (h0 : l.length = 0 ∨ 64 < l.length) (h1 : l.length ≤ 9223372036854775807) :
    Calls Try.prog 34 #[v] w fun e w' => e = .returned (.tuple #[.slice none 0 0, .bool false]) ∧ w = w' := by
  have H := Lib.hid h
  obtain ⟨A, c, rfl, _, _⟩ := h
  go_enter Try.func34, Try.ntmps34
  go_wp2_with fail
  refine (may_no_b _ _ _ _ H.out h0 h1).mono ?_
  rintro e w1 ⟨rfl, rfl⟩
  go_wp2_with fail
  go_ret2
  exact ⟨rfl, rfl⟩

theorem after_short (v : Value) (l : List UInt8) (w : World) (h : Bs w w.heap.size v l) (h0 : 0 < l.length) (h1 : l.length < 64) :
    Calls Try.prog 34 #[v] w fun e w' => ∃ r, e = .returned (.tuple #[r, .bool true]) ∧ Bs w' w'.heap.size r (l ++ [0]) ∧ Below w.heap.size w w' := by
  obtain ⟨i0, hi0, hz0, hz1, hz2⟩ := info_parts byte_info
  have H := Lib.hid h
  obtain ⟨A, c, rfl, _, _⟩ := h
  have d1 : (l.length : Int) < 64 := by omega
  go_enter Try.func34, Try.ntmps34
  go_wp2_with fail
  refine (may_yes_b _ _ _ _ H.out h0 (by omega)).mono ?_
  rintro e w1 ⟨rfl, rfl⟩
  go_wp2_with fail
  refine (clone_b _ _ _ H.out (by omega)).mono ?_
  rintro e w1 ⟨r, rfl, hown, hb⟩
  go_wp2_with (at_builtin; (refine wpList_append_1 _ rfl _ _ 53 rfl w.heap.size 5 i0 (.int .u8 0) 1 Try.underlying53 hi0 hz0 hz1 hz2 rfl r l.length (bvs l) rfl (hown.alloc _) _ 1 (.int .u8 0) rfl (cell_new1 _ _ _) rfl (by unfold maxLen; omega) (by omega) (by have := hb.size; simp; omega) ?_); intro v2 w2 hown2 hbw2 _ _)
  go_ret2
  refine ⟨_, rfl, ?_, (hb.alloc hb.size _).trans hbw2⟩
  have : bvs l ++ [Value.int .u8 0] = bvs (l ++ [0]) := by simp [bvs, bv]
  rw [this] at hown2
  exact Bs.of_own (by simpa using hown2)

theorem after_full (v : Value) (B : Nat) (w : World) (h : Bs w B v (List.replicate 64 255)) :
    Calls Try.prog 34 #[v] w fun e w' => e = .returned (.tuple #[.slice none 0 0, .bool false]) ∧ w = w' := by
  have H := Lib.hid h
  obtain ⟨A, c, rfl, _, hr⟩ := h
  rw [List.length_replicate] at *
  obtain ⟨b, o, rfl, hb, hc⟩ := hr (by simp [bvs])
  have hcx : ∀ j, j < 64 → w.cell? ⟨b, o + j, none⟩ = some (.int .u8 255) := fun j hj => hc j _ (by
    have e : bvs (List.replicate 64 255) = List.replicate 64 (.int .u8 255) := by unfold bvs; rw [List.map_replicate]; rfl
    rw [e, List.getElem?_replicate, if_pos hj])
  have Hcx := Lib.hid hcx
  clear hr hc hcx
  go_enter Try.func34, Try.ntmps34
  go_wp2_with fail
  refine (may_yes_b _ _ _ _ H.out (by simp) (by simp)).mono ?_
  rintro e w1 ⟨rfl, rfl⟩
  go_wp2_with fail
  go_loop [4] (fun i => ∃ p : Nat, p ≤ 64 ∧ i = .int .i64 ((p : Int) - 1)) (fun i => (intOf i + 1).toNat)
  case atStart => exact ⟨64, by omega, rfl⟩
  case round =>
    obtain ⟨p, hp, rfl⟩ := hrel
    rcases p with _ | p
    · go_wp2_with fail
      go_ret2
      exact ⟨rfl, rfl⟩
    · have hcj := Hcx.out p (by omega)
      have e1 : ((p + 1 : Nat) : Int) - 1 = (p : Int) := by omega
      rw [e1]
      clear e1
      go_wp2_with fail
      go_round
      case rel => exact ⟨p, by omega, rfl⟩
      case measure => simp [intOf]

set_option maxRecDepth 100000 in
theorem after_long (v : Value) (a : List UInt8) (y : UInt8) (k : Nat) (w : World) (h : Bs w w.heap.size v (a ++ y :: List.replicate k 255)) (hl : a.length + 1 + k = 64) (hy : y.toNat < 255) :
    Calls Try.prog 34 #[v] w fun e w' => ∃ r, e = .returned (.tuple #[r, .bool true]) ∧ Bs w' w'.heap.size r (a ++ [y + 1]) ∧ Below w.heap.size w w' := by
  have H := Lib.hid h
  have hlen : (a ++ y :: List.replicate k 255).length = 64 := by simp; omega
  obtain ⟨A, c, rfl, hlc, hr⟩ := h
  rw [hlen] at hlc H ⊢
  obtain ⟨A', c', hrun, hkc, hrd⟩ := cut_h A 64 c (a.length + 1) (by omega) hlc
  have hcut : Bs w w.heap.size (.slice A' (a.length + 1) c') (a ++ [y]) := by
    have e : (a ++ y :: List.replicate k 255).take (a.length + 1) = a ++ [y] := by
      rw [List.take_append, List.take_of_length_le (by omega)]
      simp
    have := hrd w w.heap.size _ hlen hr
    rw [e] at this
    exact ⟨A', c', by simp, by simpa using hkc, this⟩
  obtain ⟨b, o, rfl, hb, hc⟩ := hr (by simp [bvs])
  have hcx : ∀ j, a.length < j → j < 64 → w.cell? ⟨b, o + j, none⟩ = some (.int .u8 255) := fun j h1 h2 => hc j _ (by
    rw [bvs_append, bvs_cons, List.getElem?_append_right (by rw [bvs_length]; omega), bvs_length]
    obtain ⟨d, hd⟩ : ∃ d, j - a.length = d + 1 := ⟨j - a.length - 1, by omega⟩
    rw [hd, List.getElem?_cons_succ]
    simp [bvs, bv, List.getElem?_replicate]
    omega)
  have hcy : w.cell? ⟨b, o + a.length, none⟩ = some (.int .u8 (y.toNat : Int)) := hc a.length _ (by
    rw [bvs_append, bvs_cons, List.getElem?_append_right (by rw [bvs_length]; exact Nat.le_refl _), bvs_length, Nat.sub_self]
    rfl)
  have hy2 : ((y.toNat : Int) == 255) = false := by simp; omega
  have hlen1 : (a ++ [y]).length = a.length + 1 := by simp
  have ha : a.length ≤ 63 := by omega
  have Hcx := Lib.hid hcx
  have HC := Lib.hid hcut
  have HL := Lib.hid hlen1
  have hrun2 : ∀ w, (Instr.sliceAt 53 (.slice (some ⟨b, o, none⟩) 64 c) none (some (.int .i64 ((a.length : Int) + 1))) none).run Try.prog w = .ok (.slice A' (a.length + 1) c') w := hrun
  clear hr hc hcx hrd hcut hlen hlen1 hrun
  go_enter Try.func34, Try.ntmps34
  go_wp2_with fail
  refine (may_yes_b _ _ _ _ H.out (by simp; omega) (by simp; omega)).mono ?_
  rintro e w1 ⟨rfl, rfl⟩
  go_wp2_with fail
  go_loop [4] (fun i => ∃ p : Nat, a.length ≤ p ∧ p ≤ 63 ∧ i = .int .i64 (p : Int)) (fun i => (intOf i).toNat)
  case atStart => exact ⟨63, by omega, by omega, rfl⟩
  case round =>
    obtain ⟨p, hp1, hp2, rfl⟩ := hrel
    rcases Nat.lt_or_ge a.length p with hlt | hge
    · have hcj := Hcx.out p hlt (by omega)
      go_wp2_with fail
      go_round
      case rel => exact ⟨p - 1, by omega, by omega, by congr 1; omega⟩
      case measure => simp [intOf]; omega
    · obtain rfl : p = a.length := by omega
      go_wp2_with fail
      refine (clone_b _ _ _ HC.out (by simp; omega)).mono ?_
      rintro e w1 ⟨r, rfl, hown, hb1⟩
      rw [HL.out] at hown
      obtain ⟨g, cap, rfl, hge2, hgl⟩ := hown.form (by omega)
      have hcell := hown.cellAt a.length (by omega)
      rw [bvs_append, List.getElem?_append_right (by rw [bvs_length]; exact Nat.le_refl _), bvs_length, Nat.sub_self] at hcell
      have hcell2 : w1.cell? ⟨g, a.length, none⟩ = some (.int .u8 (y.toNat : Int)) := hcell
      have hfz := hown.frozenAt a.length
      have hu : IntKind.u8.wrap ((y.toNat : Int) + 1) = ((y + 1).toNat : Int) := by
        rw [IntKind.wrap_u8, UInt8.toNat_add]
        simp
      have HO := Lib.hid hown
      have HB := Lib.hid hb1
      clear hown hb1 hcell
      go_wp2_with fail
      go_ret2
      have hst := HO.out.stored a.length (.int .u8 ((y + 1).toNat : Int))
      have e : (bvs (a ++ [y])).set a.length (.int .u8 ((y + 1).toNat : Int)) = bvs (a ++ [y + 1]) := by
        rw [bvs_append, bvs_append, List.set_append_right _ _ (by rw [bvs_length]; exact Nat.le_refl _), bvs_length, Nat.sub_self]
        rfl
      rw [e] at hst
      exact ⟨_, rfl, Bs.of_own (by simpa using hst.1), HB.out.setCell (by simpa using hge2) _⟩
end Go.Proofs.Ytaekndhchdpobaa
