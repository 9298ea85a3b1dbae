
/-
  Layer 4: the walks of May, MayValue, MayName, word.
-/
import Derived.Test.YtffcbekogpgciaaKyP
import Derived.Test.YtffcbekogpgciaaPxClone
import Derived.Test.YtffcbekogpgciaaCut
import Derived.IntWalk
set_option linter.unusedVariables false
set_option linter.unusedSimpArgs false
namespace Go.Proofs.Ytffcbekogpgciaa
open Go.RowKit

theorem may_yes (A : Option Addr) (n c : Nat) (w : World) (h0 : 0 < n) (h1 : n ≤ 64) :
    Calls Try.prog 24 #[.slice A n c] w fun e w' => e = .returned (.bool true) ∧ w = w' := by
  have d0 : (1 : Int) ≤ n := by omega
  have d1 : (n : Int) ≤ 64 := by omega
  go_enter Try.func24, Try.ntmps24
  go_wp2
  go_ret
  exact ⟨rfl, rfl⟩
theorem may_no (A : Option Addr) (n c : Nat) (w : World) (h : n = 0 ∨ 64 < n) (hb : n ≤ 9223372036854775807) :
    Calls Try.prog 24 #[.slice A n c] w fun e w' => e = .returned (.bool false) ∧ w = w' := by
  rcases h with rfl | h
  · go_enter Try.func24, Try.ntmps24
    go_wp2
    go_ret
    exact ⟨rfl, rfl⟩
  · have d0 : (1 : Int) ≤ n := by omega
    have d1 : decide ((n : Int) ≤ 64) = false := by simp; omega
    go_enter Try.func24, Try.ntmps24
    go_wp2
    go_ret
    exact ⟨rfl, rfl⟩
/-- 's[:k]' of bytes -/
theorem kcut_h (A : Option Addr) (n c k : Nat) (hk : k ≤ n) (hn : n ≤ c) : ∃ A' c', (∀ w, (Instr.sliceAt 30 (.slice A n c) none (some (.int .i64 (k : Int))) none).run Try.prog w = .ok (.slice A' k c') w) ∧
    k ≤ c' ∧ ∀ w B l, l.length = n → Rd w B A (bvs l) → Rd w B A' (bvs (l.take k)) := by
  refine ⟨if c = 0 then A else A.map (·.add 0), c, fun w => ?_, by omega, fun w B l hl hr => ?_⟩
  · rw [run_sliceAt_slice _ 30 _ _ _ _ elBytes, run_slice_h _ 30 A n c elBytes .i64 k (by omega) (by omega)]
    have : (sizeOf (Try.prog.elem 30)).run Try.prog w = .ok 1 w := by kernel_rfl
    rw [this]
    simp [Result.andThen, sliced]
  · rw [bvs_take]
    have := (hr.cut (k := 0) (cap := c) (by rw [bvs_length]; omega)).take k
    simpa using this
theorem word_any (v : Value) (l : List UInt8) (B : Nat) (w : World) (h : Bs w B v l) (hm : l.length ≤ 140737488355328) :
    Calls Try.prog 40 #[v] w fun e w' => e = .returned (.int .u64 (Ky.word l : Nat)) ∧ w = w' := by
  obtain ⟨A, c, rfl, hc, hr⟩ := h
  obtain ⟨k, hk⟩ : ∃ k, k = min 8 l.length := ⟨_, rfl⟩
  obtain ⟨A', c', hrun, hkc, hrd⟩ := kcut_h A l.length c k (by omega) hc
  have hr' := hrd w B l rfl hr
  have hmin : min (8 : Int) (l.length : Int) = (k : Int) := by omega
  have hw : Ky.word l = Px.rdN l k := by unfold Ky.word; rw [hk]
  have hk8 : k ≤ 8 := by omega
  have hkl : k ≤ l.length := by omega
  rw [hw]
  have hcx : ∀ j, j < k → ∃ b o, A' = some ⟨b, o, none⟩ ∧ w.cell? ⟨b, o + j, none⟩ = some (.int .u8 ((l.getD j 0).toNat : Int)) := fun j hj => by
    obtain ⟨b, o, rfl, hb, hcell⟩ := hr' (by intro e; have := congrArg List.length e; rw [bvs_length, List.length_take, List.length_nil] at this; omega)
    refine ⟨b, o, rfl, hcell j _ ?_⟩
    rw [bvs_get _ _ (by rw [List.length_take]; omega), List.getElem_take]
    simp [bv, List.getD_eq_getElem?_getD, List.getElem?_eq_getElem (show j < l.length by omega)]
  have Hcx := Lib.hid hcx
  clear hr hr' hrd hw hk hcx
  go_enter Try.func40, Try.ntmps40
  go_wp2_with fail
  go_loop [3, 12] (fun a i => ∃ j : Nat, j ≤ k ∧ i = .int .i64 j ∧ a = .int .u64 (Px.rdN l j : Nat)) (fun _ i => k - (intOf i).toNat)
  case atStart => exact ⟨0, by omega, rfl, rfl⟩
  case round =>
    obtain ⟨j, hj, rfl, rfl⟩ := hrel
    by_cases hlt : j < k
    · obtain ⟨b, o, rfl, hcj⟩ := Hcx.out j hlt
      have hy := UInt8.toNat_lt (l.getD j 0)
      have hnx : Px.rdN l (j + 1) = Px.rdN l j + (l.getD j 0).toNat * 2 ^ (8 * j) := rfl
      have hor := Px.or_rd l j (by omega)
      have Hnx := Lib.hid hnx
      have Hor := Lib.hid hor
      clear hnx hor
      generalize l.getD j 0 = y at *
      go_wp2
      go_round
      case rel => exact ⟨j + 1, by omega, by go_num, by rw [Hor.out, Hnx.out]⟩
      case measure => simp [intOf]; omega
    · obtain rfl : j = k := by omega
      go_wp2
      go_ret
      exact ⟨rfl, rfl⟩
/-- a row as a value that can be handed in -/
theorem may_yes_b (v : Value) (l : List UInt8) (B : Nat) (w : World) (h : Bs w B v l) (h0 : 0 < l.length) (h1 : l.length ≤ 64) :
    Calls Try.prog 24 #[v] w fun e w' => e = .returned (.bool true) ∧ w = w' := by
  obtain ⟨A, c, rfl, hc, hr⟩ := h
  exact may_yes _ _ _ _ h0 h1
theorem may_no_b (v : Value) (l : List UInt8) (B : Nat) (w : World) (h : Bs w B v l) (h0 : l.length = 0 ∨ 64 < l.length) (h1 : l.length ≤ 9223372036854775807) :
    Calls Try.prog 24 #[v] w fun e w' => e = .returned (.bool false) ∧ w = w' := by
  obtain ⟨A, c, rfl, hc, hr⟩ := h
  exact may_no _ _ _ _ h0 h1
/-- key.Compare -/
theorem kcompare_b (v v' : Value) (l l' : List UInt8) (B B' : Nat) (w : World) (h : Bs w B v l) (h' : Bs w B' v' l') :
    Calls Try.prog 21 #[v, v'] w fun e w' => e = .returned (.int .i64 (Go.Lib.compareBytes l l')) ∧ w = w' := by
  have H := Lib.hid h
  have H' := Lib.hid h'
  obtain ⟨A, c, rfl, _, _⟩ := h
  obtain ⟨A', c', rfl, _, _⟩ := h'
  go_enter Try.func21, Try.ntmps21
  go_wp2_with fail
  refine (compare_b _ _ _ _ _ _ _ H.out H'.out).mono ?_
  rintro e w1 ⟨rfl, rfl⟩
  go_wp2
  go_ret
  exact ⟨rfl, rfl⟩
end Go.Proofs.Ytffcbekogpgciaa
