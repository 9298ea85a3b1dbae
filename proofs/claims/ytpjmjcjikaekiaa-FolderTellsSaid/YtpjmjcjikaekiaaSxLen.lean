
/-
  slices.Sort at uint64: bits.Len of a small number; nextPowerOfTwo; xorshift.Next.
-/
import Derived.Test.YtpjmjcjikaekiaaSxHeap
import Derived.Laws.Bits64b
set_option linter.unusedVariables false
set_option linter.unusedSimpArgs false
namespace Go.Proofs.Ytpjmjcjikaekiaa
open Go.RowKit Go.Sort

/-- what Len says of x: how many bits it has -/
def LenOk (x k : Nat) : Prop := k ≤ 8 ∧ x < 2 ^ k ∧ (0 < x → 2 ^ k ≤ 2 * x)
instance (x k : Nat) : Decidable (LenOk x k) := by unfold LenOk; infer_instance
theorem lenOk_of {B : ByteArray} {x : Nat} {pf : x < B.size} (h : B.size = 256) (k : ∀ y : Fin 256, LenOk y.1 (B[y.1]'(by rw [h]; exact y.2)).toNat) : LenOk x (B[x]'pf).toNat := k ⟨x, h ▸ pf⟩
theorem wrap64_two (t : Nat) (h : t ≤ 8) : wrap64 (wrap64 (t : Int)) = (t : Int) := by
  unfold wrap64
  omega
set_option maxRecDepth 100000 in
set_option maxHeartbeats 4000000 in
theorem hlen64 (x : Nat) (w : World) (hx : x < 256) : Calls Try.prog 70 #[.int .u64 (x : Int)] w fun e w' => (∃ k : Nat, e = .returned (.int .i64 (k : Int)) ∧ LenOk x k) ∧ w' = w := by
  go_enter Try.func70, Try.ntmps70
  have h1 : ¬ ((4294967296 : Int) ≤ (x : Int)) := by omega
  have h2 : ¬ ((65536 : Int) ≤ (x : Int)) := by omega
  have h3 : ¬ ((256 : Int) ≤ (x : Int)) := by omega
  go_wp2_with fail
  go_ret
  clear h1 h2
  have hw : ∀ (t : Nat), LenOk x t → (∃ k : Nat, Ending.returned (.int .i64 (wrap64 (wrap64 (t : Int)))) = Ending.returned (.int .i64 (k : Int)) ∧ LenOk x k) ∧ w = w := fun t h => ⟨⟨t, by rw [wrap64_two t h.1], h⟩, rfl⟩
  refine hw _ ?_
  clear hw w
  refine lenOk_of (by decide +kernel) ?_
  decide +kernel
set_option maxRecDepth 100000 in
theorem hlen (x : Nat) (w : World) (hx : x < 256) : Calls Try.prog 57 #[.int .u64 (x : Int)] w fun e w' => (∃ k : Nat, e = .returned (.int .i64 (k : Int)) ∧ LenOk x k) ∧ w' = w := by
  go_enter Try.func57, Try.ntmps57
  go_wp2_with (go_at_call 70; refine (hlen64 x _ hx).mono ?_; rintro e w1 ⟨⟨k, rfl, hk⟩, rfl⟩)
  go_ret
  exact ⟨⟨k, rfl, hk⟩, rfl⟩
/-- nextPowerOfTwo: a power of two, of which the number is less, and which is not more than twice the number -/
def PowOk (x p : Nat) : Prop := x < p ∧ (0 < x → p ≤ 2 * x) ∧ p ≤ 256 ∧ 0 < p
set_option maxRecDepth 100000 in
theorem hpow (x : Nat) (w : World) (hx : x < 256) : Calls Try.prog 81 #[.int .i64 (x : Int)] w fun e w' => (∃ p : Nat, e = .returned (.int .u64 (p : Int)) ∧ PowOk x p) ∧ w' = w := by
  go_enter Try.func81, Try.ntmps81
  go_wp2_with (go_at_call 57; refine (hlen x _ hx).mono ?_; rintro e w1 ⟨⟨k, rfl, hk⟩, rfl⟩)
  go_ret
  have e1 : min k 64 = k := by have := hk.1; omega
  rw [e1]
  refine ⟨⟨2 ^ k, ?_, hk.2.1, hk.2.2, ?_, Nat.two_pow_pos k⟩, rfl⟩
  · have h8 : (2 : Nat) ^ k ≤ 2 ^ 8 := Nat.pow_le_pow_right (by omega) hk.1
    have e2 : IntKind.u64.wrap ((2 : Int) ^ k) = ((2 ^ k : Nat) : Int) := by
      rw [IntKind.wrap_u64, show ((2 : Int) ^ k) = ((2 ^ k : Nat) : Int) by simp]
      have := Nat.two_pow_pos k
      generalize (2 : Nat) ^ k = c at *
      omega
    show Ending.returned (.int .u64 _) = _
    rw [e2]
  · exact Nat.pow_le_pow_right (by omega : 0 < 2) hk.1
theorem xor_nat (a : Nat) (b : Int) (ha : a < 18446744073709551616) (h0 : 0 ≤ b) (h1 : b < 18446744073709551616) : ∃ A : Nat, A < 18446744073709551616 ∧ bits .xor .u64 (a : Int) b = (A : Int) := by
  obtain ⟨c, rfl⟩ : ∃ c : Nat, b = (c : Int) := ⟨b.toNat, by omega⟩
  exact ⟨a ^^^ c, Nat.xor_lt_two_pow (n := 64) (by omega) (by omega), bits_xor_u64_nat _ _ ha (by omega)⟩
/-- a block of one number; what has become of it -/
structure NxSt (w0 w : World) (X : Nat) (ty : Nat) (x : Nat) : Prop where
  heap : w.heap[X]? = some (.cells #[.int .u64 (x : Int)] ty (0, 0))
  chg : Chg (fun i => i = X) w0 w
section
variable {w0 w w' : World} {X ty x : Nat}
theorem NxSt.cell (h : NxSt w0 w X ty x) : w.cell? ⟨X, 0, none⟩ = some (.int .u64 (x : Int)) := by simp [World.cell?, h.heap]
theorem NxSt.frozen (h : NxSt w0 w X ty x) : w.frozen? ⟨X, 0, none⟩ = false := by simp [World.frozen?, h.heap]
theorem NxSt.lt (h : NxSt w0 w X ty x) : X < w.heap.size := (Array.getElem?_eq_some_iff.1 h.heap).1
theorem NxSt.on (h : NxSt w0 w X ty x) (hb : Below w.heap.size w w') : NxSt w0 w' X ty x := ⟨(hb.block X h.lt).trans h.heap, h.chg.trans (Chg.of_below (M := fun _ => False) hb) (fun i e => e.elim)⟩
theorem NxSt.set (h : NxSt w0 w X ty x) (y : Nat) : NxSt w0 (w.setCell ⟨X, 0, none⟩ (.int .u64 (y : Int))) X ty y := by
  refine ⟨?_, h.chg.setCell rfl _⟩
  rw [Go.Sort.setCell_eq]
  simp [Go.Sort.mapBlock, Array.getElem?_modify, h.heap, Go.Sort.onCells]
end
set_option maxRecDepth 100000 in
set_option maxHeartbeats 4000000 in
theorem hnext (X : Nat) (x : Nat) (ty : Nat) (w0 w : World) (hx : x < 18446744073709551616) (h : NxSt w0 w X ty x) :
    Calls Try.prog 82 #[.pointer (some ⟨X, 0, none⟩)] w fun e w' => ∃ r : Nat, r < 18446744073709551616 ∧ e = .returned (.int .u64 (r : Int)) ∧ NxSt w0 w' X ty r := by
  obtain ⟨A, hA, eA⟩ := xor_nat x (IntKind.u64.wrap ((x : Int) * 8192)) hx (by rw [IntKind.wrap_u64]; omega) (by rw [IntKind.wrap_u64]; omega)
  obtain ⟨B, hB, eB⟩ := xor_nat A ((A : Int) / 128) hA (by omega) (by omega)
  obtain ⟨C, hC, eC⟩ := xor_nat B (IntKind.u64.wrap ((B : Int) * 131072)) hB (by rw [IntKind.wrap_u64]; omega) (by rw [IntKind.wrap_u64]; omega)
  have HS := Lib.hid h
  have hc := h.cell
  have hf := h.frozen
  clear h
  go_enter Try.func82, Try.ntmps82
  go_wp2_with fail
  go_region
  all_goals go_wp2_with fail
  have h1 := (HS.out.set A).on (Below.refl _ _).drew
  have HS1 := Lib.hid h1
  have hc1 := h1.cell
  have hf1 := h1.frozen
  clear h1 hc hf
  revert HS1 hc1 hf1
  generalize World.drew _ = w1
  intro HS1 hc1 hf1
  go_region
  all_goals go_wp2_with fail
  have h1 := (HS1.out.set B).on (Below.refl _ _).drew
  have HS2 := Lib.hid h1
  have hc2 := h1.cell
  have hf2 := h1.frozen
  clear h1 hc1 hf1
  revert HS2 hc2 hf2
  generalize World.drew _ = w2
  intro HS2 hc2 hf2
  go_region
  all_goals go_wp2_with fail
  have h1 := (HS2.out.set C).on (Below.refl _ _).drew
  have HS3 := Lib.hid h1
  have hc3 := h1.cell
  have hf3 := h1.frozen
  clear h1 hc2 hf2
  revert HS3 hc3 hf3
  generalize World.drew _ = w3
  intro HS3 hc3 hf3
  go_wp2_with fail
  go_ret
  exact ⟨C, hC, rfl, HS3.out⟩
end Go.Proofs.Ytpjmjcjikaekiaa
