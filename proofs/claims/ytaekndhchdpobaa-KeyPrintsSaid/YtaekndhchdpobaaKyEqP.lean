
/-
  Layer 4: '==' and '!=' of prints.
-/
import Derived.Test.YtaekndhchdpobaaKyOf
import Derived.Test.YtaekndhchdpobaaKyEq
set_option linter.unusedVariables false
set_option linter.unusedSimpArgs false
namespace Go.Proofs.Ytaekndhchdpobaa
open Go.RowKit

theorem litW (x : Nat) (hx : x < 18446744073709551616) : Try.prog.keyLits 2 32 [.int .u64 (x : Int)] = some [.int .u64 (x : Int)] := by
  have h : (Lit.int .u64 (x : Int)).wf = true := by
    have e1 : IntKind.u64.min = 0 := by decide
    have e2 : IntKind.u64.max = 18446744073709551615 := by decide
    simp only [Lit.wf, e1, e2, Bool.and_eq_true, decide_eq_true_eq]
    omega
  have e : Try.prog.keyLits 2 32 [.int .u64 (x : Int)] = (if IntKind.u64 = IntKind.u64 ∧ (Lit.int .u64 (x : Int)).wf = true then some [.int .u64 (x : Int)] else none) := by kernel_rfl
  rw [e, if_pos ⟨rfl, h⟩]
theorem litN (x : Nat) (hx : x < 256) : Try.prog.keyLits 3 5 [.int .u8 (x : Int)] = some [.int .u8 (x : Int)] := by
  have h : (Lit.int .u8 (x : Int)).wf = true := by
    have e1 : IntKind.u8.min = 0 := by decide
    have e2 : IntKind.u8.max = 255 := by decide
    simp only [Lit.wf, e1, e2, Bool.and_eq_true, decide_eq_true_eq]
    omega
  have e : Try.prog.keyLits 3 5 [.int .u8 (x : Int)] = (if IntKind.u8 = IntKind.u8 ∧ (Lit.int .u8 (x : Int)).wf = true then some [.int .u8 (x : Int)] else none) := by kernel_rfl
  rw [e, if_pos ⟨rfl, h⟩]
/-- a print as a key's literals -/
def prLits (n : Nat) (f : Nat → Nat) : List Lit := [.int .u8 (n : Int), .int .u64 (f 0 : Int), .int .u64 (f 1 : Int), .int .u64 (f 2 : Int), .int .u64 (f 3 : Int), .int .u64 (f 4 : Int), .int .u64 (f 5 : Int), .int .u64 (f 6 : Int), .int .u64 (f 7 : Int)]
def Fit (n : Nat) (f : Nat → Nat) : Prop := n < 256 ∧ ∀ i, i < 8 → f i < 18446744073709551616
theorem litsPr {n : Nat} {f : Nat → Nat} (h : Fit n f) : Try.prog.keyLits 4 58 (prCells n f) = some (prLits n f) := by
  have e : Try.prog.keyLits 4 58 (prCells n f) = ([Try.prog.keyLits 3 5 [.int .u8 (n : Int)], ([Try.prog.keyLits 2 32 [.int .u64 (f 0 : Int)], Try.prog.keyLits 2 32 [.int .u64 (f 1 : Int)], Try.prog.keyLits 2 32 [.int .u64 (f 2 : Int)], Try.prog.keyLits 2 32 [.int .u64 (f 3 : Int)], Try.prog.keyLits 2 32 [.int .u64 (f 4 : Int)], Try.prog.keyLits 2 32 [.int .u64 (f 5 : Int)], Try.prog.keyLits 2 32 [.int .u64 (f 6 : Int)], Try.prog.keyLits 2 32 [.int .u64 (f 7 : Int)]].mapM id).map List.flatten].mapM id).map List.flatten := by kernel_rfl
  rw [e, litN n h.1, litW _ (h.2 0 (by omega)), litW _ (h.2 1 (by omega)), litW _ (h.2 2 (by omega)), litW _ (h.2 3 (by omega)), litW _ (h.2 4 (by omega)), litW _ (h.2 5 (by omega)), litW _ (h.2 6 (by omega)), litW _ (h.2 7 (by omega))]
  rfl
theorem prLits_inj {n m : Nat} {f g : Nat → Nat} : prLits n f = prLits m g ↔ n = m ∧ ∀ i, i < 8 → f i = g i := by
  constructor
  · intro h
    simp only [prLits, List.cons.injEq, Lit.int.injEq, true_and, and_true] at h
    obtain ⟨h, h0, h1, h2, h3, h4, h5, h6, h7⟩ := h
    refine ⟨by omega, fun i hi => ?_⟩
    have : i = 0 ∨ i = 1 ∨ i = 2 ∨ i = 3 ∨ i = 4 ∨ i = 5 ∨ i = 6 ∨ i = 7 := by omega
    rcases this with rfl | rfl | rfl | rfl | rfl | rfl | rfl | rfl <;> omega
  · rintro ⟨rfl, h⟩
    unfold prLits
    rw [h 0 (by omega), h 1 (by omega), h 2 (by omega), h 3 (by omega), h 4 (by omega), h 5 (by omega), h 6 (by omega), h 7 (by omega)]
theorem equal_pr {n m : Nat} {f g : Nat → Nat} (h : Fit n f) (h' : Fit m g) (w : World) : ∃ r : Bool, (Op.equalIn 10000 58 (prv n f) (prv m g)).run Try.prog w = .ok r w ∧ (r = true ↔ n = m ∧ ∀ i, i < 8 → f i = g i) := by
  have hk : Try.prog.keyTypeAt 4 58 = true := by kernel_rfl
  have fx : (prv n f).formed Try.prog 58 = true := by kernel_rfl
  have fy : (prv m g).formed Try.prog 58 = true := by kernel_rfl
  obtain ⟨r, hr, hiff⟩ := run_equalIn_deep 9996 4 58 hk w 4 4 _ _ _ _ fx fy (litsPr h) (litsPr h')
  exact ⟨r, hr, hiff.trans prLits_inj⟩
theorem eql_pr {n m : Nat} {f g : Nat → Nat} (h : Fit n f) (h' : Fit m g) (b : Bool) (hb : b = true ↔ n = m ∧ ∀ i, i < 8 → f i = g i) (w : World) : (binOp .eql 58 (.agg (prCells n f).toArray) (.agg (prCells m g).toArray)).run Try.prog w = .ok (.bool b) w := by
  obtain ⟨r, hr, hiff⟩ := equal_pr h h' w
  unfold prv at hr
  have : r = b := by rw [Bool.eq_iff_iff, hiff, hb]
  rw [run_eql_struct, hr, this]
  rfl
theorem neq_pr {n m : Nat} {f g : Nat → Nat} (h : Fit n f) (h' : Fit m g) (b : Bool) (hb : b = true ↔ n = m ∧ ∀ i, i < 8 → f i = g i) (w : World) : (binOp .neq 58 (.agg (prCells n f).toArray) (.agg (prCells m g).toArray)).run Try.prog w = .ok (.bool (!b)) w := by
  obtain ⟨r, hr, hiff⟩ := equal_pr h h' w
  unfold prv at hr
  have : r = b := by rw [Bool.eq_iff_iff, hiff, hb]
  rw [run_neq_struct, hr, this]
  rfl
theorem fit_words (l : List UInt8) (h : l.length ≤ 64) : Fit l.length (words l) := ⟨by omega, fun i _ => Ky.word_lt _⟩
end Go.Proofs.Ytaekndhchdpobaa
