
/-
  Layer 8: records as values; the walks of May, Size, Same.
-/
import Derived.Test.YtmiljicohnfejaaDoorRcPlain
import Derived.Test.YtmiljicohnfejaaDoorLxPure
import Derived.Test.YtmiljicohnfejaaDoorKyMem
set_option linter.unusedVariables false
set_option linter.unusedSimpArgs false
namespace Go.Proofs.YtmiljicohnfejaaDoor
open Go.RowKit

/-- a record as a value -/
def recV (seq kind : Int) (kv vv : Value) (seg off : Int) : Value := .agg #[.int .u64 seq, .int .i64 kind, kv, vv, .int .u32 seg, .int .u32 off]
/-- numbers that their types have -/
structure Rc.Fit (r : Rc.Rec) : Prop where
  seq0 : 0 ≤ r.seq
  seq1 : r.seq < 18446744073709551616
  kind0 : -9223372036854775808 ≤ r.kind
  kind1 : r.kind < 9223372036854775808
  seg0 : 0 ≤ r.seg
  seg1 : r.seg < 4294967296
  off0 : 0 ≤ r.off
  off1 : r.off < 4294967296
  key1 : r.key.length ≤ 9223372036854775807
  val1 : r.val.length ≤ 9223372036854775807
theorem Rc.fit_none : Rc.Fit Rc.none := by constructor <;> decide
theorem Rc.fit_may {r : Rc.Rec} (h : Rc.mayB r = true) : Rc.Fit r := by
  have := Rc.may_bounds h
  constructor <;> omega
/-- the value v is the record r -/
def RecV (w : World) (B : Nat) (v : Value) (r : Rc.Rec) : Prop := ∃ kv vv, v = recV r.seq r.kind kv vv r.seg r.off ∧ Bs w B kv r.key ∧ Bs w B vv r.val
section
variable {w w' : World} {B B' : Nat} {v : Value} {r : Rc.Rec}
theorem RecV.mono (h : RecV w B v r) (hB : B ≤ B') : RecV w B' v r := by
  obtain ⟨kv, vv, e, h1, h2⟩ := h
  exact ⟨kv, vv, e, h1.mono hB, h2.mono hB⟩
theorem RecV.below {C : Nat} (h : RecV w B v r) (hb : Below C w w') (hC : B ≤ C) : RecV w' B v r := by
  obtain ⟨kv, vv, e, h1, h2⟩ := h
  exact ⟨kv, vv, e, h1.below hb hC, h2.below hb hC⟩
theorem RecV.on (h : RecV w w.heap.size v r) (hb : Below w.heap.size w w') : RecV w' w'.heap.size v r := (h.below hb (Nat.le_refl _)).mono hb.size
theorem RecV.none_ : RecV w B (recV 0 0 (.slice Option.none 0 0) (.slice Option.none 0 0) 0 0) Rc.none := ⟨_, _, rfl, Bs.none_, Bs.none_⟩
end

/-- what a box of a record holds, a call later -/
theorem box6 {w w1 : World} {C : Nat} {x0 x1 x2 x3 x4 x5 : Value} {t : TypeId} (hb : Below C (w.alloc (.cells #[x0, x1, x2, x3, x4, x5] t)) w1) (hC : w.heap.size < C) :
    w1.cell? ⟨w.heap.size, 0, none⟩ = some x0 ∧ w1.cell? ⟨w.heap.size, 1, none⟩ = some x1 ∧ w1.cell? ⟨w.heap.size, 2, none⟩ = some x2 ∧ w1.cell? ⟨w.heap.size, 3, none⟩ = some x3 ∧ w1.cell? ⟨w.heap.size, 4, none⟩ = some x4 ∧ w1.cell? ⟨w.heap.size, 5, none⟩ = some x5 := by
  refine ⟨?_, ?_, ?_, ?_, ?_, ?_⟩
  all_goals exact (hb.cell (p := ⟨w.heap.size, _, none⟩) hC).trans (by simp)
theorem box6f {w w1 : World} {C : Nat} {x0 x1 x2 x3 x4 x5 : Value} {t : TypeId} (hb : Below C (w.alloc (.cells #[x0, x1, x2, x3, x4, x5] t)) w1) (hC : w.heap.size < C) :
    w1.frozen? ⟨w.heap.size, 0, none⟩ = false ∧ w1.frozen? ⟨w.heap.size, 1, none⟩ = false ∧ w1.frozen? ⟨w.heap.size, 2, none⟩ = false ∧ w1.frozen? ⟨w.heap.size, 3, none⟩ = false ∧ w1.frozen? ⟨w.heap.size, 4, none⟩ = false ∧ w1.frozen? ⟨w.heap.size, 5, none⟩ = false := by
  refine ⟨?_, ?_, ?_, ?_, ?_, ?_⟩
  all_goals exact (hb.frozen (p := ⟨w.heap.size, _, none⟩) hC).trans (by simp)

/-- the closure -/
theorem wrong_any (r : Rc.Rec) (w : World) (b B : Nat) (vv : Value) (c1 : w.cell? ⟨b, 1, none⟩ = some (.int .i64 r.kind)) (c3 : w.cell? ⟨b, 3, none⟩ = some vv) (hv : Bs w B vv r.val) (hl : r.val.length ≤ 9223372036854775807) :
    Calls Tryd.prog 37 #[.pointer (some ⟨b, 0, none⟩)] w fun e w' => e = .returned (.bool (!Rc.kindB r)) ∧ w = w' := by
  obtain ⟨A, c, rfl, _, _⟩ := hv
  generalize hn : r.val.length = n at *
  by_cases k1 : r.kind = 1
  · rw [k1] at c1
    obtain ⟨q, hq⟩ : ∃ q, decide ((n : Int) ≤ 1024) = q := ⟨_, rfl⟩
    have hr : Rc.kindB r = q := by unfold Rc.kindB; rw [← hq, k1, hn, Bool.eq_iff_iff]; simp; omega
    rw [hr]
    have hc := mayValue_any A n c w q hq (by omega)
    clear hr hq
    go_enter Tryd.func37, Tryd.ntmps37
    go_wp2_with fail
    refine hc.mono ?_
    rintro e w1 ⟨rfl, rfl⟩
    go_wp2_with fail
    go_ret
    exact ⟨rfl, rfl⟩
  · by_cases k2 : r.kind = 2
    · rw [k2] at c1
      have hr : (!Rc.kindB r) = ((n : Int) != 0) := by unfold Rc.kindB; rw [k2, hn, Bool.eq_iff_iff]; simp
      rw [hr]
      clear hr
      go_enter Tryd.func37, Tryd.ntmps37
      go_wp2_with fail
      go_ret
      exact ⟨rfl, rfl⟩
    · have hr : (!Rc.kindB r) = true := by unfold Rc.kindB; simp [k1, k2]
      rw [hr]
      have e1 : (r.kind == 1) = false := by simp [k1]
      have e2 : (r.kind == 2) = false := by simp [k2]
      clear hr
      go_enter Tryd.func37, Tryd.ntmps37
      go_wp2_with fail
      go_ret
      exact ⟨rfl, rfl⟩

theorem may_false {r : Rc.Rec} (h : decide (1 ≤ r.seq) = false ∨ decide (r.seq ≤ 1099511627776) = false ∨ (r.key.length = 0 ∨ 64 < r.key.length) ∨ Lx.mayB r.seg r.off = false ∨ Rc.kindB r = false) : Rc.mayB r = false := by
  rcases h with h | h | h | h | h
  · simp [Rc.mayB] at h ⊢; omega
  · simp [Rc.mayB] at h ⊢; omega
  · unfold Rc.mayB
    have : decide (1 ≤ r.key.length ∧ r.key.length ≤ 64) = false := by simp; omega
    rw [this]; simp
  · unfold Rc.mayB; rw [h]; simp
  · unfold Rc.mayB; rw [h]; simp
theorem rmay_v (r : Rc.Rec) (w : World) (kv vv : Value) (hk : Bs w w.heap.size kv r.key) (hv : Bs w w.heap.size vv r.val) (f : Rc.Fit r) :
    Calls Tryd.prog 12 #[recV r.seq r.kind kv vv r.seg r.off] w fun e w' => e = .returned (.bool (Rc.mayB r)) ∧ Below w.heap.size w w' := by
  have b0 := bnew w (.cells #[.int .u64 r.seq, .int .i64 r.kind, kv, vv, .int .u32 r.seg, .int .u32 r.off] 28)
  have f0 := f.seq0
  have f1 := f.seq1
  by_cases s1 : 1 ≤ r.seq
  · by_cases s2 : r.seq ≤ 1099511627776
    · by_cases s3 : 1 ≤ r.key.length ∧ r.key.length ≤ 64
      · cases s4 : Lx.mayB r.seg r.off
        · rw [may_false (.inr (.inr (.inr (.inl s4))))]
          have S4 := Lib.hid s4
          clear s4
          unfold recV
          go_enter Tryd.func12, Tryd.ntmps12
          go_wp2_with fail
          refine (may_yes_b _ _ _ _ (hk.alloc (Nat.le_refl _) _) s3.1 s3.2).mono ?_
          rintro e w1 ⟨rfl, rfl⟩
          go_wp2_with fail
          refine (may_b _ _ _ f.seg0 f.seg1 f.off0 f.off1 _ S4.out).mono ?_
          rintro e w1 ⟨rfl, b1⟩
          go_wp2_with fail
          go_ret
          exact ⟨rfl, bstep b0 b1⟩
        · have hm : Rc.mayB r = Rc.kindB r := by
            unfold Rc.mayB
            rw [s4, show decide (1 ≤ r.seq ∧ r.seq ≤ 1099511627776) = true by simp; omega, show decide (1 ≤ r.key.length ∧ r.key.length ≤ 64) = true by simp; omega]
            simp
          rw [hm]
          have S4 := Lib.hid s4
          clear s4 hm
          unfold recV
          go_enter Tryd.func12, Tryd.ntmps12
          go_wp2_with fail
          refine (may_yes_b _ _ _ _ (hk.alloc (Nat.le_refl _) _) s3.1 s3.2).mono ?_
          rintro e w1 ⟨rfl, rfl⟩
          go_wp2_with fail
          refine (may_b _ _ _ f.seg0 f.seg1 f.off0 f.off1 _ S4.out).mono ?_
          rintro e w1 ⟨rfl, b1⟩
          go_wp2_with fail
          obtain ⟨c0, c1, c2, c3, c4, c5⟩ := box6 b1 (by simp)
          refine (wrong_any r _ _ _ vv c1 c3 ((hv.below b0 (Nat.le_refl _)).below b1 (by simp)) f.val1).mono ?_
          rintro e w2 ⟨rfl, rfl⟩
          go_wp2_with fail
          go_ret
          exact ⟨ret_bool (by simp), bstep b0 b1⟩
      · rw [may_false (.inr (.inr (.inl (by omega))))]
        have s4 : r.key.length = 0 ∨ 64 < r.key.length := by omega
        unfold recV
        go_enter Tryd.func12, Tryd.ntmps12
        go_wp2_with fail
        refine (may_no_b _ _ _ _ (hk.alloc (Nat.le_refl _) _) s4 (by have := f.key1; omega)).mono ?_
        rintro e w1 ⟨rfl, rfl⟩
        go_wp2_with fail
        go_ret
        exact ⟨rfl, b0⟩
    · have d2 : decide (r.seq ≤ 1099511627776) = false := by simp; omega
      rw [may_false (.inr (.inl d2))]
      unfold recV
      go_enter Tryd.func12, Tryd.ntmps12
      go_wp2_with fail
      go_ret
      exact ⟨rfl, b0⟩
  · have d1 : decide (1 ≤ r.seq) = false := by simp; omega
    rw [may_false (.inl d1)]
    unfold recV
    go_enter Tryd.func12, Tryd.ntmps12
    go_wp2_with fail
    go_ret
    exact ⟨rfl, b0⟩
theorem rmay_b (v : Value) (r : Rc.Rec) (B : Nat) (w : World) (h : RecV w B v r) (hB : B ≤ w.heap.size) (f : Rc.Fit r) :
    Calls Tryd.prog 12 #[v] w fun e w' => e = .returned (.bool (Rc.mayB r)) ∧ Below w.heap.size w w' := by
  obtain ⟨kv, vv, rfl, h1, h2⟩ := h.mono hB
  exact rmay_v r w kv vv h1 h2 f

/-- Size -/
theorem rsize_b (v : Value) (r : Rc.Rec) (B : Nat) (w : World) (h : RecV w B v r) (f1 : r.key.length ≤ 100000) (f2 : r.val.length ≤ 100000) :
    Calls Tryd.prog 16 #[v] w fun e w' => e = .returned (.int .i64 (Rc.sizeN r : Nat)) ∧ Below w.heap.size w w' := by
  obtain ⟨kv, vv, rfl, ⟨A, c, rfl, _, _⟩, ⟨A', c', rfl, _, _⟩⟩ := h
  have b0 := bnew w (.cells #[.int .u64 r.seq, .int .i64 r.kind, .slice A r.key.length c, .slice A' r.val.length c', .int .u32 r.seg, .int .u32 r.off] 28)
  unfold recV Rc.sizeN
  go_enter Tryd.func16, Tryd.ntmps16
  go_wp2_with fail
  go_ret
  exact ⟨ret_int (by omega), b0⟩
end Go.Proofs.YtmiljicohnfejaaDoor
