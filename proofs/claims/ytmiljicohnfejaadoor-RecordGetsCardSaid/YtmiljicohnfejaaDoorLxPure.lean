
/-
  Layer 3: the contracts of the functions over locs alone.
-/
import Derived.Test.YtmiljicohnfejaaDoorLxPlain
import Derived.Test.YtmiljicohnfejaaDoorPxClone
import Derived.Laws.StructEq
set_option linter.unusedVariables false
set_option linter.unusedSimpArgs false
namespace Go.Proofs.YtmiljicohnfejaaDoor
open Go.RowKit

/-- '==' of locs -/
theorem run_eql_loc (s o s' o' : Int) (w : World) : (binOp .eql 26 (.agg #[.int .u32 s, .int .u32 o]) (.agg #[.int .u32 s', .int .u32 o'])).run Tryd.prog w = .ok (.bool (decide (s = s' ∧ o = o'))) w := by
  have u := Tryd.underlying24
  have a := Tryd.isAgg24
  have z := Tryd.sizeOf24
  have hS : Tryd.prog.underlying 26 = some (.struct (Tryd.prog.fieldsOf 26)) := by kernel_rfl
  have hp : Tryd.prog.stoodInHeld 26 = false := by kernel_rfl
  rw [run_eql_struct, show (10000 : Nat) = 9999 + 1 from rfl, run_equalIn_agg w 9999 26 _ _ hS hp]
  simp only [Program.fieldsOf, Tryd.underlying26]
  go_simp
  by_cases h1 : s = s' <;> by_cases h2 : o = o' <;> simp [h1, h2]

theorem run_neq_loc (s o s' o' : Int) (w : World) : (binOp .neq 26 (.agg #[.int .u32 s, .int .u32 o]) (.agg #[.int .u32 s', .int .u32 o'])).run Tryd.prog w = .ok (.bool (!decide (s = s' ∧ o = o'))) w := by
  have u := Tryd.underlying24
  have a := Tryd.isAgg24
  have z := Tryd.sizeOf24
  have hS : Tryd.prog.underlying 26 = some (.struct (Tryd.prog.fieldsOf 26)) := by kernel_rfl
  have hp : Tryd.prog.stoodInHeld 26 = false := by kernel_rfl
  rw [run_neq_struct, show (10000 : Nat) = 9999 + 1 from rfl, run_equalIn_agg w 9999 26 _ _ hS hp]
  simp only [Program.fieldsOf, Tryd.underlying26]
  go_simp
  by_cases h1 : s = s' <;> by_cases h2 : o = o' <;> simp [h1, h2]

theorem guard_loc : Tryd.prog.eqGuardType Tryd.prog.depth 26 = false := by kernel_rfl

theorem ret_bool {a b : Bool} (h : a = b) : Ending.returned (.bool a) = .returned (.bool b) := by rw [h]
theorem bcell {W w1 : World} (hb : Below W.heap.size W w1) : (∀ b o, b < W.heap.size → w1.cell? ⟨b, o, none⟩ = W.cell? ⟨b, o, none⟩) ∧ (∀ b o, b < W.heap.size → w1.frozen? ⟨b, o, none⟩ = W.frozen? ⟨b, o, none⟩) :=
  ⟨fun b o h => hb.cell (p := ⟨b, o, none⟩) h, fun b o h => hb.frozen (p := ⟨b, o, none⟩) h⟩
/-- what a box of two cells holds, a call later -/
theorem box2 {w w1 : World} {x y : Value} {t : TypeId} (hb : Below (w.heap.size + 1) (w.alloc (.cells #[x, y] t)) w1) : w1.cell? ⟨w.heap.size, 0, none⟩ = some x ∧ w1.cell? ⟨w.heap.size, 1, none⟩ = some y := by
  refine ⟨(hb.cell (p := ⟨w.heap.size, 0, none⟩) (by simp)).trans (by simp), (hb.cell (p := ⟨w.heap.size, 1, none⟩) (by simp)).trans (by simp)⟩

theorem box2f {w w1 : World} {x y : Value} {t : TypeId} (hb : Below (w.heap.size + 1) (w.alloc (.cells #[x, y] t)) w1) : w1.cell? ⟨w.heap.size, 0, none⟩ = some x ∧ w1.cell? ⟨w.heap.size, 1, none⟩ = some y ∧ w1.frozen? ⟨w.heap.size, 0, none⟩ = false ∧ w1.frozen? ⟨w.heap.size, 1, none⟩ = false := by
  refine ⟨(hb.cell (p := ⟨w.heap.size, 0, none⟩) (by simp)).trans (by simp), (hb.cell (p := ⟨w.heap.size, 1, none⟩) (by simp)).trans (by simp), (hb.frozen (p := ⟨w.heap.size, 0, none⟩) (by simp)).trans (by simp), (hb.frozen (p := ⟨w.heap.size, 1, none⟩) (by simp)).trans (by simp)⟩
/-- what the second of two boxes holds, a call later; and the first -/
theorem box2' {w w1 : World} {x y x' y' : Value} {t t' : TypeId} (hb : Below (w.heap.size + 1 + 1) ((w.alloc (.cells #[x, y] t)).alloc (.cells #[x', y'] t')) w1) : w1.cell? ⟨w.heap.size + 1, 0, none⟩ = some x' ∧ w1.cell? ⟨w.heap.size + 1, 1, none⟩ = some y' := by
  have e : (w.alloc (.cells #[x, y] t)).heap.size = w.heap.size + 1 := by simp
  have h := box2 (w := w.alloc (.cells #[x, y] t)) (by rw [e]; exact hb)
  rw [e] at h
  exact h
theorem box1' {w w1 : World} {x y x' y' : Value} {t t' : TypeId} (hb : Below (w.heap.size + 1 + 1) ((w.alloc (.cells #[x, y] t)).alloc (.cells #[x', y'] t')) w1) : w1.cell? ⟨w.heap.size, 0, none⟩ = some x ∧ w1.cell? ⟨w.heap.size, 1, none⟩ = some y ∧ w1.frozen? ⟨w.heap.size, 0, none⟩ = false ∧ w1.frozen? ⟨w.heap.size, 1, none⟩ = false := by
  refine ⟨(hb.cell (p := ⟨w.heap.size, 0, none⟩) (by simp; omega)).trans ?_, (hb.cell (p := ⟨w.heap.size, 1, none⟩) (by simp; omega)).trans ?_, (hb.frozen (p := ⟨w.heap.size, 0, none⟩) (by simp; omega)).trans ?_, (hb.frozen (p := ⟨w.heap.size, 1, none⟩) (by simp; omega)).trans ?_⟩
  all_goals simp [World.cell?_alloc_lt]

theorem none_any (s o : Int) (w : World) :
    Calls Tryd.prog 53 #[lv s o] w fun e w' => e = .returned (.bool (Lx.noneB s o)) ∧ Below w.heap.size w w' := by
  unfold lv
  have he := run_eql_loc
  have hg := guard_loc
  go_enter Tryd.func53, Tryd.ntmps53
  go_wp2
  go_ret
  exact ⟨ret_bool (by unfold Lx.noneB; simp), (Below.refl _ _).alloc (Nat.le_refl _) _⟩

set_option maxRecDepth 100000 in
theorem stands_any (s o : Int) (w : World) (h0 : 0 ≤ s) (h1 : s < 4294967296) (h2 : 0 ≤ o) (h3 : o < 4294967296) :
    Calls Tryd.prog 54 #[lv s o] w fun e w' => e = .returned (.bool (Lx.standsB s o)) ∧ Below w.heap.size w w' := by
  unfold lv
  go_enter Tryd.func54, Tryd.ntmps54
  go_wp2
  all_goals go_ret
  all_goals refine ⟨ret_bool ?_, (Below.refl _ _).alloc (Nat.le_refl _) _⟩
  all_goals (unfold Lx.standsB; rw [Bool.eq_iff_iff]; simp; omega)

theorem bstep {a w w' : World} (h : Below a.heap.size a w) (h' : Below w.heap.size w w') : Below a.heap.size a w' := h.trans (h'.mono h.size)
theorem balloc {a w : World} (h : Below a.heap.size a w) (o : Obj) : Below a.heap.size a (w.alloc o) := h.alloc h.size o
theorem bnew (w : World) (o : Obj) : Below w.heap.size w (w.alloc o) := (Below.refl _ _).alloc (Nat.le_refl _) _

theorem none_b (s o : Int) (w : World) (b : Bool) (h : Lx.noneB s o = b) :
    Calls Tryd.prog 53 #[lv s o] w fun e w' => e = .returned (.bool b) ∧ Below w.heap.size w w' := h ▸ none_any s o w
theorem stands_b (s o : Int) (w : World) (h0 : 0 ≤ s) (h1 : s < 4294967296) (h2 : 0 ≤ o) (h3 : o < 4294967296) (b : Bool) (h : Lx.standsB s o = b) :
    Calls Tryd.prog 54 #[lv s o] w fun e w' => e = .returned (.bool b) ∧ Below w.heap.size w w' := h ▸ stands_any s o w h0 h1 h2 h3

theorem may_any (s o : Int) (w : World) (h0 : 0 ≤ s) (h1 : s < 4294967296) (h2 : 0 ≤ o) (h3 : o < 4294967296) :
    Calls Tryd.prog 40 #[lv s o] w fun e w' => e = .returned (.bool (Lx.mayB s o)) ∧ Below w.heap.size w w' := by
  cases hn : Lx.noneB s o
  · have hm : Lx.mayB s o = Lx.standsB s o := by simp [Lx.mayB, hn]
    rw [hm]
    have Hn := Lib.hid hn
    clear hn hm
    unfold lv
    go_enter Tryd.func40, Tryd.ntmps40
    go_wp2_with fail
    have b0 := bnew w (.cells #[.int .u32 s, .int .u32 o] 26)
    refine (none_b s o _ false Hn.out).mono ?_
    rintro e w1 ⟨rfl, hb⟩
    have b1 := bstep b0 hb
    simp only [World.size_alloc] at hb
    obtain ⟨c0, c1⟩ := box2 hb
    clear hb b0
    go_wp2_with fail
    refine (stands_any s o _ h0 h1 h2 h3).mono ?_
    rintro e w2 ⟨rfl, hb2⟩
    go_wp2_with fail
    go_ret
    exact ⟨rfl, bstep b1 hb2⟩
  · have hm : Lx.mayB s o = true := by simp [Lx.mayB, hn]
    rw [hm]
    have Hn := Lib.hid hn
    clear hn hm
    unfold lv
    go_enter Tryd.func40, Tryd.ntmps40
    go_wp2_with fail
    have b0 := bnew w (.cells #[.int .u32 s, .int .u32 o] 26)
    refine (none_b s o _ true Hn.out).mono ?_
    rintro e w1 ⟨rfl, hb⟩
    have b1 := bstep b0 hb
    clear hb b0
    go_wp2_with fail
    go_ret
    exact ⟨rfl, b1⟩
theorem may_b (s o : Int) (w : World) (h0 : 0 ≤ s) (h1 : s < 4294967296) (h2 : 0 ≤ o) (h3 : o < 4294967296) (b : Bool) (h : Lx.mayB s o = b) :
    Calls Tryd.prog 40 #[lv s o] w fun e w' => e = .returned (.bool b) ∧ Below w.heap.size w w' := h ▸ may_any s o w h0 h1 h2 h3

theorem pack_bits (s o : Int) (h0 : 0 ≤ s) (h1 : s < 4294967296) (h2 : 0 ≤ o) (h3 : o < 4294967296) : bits BinOp.or IntKind.u64 (s * 4294967296) o = s * 4294967296 + o := by
  obtain ⟨a, rfl⟩ := Int.eq_ofNat_of_zero_le h0
  obtain ⟨b, rfl⟩ := Int.eq_ofNat_of_zero_le h2
  rw [show ((a : Int) * 4294967296) = ((a * 4294967296 : Nat) : Int) by simp, u64_or_nat _ _ (by omega) (by omega)]
  have h := Nat.shiftLeft_add_eq_or_of_lt (i := 32) (b := b) (by omega) a
  rw [Nat.shiftLeft_eq] at h
  rw [← Int.natCast_add]
  congr 1
  rw [← h]

end Go.Proofs.YtmiljicohnfejaaDoor
