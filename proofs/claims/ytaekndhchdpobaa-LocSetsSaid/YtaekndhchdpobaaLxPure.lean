
/-
  Layer 3: the contracts of the functions over locs alone.
-/
import Derived.Test.YtaekndhchdpobaaLxPlain
import Derived.Test.YtaekndhchdpobaaPxClone
import Derived.Laws.StructEq
set_option linter.unusedVariables false
set_option linter.unusedSimpArgs false
namespace Go.Proofs.Ytaekndhchdpobaa
open Go.RowKit

/-- '==' of locs -/
theorem run_eql_loc (s o s' o' : Int) (w : World) : (binOp .eql 31 (.agg #[.int .u32 s, .int .u32 o]) (.agg #[.int .u32 s', .int .u32 o'])).run Try.prog w = .ok (.bool (decide (s = s' ∧ o = o'))) w := by
  have u := Try.underlying29
  have a := Try.isAgg29
  have z := Try.sizeOf29
  have hS : Try.prog.underlying 31 = some (.struct (Try.prog.fieldsOf 31)) := by kernel_rfl
  have hp : Try.prog.stoodInHeld 31 = false := by kernel_rfl
  rw [run_eql_struct, show (10000 : Nat) = 9999 + 1 from rfl, run_equalIn_agg w 9999 31 _ _ hS hp]
  simp only [Program.fieldsOf, Try.underlying31]
  go_simp
  by_cases h1 : s = s' <;> by_cases h2 : o = o' <;> simp [h1, h2]

theorem run_neq_loc (s o s' o' : Int) (w : World) : (binOp .neq 31 (.agg #[.int .u32 s, .int .u32 o]) (.agg #[.int .u32 s', .int .u32 o'])).run Try.prog w = .ok (.bool (!decide (s = s' ∧ o = o'))) w := by
  have u := Try.underlying29
  have a := Try.isAgg29
  have z := Try.sizeOf29
  have hS : Try.prog.underlying 31 = some (.struct (Try.prog.fieldsOf 31)) := by kernel_rfl
  have hp : Try.prog.stoodInHeld 31 = false := by kernel_rfl
  rw [run_neq_struct, show (10000 : Nat) = 9999 + 1 from rfl, run_equalIn_agg w 9999 31 _ _ hS hp]
  simp only [Program.fieldsOf, Try.underlying31]
  go_simp
  by_cases h1 : s = s' <;> by_cases h2 : o = o' <;> simp [h1, h2]

theorem guard_loc : Try.prog.eqGuardType Try.prog.depth 31 = false := by kernel_rfl

theorem ret_bool {a b : Bool} (h : a = b) : Ending.returned (.bool a) = .returned (.bool b) := by rw [h]
theorem bcell {W w1 : World} (hb : Below W.heap.size W w1) : (∀ b o, b < W.heap.size → w1.cell? ⟨b, o, none⟩ = W.cell? ⟨b, o, none⟩) ∧ (∀ b o, b < W.heap.size → w1.frozen? ⟨b, o, none⟩ = W.frozen? ⟨b, o, none⟩) :=
  ⟨fun b o h => hb.cell (p := ⟨b, o, none⟩) h, fun b o h => hb.frozen (p := ⟨b, o, none⟩) h⟩
/-- what a box of two cells holds, a call later -/
theorem box2 {w w1 : World} {x y : Value} {t : TypeId} (hb : Below (w.heap.size + 1) (w.alloc (.cells #[x, y] t)) w1) : w1.cell? ⟨w.heap.size, 0, none⟩ = some x ∧ w1.cell? ⟨w.heap.size, 1, none⟩ = some y := by
  refine ⟨(hb.cell (p := ⟨w.heap.size, 0, none⟩) (by simp)).trans (by simp), (hb.cell (p := ⟨w.heap.size, 1, none⟩) (by simp)).trans (by simp)⟩

theorem box2f {w w1 : World} {x y : Value} {t : TypeId} (hb : Below (w.heap.size + 1) (w.alloc (.cells #[x, y] t)) w1) : w1.cell? ⟨w.heap.size, 0, none⟩ = some x ∧ w1.cell? ⟨w.heap.size, 1, none⟩ = some y ∧ w1.frozen? ⟨w.heap.size, 0, none⟩ = false ∧ w1.frozen? ⟨w.heap.size, 1, none⟩ = false := by
  refine ⟨(hb.cell (p := ⟨w.heap.size, 0, none⟩) (by simp)).trans (by simp), (hb.cell (p := ⟨w.heap.size, 1, none⟩) (by simp)).trans (by simp), (hb.frozen (p := ⟨w.heap.size, 0, none⟩) (by simp)).trans (by simp), (hb.frozen (p := ⟨w.heap.size, 1, none⟩) (by simp)).trans (by simp)⟩
/-- what the second of two boxes holds, a call later; and the first -/
theorem box2' {w w1 : World} {x y x' y' : Value} {t t' : TypeId} (hb : Below (w.heap.size + 1 + 1) ((w.alloc (.cells #[x, y] t)).alloc (.cells #[x', y'] t')) w1) : w1.cell? ⟨w.heap.size + 1, 0, none⟩ = some x' ∧ w1.cell? ⟨w.heap.size + 1, 1, none⟩ = some y' := by
  have e : (w.alloc (.cells #[x, y] t)).heap.size = w.heap.size + 1 := by simp
  have h := box2 (w := w.alloc (.cells #[x, y] t)) (by rw [e]; exact hb)
  rw [e] at h
  exact h
theorem box1' {w w1 : World} {x y x' y' : Value} {t t' : TypeId} (hb : Below (w.heap.size + 1 + 1) ((w.alloc (.cells #[x, y] t)).alloc (.cells #[x', y'] t')) w1) : w1.cell? ⟨w.heap.size, 0, none⟩ = some x ∧ w1.cell? ⟨w.heap.size, 1, none⟩ = some y ∧ w1.frozen? ⟨w.heap.size, 0, none⟩ = false ∧ w1.frozen? ⟨w.heap.size, 1, none⟩ = false := by
  refine ⟨(hb.cell (p := ⟨w.heap.size, 0, none⟩) (by simp; omega)).trans ?_, (hb.cell (p := ⟨w.heap.size, 1, none⟩) (by simp; omega)).trans ?_, (hb.frozen (p := ⟨w.heap.size, 0, none⟩) (by simp; omega)).trans ?_, (hb.frozen (p := ⟨w.heap.size, 1, none⟩) (by simp; omega)).trans ?_⟩
  all_goals simp [World.cell?_alloc_lt]

theorem none_any (s o : Int) (w : World) :
    Calls Try.prog 57 #[lv s o] w fun e w' => e = .returned (.bool (Lx.noneB s o)) ∧ Below w.heap.size w w' := by
  unfold lv
  have he := run_eql_loc
  have hg := guard_loc
  go_enter Try.func57, Try.ntmps57
  go_wp2
  go_ret
  exact ⟨ret_bool (by unfold Lx.noneB; simp), (Below.refl _ _).alloc (Nat.le_refl _) _⟩

set_option maxRecDepth 100000 in
theorem stands_any (s o : Int) (w : World) (h0 : 0 ≤ s) (h1 : s < 4294967296) (h2 : 0 ≤ o) (h3 : o < 4294967296) :
    Calls Try.prog 37 #[lv s o] w fun e w' => e = .returned (.bool (Lx.standsB s o)) ∧ Below w.heap.size w w' := by
  unfold lv
  go_enter Try.func37, Try.ntmps37
  go_wp2
  all_goals go_ret
  all_goals refine ⟨ret_bool ?_, (Below.refl _ _).alloc (Nat.le_refl _) _⟩
  all_goals (unfold Lx.standsB; rw [Bool.eq_iff_iff]; simp; omega)

theorem bstep {a w w' : World} (h : Below a.heap.size a w) (h' : Below w.heap.size w w') : Below a.heap.size a w' := h.trans (h'.mono h.size)
theorem balloc {a w : World} (h : Below a.heap.size a w) (o : Obj) : Below a.heap.size a (w.alloc o) := h.alloc h.size o
theorem bnew (w : World) (o : Obj) : Below w.heap.size w (w.alloc o) := (Below.refl _ _).alloc (Nat.le_refl _) _

theorem none_b (s o : Int) (w : World) (b : Bool) (h : Lx.noneB s o = b) :
    Calls Try.prog 57 #[lv s o] w fun e w' => e = .returned (.bool b) ∧ Below w.heap.size w w' := h ▸ none_any s o w
theorem stands_b (s o : Int) (w : World) (h0 : 0 ≤ s) (h1 : s < 4294967296) (h2 : 0 ≤ o) (h3 : o < 4294967296) (b : Bool) (h : Lx.standsB s o = b) :
    Calls Try.prog 37 #[lv s o] w fun e w' => e = .returned (.bool b) ∧ Below w.heap.size w w' := h ▸ stands_any s o w h0 h1 h2 h3

theorem may_any (s o : Int) (w : World) (h0 : 0 ≤ s) (h1 : s < 4294967296) (h2 : 0 ≤ o) (h3 : o < 4294967296) :
    Calls Try.prog 55 #[lv s o] w fun e w' => e = .returned (.bool (Lx.mayB s o)) ∧ Below w.heap.size w w' := by
  cases hn : Lx.noneB s o
  · have hm : Lx.mayB s o = Lx.standsB s o := by simp [Lx.mayB, hn]
    rw [hm]
    have Hn := Lib.hid hn
    clear hn hm
    unfold lv
    go_enter Try.func55, Try.ntmps55
    go_wp2_with fail
    have b0 := bnew w (.cells #[.int .u32 s, .int .u32 o] 31)
    refine (none_b s o _ false Hn.out).mono ?_
    rintro e w1 ⟨rfl, hb⟩
    have b1 := bstep b0 hb
    simp only [World.size_alloc] at hb
    obtain ⟨c0, c1⟩ := box2 hb
    clear hb b0
    go_wp2_with fail
    refine (stands_any s o _ h0 h1 h2 h3).mono ?_
    rintro e w2 ⟨rfl, hb2⟩
    go_wp2_with fail
    go_ret
    exact ⟨rfl, bstep b1 hb2⟩
  · have hm : Lx.mayB s o = true := by simp [Lx.mayB, hn]
    rw [hm]
    have Hn := Lib.hid hn
    clear hn hm
    unfold lv
    go_enter Try.func55, Try.ntmps55
    go_wp2_with fail
    have b0 := bnew w (.cells #[.int .u32 s, .int .u32 o] 31)
    refine (none_b s o _ true Hn.out).mono ?_
    rintro e w1 ⟨rfl, hb⟩
    have b1 := bstep b0 hb
    clear hb b0
    go_wp2_with fail
    go_ret
    exact ⟨rfl, b1⟩
theorem may_b (s o : Int) (w : World) (h0 : 0 ≤ s) (h1 : s < 4294967296) (h2 : 0 ≤ o) (h3 : o < 4294967296) (b : Bool) (h : Lx.mayB s o = b) :
    Calls Try.prog 55 #[lv s o] w fun e w' => e = .returned (.bool b) ∧ Below w.heap.size w w' := h ▸ may_any s o w h0 h1 h2 h3

theorem pack_bits (s o : Int) (h0 : 0 ≤ s) (h1 : s < 4294967296) (h2 : 0 ≤ o) (h3 : o < 4294967296) : bits BinOp.or IntKind.u64 (s * 4294967296) o = s * 4294967296 + o := by
  obtain ⟨a, rfl⟩ := Int.eq_ofNat_of_zero_le h0
  obtain ⟨b, rfl⟩ := Int.eq_ofNat_of_zero_le h2
  rw [show ((a : Int) * 4294967296) = ((a * 4294967296 : Nat) : Int) by simp, u64_or_nat _ _ (by omega) (by omega)]
  have h := Nat.shiftLeft_add_eq_or_of_lt (i := 32) (b := b) (by omega) a
  rw [Nat.shiftLeft_eq] at h
  rw [← Int.natCast_add]
  congr 1
  rw [← h]

theorem pack_any (s o : Int) (w : World) (h0 : 0 ≤ s) (h1 : s < 4294967296) (h2 : 0 ≤ o) (h3 : o < 4294967296) :
    Calls Try.prog 43 #[lv s o] w fun e w' => e = .returned (.tuple #[.int .u64 (Lx.pkN s o), .int .i64 (Lx.pkE s o)]) ∧ Below w.heap.size w w' := by
  have Hpb := Lib.hid (pack_bits s o h0 h1 h2 h3)
  cases hm : Lx.mayB s o
  all_goals
    have e1 : Lx.pkN s o = if Lx.mayB s o then s * 4294967296 + o else 0 := rfl
    have e2 : Lx.pkE s o = if Lx.mayB s o then 0 else 1 := rfl
    rw [hm] at e1 e2
    simp only [if_pos, Bool.false_eq_true, if_neg, if_false] at e1 e2
    rw [e1, e2]
    have Hm := Lib.hid hm
    clear hm e1 e2
    unfold lv
    go_enter Try.func43, Try.ntmps43
    go_wp2_with fail
    have b0 := bnew w (.cells #[.int .u32 s, .int .u32 o] 31)
    refine (may_b s o _ h0 h1 h2 h3 _ Hm.out).mono ?_
    rintro e w1 ⟨rfl, hb⟩
    have b1 := bstep b0 hb
    simp only [World.size_alloc] at hb
    obtain ⟨c0, c1⟩ := box2 hb
    clear hb b0
    go_wp2_with fail
    go_ret2
  · exact ⟨rfl, b1⟩
  · refine ⟨?_, b1⟩
    rw [← Hpb.out]
    rfl

theorem unpack_any (n : Int) (w : World) (h0 : 0 ≤ n) (h1 : n < 18446744073709551616) :
    Calls Try.prog 44 #[.int .u64 n] w fun e w' => e = .returned (.tuple #[lv (Lx.unS n) (Lx.unO n), .int .i64 (Lx.unE n)]) ∧ Below w.heap.size w w' := by
  cases hm : Lx.mayB (n / 4294967296) (n % 4294967296)
  all_goals
    have e1 : Lx.unS n = if Lx.mayB (n / 4294967296) (n % 4294967296) then n / 4294967296 else 0 := rfl
    have e2 : Lx.unO n = if Lx.mayB (n / 4294967296) (n % 4294967296) then n % 4294967296 else 0 := rfl
    have e3 : Lx.unE n = if Lx.mayB (n / 4294967296) (n % 4294967296) then 0 else 1 := rfl
    rw [hm] at e1 e2 e3
    simp only [if_pos, Bool.false_eq_true, if_neg, if_false] at e1 e2 e3
    rw [e1, e2, e3]
    have Hm := Lib.hid hm
    clear hm e1 e2 e3
    unfold lv
    go_enter Try.func44, Try.ntmps44
    go_wp2_with fail
    have b0 := balloc (bnew w (.cells #[.int .u32 0, .int .u32 0] 31)) (.cells #[.int .u32 (n / 4294967296), .int .u32 (n % 4294967296)] 31)
    refine (may_b (n / 4294967296) (n % 4294967296) _ (by omega) (by omega) (by omega) (by omega) _ Hm.out).mono ?_
    rintro e w1 ⟨rfl, hb⟩
    have b1 := bstep b0 hb
    simp only [World.size_alloc] at hb
    obtain ⟨c0, c1⟩ := box2' hb
    obtain ⟨d0, d1, f0, f1⟩ := box1' hb
    clear b0
    have hz : w.heap.size + 2 ≤ w1.heap.size := by have := hb.size; simp at this; omega
    clear hb
    go_wp2_with fail
    exact bodyPost_ret (v := .tuple #[.agg #[.int .u32 _, .int .u32 _], .int .i64 _]) (by simp [results, Try.results44, go_sem, d0, d1]) rfl ⟨rfl, (b1.setCell (Nat.le_refl _) _).setCell (Nat.le_refl _) _⟩

theorem cmp32_any (x y : Int) (w : World) :
    Calls Try.prog 54 #[.int .u32 x, .int .u32 y] w fun e w' => e = .returned (.int .i64 (Lx.cmpI x y)) ∧ w = w' := by
  go_enter Try.func54, Try.ntmps54
  go_wp2
  all_goals go_ret
  all_goals refine ⟨ret_int ?_, rfl⟩
  all_goals (unfold Lx.cmpI; split <;> (try split) <;> omega)
end Go.Proofs.Ytaekndhchdpobaa
