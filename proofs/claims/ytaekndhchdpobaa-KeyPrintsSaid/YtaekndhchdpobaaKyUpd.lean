
/-
  Layer 4: 'at[y] += 2' on a map of one print: what each of its steps does, whether y is there or not.
-/
import Derived.Test.YtaekndhchdpobaaKyMap
import Derived.IntWalk
set_option linter.unusedVariables false
set_option linter.unusedSimpArgs false
namespace Go.Proofs.Ytaekndhchdpobaa
open Go.RowKit Go.Maps

set_option maxRecDepth 100000 in
theorem upd {W : World} {B n m : Nat} {f g : Nat → Nat} (h : MapIs W B #[⟨prv n f, .int .i64 1, 0⟩] 1) (hF : Fit n f) (hG : Fit m g) (q : Bool) (hq : q = true ↔ prv m g = prv n f) :
    ∃ (x y st : Int) (k : Nat) (v : Value) (W4 W5 : World) (es : Array MapEntry) (c : Nat),
      (Instr.lookup 64 (.map (some B)) (.agg (prCells m g).toArray) false).run Try.prog W = .ok (.int .i64 x) W ∧
      (Instr.lookup 64 (.map (some B)) (.agg (prCells m g).toArray) false).run Try.prog W4 = .ok (.int .i64 x) W4 ∧
      (IntKind.i64.wrap (x + 2) = y ∧ x + 2 = y ∧ 2 ≤ y ∧ y ≤ 3) ∧
      (Instr.mapEntry 64 (.map (some B)) (.agg (prCells m g).toArray)).run Try.prog W = .ok (.tuple #[v, .int .i64 st]) W4 ∧
      (Instr.entryStore 64 (.map (some B)) (.int .i64 st) (.int .i64 y)).run Try.prog W4 = .ok () W5 ∧
      W.grownBy W4 (some B) ∧ W4.grownBy W5 (some B) ∧ MapIs W5 B es c ∧ (es.size = k ∧ ((k : Int) == 1) = q) ∧
      ∀ w', MapIs w' B es c → (Instr.lookup 64 (.map (some B)) (.agg (prCells m g).toArray) false).run Try.prog w' = .ok (.int .i64 y) w' := by
  show ∃ (x y st : Int) (k : Nat) (v : Value) (W4 W5 : World) (es : Array MapEntry) (c : Nat),
      (Instr.lookup 64 (.map (some B)) (prv m g) false).run Try.prog W = .ok (.int .i64 x) W ∧
      (Instr.lookup 64 (.map (some B)) (prv m g) false).run Try.prog W4 = .ok (.int .i64 x) W4 ∧
      (IntKind.i64.wrap (x + 2) = y ∧ x + 2 = y ∧ 2 ≤ y ∧ y ≤ 3) ∧
      (Instr.mapEntry 64 (.map (some B)) (prv m g)).run Try.prog W = .ok (.tuple #[v, .int .i64 st]) W4 ∧
      (Instr.entryStore 64 (.map (some B)) (.int .i64 st) (.int .i64 y)).run Try.prog W4 = .ok () W5 ∧
      W.grownBy W4 (some B) ∧ W4.grownBy W5 (some B) ∧ MapIs W5 B es c ∧ (es.size = k ∧ ((k : Int) == 1) = q) ∧
      ∀ w', MapIs w' B es c → (Instr.lookup 64 (.map (some B)) (prv m g) false).run Try.prog w' = .ok (.int .i64 y) w'
  have one : ∀ {w' : World} {val : Int} {c : Nat}, MapIs w' B #[⟨prv n f, .int .i64 val, 0⟩] c → prv m g = prv n f → (Instr.lookup 64 (.map (some B)) (prv m g) false).run Try.prog w' = .ok (.int .i64 val) w' := by
    intro w' val c hm e
    obtain ⟨r, hr, h1, _⟩ := find1 hG hF (.int .i64 val) 0 w'
    have hr1 := h1 e
    exact run_look hm hG r hr val (fun j v hj => by rw [hr1] at hj; injection hj with hj; injection hj with _ hj; exact hj.symm) (fun hn => by rw [hr1] at hn; cases hn)
  by_cases e : prv m g = prv n f
  · obtain rfl : q = true := hq.2 e
    have h' := h
    rw [← e] at h'
    have s1 := h'.set #[⟨prv m g, .int .i64 1, 0⟩] 1
    have s2 := s1.1.set #[⟨prv m g, .int .i64 3, 0⟩] 1
    refine ⟨1, 3, 0, 1, .int .i64 1, setM W B #[⟨prv m g, .int .i64 1, 0⟩] 1, setM (setM W B #[⟨prv m g, .int .i64 1, 0⟩] 1) B #[⟨prv m g, .int .i64 3, 0⟩] 1, #[⟨prv m g, .int .i64 3, 0⟩], 1, one h e, one (val := 1) (c := 1) (by rw [e] at s1 ⊢; exact s1.1) e, ⟨by rw [IntWalk.i64_in _ (by omega)]; rfl, by omega, by omega, by omega⟩, run_entry1 h' hG, run_store1 s1.1, s1.2, s2.2, s2.1, ⟨rfl, rfl⟩, fun w' hw => one (val := 3) (c := 1) (by rw [e] at hw; exact hw) e⟩
  · obtain rfl : q = false := by
      cases q
      · rfl
      · exact absurd (hq.1 rfl) e
    have s1 := h.set #[⟨prv n f, .int .i64 1, 0⟩, ⟨prv m g, .int .i64 0, 1⟩] 2
    have s2 := s1.1.set #[⟨prv n f, .int .i64 1, 0⟩, ⟨prv m g, .int .i64 2, 1⟩] 2
    obtain ⟨r, hr, _, h1⟩ := find1 hG hF (.int .i64 1) 0 W
    have hr1 := h1 e
    have two : ∀ {w' : World} {val : Int}, MapIs w' B #[⟨prv n f, .int .i64 1, 0⟩, ⟨prv m g, .int .i64 val, 1⟩] 2 → (Instr.lookup 64 (.map (some B)) (prv m g) false).run Try.prog w' = .ok (.int .i64 val) w' := by
      intro w' val hm
      exact run_look hm hG (some (1, .int .i64 val)) (find2 hG hF e _ _ _ _ w') val (fun j v hj => by injection hj with hj; injection hj with _ hj; exact hj.symm) (fun hn => by cases hn)
    refine ⟨0, 2, 1, 2, .int .i64 0, setM W B #[⟨prv n f, .int .i64 1, 0⟩, ⟨prv m g, .int .i64 0, 1⟩] 2, setM (setM W B #[⟨prv n f, .int .i64 1, 0⟩, ⟨prv m g, .int .i64 0, 1⟩] 2) B #[⟨prv n f, .int .i64 1, 0⟩, ⟨prv m g, .int .i64 2, 1⟩] 2, #[⟨prv n f, .int .i64 1, 0⟩, ⟨prv m g, .int .i64 2, 1⟩], 2,
      run_look h hG r hr 0 (fun j v hj => by rw [hr1] at hj; cases hj) (fun _ => rfl), two s1.1, ⟨by rw [IntWalk.i64_in _ (by omega)]; rfl, by omega, by omega, by omega⟩, run_entry2 h hG hF e, run_store2 s1.1, s1.2, s2.2, s2.1, ⟨rfl, rfl⟩, fun w' hw => two hw⟩
end Go.Proofs.Ytaekndhchdpobaa
