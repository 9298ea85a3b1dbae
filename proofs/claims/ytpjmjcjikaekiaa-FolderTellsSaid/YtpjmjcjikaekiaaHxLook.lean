
/-
  Layer 6: the program's folder: New, made, May, has, Find, Loose.
-/
import Derived.Test.YtpjmjcjikaekiaaHxMem
set_option linter.unusedVariables false
set_option linter.unusedSimpArgs false
namespace Go.Proofs.Ytpjmjcjikaekiaa
open Go.RowKit Go.Maps

set_option maxRecDepth 100000 in
theorem hnew (w : World) : Calls Try.prog 7 #[] w fun e w' => ∃ X M, e = .returned (.pointer (some ⟨X, 0, none⟩)) ∧ HFolM w' X M (fun _ => False) PSt.new ∧ Below w.heap.size w w' ∧ ∀ i, M i → w.heap.size ≤ i := by
  have hmm : ∀ w, (Instr.makeMap 62 none).run Try.prog w = .ok (.map (some w.heap.size)) (w.alloc (.map #[] 0)) := fun w => by
    simp [Instr.makeMap, run_underlying Try.underlying62, go_sem, Result.andThen]
  go_enter Try.func7, Try.ntmps7
  go_wp2
  go_ret
  obtain ⟨w1, hw1⟩ : ∃ w1, w1 = w.alloc (.map #[] 0) := ⟨_, rfl⟩
  obtain ⟨w2, hw2⟩ : ∃ w2, w2 = w1.alloc (.map #[] 0) := ⟨_, rfl⟩
  have s1 : w1.heap.size = w.heap.size + 1 := by rw [hw1]; simp
  have s2 : w2.heap.size = w.heap.size + 2 := by rw [hw2]; simp [s1]
  have m1 : MapAt w1 w.heap.size [] := by rw [hw1]; exact MapAt.new w
  have b12 : Below w1.heap.size w1 w2 := by rw [hw2]; exact (Below.refl _ _).alloc (Nat.le_refl _) _
  have m2 : MapAt w2 (w.heap.size + 1) [] := by rw [hw2, ← s1]; exact MapAt.new w1
  have hc := HCells.new w2 w.heap.size (w.heap.size + 1) (.slice none 0 0) 0 0 65
  have b23 : Below w2.heap.size w2 (w2.alloc (.cells #[.map (some w.heap.size), .map (some (w.heap.size + 1)), .slice none 0 0, .int .u64 ((0 : Nat) : Int), .int .u64 ((0 : Nat) : Int)] 65)) := (Below.refl _ _).alloc (Nat.le_refl _) _
  refine ⟨w2.heap.size, fun i => w.heap.size ≤ i ∧ i < w.heap.size + 3, by simp [hw2, hw1], ⟨PSt.new_ok, fun i h e => e, fun i hi => ?_, fun i hi => hi.elim, w.heap.size, w.heap.size + 1, .slice none 0 0, [], ⟨?_, ?_, ?_, World.ownsRow_nil _ _ _ _, DdsAt.nil_, by omega, fun i hi e => e⟩, by simp [Value.ownBlock], ?_⟩, ?_, fun i hi => hi.1⟩
  · simp
    have := hi.2
    omega
  · rw [hw2, hw1] at hc ⊢
    exact hc
  · have := (m1.on b12).on b23
    rw [hw2, hw1] at this
    exact this
  · have := m2.on b23
    rw [hw2, hw1] at this
    exact this
  · rintro i (rfl | rfl | rfl | hi)
    · omega
    · omega
    · omega
    · simp [Value.ownBlock] at hi
  · exact (((Below.refl _ _).alloc (Nat.le_refl _) _).alloc (by simp) _).alloc (by simp; omega) _
set_option maxRecDepth 100000 in
theorem hmade {w : World} {X bs bn : Nat} {vd : Value} {last settled : Nat} (h : HCells w X bs bn vd last settled) : Calls Try.prog 27 #[.pointer (some ⟨X, 0, none⟩)] w fun e w' => e = .returned (.bool true) ∧ w = w' := by
  have hc := h.c1
  clear h
  have hn := fun w => run_neq_map_nil (P := Try.prog) w 62 9 29 (some bn) Try.underlying62
  simp only [Option.isNone_some, Bool.not_false] at hn
  go_enter Try.func27, Try.ntmps27
  go_wp2
  go_ret
  exact ⟨rfl, rfl⟩
set_option maxRecDepth 100000 in
theorem hmade_nil (w : World) : Calls Try.prog 27 #[.pointer none] w fun e w' => e = .returned (.bool false) ∧ w = w' := by
  go_enter Try.func27, Try.ntmps27
  go_wp2
  go_ret
  exact ⟨rfl, rfl⟩
set_option maxRecDepth 100000 in
theorem hmade_zero {w : World} {X : Nat} (hc : w.cell? ⟨X, 1, none⟩ = some (.map none)) : Calls Try.prog 27 #[.pointer (some ⟨X, 0, none⟩)] w fun e w' => e = .returned (.bool false) ∧ w = w' := by
  have hn := fun w => run_neq_map_nil (P := Try.prog) w 62 9 29 none Try.underlying62
  simp only [Option.isNone_none, Bool.not_true] at hn
  go_enter Try.func27, Try.ntmps27
  go_wp2
  go_ret
  exact ⟨rfl, rfl⟩
set_option maxRecDepth 100000 in
theorem hhas {w : World} {X bs bn : Nat} {vd : Value} {last settled : Nat} {es : List Ent} (h : HCells w X bs bn vd last settled) (hm : MapAt w bn es) {n : ByteArray} (hn : n.size ≤ maxLen) :
    Calls Try.prog 30 #[.pointer (some ⟨X, 0, none⟩), .string n] w fun e w' => e = .returned (.bool (findL es n).isSome) ∧ w = w' := by
  have hc := h.c1
  have hl := (hm.look hn).1
  clear h hm
  generalize ((findL es n).getD 0 : Int) = c at hl
  generalize (findL es n).isSome = q at hl ⊢
  go_enter Try.func30, Try.ntmps30
  go_wp2
  go_ret
  exact ⟨rfl, rfl⟩
set_option maxRecDepth 100000 in
theorem hfind {w : World} {X bs bn : Nat} {vd : Value} {last settled : Nat} {es : List Ent} (h : HCells w X bs bn vd last settled) (hm : MapAt w bn es) {n : ByteArray} (hn : n.size ≤ maxLen) :
    Calls Try.prog 15 #[.pointer (some ⟨X, 0, none⟩), .string n] w fun e w' => e = .returned (.tuple #[.int .u64 (((findL es n).getD 0 : Nat) : Int), .bool (findL es n).isSome]) ∧ w = w' := by
  have H := Lib.hid h
  have hc := h.c1
  have hl := (hm.look hn).1
  clear h hm
  generalize ((findL es n).getD 0 : Int) = c at hl ⊢
  generalize (findL es n).isSome = q at hl ⊢
  go_enter Try.func15, Try.ntmps15
  go_wp2_with (go_at_call 27; refine (hmade H.out).mono ?_; rintro e w' ⟨rfl, rfl⟩)
  go_ret2
  exact ⟨rfl, rfl⟩
set_option maxRecDepth 100000 in
theorem hloose {w : World} {X bs bn : Nat} {A : Option Addr} {k c last settled : Nat} (h : HCells w X bs bn (.slice A k c) last settled) :
    Calls Try.prog 21 #[.pointer (some ⟨X, 0, none⟩)] w fun e w' => e = .returned (.int .i64 (k : Int)) ∧ w = w' := by
  have H := Lib.hid h
  have hc := h.c2
  clear h
  go_enter Try.func21, Try.ntmps21
  go_wp2_with (go_at_call 27; refine (hmade H.out).mono ?_; rintro e w' ⟨rfl, rfl⟩)
  go_ret
  exact ⟨rfl, rfl⟩
end Go.Proofs.Ytpjmjcjikaekiaa
