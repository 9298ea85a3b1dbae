
/-
  Layer 6: the calls of no folder, and of one that New did not make.
-/
import Derived.Test.YtpjmjcjikaekiaaDoorHxKnows
set_option linter.unusedVariables false
set_option linter.unusedSimpArgs false
namespace Go.Proofs.YtpjmjcjikaekiaaDoor
open Go.RowKit Go.Maps

theorem box_zero {w : World} {Z : Nat} (hz : w.cell? ⟨Z, 1, none⟩ = some (.map none)) (o : Obj) : (w.alloc o).cell? ⟨Z, 1, none⟩ = some (.map none) := (World.cell?_alloc_lt _ _ _ (World.block_lt_of_cell? w ⟨Z, 1, none⟩ hz)).trans hz
set_option maxRecDepth 100000 in
theorem hcreate_nil (w : World) (n : ByteArray) : Calls Tryd.prog 4 #[.pointer none, .string n] w fun e w' => e = .returned (.tuple #[.int .u64 0, .int .i64 2]) ∧ Below w.heap.size w w' := by
  go_enter Tryd.func4, Tryd.ntmps4
  go_wp2_with (go_at_call 18; refine (hmade_nil _).mono ?_; rintro e w' ⟨rfl, rfl⟩)
  go_ret2
  exact ⟨rfl, (Below.refl _ _).alloc (Nat.le_refl _) _⟩
set_option maxRecDepth 100000 in
theorem hcreate_zero (w : World) (n : ByteArray) {Z : Nat} (hz : w.cell? ⟨Z, 1, none⟩ = some (.map none)) : Calls Tryd.prog 4 #[.pointer (some ⟨Z, 0, none⟩), .string n] w fun e w' => e = .returned (.tuple #[.int .u64 0, .int .i64 2]) ∧ Below w.heap.size w w' := by
  go_enter Tryd.func4, Tryd.ntmps4
  go_wp2_with (go_at_call 18; refine (hmade_zero (by first | exact hz | exact box_zero hz _ | exact box_zero (box_zero hz _) _)).mono ?_; rintro e w' ⟨rfl, rfl⟩)
  go_ret2
  exact ⟨rfl, (Below.refl _ _).alloc (Nat.le_refl _) _⟩
set_option maxRecDepth 100000 in
theorem hfind_nil (w : World) (n : ByteArray) : Calls Tryd.prog 5 #[.pointer none, .string n] w fun e w' => e = .returned (.tuple #[.int .u64 0, .bool false]) ∧ Below w.heap.size w w' := by
  go_enter Tryd.func5, Tryd.ntmps5
  go_wp2_with (go_at_call 18; refine (hmade_nil _).mono ?_; rintro e w' ⟨rfl, rfl⟩)
  go_ret2
  exact ⟨rfl, Below.refl _ _⟩
set_option maxRecDepth 100000 in
theorem hfind_zero (w : World) (n : ByteArray) {Z : Nat} (hz : w.cell? ⟨Z, 1, none⟩ = some (.map none)) : Calls Tryd.prog 5 #[.pointer (some ⟨Z, 0, none⟩), .string n] w fun e w' => e = .returned (.tuple #[.int .u64 0, .bool false]) ∧ Below w.heap.size w w' := by
  go_enter Tryd.func5, Tryd.ntmps5
  go_wp2_with (go_at_call 18; refine (hmade_zero (by first | exact hz | exact box_zero hz _ | exact box_zero (box_zero hz _) _)).mono ?_; rintro e w' ⟨rfl, rfl⟩)
  go_ret2
  exact ⟨rfl, Below.refl _ _⟩
set_option maxRecDepth 100000 in
theorem hrename_nil (w : World) (n to : ByteArray) : Calls Tryd.prog 6 #[.pointer none, .string n, .string to] w fun e w' => e = .returned (.int .i64 2) ∧ Below w.heap.size w w' := by
  go_enter Tryd.func6, Tryd.ntmps6
  go_wp2_with (go_at_call 18; refine (hmade_nil _).mono ?_; rintro e w' ⟨rfl, rfl⟩)
  go_ret
  exact ⟨rfl, ((Below.refl _ _).alloc (Nat.le_refl _) _).alloc (by simp) _⟩
set_option maxRecDepth 100000 in
theorem hrename_zero (w : World) (n to : ByteArray) {Z : Nat} (hz : w.cell? ⟨Z, 1, none⟩ = some (.map none)) : Calls Tryd.prog 6 #[.pointer (some ⟨Z, 0, none⟩), .string n, .string to] w fun e w' => e = .returned (.int .i64 2) ∧ Below w.heap.size w w' := by
  go_enter Tryd.func6, Tryd.ntmps6
  go_wp2_with (go_at_call 18; refine (hmade_zero (by first | exact hz | exact box_zero hz _ | exact box_zero (box_zero hz _) _)).mono ?_; rintro e w' ⟨rfl, rfl⟩)
  go_ret
  exact ⟨rfl, ((Below.refl _ _).alloc (Nat.le_refl _) _).alloc (by simp) _⟩
set_option maxRecDepth 100000 in
theorem hremove_nil (w : World) (n : ByteArray) : Calls Tryd.prog 7 #[.pointer none, .string n] w fun e w' => e = .returned (.int .i64 2) ∧ Below w.heap.size w w' := by
  go_enter Tryd.func7, Tryd.ntmps7
  go_wp2_with (go_at_call 18; refine (hmade_nil _).mono ?_; rintro e w' ⟨rfl, rfl⟩)
  go_ret
  exact ⟨rfl, (Below.refl _ _).alloc (Nat.le_refl _) _⟩
set_option maxRecDepth 100000 in
theorem hremove_zero (w : World) (n : ByteArray) {Z : Nat} (hz : w.cell? ⟨Z, 1, none⟩ = some (.map none)) : Calls Tryd.prog 7 #[.pointer (some ⟨Z, 0, none⟩), .string n] w fun e w' => e = .returned (.int .i64 2) ∧ Below w.heap.size w w' := by
  go_enter Tryd.func7, Tryd.ntmps7
  go_wp2_with (go_at_call 18; refine (hmade_zero (by first | exact hz | exact box_zero hz _ | exact box_zero (box_zero hz _) _)).mono ?_; rintro e w' ⟨rfl, rfl⟩)
  go_ret
  exact ⟨rfl, (Below.refl _ _).alloc (Nat.le_refl _) _⟩
set_option maxRecDepth 100000 in
theorem hsync_nil (w : World) : Calls Tryd.prog 8 #[.pointer none] w fun e w' => e = .returned (.int .i64 2) ∧ Below w.heap.size w w' := by
  go_enter Tryd.func8, Tryd.ntmps8
  go_wp2_with (go_at_call 18; refine (hmade_nil _).mono ?_; rintro e w' ⟨rfl, rfl⟩)
  go_ret
  exact ⟨rfl, Below.refl _ _⟩
set_option maxRecDepth 100000 in
theorem hsync_zero (w : World) {Z : Nat} (hz : w.cell? ⟨Z, 1, none⟩ = some (.map none)) : Calls Tryd.prog 8 #[.pointer (some ⟨Z, 0, none⟩)] w fun e w' => e = .returned (.int .i64 2) ∧ Below w.heap.size w w' := by
  go_enter Tryd.func8, Tryd.ntmps8
  go_wp2_with (go_at_call 18; refine (hmade_zero (by first | exact hz | exact box_zero hz _ | exact box_zero (box_zero hz _) _)).mono ?_; rintro e w' ⟨rfl, rfl⟩)
  go_ret
  exact ⟨rfl, Below.refl _ _⟩
set_option maxRecDepth 100000 in
theorem hcrash_nil (w : World) (k : Int) : Calls Tryd.prog 9 #[.pointer none, .int .i64 k] w fun e w' => e = .returned (.int .i64 2) ∧ Below w.heap.size w w' := by
  go_enter Tryd.func9, Tryd.ntmps9
  go_wp2_with (go_at_call 18; refine (hmade_nil _).mono ?_; rintro e w' ⟨rfl, rfl⟩)
  go_ret
  exact ⟨rfl, Below.refl _ _⟩
set_option maxRecDepth 100000 in
theorem hcrash_zero (w : World) (k : Int) {Z : Nat} (hz : w.cell? ⟨Z, 1, none⟩ = some (.map none)) : Calls Tryd.prog 9 #[.pointer (some ⟨Z, 0, none⟩), .int .i64 k] w fun e w' => e = .returned (.int .i64 2) ∧ Below w.heap.size w w' := by
  go_enter Tryd.func9, Tryd.ntmps9
  go_wp2_with (go_at_call 18; refine (hmade_zero (by first | exact hz | exact box_zero hz _ | exact box_zero (box_zero hz _) _)).mono ?_; rintro e w' ⟨rfl, rfl⟩)
  go_ret
  exact ⟨rfl, Below.refl _ _⟩
set_option maxRecDepth 100000 in
theorem hlist_nil (w : World) : Calls Tryd.prog 10 #[.pointer none] w fun e w' => e = .returned (.slice none 0 0) ∧ Below w.heap.size w w' := by
  go_enter Tryd.func10, Tryd.ntmps10
  go_wp2_with (go_at_call 18; refine (hmade_nil _).mono ?_; rintro e w' ⟨rfl, rfl⟩)
  go_ret
  exact ⟨rfl, Below.refl _ _⟩
set_option maxRecDepth 100000 in
theorem hlist_zero (w : World) {Z : Nat} (hz : w.cell? ⟨Z, 1, none⟩ = some (.map none)) : Calls Tryd.prog 10 #[.pointer (some ⟨Z, 0, none⟩)] w fun e w' => e = .returned (.slice none 0 0) ∧ Below w.heap.size w w' := by
  go_enter Tryd.func10, Tryd.ntmps10
  go_wp2_with (go_at_call 18; refine (hmade_zero (by first | exact hz | exact box_zero hz _ | exact box_zero (box_zero hz _) _)).mono ?_; rintro e w' ⟨rfl, rfl⟩)
  go_ret
  exact ⟨rfl, Below.refl _ _⟩
set_option maxRecDepth 100000 in
theorem hloose_nil (w : World) : Calls Tryd.prog 11 #[.pointer none] w fun e w' => e = .returned (.int .i64 0) ∧ Below w.heap.size w w' := by
  go_enter Tryd.func11, Tryd.ntmps11
  go_wp2_with (go_at_call 18; refine (hmade_nil _).mono ?_; rintro e w' ⟨rfl, rfl⟩)
  go_ret
  exact ⟨rfl, Below.refl _ _⟩
set_option maxRecDepth 100000 in
theorem hloose_zero (w : World) {Z : Nat} (hz : w.cell? ⟨Z, 1, none⟩ = some (.map none)) : Calls Tryd.prog 11 #[.pointer (some ⟨Z, 0, none⟩)] w fun e w' => e = .returned (.int .i64 0) ∧ Below w.heap.size w w' := by
  go_enter Tryd.func11, Tryd.ntmps11
  go_wp2_with (go_at_call 18; refine (hmade_zero (by first | exact hz | exact box_zero hz _ | exact box_zero (box_zero hz _) _)).mono ?_; rintro e w' ⟨rfl, rfl⟩)
  go_ret
  exact ⟨rfl, Below.refl _ _⟩
set_option maxRecDepth 100000 in
theorem hlive_nil (w : World) : Calls Tryd.prog 12 #[.pointer none] w fun e w' => e = .returned (.slice none 0 0) ∧ Below w.heap.size w w' := by
  go_enter Tryd.func12, Tryd.ntmps12
  go_wp2_with (go_at_call 18; refine (hmade_nil _).mono ?_; rintro e w' ⟨rfl, rfl⟩)
  go_ret
  exact ⟨rfl, Below.refl _ _⟩
set_option maxRecDepth 100000 in
theorem hlive_zero (w : World) {Z : Nat} (hz : w.cell? ⟨Z, 1, none⟩ = some (.map none)) : Calls Tryd.prog 12 #[.pointer (some ⟨Z, 0, none⟩)] w fun e w' => e = .returned (.slice none 0 0) ∧ Below w.heap.size w w' := by
  go_enter Tryd.func12, Tryd.ntmps12
  go_wp2_with (go_at_call 18; refine (hmade_zero (by first | exact hz | exact box_zero hz _ | exact box_zero (box_zero hz _) _)).mono ?_; rintro e w' ⟨rfl, rfl⟩)
  go_ret
  exact ⟨rfl, Below.refl _ _⟩
set_option maxRecDepth 100000 in
theorem hcopy_nil (w : World) : Calls Tryd.prog 13 #[.pointer none] w fun e w' => e = .returned (.pointer none) ∧ Below w.heap.size w w' := by
  go_enter Tryd.func13, Tryd.ntmps13
  go_wp2_with (go_at_call 18; refine (hmade_nil _).mono ?_; rintro e w' ⟨rfl, rfl⟩)
  go_ret
  exact ⟨rfl, Below.refl _ _⟩
set_option maxRecDepth 100000 in
theorem hcopy_zero (w : World) {Z : Nat} (hz : w.cell? ⟨Z, 1, none⟩ = some (.map none)) : Calls Tryd.prog 13 #[.pointer (some ⟨Z, 0, none⟩)] w fun e w' => e = .returned (.pointer none) ∧ Below w.heap.size w w' := by
  go_enter Tryd.func13, Tryd.ntmps13
  go_wp2_with (go_at_call 18; refine (hmade_zero (by first | exact hz | exact box_zero hz _ | exact box_zero (box_zero hz _) _)).mono ?_; rintro e w' ⟨rfl, rfl⟩)
  go_ret
  exact ⟨rfl, Below.refl _ _⟩
end Go.Proofs.YtpjmjcjikaekiaaDoor
