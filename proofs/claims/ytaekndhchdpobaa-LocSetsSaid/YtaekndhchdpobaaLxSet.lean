
/-
  Layer 3: sets in memory (a struct with a map, behind a pointer), and the contracts of the set's functions that only look.
-/
import Derived.Test.YtaekndhchdpobaaKx
import Derived.Test.YtaekndhchdpobaaRegion
import Derived.Deep.RegionHeld3
import Derived.Laws.Cover3
import Derived.Deep.DrawnRows
import Derived.Deep.DeepCutAuto
set_option linter.unusedVariables false
set_option linter.unusedSimpArgs false
namespace Go.Proofs.Ytaekndhchdpobaa
open Go.RowKit Go.Maps

/-- block bm is a map of locs that reads as D -/
abbrev OM (w : World) (bm n : Nat) (D : DataW Unit) : Prop := w.ownsMap Try.prog 31 (plainElem Try.prog 32) bm n D
/-- the set at block bs: its map, at block bm, of at most n locs, reads as D -/
structure SetAt (w : World) (bs bm n : Nat) (D : DataW Unit) : Prop where
  cell : w.cell? ⟨bs, 0, none⟩ = some (.map (some bm))
  own : OM w bm n D
theorem block_of_cell {w : World} {b o : Nat} {v : Value} (h : w.cell? ⟨b, o, none⟩ = some v) : b < w.heap.size := World.block_lt_of_cell? w ⟨b, o, none⟩ h
section
variable {w w' : World} {bs bm n : Nat} {D : DataW Unit}
theorem SetAt.lt (h : SetAt w bs bm n D) : bs < w.heap.size := block_of_cell h.cell
theorem SetAt.ne (h : SetAt w bs bm n D) : bs ≠ bm := by
  intro e
  obtain ⟨es, clock, hb, _⟩ := h.own
  have := h.cell
  rw [e] at this
  simp [World.cell?, hb] at this
theorem SetAt.grown {row : Option Nat} (h : SetAt w bs bm n D) (hg : w.grownBy w' row) (h1 : some bs ≠ row) (h2 : some bm ≠ row) : SetAt w' bs bm n D :=
  ⟨(World.cell?_of_block (hg.block bs h.lt h1)).trans h.cell, h.own.kept hg h2⟩
theorem gby {row : Option Nat} (h : Below w.heap.size w w') : w.grownBy w' row := ⟨h.os, h.tape, h.output, h.size, fun i hi _ => h.block i hi⟩
theorem SetAt.on (h : SetAt w bs bm n D) (hb : Below w.heap.size w w') : SetAt w' bs bm n D := h.grown (row := none) (gby hb) (by simp) (by simp)
theorem SetAt.mono {n' : Nat} (h : SetAt w bs bm n D) (hn : n ≤ n') : SetAt w bs bm n' D := ⟨h.cell, h.own.mono hn⟩
end
/-- the cells that a look into a set reads -/
def SK (w : World) (bs bm kb : Nat) (s o : Int) : Prop := w.cell? ⟨bs, 0, none⟩ = some (.map (some bm)) ∧ LBox w kb s o

theorem zeroU64 (w : World) : (zeroValue 32).run Try.prog w = .ok (.int .u64 0) w := by kernel_rfl
/-- what is laid at a key; 0 where there is none -/
def laid (D : DataW Unit) (s o : Int) : Int := match D.atKey (kl s o) (.lit (.int .u64 0)) with | .lit (.int .u64 c) => c | _ => 0

theorem look_set {w : World} {bs bm n : Nat} {D : DataW Unit} (h : SetAt w bs bm n D) {s o : Int} (h0 : 0 ≤ s) (h1 : s < 4294967296) (h2 : 0 ≤ o) (h3 : o < 4294967296) :
    (Instr.lookup 74 (.map (some bm)) (.agg #[.int .u32 s, .int .u32 o]) true).run Try.prog w = .ok (.tuple #[.int .u64 (laid D s o), .bool (Maps.has D (kl s o))]) w ∧ 0 ≤ laid D s o ∧ laid D s o < 18446744073709551616 ∧ D.atKey (kl s o) (.lit (.int .u64 0)) = .lit (.int .u64 (laid D s o)) := by
  obtain ⟨v, ps, hrun, hv⟩ := h.own.look_ok keyedLoc Try.underlying74 (zeroU64 w) (plainElem_int Try.underlying32 (by decide)) (keyOf_loc h0 h1 h2 h3)
  obtain ⟨c, rfl, e, hw⟩ := plainElem_int_inv Try.underlying32 hv
  injection e with e _
  have hl : laid D s o = c := by unfold laid; rw [e]
  have := bounds_u64 hw
  rw [hl]
  exact ⟨hrun, by omega, by omega, e⟩

set_option maxRecDepth 100000 in
theorem made_yes {w : World} {bs bm n : Nat} {D : DataW Unit} (h : SetAt w bs bm n D) : Calls Try.prog 36 #[.pointer (some ⟨bs, 0, none⟩)] w fun e w' => e = .returned (.bool true) ∧ w = w' := by
  have hc := h.cell
  clear h
  have hn := fun w => run_neq_map_nil (P := Try.prog) w 74 31 32 (some bm) Try.underlying74
  simp only [Option.isNone_some, Bool.not_false] at hn
  go_enter Try.func36, Try.ntmps36
  go_wp2
  go_ret
  exact ⟨rfl, rfl⟩
set_option maxRecDepth 100000 in
theorem made_no (w : World) : Calls Try.prog 36 #[.pointer none] w fun e w' => e = .returned (.bool false) ∧ w = w' := by
  go_enter Try.func36, Try.ntmps36
  go_wp2
  go_ret
  exact ⟨rfl, rfl⟩

set_option maxRecDepth 100000 in
theorem has_any {w : World} {bs bm n : Nat} {D : DataW Unit} (h : SetAt w bs bm n D) {s o : Int} (h0 : 0 ≤ s) (h1 : s < 4294967296) (h2 : 0 ≤ o) (h3 : o < 4294967296) :
    Calls Try.prog 38 #[.pointer (some ⟨bs, 0, none⟩), lv s o] w fun e w' => e = .returned (.bool (Maps.has D (kl s o))) ∧ Below w.heap.size w w' := by
  have H := Lib.hid h
  clear h
  unfold lv
  go_enter Try.func38, Try.ntmps38
  go_wp2_with fail
  have b0 : Hid (Below w.heap.size w _) := (bnew w (.cells #[.int .u32 s, .int .u32 o] 31)).drew
  have hs := H.out.on b0.out
  have hk : SK _ bs bm w.heap.size s o := ⟨hs.cell, (LBox.new w s o 31).drew⟩
  have hl := (look_set hs h0 h1 h2 h3).1
  generalize laid D s o = c at hl
  generalize hq : Maps.has D (kl s o) = hb at hl
  have Hq := Lib.hid hq
  clear hq
  clear hs H
  refine wp_region_noPanic ?_
  refine wp_region_held_drew (S := fun w' => SK w' bs bm (w.heap.size) s o) (by kernel_rfl) (by exact hk) (fun hHeld => ?_)
  clear hk
  generalize World.drew _ = W at *
  refine wpAnyH_take (i := 0) (v := ?_) opAt_0 (by kernel_rfl) (by kernel_rfl) (by kernel_rfl) (fun _ _ _ h => h) (Or.inl ⟨by rfl, ?_⟩) hHeld ?_
  rotate_left
  · (intro w' hSw; obtain ⟨k0, c0, c1, f0, f1, hz⟩ := hSw; go_simp; try with_reducible rfl)
  try simp only [Act.put, List.setIfInBounds_toArray, List.set_cons_zero, List.set_cons_succ]
  refine wpAnyH_take (i := 1) (v := ?_) opAt_1 (by kernel_rfl) (by kernel_rfl) (by kernel_rfl) (fun _ _ _ h => h) (Or.inl ⟨by rfl, ?_⟩) hHeld ?_
  rotate_left
  · (intro w' hSw; obtain ⟨k0, c0, c1, f0, f1, hz⟩ := hSw; go_simp; try with_reducible rfl)
  try simp only [Act.put, List.setIfInBounds_toArray, List.set_cons_zero, List.set_cons_succ]
  refine wpAnyH_take (i := 2) (v := ?_) opAt_2 (by kernel_rfl) (by kernel_rfl) (by kernel_rfl) (fun _ _ _ h => h) (Or.inl ⟨by rfl, ?_⟩) hHeld ?_
  rotate_left
  · (intro w' hSw; obtain ⟨k0, c0, c1, f0, f1, hz⟩ := hSw; go_simp; try with_reducible rfl)
  try simp only [Act.put, List.setIfInBounds_toArray, List.set_cons_zero, List.set_cons_succ]
  refine wpAnyH_take (i := 3) (v := ?_) opAt_3 (by kernel_rfl) (by kernel_rfl) (by kernel_rfl) (fun _ _ _ h => h) (Or.inl ⟨by rfl, ?_⟩) hHeld ?_
  rotate_left
  · (intro w' hSw; obtain ⟨k0, c0, c1, f0, f1, hz⟩ := hSw; go_simp; try with_reducible rfl)
  try simp only [Act.put, List.setIfInBounds_toArray, List.set_cons_zero, List.set_cons_succ]
  refine wpAnyH_take (i := 4) (v := ?_) opAt_4 (by kernel_rfl) (by kernel_rfl) (by kernel_rfl) (fun _ _ _ h => h) (Or.inl ⟨by rfl, ?_⟩) hHeld ?_
  rotate_left
  · (intro w' hSw; obtain ⟨k0, c0, c1, f0, f1, hz⟩ := hSw; go_simp; try with_reducible rfl)
  try simp only [Act.put, List.setIfInBounds_toArray, List.set_cons_zero, List.set_cons_succ]
  refine wpAnyH_ready (rs := [5]) (by kernel_rfl) (by simp) ?_
  refine AllReadyH.cons rfl (fun K hK => ?_) AllReadyH.nil
  go_simp
  refine hK.out _ _ hHeld (fun hHeld => ?_)
  clear hK K
  try simp only [Act.put, List.setIfInBounds_toArray, List.set_cons_zero, List.set_cons_succ]
  refine wpAnyH_take (i := 6) (v := ?_) opAt_6 (by kernel_rfl) (by kernel_rfl) (by kernel_rfl) (fun _ _ _ h => h) (Or.inl ⟨by rfl, ?_⟩) hHeld ?_
  rotate_left
  · (intro w' hSw; obtain ⟨k0, c0, c1, f0, f1, hz⟩ := hSw; go_simp; try with_reducible rfl)
  try simp only [Act.put, List.setIfInBounds_toArray, List.set_cons_zero, List.set_cons_succ]
  refine wpAnyH_take (i := 7) (v := ?_) opAt_7 (by kernel_rfl) (by kernel_rfl) (by kernel_rfl) (fun _ _ _ h => h) (Or.inl ⟨by rfl, ?_⟩) hHeld ?_
  rotate_left
  · (intro w' hSw; obtain ⟨k0, c0, c1, f0, f1, hz⟩ := hSw; go_simp; try with_reducible rfl)
  try simp only [Act.put, List.setIfInBounds_toArray, List.set_cons_zero, List.set_cons_succ]
  refine wpAnyH_take (i := 8) (v := ?_) opAt_8 (by kernel_rfl) (by kernel_rfl) (by kernel_rfl) (fun _ _ _ h => h) (Or.inl ⟨by rfl, ?_⟩) hHeld ?_
  rotate_left
  · (intro w' hSw; obtain ⟨k0, c0, c1, f0, f1, hz⟩ := hSw; go_simp; try with_reducible rfl)
  try simp only [Act.put, List.setIfInBounds_toArray, List.set_cons_zero, List.set_cons_succ]
  refine wpAnyH_take (i := 9) (v := ?_) opAt_9 (by kernel_rfl) (by kernel_rfl) (by kernel_rfl) (fun _ _ _ h => h) (Or.inl ⟨by rfl, ?_⟩) hHeld ?_
  rotate_left
  · (intro w' hSw; obtain ⟨k0, c0, c1, f0, f1, hz⟩ := hSw; go_simp; try with_reducible rfl)
  try simp only [Act.put, List.setIfInBounds_toArray, List.set_cons_zero, List.set_cons_succ]
  refine wpAnyH_take (i := 10) (v := ?_) opAt_10 (by kernel_rfl) (by kernel_rfl) (by kernel_rfl) (fun _ _ _ h => h) (Or.inl ⟨by rfl, ?_⟩) hHeld ?_
  rotate_left
  · (intro w' hSw; obtain ⟨k0, c0, c1, f0, f1, hz⟩ := hSw; go_simp; try with_reducible rfl)
  try simp only [Act.put, List.setIfInBounds_toArray, List.set_cons_zero, List.set_cons_succ]
  refine wpAnyH_done (by kernel_rfl) ?_ _
  refine NoPanic.normal ?_
  go_wp2_with fail
  go_ret
  exact ⟨ret_bool Hq.out.symm, b0.out⟩
end Go.Proofs.Ytaekndhchdpobaa
