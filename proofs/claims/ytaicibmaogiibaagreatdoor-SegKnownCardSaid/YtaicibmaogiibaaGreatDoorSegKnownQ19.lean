/-
  SegKnown, part 19 of what the law's proof leans on: ScSeal, ScOf, ScLaidS, ScKnP, ScPlaces, ScLosts, ScKnows.
-/
import Derived.Test.YtaicibmaogiibaaGreatDoorSegKnownQ18
import Derived.Test.YtaicibmaogiibaaGreatDoorSegKnownQ1
import Derived.Test.YtaicibmaogiibaaGreatDoorSegKnownQ7
import Derived.Deep.OwnRows
import Derived.Deep.RegionHeldLaw
import Derived.Deep.QuietTactic
import Derived.Lib.SmallJoins
import Derived.Lib.SlBytesConst
import Derived.Test.YtaicibmaogiibaaGreatDoorSegKnownQ3
import Derived.Test.YtaicibmaogiibaaGreatDoorSegKnownQ2
import Derived.Test.YtaicibmaogiibaaGreatDoorSegKnownQ6
import Derived.Test.YtaicibmaogiibaaGreatDoorSegKnownQ5
import Derived.RangeFuncNested
import Derived.RangeFuncBound
import Derived.RangeFuncCalls
import Derived.RangeFuncLeaves
import Derived.RangeFuncBox
import Derived.RangeFuncMany
import Derived.Shelf.Abstract
import Derived.Shelf.RegionOpen
import Derived.OwnWalkIn
import Derived.TacticsInMore
import Derived.LoopNIn
import Derived.LoopIn
import Derived.RegionIn
import Derived.BigRegionIn
import Derived.Laws.EntriesVeiled
import Derived.Deep.RegionHeld3
import Derived.OpenShut
/- ScSeal -/

/-
  Layer 12: the landed scan's Seal.
-/
set_option linter.unusedVariables false
set_option linter.unusedSimpArgs false
namespace Go.Proofs.YtaicibmaogiibaaGreatDoor.Sc
open Go Go.RowKit

/-- five cells stored one behind the other -/
def set5 (w : World) (g : Nat) (a0 a1 a2 a3 a4 : Value) : World := ((((w.setCell ⟨g, 0, none⟩ a0).setCell ⟨g, 1, none⟩ a1).setCell ⟨g, 2, none⟩ a2).setCell ⟨g, 3, none⟩ a3).setCell ⟨g, 4, none⟩ a4
theorem set5_at {w : World} {g : Nat} {x0 x1 x2 x3 x4 : Value} {T : TypeId} (h : w.heap[g]? = some (.cells #[x0, x1, x2, x3, x4] T (0, 0))) (a0 a1 a2 a3 a4 : Value) : (set5 w g a0 a1 a2 a3 a4).heap[g]? = some (.cells #[a0, a1, a2, a3, a4] T (0, 0)) :=
  Go.Joins.block_setCell (i := 4) (Go.Joins.block_setCell (i := 3) (Go.Joins.block_setCell (i := 2) (Go.Joins.block_setCell (i := 1) (Go.Joins.block_setCell (i := 0) h a0) a1) a2) a3) a4
theorem set5_chg (w : World) (g : Nat) (a0 a1 a2 a3 a4 : Value) : Chg (fun i => i = g) w (set5 w g a0 a1 a2 a3 a4) :=
  ((((chg1 w g 0 a0).setCell (p := ⟨g, 1, none⟩) rfl a1).setCell (p := ⟨g, 2, none⟩) rfl a2).setCell (p := ⟨g, 3, none⟩) rfl a3).setCell (p := ⟨g, 4, none⟩) rfl a4
set_option maxRecDepth 100000 in
set_option maxHeartbeats 16000000 in
theorem sseal12 {w : World} {lo : Nat} {v : Value} {s : S} (h : ScanV 56 w lo v s) (hid : s.id < 4294967296) (hst : s.stop < 4294967296) (hm : s.found.length + s.passed.length ≤ 1000000) (hpos : ∀ f ∈ s.found, 0 ≤ f.r.seq) :
    Calls Tryz.prog 14 #[v] w fun e w' => e = .returned (seal_ s).val ∧ Below w.heap.size w w' := by
  have HL := Lib.hid (fun (V : World) (hb : Below w.heap.size w V) => slast (h.on hb) (by omega) hpos)
  obtain ⟨Af, n, cf, Ap, np, cp, q, rfl, h1, hq, hp, hfl, e1, e2, e3, e4, h2, h3, h4⟩ := h.open
  obtain ⟨bx, hbx⟩ : ∃ bx, w.heap.size = bx := ⟨_, rfl⟩
  obtain ⟨m, hmm⟩ : ∃ m, m = n + np := ⟨_, rfl⟩
  obtain ⟨W1, hW1⟩ : ∃ W1, w.alloc (.cells #[.int .u32 (s.id : Int), .slice Af n cf, .slice Ap np cp, .int .i64 (s.stop : Int), .int .i64 (s.why : Int)] 44) = W1 := ⟨_, rfl⟩
  obtain ⟨W, hW⟩ : ∃ W, W1.alloc (.cells #[.int .u32 0, .int .u32 0, .int .u32 0, .int .u64 0, .int .u64 0] 39) = W := ⟨_, rfl⟩
  have hs1 : W1.heap.size = bx + 1 := by rw [← hW1, ← hbx]; simp
  have hb1 : Below w.heap.size w W1 := by rw [← hW1]; exact (Below.refl _ _).alloc (Nat.le_refl _) _
  have hb2 : Below W1.heap.size W1 W := by rw [← hW]; exact (Below.refl _ _).alloc (Nat.le_refl _) _
  have k1 : W1.heap[bx]? = some (.cells #[.int .u32 (s.id : Int), .slice Af n cf, .slice Ap np cp, .int .i64 (s.stop : Int), .int .i64 (s.why : Int)] 44 (0, 0)) := by rw [← hW1, ← hbx]; exact heap_alloc_new w _
  have k2 : W.heap[bx + 1]? = some (.cells #[.int .u32 0, .int .u32 0, .int .u32 0, .int .u64 0, .int .u64 0] 39 (0, 0)) := by rw [← hW, ← hs1]; exact heap_alloc_new W1 _
  have HKW := Lib.hid ((hb2.block bx (by omega)).trans k1)
  have HRW := Lib.hid k2
  have HBW := Lib.hid (hb1.trans (hb2.mono hb1.size))
  have HX := Lib.hid hbx
  obtain ⟨fs, hfs⟩ : ∃ fs, fs = firstOf s.found := ⟨_, rfl⟩
  obtain ⟨ls, hls⟩ : ∃ ls, ls = lastF s.found := ⟨_, rfl⟩
  have HF0 := Lib.hid (show n = 0 → fs = 0 from fun hn => by rw [hfs, List.length_eq_zero_iff.1 (hfl.trans hn)]; rfl)
  have HQ := Lib.hid (show ¬ n = 0 → ∀ X : World, Below w.heap.size w X → ∀ (gz : Nat) (arr : Array Value), X.heap[gz]? = some (.cells arr 39 (0, 0)) → ∃ g, Af = some ⟨g, 0, none⟩ ∧ X.cell? ⟨g, 3, none⟩ = some (.int .u64 (fs : Int)) ∧ ¬ g = gz from fun hn X hX gz arr hz => by
    obtain ⟨g, rfl, hg⟩ := own_at h2 (by omega)
    obtain ⟨x, hx⟩ : ∃ x, q[0]? = some x := ⟨_, List.getElem?_eq_getElem (by omega)⟩
    have hO := own_below h2 hX (Nat.le_refl _)
    have hc : X.cell? ⟨g, 0 * 9 + 3, none⟩ = some (.int .u64 x.1.r.seq) := found_cell hO hx 3 (by omega)
    have hf : s.found[0]? = some x.1 := by rw [← h1, List.getElem?_map, hx]; rfl
    have hsq := hpos x.1 (List.mem_of_getElem? hf)
    have e0 : firstOf s.found = x.1.r.seq.toNat := by
      rcases hh : s.found with _ | ⟨y, l⟩
      · rw [hh] at hf; simp at hf
      · rw [hh] at hf
        simp at hf
        rw [hf]
        rfl
    refine ⟨g, rfl, ?_, fun e => ?_⟩
    · rw [hfs, e0, Int.toNat_of_nonneg hsq]
      rw [Nat.zero_mul, Nat.zero_add] at hc
      exact hc
    · obtain ⟨arr2, z2, e2⟩ := own_typed hO g rfl
      rw [e, hz] at e2
      injection e2 with e2
      injection e2 with _ e2 _
      revert e2
      decide)
  rw [hfl, hp] at hm
  have hv : (seal_ s).val = Sl.val ⟨s.id, s.stop, m, fs, ls⟩ := by
    unfold seal_
    rw [hfl, hp, hmm, hfs, hls]
  rw [hv]
  rw [← hls] at HL
  have hws : IntKind.u32.wrap (s.stop : Int) = (s.stop : Int) := IntWalk.u32_in _ (by omega)
  have hnm : (n : Int) + (np : Int) = (m : Int) := by omega
  have hwm : IntKind.u32.wrap (m : Int) = (m : Int) := IntWalk.u32_in _ (by omega)
  have hm2 : m ≤ 1000000 := by omega
  have hw64 : IntKind.i64.wrap (m : Int) = (m : Int) := IntWalk.i64_in _ (by omega)
  have hn2 : n ≤ 1000000 := by omega
  have hnp2 : np ≤ 1000000 := by omega
  clear h h1 hq hp hfl h2 h3 h4 hpos hb1 hb2 k1 k2 hfs hls hv hmm hm
  generalize s.id = i0 at *
  generalize s.stop = i3 at *
  generalize s.why = i4 at *
  go_enter Tryz.func14, Tryz.ntmps14
  go_wp2_with fail
  refine wp_region_noPanic ?_
  refine wp_region_held_drew (S := fun w' => w'.cell? ⟨bx, 0, none⟩ = some (.int .u32 (i0 : Int)) ∧ w'.cell? ⟨bx, 1, none⟩ = some (.slice Af n cf) ∧ w'.cell? ⟨bx, 2, none⟩ = some (.slice Ap np cp) ∧ w'.cell? ⟨bx, 3, none⟩ = some (.int .i64 (i3 : Int)) ∧ w'.cell? ⟨bx, 4, none⟩ = some (.int .i64 (i4 : Int))) (by kernel_rfl) (show _ from rw5 (show W.drew.heap[bx]? = _ from HKW.out)) (fun hHeld => ?_)
  have HKV := Lib.hid (show W.drew.heap[bx]? = _ from HKW.out)
  have HRV := Lib.hid (show W.drew.heap[bx + 1]? = _ from HRW.out)
  have HBV := Lib.hid (show Below w.heap.size w W.drew from HBW.out.drew)
  generalize World.drew W = V at *
  clear HKW HRW HBW
  refine wpAnyH_take (i := 0) (v := ?_) opAt_0 (by kernel_rfl) (by kernel_rfl) (by kernel_rfl) (fun _ _ _ h => h) (Or.inl ⟨by rfl, ?_⟩) (by assumption) ?_
  rotate_left
  · (intro w hSw; obtain ⟨y0, y1, y2, y3, y4⟩ := hSw; go_simp; try with_reducible rfl)
  try simp only [Act.put, List.setIfInBounds_toArray, List.set_cons_zero, List.set_cons_succ]
  refine wpAnyH_take (i := 1) (v := ?_) opAt_1 (by kernel_rfl) (by kernel_rfl) (by kernel_rfl) (fun _ _ _ h => h) (Or.inl ⟨by rfl, ?_⟩) (by assumption) ?_
  rotate_left
  · (intro w hSw; obtain ⟨y0, y1, y2, y3, y4⟩ := hSw; go_simp; try with_reducible rfl)
  try simp only [Act.put, List.setIfInBounds_toArray, List.set_cons_zero, List.set_cons_succ]
  refine wpAnyH_take (i := 2) (v := ?_) opAt_2 (by kernel_rfl) (by kernel_rfl) (by kernel_rfl) (fun _ _ _ h => h) (Or.inl ⟨by rfl, ?_⟩) (by assumption) ?_
  rotate_left
  · (intro w hSw; obtain ⟨y0, y1, y2, y3, y4⟩ := hSw; go_simp; try with_reducible rfl)
  try simp only [Act.put, List.setIfInBounds_toArray, List.set_cons_zero, List.set_cons_succ]
  refine wpAnyH_take (i := 3) (v := ?_) opAt_3 (by kernel_rfl) (by kernel_rfl) (by kernel_rfl) (fun _ _ _ h => h) (Or.inl ⟨by rfl, ?_⟩) (by assumption) ?_
  rotate_left
  · (intro w hSw; obtain ⟨y0, y1, y2, y3, y4⟩ := hSw; go_simp; try with_reducible rfl)
  try simp only [Act.put, List.setIfInBounds_toArray, List.set_cons_zero, List.set_cons_succ]
  refine wpAnyH_take (i := 4) (v := ?_) opAt_4 (by kernel_rfl) (by kernel_rfl) (by kernel_rfl) (fun _ _ _ h => h) (Or.inl ⟨by rfl, ?_⟩) (by assumption) ?_
  rotate_left
  · (intro w hSw; obtain ⟨y0, y1, y2, y3, y4⟩ := hSw; go_simp; try with_reducible rfl)
  try simp only [Act.put, List.setIfInBounds_toArray, List.set_cons_zero, List.set_cons_succ]
  refine wpAnyH_take (i := 5) (v := ?_) opAt_5 (by kernel_rfl) (by kernel_rfl) (by kernel_rfl) (fun _ _ _ h => h) (Or.inl ⟨by rfl, ?_⟩) (by assumption) ?_
  rotate_left
  · (intro w hSw; obtain ⟨y0, y1, y2, y3, y4⟩ := hSw; go_simp; try with_reducible rfl)
  try simp only [Act.put, List.setIfInBounds_toArray, List.set_cons_zero, List.set_cons_succ]
  refine wpAnyH_take (i := 6) (v := ?_) opAt_6 (by kernel_rfl) (by kernel_rfl) (by kernel_rfl) (fun _ _ _ h => h) (Or.inl ⟨by rfl, ?_⟩) (by assumption) ?_
  rotate_left
  · (intro w hSw; obtain ⟨y0, y1, y2, y3, y4⟩ := hSw; go_simp; try with_reducible rfl)
  try simp only [Act.put, List.setIfInBounds_toArray, List.set_cons_zero, List.set_cons_succ]
  refine wpAnyH_take (i := 7) (v := ?_) opAt_7 (by kernel_rfl) (by kernel_rfl) (by kernel_rfl) (fun _ _ _ h => h) (Or.inl ⟨by rfl, ?_⟩) (by assumption) ?_
  rotate_left
  · (intro w hSw; obtain ⟨y0, y1, y2, y3, y4⟩ := hSw; go_simp; try with_reducible rfl)
  try simp only [Act.put, List.setIfInBounds_toArray, List.set_cons_zero, List.set_cons_succ]
  refine wpAnyH_take (i := 8) (v := ?_) opAt_8 (by kernel_rfl) (by kernel_rfl) (by kernel_rfl) (fun _ _ _ h => h) (Or.inl ⟨by rfl, ?_⟩) (by assumption) ?_
  rotate_left
  · (intro w hSw; obtain ⟨y0, y1, y2, y3, y4⟩ := hSw; go_simp; try with_reducible rfl)
  try simp only [Act.put, List.setIfInBounds_toArray, List.set_cons_zero, List.set_cons_succ]
  refine wpAnyH_take (i := 9) (v := ?_) opAt_9 (by kernel_rfl) (by kernel_rfl) (by kernel_rfl) (fun _ _ _ h => h) (Or.inl ⟨by rfl, ?_⟩) (by assumption) ?_
  rotate_left
  · (intro w hSw; obtain ⟨y0, y1, y2, y3, y4⟩ := hSw; go_simp; try with_reducible rfl)
  try simp only [Act.put, List.setIfInBounds_toArray, List.set_cons_zero, List.set_cons_succ]
  refine wpAnyH_take (i := 10) (v := ?_) opAt_10 (by kernel_rfl) (by kernel_rfl) (by kernel_rfl) (fun _ _ _ h => h) (Or.inl ⟨by rfl, ?_⟩) (by assumption) ?_
  rotate_left
  · (intro w hSw; obtain ⟨y0, y1, y2, y3, y4⟩ := hSw; go_simp; try with_reducible rfl)
  try simp only [Act.put, List.setIfInBounds_toArray, List.set_cons_zero, List.set_cons_succ]
  refine wpAnyH_take (i := 11) (v := ?_) opAt_11 (by kernel_rfl) (by kernel_rfl) (by kernel_rfl) (fun _ _ _ h => h) (Or.inl ⟨by rfl, ?_⟩) (by assumption) ?_
  rotate_left
  · (intro w hSw; obtain ⟨y0, y1, y2, y3, y4⟩ := hSw; go_simp; try with_reducible rfl)
  try simp only [Act.put, List.setIfInBounds_toArray, List.set_cons_zero, List.set_cons_succ]
  refine wpAnyH_take (i := 12) (v := ?_) opAt_12 (by kernel_rfl) (by kernel_rfl) (by kernel_rfl) (fun _ _ _ h => h) (Or.inl ⟨by rfl, ?_⟩) (by assumption) ?_
  rotate_left
  · (intro w hSw; obtain ⟨y0, y1, y2, y3, y4⟩ := hSw; go_simp; try with_reducible rfl)
  try simp only [Act.put, List.setIfInBounds_toArray, List.set_cons_zero, List.set_cons_succ]
  refine wpAnyH_take (i := 13) (v := ?_) opAt_13 (by kernel_rfl) (by kernel_rfl) (by kernel_rfl) (fun _ _ _ h => h) (Or.inl ⟨by rfl, ?_⟩) (by assumption) ?_
  rotate_left
  · (intro w hSw; obtain ⟨y0, y1, y2, y3, y4⟩ := hSw; go_simp; try with_reducible rfl)
  try simp only [Act.put, List.setIfInBounds_toArray, List.set_cons_zero, List.set_cons_succ]
  refine wpAnyH_ready (rs := [14, 16]) (by kernel_rfl) (by simp) ?_
  refine AllReadyH.cons rfl (fun K hK => ?_) (AllReadyH.cons rfl (fun K hK => ?_) AllReadyH.nil)
  · go_simp
    refine (HL.out V HBV.out).mono ?_
    rintro e V1 ⟨rfl, hbn⟩
    have HKV1 := Lib.hid ((hbn.block bx (Array.getElem?_eq_some_iff.1 HKV.out).1).trans HKV.out)
    have HRV1 := Lib.hid ((hbn.block (bx + 1) (Array.getElem?_eq_some_iff.1 HRV.out).1).trans HRV.out)
    have HBV1 := Lib.hid (HBV.out.trans (hbn.mono HBV.out.size))
    go_wp2_with fail
    refine hK.out _ _ (rw5 HKV1.out) (fun hHeld => ?_)
    clear hK K
    try simp only [Act.put, List.setIfInBounds_toArray, List.set_cons_zero, List.set_cons_succ]
    refine wpAnyH_take (i := 15) (v := ?_) opAt_15 (by kernel_rfl) (by kernel_rfl) (by kernel_rfl) (fun _ _ _ h => h) (Or.inl ⟨by rfl, ?_⟩) (by assumption) ?_
    rotate_left
    · (intro w hSw; obtain ⟨y0, y1, y2, y3, y4⟩ := hSw; go_simp; try with_reducible rfl)
    try simp only [Act.put, List.setIfInBounds_toArray, List.set_cons_zero, List.set_cons_succ]
    refine wpAnyH_ready (rs := [16]) (by kernel_rfl) (by simp) ?_
    refine AllReadyH.cons rfl (fun K hK => ?_) AllReadyH.nil
    go_simp
    obtain ⟨gz, hgz⟩ : ∃ gz, V1.heap.size = gz := ⟨_, rfl⟩
    rw [hgz]
    obtain ⟨V2, hV2⟩ : ∃ Vn, V1.alloc (.cells #[.int .u32 0, .int .u32 0, .int .u32 0, .int .u64 0, .int .u64 0] 39) = Vn := ⟨_, rfl⟩
    rw [hV2]
    have hbn : Below V1.heap.size V1 V2 := by rw [← hV2]; exact (Below.refl _ _).alloc (Nat.le_refl _) _
    have hz0 : V2.heap[gz]? = some (.cells #[.int .u32 0, .int .u32 0, .int .u32 0, .int .u64 0, .int .u64 0] 39 (0, 0)) := by rw [← hV2, ← hgz]; exact heap_alloc_new V1 _
    have HKV2 := Lib.hid ((hbn.block bx (Array.getElem?_eq_some_iff.1 HKV1.out).1).trans HKV1.out)
    have HRV2 := Lib.hid ((hbn.block (bx + 1) (Array.getElem?_eq_some_iff.1 HRV1.out).1).trans HRV1.out)
    have HBV2 := Lib.hid (HBV1.out.trans (hbn.mono HBV1.out.size))
    have HG := Lib.hid (show w.heap.size + 1 < gz by have := HBV1.out.size; have := (Array.getElem?_eq_some_iff.1 HRV1.out).1; have := HX.out; omega)
    clear hV2 hgz
    refine hK.out _ _ (rw5 HKV2.out) (fun hHeld => ?_)
    clear hK K
    try simp only [Act.put, List.setIfInBounds_toArray, List.set_cons_zero, List.set_cons_succ]
    have HZ := Lib.hid hz0
    clear hz0
    obtain ⟨z0, z1, z2, z3, z4⟩ := rw5 HZ.out
    obtain ⟨f0, f1, f2, f3, f4⟩ := rw5f HZ.out
    refine wpAnyH_ready (rs := [17]) (by kernel_rfl) (by simp) ?_
    refine AllReadyH.cons rfl (fun K hK => ?_) AllReadyH.nil
    go_simp
    have HZ2 := Lib.hid (set5_at HZ.out (.int .u32 (i0 : Int)) (.int .u32 (i3 : Int)) (.int .u32 (m : Int)) (.int .u64 0) (.int .u64 (ls : Int)))
    have HC2 := Lib.hid (set5_chg V2 gz (.int .u32 (i0 : Int)) (.int .u32 (i3 : Int)) (.int .u32 (m : Int)) (.int .u64 0) (.int .u64 (ls : Int)))
    change K _ (set5 V2 gz _ _ _ _ _)
    generalize set5 V2 gz (.int .u32 (i0 : Int)) (.int .u32 (i3 : Int)) (.int .u32 (m : Int)) (.int .u64 0) (.int .u64 (ls : Int)) = X at *
    clear z0 z1 z2 z3 z4 f0 f1 f2 f3 f4
    have HKX := Lib.hid ((HC2.out.block bx (Array.getElem?_eq_some_iff.1 HKV2.out).1 (by have := HG.out; have := HX.out; omega)).trans HKV2.out)
    have HRX := Lib.hid ((HC2.out.block (bx + 1) (Array.getElem?_eq_some_iff.1 HRV2.out).1 (by have := HG.out; have := HX.out; omega)).trans HRV2.out)
    have HBX := Lib.hid (HBV2.out.trans (HC2.out.below HBV2.out.size (fun i e => by have := HG.out; omega)))
    refine hK.out _ _ (rw5 HKX.out) (fun hHeld => ?_)
    clear hK K
    try simp only [Act.put, List.setIfInBounds_toArray, List.set_cons_zero, List.set_cons_succ]
    clear HC2 HZ hHeld
    refine wpAnyH_done (by kernel_rfl) ?_ _
    refine NoPanic.normal ?_
    obtain ⟨y0, y1, y2, y3, y4⟩ := rw5 HKX.out
    by_cases hn : n = 0
    · have j0 : ¬ 0 < (n : Int) := by omega
      obtain ⟨z0, z1, z2, z3, z4⟩ := rw5 HZ2.out
      obtain ⟨x0, x1, x2, x3, x4⟩ := rw5 HRX.out
      obtain ⟨d0, d1, d2, d3, d4⟩ := rw5f HRX.out
      have hfs := HF0.out hn
      go_wp2_with fail
      have h9 := set5_at HRX.out (.int .u32 (i0 : Int)) (.int .u32 (i3 : Int)) (.int .u32 (m : Int)) (.int .u64 0) (.int .u64 (ls : Int))
      obtain ⟨r0, r1, r2, r3, r4⟩ := rw5 h9
      unfold set5 at r0 r1 r2 r3 r4
      refine bodyPost_ret (v := Sl.val ⟨i0, i3, m, 0, ls⟩) (by simp [results, Tryz.results14, go_sem, Sl.val, r0, r1, r2, r3, r4]) rfl ⟨rfl, ?_⟩
      rw [← HX.out]
      exact HBX.out.trans ((set5_chg X (w.heap.size + 1) _ _ _ _ _).below HBX.out.size (fun i e => by have := HX.out; omega))
    · have j0 : 0 < (n : Int) := by omega
      obtain ⟨g, rfl, hc, hgn⟩ := HQ.out hn X HBX.out gz _ HZ2.out
      obtain ⟨z0, z1, z2, z3, z4⟩ := rw5 HZ2.out
      obtain ⟨zf0, zf1, zf2, zf3, zf4⟩ := rw5f HZ2.out
      have h8 := Go.Joins.block_setCell (i := 3) HZ2.out (.int .u64 (fs : Int))
      have h8 : _ = some (Obj.cells #[.int .u32 (i0 : Int), .int .u32 (i3 : Int), .int .u32 (m : Int), .int .u64 (fs : Int), .int .u64 (ls : Int)] 39 (0, 0)) := h8
      have c8 := chg1 X gz 3 (.int .u64 (fs : Int))
      have hr8 := (c8.block (bx + 1) (Array.getElem?_eq_some_iff.1 HRX.out).1 (by have := HG.out; have := HX.out; omega)).trans HRX.out
      obtain ⟨q0, q1, q2, q3, q4⟩ := rw5 h8
      obtain ⟨x0, x1, x2, x3, x4⟩ := rw5 hr8
      obtain ⟨d0, d1, d2, d3, d4⟩ := rw5f hr8
      have HC8 := Lib.hid c8
      have H8 := Lib.hid hr8
      clear c8 hr8 h8
      go_wp2_with fail
      have h9 := set5_at H8.out (.int .u32 (i0 : Int)) (.int .u32 (i3 : Int)) (.int .u32 (m : Int)) (.int .u64 (fs : Int)) (.int .u64 (ls : Int))
      obtain ⟨r0, r1, r2, r3, r4⟩ := rw5 h9
      unfold set5 at r0 r1 r2 r3 r4
      refine bodyPost_ret (v := Sl.val ⟨i0, i3, m, fs, ls⟩) (by simp [results, Tryz.results14, go_sem, Sl.val, r0, r1, r2, r3, r4]) rfl ⟨rfl, ?_⟩
      have b8 := HBX.out.trans (HC8.out.below HBX.out.size (fun i e => by have := HG.out; omega))
      exact b8.trans ((set5_chg _ (bx + 1) _ _ _ _ _).below b8.size (fun i e => by have := HX.out; omega))
  · go_simp
    obtain ⟨gz, hgz⟩ : ∃ gz, V.heap.size = gz := ⟨_, rfl⟩
    rw [hgz]
    obtain ⟨V1, hV1⟩ : ∃ Vn, V.alloc (.cells #[.int .u32 0, .int .u32 0, .int .u32 0, .int .u64 0, .int .u64 0] 39) = Vn := ⟨_, rfl⟩
    rw [hV1]
    have hbn : Below V.heap.size V V1 := by rw [← hV1]; exact (Below.refl _ _).alloc (Nat.le_refl _) _
    have hz0 : V1.heap[gz]? = some (.cells #[.int .u32 0, .int .u32 0, .int .u32 0, .int .u64 0, .int .u64 0] 39 (0, 0)) := by rw [← hV1, ← hgz]; exact heap_alloc_new V _
    have HKV1 := Lib.hid ((hbn.block bx (Array.getElem?_eq_some_iff.1 HKV.out).1).trans HKV.out)
    have HRV1 := Lib.hid ((hbn.block (bx + 1) (Array.getElem?_eq_some_iff.1 HRV.out).1).trans HRV.out)
    have HBV1 := Lib.hid (HBV.out.trans (hbn.mono HBV.out.size))
    have HG := Lib.hid (show w.heap.size + 1 < gz by have := HBV.out.size; have := (Array.getElem?_eq_some_iff.1 HRV.out).1; have := HX.out; omega)
    clear hV1 hgz
    refine hK.out _ _ (rw5 HKV1.out) (fun hHeld => ?_)
    clear hK K
    try simp only [Act.put, List.setIfInBounds_toArray, List.set_cons_zero, List.set_cons_succ]
    refine wpAnyH_ready (rs := [14]) (by kernel_rfl) (by simp) ?_
    refine AllReadyH.cons rfl (fun K hK => ?_) AllReadyH.nil
    go_simp
    refine (HL.out V1 HBV1.out).mono ?_
    rintro e V2 ⟨rfl, hbn⟩
    have HKV2 := Lib.hid ((hbn.block bx (Array.getElem?_eq_some_iff.1 HKV1.out).1).trans HKV1.out)
    have HRV2 := Lib.hid ((hbn.block (bx + 1) (Array.getElem?_eq_some_iff.1 HRV1.out).1).trans HRV1.out)
    have HBV2 := Lib.hid (HBV1.out.trans (hbn.mono HBV1.out.size))
    have hz0 := (hbn.block gz (Array.getElem?_eq_some_iff.1 hz0).1).trans hz0
    go_wp2_with fail
    refine hK.out _ _ (rw5 HKV2.out) (fun hHeld => ?_)
    clear hK K
    try simp only [Act.put, List.setIfInBounds_toArray, List.set_cons_zero, List.set_cons_succ]
    refine wpAnyH_take (i := 15) (v := ?_) opAt_15 (by kernel_rfl) (by kernel_rfl) (by kernel_rfl) (fun _ _ _ h => h) (Or.inl ⟨by rfl, ?_⟩) (by assumption) ?_
    rotate_left
    · (intro w hSw; obtain ⟨y0, y1, y2, y3, y4⟩ := hSw; go_simp; try with_reducible rfl)
    try simp only [Act.put, List.setIfInBounds_toArray, List.set_cons_zero, List.set_cons_succ]
    have HZ := Lib.hid hz0
    clear hz0
    obtain ⟨z0, z1, z2, z3, z4⟩ := rw5 HZ.out
    obtain ⟨f0, f1, f2, f3, f4⟩ := rw5f HZ.out
    refine wpAnyH_ready (rs := [17]) (by kernel_rfl) (by simp) ?_
    refine AllReadyH.cons rfl (fun K hK => ?_) AllReadyH.nil
    go_simp
    have HZ2 := Lib.hid (set5_at HZ.out (.int .u32 (i0 : Int)) (.int .u32 (i3 : Int)) (.int .u32 (m : Int)) (.int .u64 0) (.int .u64 (ls : Int)))
    have HC2 := Lib.hid (set5_chg V2 gz (.int .u32 (i0 : Int)) (.int .u32 (i3 : Int)) (.int .u32 (m : Int)) (.int .u64 0) (.int .u64 (ls : Int)))
    change K _ (set5 V2 gz _ _ _ _ _)
    generalize set5 V2 gz (.int .u32 (i0 : Int)) (.int .u32 (i3 : Int)) (.int .u32 (m : Int)) (.int .u64 0) (.int .u64 (ls : Int)) = X at *
    clear z0 z1 z2 z3 z4 f0 f1 f2 f3 f4
    have HKX := Lib.hid ((HC2.out.block bx (Array.getElem?_eq_some_iff.1 HKV2.out).1 (by have := HG.out; have := HX.out; omega)).trans HKV2.out)
    have HRX := Lib.hid ((HC2.out.block (bx + 1) (Array.getElem?_eq_some_iff.1 HRV2.out).1 (by have := HG.out; have := HX.out; omega)).trans HRV2.out)
    have HBX := Lib.hid (HBV2.out.trans (HC2.out.below HBV2.out.size (fun i e => by have := HG.out; omega)))
    refine hK.out _ _ (rw5 HKX.out) (fun hHeld => ?_)
    clear hK K
    try simp only [Act.put, List.setIfInBounds_toArray, List.set_cons_zero, List.set_cons_succ]
    clear HC2 HZ hHeld
    refine wpAnyH_done (by kernel_rfl) ?_ _
    refine NoPanic.normal ?_
    obtain ⟨y0, y1, y2, y3, y4⟩ := rw5 HKX.out
    by_cases hn : n = 0
    · have j0 : ¬ 0 < (n : Int) := by omega
      obtain ⟨z0, z1, z2, z3, z4⟩ := rw5 HZ2.out
      obtain ⟨x0, x1, x2, x3, x4⟩ := rw5 HRX.out
      obtain ⟨d0, d1, d2, d3, d4⟩ := rw5f HRX.out
      have hfs := HF0.out hn
      go_wp2_with fail
      have h9 := set5_at HRX.out (.int .u32 (i0 : Int)) (.int .u32 (i3 : Int)) (.int .u32 (m : Int)) (.int .u64 0) (.int .u64 (ls : Int))
      obtain ⟨r0, r1, r2, r3, r4⟩ := rw5 h9
      unfold set5 at r0 r1 r2 r3 r4
      refine bodyPost_ret (v := Sl.val ⟨i0, i3, m, 0, ls⟩) (by simp [results, Tryz.results14, go_sem, Sl.val, r0, r1, r2, r3, r4]) rfl ⟨rfl, ?_⟩
      rw [← HX.out]
      exact HBX.out.trans ((set5_chg X (w.heap.size + 1) _ _ _ _ _).below HBX.out.size (fun i e => by have := HX.out; omega))
    · have j0 : 0 < (n : Int) := by omega
      obtain ⟨g, rfl, hc, hgn⟩ := HQ.out hn X HBX.out gz _ HZ2.out
      obtain ⟨z0, z1, z2, z3, z4⟩ := rw5 HZ2.out
      obtain ⟨zf0, zf1, zf2, zf3, zf4⟩ := rw5f HZ2.out
      have h8 := Go.Joins.block_setCell (i := 3) HZ2.out (.int .u64 (fs : Int))
      have h8 : _ = some (Obj.cells #[.int .u32 (i0 : Int), .int .u32 (i3 : Int), .int .u32 (m : Int), .int .u64 (fs : Int), .int .u64 (ls : Int)] 39 (0, 0)) := h8
      have c8 := chg1 X gz 3 (.int .u64 (fs : Int))
      have hr8 := (c8.block (bx + 1) (Array.getElem?_eq_some_iff.1 HRX.out).1 (by have := HG.out; have := HX.out; omega)).trans HRX.out
      obtain ⟨q0, q1, q2, q3, q4⟩ := rw5 h8
      obtain ⟨x0, x1, x2, x3, x4⟩ := rw5 hr8
      obtain ⟨d0, d1, d2, d3, d4⟩ := rw5f hr8
      have HC8 := Lib.hid c8
      have H8 := Lib.hid hr8
      clear c8 hr8 h8
      go_wp2_with fail
      have h9 := set5_at H8.out (.int .u32 (i0 : Int)) (.int .u32 (i3 : Int)) (.int .u32 (m : Int)) (.int .u64 (fs : Int)) (.int .u64 (ls : Int))
      obtain ⟨r0, r1, r2, r3, r4⟩ := rw5 h9
      unfold set5 at r0 r1 r2 r3 r4
      refine bodyPost_ret (v := Sl.val ⟨i0, i3, m, fs, ls⟩) (by simp [results, Tryz.results14, go_sem, Sl.val, r0, r1, r2, r3, r4]) rfl ⟨rfl, ?_⟩
      have b8 := HBX.out.trans (HC8.out.below HBX.out.size (fun i e => by have := HG.out; omega))
      exact b8.trans ((set5_chg _ (bx + 1) _ _ _ _ _).below b8.size (fun i e => by have := HX.out; omega))
end Go.Proofs.YtaicibmaogiibaaGreatDoor.Sc

/- ScOf -/

/-
  Layer 12: the landed scan of a segment's bytes.
-/
set_option linter.unusedVariables false
set_option linter.unusedSimpArgs false
namespace Go.Proofs.YtaicibmaogiibaaGreatDoor.Sc
open Go Go.RowKit

/-- a step of the scan is a step of the document's way -/
theorem tk_go (id : Nat) (b : List UInt8) (s : S) (hid : s.id = id) (hw : s.why = 0) (hp : s.stop < b.length) (hm : s.stop ≤ 16777216) (hpos : ∀ f ∈ s.found, 0 ≤ f.r.seq) (hf : s.found.length + s.passed.length ≤ s.stop) (k : Nat) :
    ((tk s (b.drop s.stop)).why = 0 → go id b k (tk s (b.drop s.stop)).stop (lastF (tk s (b.drop s.stop)).found) (tk s (b.drop s.stop)).found (tk s (b.drop s.stop)).passed = go id b (k + 1) s.stop (lastF s.found) s.found s.passed) ∧
    ((tk s (b.drop s.stop)).why ≠ 0 → tk s (b.drop s.stop) = go id b (k + 1) s.stop (lastF s.found) s.found s.passed) ∧ (tk s (b.drop s.stop)).id = id ∧ (∀ f ∈ (tk s (b.drop s.stop)).found, 0 ≤ f.r.seq) ∧
    (tk s (b.drop s.stop)).found.length + (tk s (b.drop s.stop)).passed.length ≤ (tk s (b.drop s.stop)).stop ∧ ((tk s (b.drop s.stop)).why = 0 → s.stop < (tk s (b.drop s.stop)).stop ∧ (tk s (b.drop s.stop)).stop ≤ b.length) := by
  obtain ⟨⟨r, z, e⟩, hq⟩ : ∃ y, Rc.getQ (b.drop s.stop) = y := ⟨_, rfl⟩
  have hg := get_any hq
  subst hid
  have e2 : go s.id b (k + 1) s.stop (lastF s.found) s.found s.passed = if e = 22 then ⟨s.id, s.found, s.passed, s.stop, 22⟩ else if e = 0 then (if r.seq ≤ (lastF s.found : Int) then ⟨s.id, s.found, s.passed, s.stop, 23⟩ else go s.id b k (s.stop + z) r.seq (s.found ++ [⟨s.stop, z, r⟩]) s.passed) else if z = 0 then ⟨s.id, s.found, s.passed, s.stop, 23⟩ else go s.id b k (s.stop + z) (lastF s.found) s.found (s.passed ++ [s.stop]) := by
    conv => lhs; unfold go
    rw [hq, if_pos hp, if_neg (Nat.not_lt.2 hm)]
  have e1 : tk s (b.drop s.stop) = if e = 22 then { s with why := 22 } else if z = 0 ∨ (e = 0 ∧ r.seq ≤ (lastF s.found : Int)) then { s with why := 23 } else if e = 0 then { s with found := s.found ++ [⟨s.stop, z, r⟩], stop := s.stop + z } else { s with passed := s.passed ++ [s.stop], stop := s.stop + z } := by
    unfold tk
    rw [hq]
  have stay : ∀ y : Nat, y ≠ 0 → ((({ s with why := y } : S).why = 0 → go s.id b k ({ s with why := y } : S).stop (lastF ({ s with why := y } : S).found) ({ s with why := y } : S).found ({ s with why := y } : S).passed = ⟨s.id, s.found, s.passed, s.stop, y⟩) ∧
    (({ s with why := y } : S).why ≠ 0 → ({ s with why := y } : S) = ⟨s.id, s.found, s.passed, s.stop, y⟩) ∧ ({ s with why := y } : S).id = s.id ∧ (∀ f ∈ ({ s with why := y } : S).found, 0 ≤ f.r.seq) ∧
    ({ s with why := y } : S).found.length + ({ s with why := y } : S).passed.length ≤ ({ s with why := y } : S).stop ∧ (({ s with why := y } : S).why = 0 → s.stop < ({ s with why := y } : S).stop ∧ ({ s with why := y } : S).stop ≤ b.length)) := fun y hy =>
    ⟨fun h => absurd h hy, fun _ => rfl, rfl, hpos, hf, fun h => absurd h hy⟩
  rcases hg.1 with rfl | rfl | rfl
  · have hz := hg.2.2 rfl
    have hl := hg.2.1 (by decide) hz
    rw [List.length_drop] at hl
    have hs := get_seq hq
    rw [if_neg (by decide), if_pos rfl] at e2
    rw [if_neg (by decide)] at e1
    by_cases hsq : r.seq ≤ (lastF s.found : Int)
    · rw [if_pos hsq] at e2
      rw [if_pos (Or.inr ⟨rfl, hsq⟩)] at e1
      rw [e1, e2]
      exact stay 23 (by decide)
    · rw [if_neg hsq] at e2
      rw [if_neg (by rintro (h | ⟨_, h⟩) <;> contradiction), if_pos rfl] at e1
      rw [e1, e2]
      dsimp only
      have e : ((lastF (s.found ++ [⟨s.stop, z, r⟩]) : Nat) : Int) = r.seq := by rw [lastF_snoc]; exact Int.toNat_of_nonneg (by show 0 ≤ r.seq; omega)
      refine ⟨fun _ => by rw [e], fun h => absurd hw h, rfl, fun f hf => ?_, ?_, fun _ => ⟨by omega, by omega⟩⟩
      · rcases List.mem_append.1 hf with hf | hf
        · exact hpos f hf
        · rw [List.mem_singleton.1 hf]; show 0 ≤ r.seq; omega
      · rw [List.length_append]
        show s.found.length + 1 + s.passed.length ≤ _
        omega
  · rw [if_pos rfl] at e1 e2
    rw [e1, e2]
    exact stay 22 (by decide)
  · rw [if_neg (by decide)] at e1 e2
    rw [if_neg (by decide)] at e2
    by_cases hz : z = 0
    · rw [if_pos hz] at e2
      rw [if_pos (Or.inl hz)] at e1
      rw [e1, e2]
      exact stay 23 (by decide)
    · have hl := hg.2.1 (by decide) hz
      rw [List.length_drop] at hl
      rw [if_neg hz] at e2
      rw [if_neg (by rintro (h | ⟨h, _⟩); exact hz h; exact absurd h (by decide)), if_neg (by decide)] at e1
      rw [e1, e2]
      dsimp only
      refine ⟨fun _ => rfl, fun h => absurd hw h, rfl, hpos, ?_, fun _ => ⟨by omega, by omega⟩⟩
      rw [List.length_append]
      show s.found.length + (s.passed.length + 1) ≤ _
      omega
theorem cut_o (A : Option Addr) (n c k r : Nat) (hn : n = k + r) (hnc : n ≤ c) (hr0 : 0 < r) : ∃ A' c', Option.map (fun x => x.add k) A = A' ∧ c - k = c' ∧ r ≤ c' ∧ ∀ w B l, l.length ≤ c → Rd w B A (bvs l) → Rd w B A' (bvs (l.drop k)) := by
  refine ⟨_, _, rfl, rfl, by omega, fun w B l hl hr => ?_⟩
  have := hr.cut (k := k) (cap := c) (by rw [bvs_length]; exact hl)
  rw [if_neg (by omega), ← bvs_drop] at this
  exact this
/-- what stands at the loop's head -/
def OfR (w wr : World) (id : Nat) (b : List UInt8) (br B k : Nat) : Prop :=
  ∃ s, ScanB wr w.heap.size B s ∧ Below w.heap.size w wr ∧ wr.heap[br]? = some (.cells #[.int .u32 0, .slice none 0 0, .slice none 0 0, .int .i64 0, .int .i64 0] 44 (0, 0)) ∧ s.id = id ∧ (s.why = 0 → go id b k s.stop (lastF s.found) s.found s.passed = of id b ∧ s.stop ≤ b.length + 16 ∧ b.length < s.stop + k) ∧
    (s.why ≠ 0 → s = of id b) ∧ (∀ f ∈ s.found, 0 ≤ f.r.seq) ∧ s.found.length + s.passed.length ≤ s.stop
/-- the result is stored, and told -/
theorem of_fin {w wr : World} {br B : Nat} {s : S} {q : List Fq} {Af Ap : Option Addr} {nf cf np cp i0 i3 i4 : Nat} (h : TkI wr w.heap.size B s q Af nf cf Ap np cp) (e : s.id = i0 ∧ s.stop = i3 ∧ s.why = i4) (hb : Below w.heap.size w wr) (hbr : w.heap.size ≤ br) (hne : br ≠ B)
    {arr : Array Value} (hr : wr.heap[br]? = some (.cells arr 44 (0, 0))) {X : World} (hc : Chg (fun i => i = br) wr X) :
    ScanV 56 X w.heap.size (.agg #[.int .u32 (i0 : Int), .slice Af nf cf, .slice Ap np cp, .int .i64 (i3 : Int), .int .i64 (i4 : Int)]) s ∧ Below w.heap.size w X := by
  obtain ⟨rfl, rfl, rfl⟩ := e
  have hty : Typed wr 44 (fun i => i = br) := fun g e => by obtain rfl : g = br := e; exact ⟨_, _, hr⟩
  have hn := h.hn
  have hp := h.hp
  exact ⟨⟨_, _, q, rfl, h.hq, by rw [hn]; exact hty.own (by decide) hc h.own, fun x hx => (h.ok x hx).apart hty (by decide) hc, by rw [hp]; exact hty.own (by decide) hc h.pown⟩, hb.trans (hc.below hb.size (fun i e => by obtain rfl : i = br := e; exact hbr))⟩
set_option maxRecDepth 100000 in
set_option maxHeartbeats 16000000 in
theorem sof (v : Value) (b : List UInt8) (id : Nat) (w : World) (h : Bs w w.heap.size v b) (hm : b.length ≤ 100000) (hid : id < 4294967296) (ht : RTab w) :
    Calls Tryz.prog 29 #[.int .u32 (id : Int), v] w fun e w' => ∃ rv, e = .returned rv ∧ ScanV 56 w' w.heap.size rv (of id b) ∧ Below w.heap.size w w' := by
  have h0 := h
  obtain ⟨Av, cv, rfl, hcv, hrd⟩ := h0
  clear hrd
  obtain ⟨n, hn⟩ : ∃ n, n = b.length := ⟨_, rfl⟩
  obtain ⟨q0, hq0⟩ : ∃ q0, Hd.checkN b 1 id = q0 := ⟨_, rfl⟩
  obtain ⟨br, hbr⟩ : ∃ br, w.heap.size = br := ⟨_, rfl⟩
  obtain ⟨W, hW⟩ : ∃ W, w.alloc (.cells #[.int .u32 0, .slice none 0 0, .slice none 0 0, .int .i64 0, .int .i64 0] 44) = W := ⟨_, rfl⟩
  have hb : Below w.heap.size w W := by rw [← hW]; exact (Below.refl _ _).alloc (Nat.le_refl _) _
  have hk : W.heap[br]? = some (.cells #[.int .u32 0, .slice none 0 0, .slice none 0 0, .int .i64 0, .int .i64 0] 44 (0, 0)) := by rw [← hW, ← hbr]; exact heap_alloc_new w _
  have HC := Lib.hid (Hd.check_any (.slice Av b.length cv) b w.heap.size 1 (id : Int) W (h.below hb (Nat.le_refl _)) hb.size (by omega) (ht.on hb).1 q0 hq0)
  have HN := Lib.hid hn
  have H := Lib.hid h
  have HB := Lib.hid hb
  have HBR := Lib.hid hbr
  have HK := Lib.hid hk
  have HQ0 := Lib.hid hq0
  have HM := Lib.hid hm
  have HT := Lib.hid ht
  rw [← hn] at hcv HC ⊢
  clear h hb hm hq0 hk hn ht
  go_enter Tryz.func29, Tryz.ntmps29
  go_wp2_with fail
  refine HC.out.mono ?_
  rintro e w1 ⟨rfl, hb1⟩
  obtain ⟨B, hB⟩ : ∃ B, w1.heap.size = B := ⟨_, rfl⟩
  obtain ⟨W2, hW2⟩ : ∃ W2, w1.alloc (.cells #[.int .u32 (id : Int), .slice none 0 0, .slice none 0 0, .int .i64 0, .int .i64 (q0 : Int)] 44) = W2 := ⟨_, rfl⟩
  have hb2 : Below w1.heap.size w1 W2 := by rw [← hW2]; exact (Below.refl _ _).alloc (Nat.le_refl _) _
  have hs2 : W2.heap[B]? = some (.cells #[.int .u32 (id : Int), .slice none 0 0, .slice none 0 0, .int .i64 0, .int .i64 (q0 : Int)] 44 (0, 0)) := by rw [← hW2, ← hB]; exact heap_alloc_new w1 _
  have hr1 := (hb1.block br (Array.getElem?_eq_some_iff.1 HK.out).1).trans HK.out
  have hr2 := (hb2.block br (Array.getElem?_eq_some_iff.1 hr1).1).trans hr1
  have hbw2 : Below w.heap.size w W2 := (HB.out.trans (hb1.mono HB.out.size)).trans (hb2.mono (Nat.le_trans HB.out.size hb1.size))
  have HNE := Lib.hid (show br < B by rw [← hB]; exact (Array.getElem?_eq_some_iff.1 hr1).1)
  obtain ⟨y0, y1, y2, y3, y4⟩ := rw5 hs2
  obtain ⟨g0, g1, g2, g3, g4⟩ := rw5f hs2
  have HBW := Lib.hid hbw2
  have HSR := Lib.hid (And.intro hs2 hr2)
  have hI0 : TkI W2 w.heap.size B ⟨id, [], [], 0, q0⟩ [] none 0 0 none 0 0 := ⟨hs2, rfl, rfl, rfl, World.ownsRow_nil _ _ _ _, by simp, World.ownsRow_nil _ _ _ _⟩
  have HI0 := Lib.hid hI0
  clear hb1 hb2 hs2 hr1 hr2 hbw2 hI0 HC HK
  by_cases hz : q0 = 0
  · have j0 : ((q0 : Int) != 0) = false := by rw [hz]; rfl
    have j1 : decide ((q0 : Int) = 0) = true := by rw [hz]; rfl
    have hs3 := Go.Joins.block_setCell (i := 3) HSR.out.1 (.int .i64 16)
    have hs3 : _ = some (Obj.cells #[.int .u32 (id : Int), .slice none 0 0, .slice none 0 0, .int .i64 16, .int .i64 (q0 : Int)] 44 (0, 0)) := hs3
    have hR0 : Hid (OfR w (W2.setCell ⟨B, 3, none⟩ (.int .i64 16)) id b br B (n + 1)) := Lib.hid ⟨⟨id, [], [], 16, q0⟩, ⟨none, 0, 0, none, 0, 0, [], hs3, rfl, rfl, rfl, World.ownsRow_nil _ _ _ _, by simp, World.ownsRow_nil _ _ _ _⟩,
      HBW.out.setCell (by show w.heap.size ≤ B; have := HNE.out; have := HBR.out; omega) _, ((chg1 W2 B 3 (.int .i64 16)).block br (Array.getElem?_eq_some_iff.1 HSR.out.2).1 (by have := HNE.out; omega)).trans HSR.out.2, rfl, fun _ => ⟨by rw [of, HQ0.out, if_pos hz, HN.out]; rfl, by simp, by simp only; rw [HN.out]; omega⟩, fun h => absurd hz h, by simp, by simp⟩
    clear hz
    clear hs3
    go_wp2_with fail
    go_loopg [] (n + 1) (fun k wr => Hid (OfR w wr id b br B k))
    case atStart => exact hR0
    case round =>
      rename World => wr
      clear hR0 y0 y1 y2 y3 y4 g0 g1 g2 g3 g4 j0 j1
      obtain ⟨s, hS, hbw, hrb, hsid, hgo, hne, hpos, hfew⟩ := hrel.out
      clear hrel
      obtain ⟨q, Af, nf, cf, Ap, np, cp, hI⟩ := hS.open
      obtain ⟨i3, hi3⟩ : ∃ i3, s.stop = i3 := ⟨_, rfl⟩
      obtain ⟨i4, hi4⟩ : ∃ i4, s.why = i4 := ⟨_, rfl⟩
      obtain ⟨y0, y1, y2, y3, y4⟩ := rw5 (hI.blk' hsid hi3 hi4)
      obtain ⟨g0, g1, g2, g3, g4⟩ := rw5f (hI.blk' hsid hi3 hi4)
      by_cases h4 : i4 = 0
      · subst h4
        rw [show ((0 : Nat) : Int) = 0 from rfl] at *
        obtain ⟨hg1, hg2, hg3⟩ := hgo hi4
        by_cases h3 : i3 < n
        · obtain ⟨k, rfl⟩ : ∃ k, gk = k + 1 := ⟨gk - 1, by have := HN.out; omega⟩
          obtain ⟨r, hr⟩ : ∃ r, n = i3 + r := ⟨n - i3, by omega⟩
          obtain ⟨A2, c2, hA2, hc2, hbs2⟩ := cut_o Av n cv i3 r hr hcv (by omega)
          have hn100 : n ≤ 100000 := by rw [HN.out]; exact HM.out
          have hbs3 : Bs wr w.heap.size (.slice A2 r c2) (b.drop i3) := by
            obtain ⟨A, c, e, hc, hrd⟩ := H.out.below hbw (Nat.le_refl _)
            injection e with e1 _ e3
            subst e1
            subst e3
            have hl := HN.out
            exact ⟨A2, c2, by rw [List.length_drop, ← hl, hr, Nat.add_sub_cancel_left], by rw [List.length_drop, ← hl]; have := hbs2.1; omega, hbs2.2 _ _ b hc hrd⟩
          have htg := tk_go id b s hsid hi4 (by rw [hi3, ← HN.out]; exact h3) (by rw [hi3]; omega) hpos hfew k
          rw [hi3] at htg
          have HTk := Lib.hid (stake hS (by have := HNE.out; have := HBR.out; omega) hbw.size hbs3 (HT.out.on hbw) (by rw [List.length_drop, ← HN.out]; omega) (by rw [hi3]; omega) (by rw [hi3] at hfew; omega) hpos)
          have HG := Lib.hid htg
          have HG1 := Lib.hid hg1
          rw [hi3] at hg3
          have HG3 := Lib.hid hg3
          have HR := Lib.hid (And.intro hbw (And.intro hrb hi3))
          have i1 : (i3 : Int) < (n : Int) := by omega
          have hnr : n - i3 = r := by omega
          clear hr
          clear hI hS hbw hrb hsid hgo hne hpos hfew hg1 hg2 hg3 htg hbs3 hbs2 hi3 hi4
          go_wp2_with fail
          refine HTk.out.mono ?_
          rintro e' w2 ⟨⟨u, rfl⟩, hS2, hb2, hk2⟩
          go_wp2_with fail
          go_roundg k
          case measure => omega
          case rel =>
            obtain ⟨t1, t2, t3, t4, t5, t6⟩ := HG.out
            have hg1 := HG1.out
            rw [HR.out.2.2] at hg1
            exact Lib.hid ⟨tk s (b.drop i3), hS2, HR.out.1.trans hb2, hk2 br _ _ (by have := HNE.out; omega) HR.out.2.1, t3, fun h => ⟨(t1 h).trans hg1, by have := (t6 h).2; omega, by have := (t6 h).1; have := HG3.out; omega⟩, fun h => (t2 h).trans hg1, t4, t5⟩
        · have i1 : ¬ (i3 : Int) < (n : Int) := by omega
          have hof : s = of id b := by
            rw [← hg1]
            obtain ⟨sid, sf, sp, st, sw⟩ := s
            simp only at hsid hi3 hi4
            subst hsid hi3 hi4
            cases gk with
            | zero => rfl
            | succ k => unfold go; rw [if_neg (by rw [← HN.out]; exact h3)]
          have HI := Lib.hid hI
          have HR := Lib.hid (And.intro hbw hrb)
          obtain ⟨x0, x1, x2, x3, x4⟩ := rw5 hrb
          obtain ⟨d0, d1, d2, d3, d4⟩ := rw5f hrb
          have HO := Lib.hid hof
          have HSS := Lib.hid (And.intro hsid (And.intro hi3 hi4))
          clear hI hbw hrb hof hsid hi3 hi4 hgo hne hpos hfew hS
          go_wp2_with fail
          have hX := set5_at HR.out.2 (.int .u32 (id : Int)) (.slice Af nf cf) (.slice Ap np cp) (.int .i64 (i3 : Int)) (.int .i64 0)
          obtain ⟨z0, z1, z2, z3, z4⟩ := rw5 hX
          unfold set5 at z0 z1 z2 z3 z4
          have hf := of_fin HI.out HSS.out HR.out.1 (by rw [HBR.out]; exact Nat.le_refl _) (by have := HNE.out; omega) HR.out.2 (set5_chg wr br (.int .u32 (id : Int)) (.slice Af nf cf) (.slice Ap np cp) (.int .i64 (i3 : Int)) (.int .i64 0))
          rw [← HO.out]
          rw [HBR.out] at hf
          exact bodyPost_ret (v := .agg #[.int .u32 (id : Int), .slice Af nf cf, .slice Ap np cp, .int .i64 (i3 : Int), .int .i64 0]) (by simp [results, Tryz.results29, go_sem, z0, z1, z2, z3, z4]) rfl ⟨_, rfl, hf.1, hf.2⟩
      · have j0 : ¬ (i4 : Int) = 0 := by omega
        have hof : s = of id b := hne (by rw [hi4]; exact h4)
        have HI := Lib.hid hI
        have HR := Lib.hid (And.intro hbw hrb)
        obtain ⟨x0, x1, x2, x3, x4⟩ := rw5 hrb
        obtain ⟨d0, d1, d2, d3, d4⟩ := rw5f hrb
        have HO := Lib.hid hof
        have HSS := Lib.hid (And.intro hsid (And.intro hi3 hi4))
        clear hI hbw hrb hof hsid hi3 hi4 hgo hne hpos hfew hS
        go_wp2_with fail
        have hX := set5_at HR.out.2 (.int .u32 (id : Int)) (.slice Af nf cf) (.slice Ap np cp) (.int .i64 (i3 : Int)) (.int .i64 (i4 : Int))
        obtain ⟨z0, z1, z2, z3, z4⟩ := rw5 hX
        unfold set5 at z0 z1 z2 z3 z4
        have hf := of_fin HI.out HSS.out HR.out.1 (by rw [HBR.out]; exact Nat.le_refl _) (by have := HNE.out; omega) HR.out.2 (set5_chg wr br (.int .u32 (id : Int)) (.slice Af nf cf) (.slice Ap np cp) (.int .i64 (i3 : Int)) (.int .i64 (i4 : Int)))
        rw [← HO.out]
        exact bodyPost_ret (v := .agg #[.int .u32 (id : Int), .slice Af nf cf, .slice Ap np cp, .int .i64 (i3 : Int), .int .i64 (i4 : Int)]) (by simp [results, Tryz.results29, go_sem, z0, z1, z2, z3, z4]) rfl ⟨_, rfl, hf.1, hf.2⟩
  · have i0 : ¬ (q0 : Int) = 0 := by omega
    have j0 : ((q0 : Int) != 0) = true := by simpa using hz
    obtain ⟨x0, x1, x2, x3, x4⟩ := rw5 HSR.out.2
    obtain ⟨d0, d1, d2, d3, d4⟩ := rw5f HSR.out.2
    go_wp2_with fail
    have hX := set5_at HSR.out.2 (.int .u32 (id : Int)) (.slice none 0 0) (.slice none 0 0) (.int .i64 0) (.int .i64 (q0 : Int))
    obtain ⟨z0, z1, z2, z3, z4⟩ := rw5 hX
    unfold set5 at z0 z1 z2 z3 z4
    have hf := of_fin HI0.out ⟨rfl, rfl, rfl⟩ HBW.out (by rw [HBR.out]; exact Nat.le_refl _) (by have := HNE.out; omega) HSR.out.2 (set5_chg W2 br (.int .u32 (id : Int)) (.slice none 0 0) (.slice none 0 0) (.int .i64 0) (.int .i64 (q0 : Int)))
    have ho : of id b = ⟨id, [], [], 0, q0⟩ := by rw [of, HQ0.out, if_neg hz]
    rw [ho]
    exact bodyPost_ret (v := .agg #[.int .u32 (id : Int), .slice none 0 0, .slice none 0 0, .int .i64 0, .int .i64 (q0 : Int)]) (by simp [results, Tryz.results29, go_sem, z0, z1, z2, z3, z4]) rfl ⟨_, rfl, hf.1, hf.2⟩
end Go.Proofs.YtaicibmaogiibaaGreatDoor.Sc

/- ScLaidS -/

/-
  Layer 12: the laws' own bytes: a head, and plain runs of some numbers.
-/
set_option linter.unusedVariables false
set_option linter.unusedSimpArgs false
namespace Go.Proofs.YtaicibmaogiibaaGreatDoor.Sc
open Go Go.RowKit

/-- the plain record of a number -/
def kv (n : Nat) : Rc.Rec := ⟨n, 1, [107], [118], 0, 0⟩
end Go.Proofs.YtaicibmaogiibaaGreatDoor.Sc

/- ScKnP -/

/-
  Layer 12, plain mathematics: the chapter's rows.
-/
set_option linter.unusedVariables false
set_option linter.unusedSimpArgs false
namespace Go.Proofs.YtaicibmaogiibaaGreatDoor.Sc
open Go Go.RowKit

def kn : List UInt8 := layB 3 ([1, 2, 5].map kv)
end Go.Proofs.YtaicibmaogiibaaGreatDoor.Sc

/- ScPlaces -/

/-
  Layer 12: the landed scan's places: the range-function, over whatever loop keeps the scan.
-/
set_option linter.unusedVariables false
set_option linter.unusedSimpArgs false
namespace Go.Proofs.YtaicibmaogiibaaGreatDoor.Sc
open Go Go.RowKit

/-- a number below n, or none -/
abbrev Pla (n : Nat) := Option { i : Nat // i < n }
def Pla.num {n : Nat} (x : Pla n) : Option Nat := x.map (·.1)
/-- what a round that goes on keeps: what lay ahead of Lost, and the scan's block -/
def KpP (n₀ Bs : Nat) (W W' : World) : Prop := Below n₀ W W' ∧ ∀ arr z, W.heap[Bs]? = some (.cells arr 44 z) → W'.heap[Bs]? = some (.cells arr 44 z)
theorem KpP.trans {n₀ Bs : Nat} {A B C : World} (h : KpP n₀ Bs A B) (k : KpP n₀ Bs B C) : KpP n₀ Bs A C := ⟨h.1.trans k.1, fun arr z hh => k.2 arr z (h.2 arr z hh)⟩
theorem KpP.refl {n₀ Bs : Nat} {A : World} : KpP n₀ Bs A A := ⟨Below.refl _ _, fun _ _ h => h⟩
/-- what the iterator reads, in a world -/
structure PlR (W : World) (n₀ Bs g nf cf : Nat) (Af : Option Addr) (a0 a3 a4 : Value) (ps offs : List Nat) (Ap : Option Addr) (np cp : Nat) : Prop where
  blk : W.heap[Bs]? = some (.cells #[a0, .slice Af nf cf, .slice Ap np cp, a3, a4] 44 (0, 0))
  fnd : ∀ (i o : Nat), offs[i]? = some o → W.cell? ⟨g, i * 9 + 1, none⟩ = some (.int .u32 (o : Int))
  pas : Rd W n₀ Ap (ps.map fun q : Nat => Value.int .i64 (q : Int))
theorem PlR.on {W W' : World} {n₀ Bs g nf cf : Nat} {Af : Option Addr} {a0 a3 a4 : Value} {ps offs : List Nat} {Ap : Option Addr} {np cp : Nat} (h : PlR W n₀ Bs g nf cf Af a0 a3 a4 ps offs Ap np cp) (hk : KpP n₀ Bs W W') (hg : offs ≠ [] → g < n₀) : PlR W' n₀ Bs g nf cf Af a0 a3 a4 ps offs Ap np cp :=
  ⟨hk.2 _ _ h.blk, fun i o ho => (hk.1.cell (p := ⟨g, i * 9 + 1, none⟩) (hg (by rintro rfl; simp at ho))).trans (h.fnd i o ho), h.pas.below hk.1 (Nat.le_refl _)⟩
end Go.Proofs.YtaicibmaogiibaaGreatDoor.Sc

/- ScLosts -/

/-
  Layer 12: the landed scan: what may be lost, by a seal.
-/
set_option linter.unusedVariables false
set_option linter.unusedSimpArgs false
namespace Go.Proofs.YtaicibmaogiibaaGreatDoor.Sc
open Go Go.RowKit
attribute [local go_sem] Oper.semAt_some

section
variable {w w' : World} {row : Option Nat}
end
/-- what was found there -/
def Pla.fd {n : Nat} (fs : List Fd) (x : Pla n) : Option Fd := x.num.bind fun i => fs[i]?
section
variable {w W W' : World} {bx L Fb g7 g8 : Nat} {s : S} {x : Sl} {vf vp : Value} {st : Int × Bool × List (Int × Int)}
/-- what a round keeps -/
def Fr2 (n₀ Bs : Nat) (W W' : World) : Prop := KeepsOthers W W' ∧ KpP n₀ Bs W W'
theorem Fr2.trans {n₀ Bs : Nat} {A B C : World} (h : Fr2 n₀ Bs A B) (k : Fr2 n₀ Bs B C) : Fr2 n₀ Bs A C := ⟨h.1.trans k.1, h.2.trans k.2⟩
theorem Fr2.drew {n₀ Bs : Nat} {W : World} : Fr2 n₀ Bs W W.drew := ⟨⟨Nat.le_refl _, fun _ _ h _ => h⟩, (Below.refl n₀ W).drew, fun _ _ h => h⟩
end
end Go.Proofs.YtaicibmaogiibaaGreatDoor.Sc

/- ScKnows -/

/-
  Layer 12: what the laws know of the chapter's rows.
-/
set_option linter.unusedVariables false
set_option linter.unusedSimpArgs false
namespace Go.Proofs.YtaicibmaogiibaaGreatDoor.Sc
open Go Go.RowKit

section
variable {w w' : World} {N : Nat → Prop} {lo : Nat} {v : Value}
theorem RowIn.chg {l : List UInt8} (h : RowIn w lo v l) (hc : Chg N w w') (hN : ∀ i, N i → i < lo) : RowIn w' lo v l := by
  rcases h with ⟨rfl, rfl⟩ | ⟨g, rfl, h1, h⟩
  · exact .inl ⟨rfl, rfl⟩
  · exact .inr ⟨g, rfl, h1, (hc.block g h.lt (fun hn => by have := hN g hn; omega)).trans h⟩
theorem own_chg {base size n : Nat} {e : TypeId} {xs : List Value} (h : w.ownsRow base e size v n xs) (hc : Chg N w w') (hN : ∀ i, N i → i < base) : w'.ownsRow base e size v n xs :=
  hc.own h fun g hv hn => by have := (h.lt g hv).1; have := hN g hn; omega
theorem ScanV.chg {T : TypeId} {s : S} (h : ScanV T w lo v s) (hc : Chg N w w') (hN : ∀ i, N i → i < lo) : ScanV T w' lo v s := by
  obtain ⟨vf, vp, q, h1, h2, h3, h4, h5⟩ := h
  exact ⟨vf, vp, q, h1, h2, own_chg h3 hc hN, fun x hx => ⟨RowIn.chg (h4 x hx).key hc hN, RowIn.chg (h4 x hx).val hc hN⟩, own_chg h5 hc hN⟩
/-- a scan's value, its numbers spelled out -/
theorem ScanV.lit {T : TypeId} {s : S} (h : ScanV T w lo v s) (i st wy : Int) (n np : Nat) (h1 : (s.id : Int) = i) (h2 : s.found.length = n) (h3 : s.passed.length = np) (h4 : (s.stop : Int) = st) (h5 : (s.why : Int) = wy) :
    ∃ Af cf Ap cp, ∃ q : List Fq, v = .agg #[.int .u32 i, .slice Af n cf, .slice Ap np cp, .int .i64 st, .int .i64 wy] ∧ q.map (·.1) = s.found ∧ n ≤ cf ∧ np ≤ cp ∧ w.ownsRow lo T 9 (.slice Af n cf) n (rowF s.id q) ∧ w.ownsRow lo 3 1 (.slice Ap np cp) np (s.passed.map fun n : Nat => Value.int .i64 (n : Int)) := by
  obtain ⟨Af, nf, cf, Ap, np', cp, q, e, hq, hn, hp, hf, e1, e2, e3, e4, o1, _, o2⟩ := h.open
  subst h1 h2 h3 h4 h5
  subst hf hp
  exact ⟨Af, cf, Ap, cp, q, e, hq, e1, e3, o1, o2⟩
theorem Rd.set1 {B g j : Nat} {xs : List Value} {x : Value} (h : Rd w B (some ⟨g, 0, none⟩) xs) (hj : j < xs.length) : Rd (w.setCell ⟨g, j, none⟩ x) B (some ⟨g, 0, none⟩) (xs.set j x) := fun hx => by
  obtain ⟨b, o, e, hb, hc⟩ := h (by intro e; rw [e] at hj; simp at hj)
  injection e with e
  injection e with e1 e2 _
  subst e1 e2
  refine ⟨g, 0, rfl, hb, fun k u hu => ?_⟩
  rw [Nat.zero_add]
  rw [List.getElem?_set] at hu
  by_cases hk : j = k
  · subst hk
    rw [if_pos rfl, if_pos hj] at hu
    injection hu with hu
    subst hu
    have := hc j _ (List.getElem?_eq_getElem hj)
    rw [Nat.zero_add] at this
    exact World.cell?_setCell_same' _ _ _ (by rw [this]; rfl)
  · rw [if_neg hk] at hu
    have := hc k u hu
    rw [Nat.zero_add] at this
    rw [← this]
    exact World.cell?_setCell_other _ _ _ _ (by intro e; injection e with _ e _; exact hk e)
end
end Go.Proofs.YtaicibmaogiibaaGreatDoor.Sc

