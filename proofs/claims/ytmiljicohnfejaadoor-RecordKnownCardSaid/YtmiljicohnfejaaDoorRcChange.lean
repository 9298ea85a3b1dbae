
/-
  Layer 8: RecordKnown's closures: what a change makes of the chapter's record may not be.
-/
import Derived.Test.YtmiljicohnfejaaDoorRcBox
set_option linter.unusedVariables false
set_option linter.unusedSimpArgs false
namespace Go.Proofs.YtmiljicohnfejaaDoor
open Go.RowKit

/-- a function that changes the chapter's record, where it stands -/
def ChangesTo (F : FuncId) (r : Rc.Rec) : Prop := ∀ (W : World) (g : Nat) (A : Option Addr) (c : Nat) (A' : Option Addr) (c' : Nat), W.heap[g]? = some (.cells #[.int .u64 1, .int .i64 1, .slice A 1 c, .slice A' 1 c', .int .u32 0, .int .u32 0] 28 (0, 0)) → Bs W g (.slice A 1 c) [107] → Bs W g (.slice A' 1 c') [118] →
  Calls Tryd.prog F #[.pointer (some ⟨g, 0, none⟩)] W fun e w' => (∃ u, e = .returned u) ∧ BoxR w' g r ∧ Below g W w'
theorem change2 : ChangesTo 23 ⟨0, 1, [107], [118], 0, 0⟩ := by
  intro W g A c A' c' hx hk hv
  obtain ⟨e0, e1, e2, e3, e4, e5⟩ := box6h hx
  obtain ⟨d0, d1, d2, d3, d4, d5⟩ := box6hf hx
  have hb : Below g W (W.setCell ⟨g, 0, none⟩ (.int .u64 0)) := Below.setCell (p := ⟨g, 0, none⟩) (Below.refl g W) (Nat.le_refl g) _
  have hg : g ≤ (W.setCell ⟨g, 0, none⟩ (.int .u64 0)).heap.size := by have := (Array.getElem?_eq_some_iff.1 hx).1; simp [World.setCell]; omega
  have hs := set1 (i := 0) hx (.int .u64 0)
  have HB := Lib.hid hb
  have HR : Hid (BoxR (W.setCell ⟨g, 0, none⟩ (.int .u64 0)) g ⟨0, 1, [107], [118], 0, 0⟩) := Lib.hid ⟨_, _, _, _, by have h := hs; simp only [List.setIfInBounds_toArray, List.set_cons_zero, List.set_cons_succ] at h; exact h, (hk.below hb (Nat.le_refl _)).mono hg, (hv.below hb (Nat.le_refl _)).mono hg⟩
  clear hb hg hs hk hv
  go_enter Tryd.func23, Tryd.ntmps23
  go_wp2_with fail
  go_end0
  exact ⟨⟨_, rfl⟩, HR.out, HB.out⟩
theorem change3 : ChangesTo 24 ⟨1099511627777, 1, [107], [118], 0, 0⟩ := by
  intro W g A c A' c' hx hk hv
  obtain ⟨e0, e1, e2, e3, e4, e5⟩ := box6h hx
  obtain ⟨d0, d1, d2, d3, d4, d5⟩ := box6hf hx
  have hb : Below g W (W.setCell ⟨g, 0, none⟩ (.int .u64 1099511627777)) := Below.setCell (p := ⟨g, 0, none⟩) (Below.refl g W) (Nat.le_refl g) _
  have hg : g ≤ (W.setCell ⟨g, 0, none⟩ (.int .u64 1099511627777)).heap.size := by have := (Array.getElem?_eq_some_iff.1 hx).1; simp [World.setCell]; omega
  have hs := set1 (i := 0) hx (.int .u64 1099511627777)
  have HB := Lib.hid hb
  have HR : Hid (BoxR (W.setCell ⟨g, 0, none⟩ (.int .u64 1099511627777)) g ⟨1099511627777, 1, [107], [118], 0, 0⟩) := Lib.hid ⟨_, _, _, _, by have h := hs; simp only [List.setIfInBounds_toArray, List.set_cons_zero, List.set_cons_succ] at h; exact h, (hk.below hb (Nat.le_refl _)).mono hg, (hv.below hb (Nat.le_refl _)).mono hg⟩
  clear hb hg hs hk hv
  go_enter Tryd.func24, Tryd.ntmps24
  go_wp2_with fail
  go_end0
  exact ⟨⟨_, rfl⟩, HR.out, HB.out⟩
theorem change4 : ChangesTo 25 ⟨1, 0, [107], [118], 0, 0⟩ := by
  intro W g A c A' c' hx hk hv
  obtain ⟨e0, e1, e2, e3, e4, e5⟩ := box6h hx
  obtain ⟨d0, d1, d2, d3, d4, d5⟩ := box6hf hx
  have hb : Below g W (W.setCell ⟨g, 1, none⟩ (.int .i64 0)) := Below.setCell (p := ⟨g, 1, none⟩) (Below.refl g W) (Nat.le_refl g) _
  have hg : g ≤ (W.setCell ⟨g, 1, none⟩ (.int .i64 0)).heap.size := by have := (Array.getElem?_eq_some_iff.1 hx).1; simp [World.setCell]; omega
  have hs := set1 (i := 1) hx (.int .i64 0)
  have HB := Lib.hid hb
  have HR : Hid (BoxR (W.setCell ⟨g, 1, none⟩ (.int .i64 0)) g ⟨1, 0, [107], [118], 0, 0⟩) := Lib.hid ⟨_, _, _, _, by have h := hs; simp only [List.setIfInBounds_toArray, List.set_cons_zero, List.set_cons_succ] at h; exact h, (hk.below hb (Nat.le_refl _)).mono hg, (hv.below hb (Nat.le_refl _)).mono hg⟩
  clear hb hg hs hk hv
  go_enter Tryd.func25, Tryd.ntmps25
  go_wp2_with fail
  go_end0
  exact ⟨⟨_, rfl⟩, HR.out, HB.out⟩
theorem change5 : ChangesTo 26 ⟨1, 3, [107], [118], 0, 0⟩ := by
  intro W g A c A' c' hx hk hv
  obtain ⟨e0, e1, e2, e3, e4, e5⟩ := box6h hx
  obtain ⟨d0, d1, d2, d3, d4, d5⟩ := box6hf hx
  have hb : Below g W (W.setCell ⟨g, 1, none⟩ (.int .i64 3)) := Below.setCell (p := ⟨g, 1, none⟩) (Below.refl g W) (Nat.le_refl g) _
  have hg : g ≤ (W.setCell ⟨g, 1, none⟩ (.int .i64 3)).heap.size := by have := (Array.getElem?_eq_some_iff.1 hx).1; simp [World.setCell]; omega
  have hs := set1 (i := 1) hx (.int .i64 3)
  have HB := Lib.hid hb
  have HR : Hid (BoxR (W.setCell ⟨g, 1, none⟩ (.int .i64 3)) g ⟨1, 3, [107], [118], 0, 0⟩) := Lib.hid ⟨_, _, _, _, by have h := hs; simp only [List.setIfInBounds_toArray, List.set_cons_zero, List.set_cons_succ] at h; exact h, (hk.below hb (Nat.le_refl _)).mono hg, (hv.below hb (Nat.le_refl _)).mono hg⟩
  clear hb hg hs hk hv
  go_enter Tryd.func26, Tryd.ntmps26
  go_wp2_with fail
  go_end0
  exact ⟨⟨_, rfl⟩, HR.out, HB.out⟩
theorem change6 : ChangesTo 27 ⟨1, 2, [107], [118], 0, 0⟩ := by
  intro W g A c A' c' hx hk hv
  obtain ⟨e0, e1, e2, e3, e4, e5⟩ := box6h hx
  obtain ⟨d0, d1, d2, d3, d4, d5⟩ := box6hf hx
  have hb : Below g W (W.setCell ⟨g, 1, none⟩ (.int .i64 2)) := Below.setCell (p := ⟨g, 1, none⟩) (Below.refl g W) (Nat.le_refl g) _
  have hg : g ≤ (W.setCell ⟨g, 1, none⟩ (.int .i64 2)).heap.size := by have := (Array.getElem?_eq_some_iff.1 hx).1; simp [World.setCell]; omega
  have hs := set1 (i := 1) hx (.int .i64 2)
  have HB := Lib.hid hb
  have HR : Hid (BoxR (W.setCell ⟨g, 1, none⟩ (.int .i64 2)) g ⟨1, 2, [107], [118], 0, 0⟩) := Lib.hid ⟨_, _, _, _, by have h := hs; simp only [List.setIfInBounds_toArray, List.set_cons_zero, List.set_cons_succ] at h; exact h, (hk.below hb (Nat.le_refl _)).mono hg, (hv.below hb (Nat.le_refl _)).mono hg⟩
  clear hb hg hs hk hv
  go_enter Tryd.func27, Tryd.ntmps27
  go_wp2_with fail
  go_end0
  exact ⟨⟨_, rfl⟩, HR.out, HB.out⟩
theorem change7 : ChangesTo 28 ⟨1, 1, [], [118], 0, 0⟩ := by
  intro W g A c A' c' hx hk hv
  obtain ⟨e0, e1, e2, e3, e4, e5⟩ := box6h hx
  obtain ⟨d0, d1, d2, d3, d4, d5⟩ := box6hf hx
  have hb : Below g W (W.setCell ⟨g, 2, none⟩ (.slice none 0 0)) := Below.setCell (p := ⟨g, 2, none⟩) (Below.refl g W) (Nat.le_refl g) _
  have hg : g ≤ (W.setCell ⟨g, 2, none⟩ (.slice none 0 0)).heap.size := by have := (Array.getElem?_eq_some_iff.1 hx).1; simp [World.setCell]; omega
  have hs := set1 (i := 2) hx (.slice none 0 0)
  have HB := Lib.hid hb
  have HR : Hid (BoxR (W.setCell ⟨g, 2, none⟩ (.slice none 0 0)) g ⟨1, 1, [], [118], 0, 0⟩) := Lib.hid ⟨none, 0, _, _, by have h := hs; simp only [List.setIfInBounds_toArray, List.set_cons_zero, List.set_cons_succ] at h; exact h, Bs.none_, (hv.below hb (Nat.le_refl _)).mono hg⟩
  clear hb hg hs hk hv
  go_enter Tryd.func28, Tryd.ntmps28
  go_wp2_with fail
  go_end0
  exact ⟨⟨_, rfl⟩, HR.out, HB.out⟩
theorem change10 : ChangesTo 31 ⟨1, 1, [107], [118], 1, 0⟩ := by
  intro W g A c A' c' hx hk hv
  obtain ⟨e0, e1, e2, e3, e4, e5⟩ := box6h hx
  obtain ⟨d0, d1, d2, d3, d4, d5⟩ := box6hf hx
  have hb : Below g W (W.setCell ⟨g, 4, none⟩ (.int .u32 1)) := Below.setCell (p := ⟨g, 4, none⟩) (Below.refl g W) (Nat.le_refl g) _
  have hg : g ≤ (W.setCell ⟨g, 4, none⟩ (.int .u32 1)).heap.size := by have := (Array.getElem?_eq_some_iff.1 hx).1; simp [World.setCell]; omega
  have hs := set1 (i := 4) hx (.int .u32 1)
  have HB := Lib.hid hb
  have HR : Hid (BoxR (W.setCell ⟨g, 4, none⟩ (.int .u32 1)) g ⟨1, 1, [107], [118], 1, 0⟩) := Lib.hid ⟨_, _, _, _, by have h := hs; simp only [List.setIfInBounds_toArray, List.set_cons_zero, List.set_cons_succ] at h; exact h, (hk.below hb (Nat.le_refl _)).mono hg, (hv.below hb (Nat.le_refl _)).mono hg⟩
  clear hb hg hs hk hv
  go_enter Tryd.func31, Tryd.ntmps31
  go_wp2_with fail
  go_end0
  exact ⟨⟨_, rfl⟩, HR.out, HB.out⟩
theorem change11 : ChangesTo 32 ⟨1, 1, [107], [118], 0, 16⟩ := by
  intro W g A c A' c' hx hk hv
  obtain ⟨e0, e1, e2, e3, e4, e5⟩ := box6h hx
  obtain ⟨d0, d1, d2, d3, d4, d5⟩ := box6hf hx
  have hb : Below g W (W.setCell ⟨g, 5, none⟩ (.int .u32 16)) := Below.setCell (p := ⟨g, 5, none⟩) (Below.refl g W) (Nat.le_refl g) _
  have hg : g ≤ (W.setCell ⟨g, 5, none⟩ (.int .u32 16)).heap.size := by have := (Array.getElem?_eq_some_iff.1 hx).1; simp [World.setCell]; omega
  have hs := set1 (i := 5) hx (.int .u32 16)
  have HB := Lib.hid hb
  have HR : Hid (BoxR (W.setCell ⟨g, 5, none⟩ (.int .u32 16)) g ⟨1, 1, [107], [118], 0, 16⟩) := Lib.hid ⟨_, _, _, _, by have h := hs; simp only [List.setIfInBounds_toArray, List.set_cons_zero, List.set_cons_succ] at h; exact h, (hk.below hb (Nat.le_refl _)).mono hg, (hv.below hb (Nat.le_refl _)).mono hg⟩
  clear hb hg hs hk hv
  go_enter Tryd.func32, Tryd.ntmps32
  go_wp2_with fail
  go_end0
  exact ⟨⟨_, rfl⟩, HR.out, HB.out⟩
theorem change8 : ChangesTo 29 ⟨1, 1, List.replicate 65 0, [118], 0, 0⟩ := by
  intro W g A c A' c' hx hk hv
  obtain ⟨e0, e1, e2, e3, e4, e5⟩ := box6h hx
  obtain ⟨d0, d1, d2, d3, d4, d5⟩ := box6hf hx
  have hlt := (Array.getElem?_eq_some_iff.1 hx).1
  have mk := run_make_b .i64 .i64 65 (by omega) W
  rw [show ((65 : Nat) : Int) = 65 by rfl] at mk
  go_enter Tryd.func29, Tryd.ntmps29
  go_wp2_with fail
  have hs := set1 (i := 2) hx (.slice (some ⟨W.heap.size, 0, none⟩) 65 65)
  simp only [List.setIfInBounds_toArray, List.set_cons_zero, List.set_cons_succ] at hs
  have hb : Below g W (W.setCell ⟨g, 2, none⟩ (.slice (some ⟨W.heap.size, 0, none⟩) 65 65)) := Below.setCell (p := ⟨g, 2, none⟩) (Below.refl g W) (Nat.le_refl g) _
  have hsz : (W.setCell ⟨g, 2, none⟩ (.slice (some ⟨W.heap.size, 0, none⟩) 65 65)).heap.size = W.heap.size := by simp [World.setCell]
  generalize W.setCell ⟨g, 2, none⟩ (.slice (some ⟨W.heap.size, 0, none⟩) 65 65) = W2 at *
  have b2 := bnew W2 (.cells (zer 65) 5)
  have hrow := RowAt.new W2 65
  rw [hsz] at hrow
  have hl : (List.replicate 65 (0 : UInt8)).length = 65 := List.length_replicate
  have hg : g ≤ (W2.alloc (.cells (zer 65) 5)).heap.size := by simp; omega
  have h0 := (b2.block g (by omega)).trans hs
  go_end0
  refine ⟨⟨_, rfl⟩, ⟨_, _, _, _, (by rw [hl]; exact h0), (by rw [hl]; exact (hrow.bs' hrow.lt hl)), ((hv.below hb (Nat.le_refl _)).below b2 (by omega)).mono hg⟩, hb.trans (b2.mono (by omega))⟩
theorem change9 : ChangesTo 30 ⟨1, 1, [107], List.replicate 1025 0, 0, 0⟩ := by
  intro W g A c A' c' hx hk hv
  obtain ⟨e0, e1, e2, e3, e4, e5⟩ := box6h hx
  obtain ⟨d0, d1, d2, d3, d4, d5⟩ := box6hf hx
  have hlt := (Array.getElem?_eq_some_iff.1 hx).1
  have mk := run_make_b .i64 .i64 1025 (by omega) W
  rw [show ((1025 : Nat) : Int) = 1025 by rfl] at mk
  go_enter Tryd.func30, Tryd.ntmps30
  go_wp2_with fail
  have hs := set1 (i := 3) hx (.slice (some ⟨W.heap.size, 0, none⟩) 1025 1025)
  simp only [List.setIfInBounds_toArray, List.set_cons_zero, List.set_cons_succ] at hs
  have hb : Below g W (W.setCell ⟨g, 3, none⟩ (.slice (some ⟨W.heap.size, 0, none⟩) 1025 1025)) := Below.setCell (p := ⟨g, 3, none⟩) (Below.refl g W) (Nat.le_refl g) _
  have hsz : (W.setCell ⟨g, 3, none⟩ (.slice (some ⟨W.heap.size, 0, none⟩) 1025 1025)).heap.size = W.heap.size := by simp [World.setCell]
  generalize W.setCell ⟨g, 3, none⟩ (.slice (some ⟨W.heap.size, 0, none⟩) 1025 1025) = W2 at *
  have b2 := bnew W2 (.cells (zer 1025) 5)
  have hrow := RowAt.new W2 1025
  rw [hsz] at hrow
  have hl : (List.replicate 1025 (0 : UInt8)).length = 1025 := List.length_replicate
  have hg : g ≤ (W2.alloc (.cells (zer 1025) 5)).heap.size := by simp; omega
  have h0 := (b2.block g (by omega)).trans hs
  go_end0
  refine ⟨⟨_, rfl⟩, ⟨_, _, _, _, (by rw [hl]; exact h0), ((hk.below hb (Nat.le_refl _)).below b2 (by omega)).mono hg, (by rw [hl]; exact (hrow.bs' hrow.lt hl))⟩, hb.trans (b2.mono (by omega))⟩
end Go.Proofs.YtmiljicohnfejaaDoor
