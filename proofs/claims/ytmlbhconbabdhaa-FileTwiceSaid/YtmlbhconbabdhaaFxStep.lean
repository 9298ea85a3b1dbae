
/-
  Layer 5: small facts for the walks of the laws.
-/
import Derived.Test.YtmlbhconbabdhaaFxFlip
import Derived.Test.YtmlbhconbabdhaaArgsF
set_option linter.unusedVariables false
set_option linter.unusedSimpArgs false
namespace Go.Proofs.Ytmlbhconbabdhaa
open Go.RowKit

theorem StepF.big {s s' : FSt} (h : StepF s s') : s'.big ≤ s.big + 60 := by
  rcases h with rfl | ⟨r, _, hr, rfl⟩ | ⟨k, _, rfl⟩
  · omega
  · rw [FSt.app_big]; omega
  · rw [FSt.cutd_big]; omega
theorem fequal_t {w : World} {B B' : Nat} {v v' : Value} {l : List UInt8} (h : Bs w B v l) (h' : Bs w B' v' l) :
    Calls Try.prog 16 #[v, v'] w fun e w' => e = .returned (.bool true) ∧ w = w' := by
  refine (fequal v v' l l B B' w h h').mono ?_
  rintro e w' ⟨rfl, rfl⟩
  exact ⟨by simp, rfl⟩
/-- a row of its own, however long the list says it is -/
theorem own_len {w : World} {B n : Nat} {e : TypeId} {v : Value} {l : List UInt8} (h : w.ownsRow B e 1 v n (bvs l)) : ∃ A c, v = .slice A l.length c := by
  have hn : l.length = n := by have := h.1; simpa [bvs] using this
  subst hn
  obtain ⟨A, c, e, _⟩ := own_slice h
  exact ⟨A, c, e⟩
theorem behind_zero (s : FSt) : s.behind 0 = s.safe := settleL_zero _ _
theorem FileM.lt1 {w : World} {F : Nat} {M R : Nat → Prop} {s : FSt} (h : FileM w F M R s) : ∀ i, M i → i < w.heap.size := h.2.2.1
theorem FileM.lt2 {w : World} {F : Nat} {M R : Nat → Prop} {s : FSt} (h : FileM w F M R s) : ∀ i, R i → i < w.heap.size := h.2.2.2.1
/-- the act that the laws' loop has at hand -/
theorem Act5At.on {w w' : World} {B b o : Nat} {a : Act5} (h : Act5At w B b o a) (hb : Below B w w') (hB : b < B) : Act5At w' B b o a := by
  obtain ⟨h0, h1, h2, v, h3, h4, h5⟩ := h
  exact ⟨(hb.cell (p := ⟨b, o, none⟩) hB).trans h0, (hb.cell (p := ⟨b, o + 1, none⟩) hB).trans h1, (hb.cell (p := ⟨b, o + 2, none⟩) hB).trans h2, v, (hb.cell (p := ⟨b, o + 3, none⟩) hB).trans h3, h4.below hb (Nat.le_refl _), h5⟩
end Go.Proofs.Ytmlbhconbabdhaa
