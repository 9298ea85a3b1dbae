
/-
  Layer 6: a map of numbers (map[uint64]int) in memory, each key at 1, that reads as a row of them.
-/
import Derived.Test.YtboeiadfmknidaaGreatFxAt
import Derived.Maps.OwnSet
import Derived.Maps.Range
import Derived.Laws.Cover3
set_option linter.unusedVariables false
set_option linter.unusedSimpArgs false
namespace Go.Proofs.YtboeiadfmknidaaGreat
open Go.RowKit Go.Maps

def ku (i : Nat) : Lit := .int .u64 (i : Int)
theorem ku_inj {a b : Nat} (h : ku a = ku b) : a = b := by
  unfold ku at h
  injection h with _ h
  omega
theorem keyedU : Keyed Tryz.prog 64 := int_keyed Tryz.underlying64
theorem wfU {i : Nat} (hi : i < 1000000000) : (Lit.int .u64 (i : Int)).wf = true := by
  have e1 : IntKind.u64.min = 0 := by decide
  have e2 : IntKind.u64.max = 18446744073709551615 := by decide
  simp only [Lit.wf, e1, e2, Bool.and_eq_true, decide_eq_true_eq]
  omega
theorem keyOf_ku {i : Nat} (hi : i < 1000000000) : keyOf Tryz.prog 64 (.int .u64 (i : Int)) = some (ku i) := keyOf_int_mk Tryz.underlying64 (wfU hi)
theorem isKey_ku (i : Nat) : WideAt.IsKeyLit (ku i) := trivial
/-- block b is a map of at most n keys, of which those of l are at 1, and no others there -/
def MapU (w : World) (b n : Nat) (l : List Nat) : Prop := ∃ D : DataW Unit, w.ownsMap Tryz.prog 64 (plainElem Tryz.prog 3) b n D ∧ (∀ i, i ∈ l → ∀ zd, D.atKey (ku i) zd = .lit (.int .i64 1)) ∧ (∀ k, (∀ i, i ∈ l → k ≠ ku i) → Maps.has D k = false)
section
variable {w w' : World} {b n : Nat} {l : List Nat} {M : Nat → Prop}
theorem MapU.lt (h : MapU w b n l) : b < w.heap.size := by obtain ⟨D, h, _⟩ := h; exact h.lt
theorem MapU.of_block (h : MapU w b n l) (hb : w'.heap[b]? = w.heap[b]?) : MapU w' b n l := by
  obtain ⟨D, ⟨es', clock, h1, h2⟩, hr⟩ := h
  exact ⟨D, ⟨es', clock, hb.trans h1, h2⟩, hr⟩
theorem MapU.chg (h : MapU w b n l) (hc : Chg M w w') (hM : ¬ M b) : MapU w' b n l := h.of_block (hc.block b h.lt hM)
theorem MapU.on (h : MapU w b n l) (hb : Below w.heap.size w w') : MapU w' b n l := h.of_block (hb.block b h.lt)
theorem MapU.new (w : World) : MapU (w.alloc (.map #[] 0)) w.heap.size 0 [] := ⟨_, World.ownsMap_made w _ _ _, (fun i hi => absurd hi (by simp)), (fun k _ => rfl)⟩
theorem MapU.congr {l' : List Nat} (h : MapU w b n l) (he : ∀ i, i ∈ l ↔ i ∈ l') : MapU w b n l' := by
  obtain ⟨D, h1, h2, h3⟩ := h
  exact ⟨D, h1, fun i hi => h2 i ((he i).2 hi), fun k hk => h3 k (fun i hi => hk i ((he i).1 hi))⟩
theorem zeroI64m (w : World) : (zeroValue 3).run Tryz.prog w = .ok (.int .i64 0) w := by kernel_rfl
theorem chg_turned (h : w.mapTurned w' b) : Chg (fun i => i = b) w w' := Chg.of_grown h.grown (by intro g hg; injection hg with hg; exact hg.symm)
end
end Go.Proofs.YtboeiadfmknidaaGreat
