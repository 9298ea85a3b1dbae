/-
  ScanLost, part 11 of what the law's proof leans on: HxMapU.
-/
import Derived.Maps.OwnSet
import Derived.Maps.Range
import Derived.Laws.Cover3
import Derived.Test.YtkpkfgcbccaibaaDoorScanLostQ10
/- HxMapU -/

/-
  Layer 6: a map of numbers (map[uint64]int) in memory, each key at 1, that reads as a row of them.
-/
set_option linter.unusedVariables false
set_option linter.unusedSimpArgs false
namespace Go.Proofs.YtkpkfgcbccaibaaDoor
open Go.RowKit Go.Maps

def ku (i : Nat) : Lit := .int .u64 (i : Int)
theorem ku_inj {a b : Nat} (h : ku a = ku b) : a = b := by
  unfold ku at h
  injection h with _ h
  omega
theorem keyedU : Keyed Tryd.prog 24 := int_keyed Tryd.underlying24
theorem wfU {i : Nat} (hi : i < 1000000000) : (Lit.int .u64 (i : Int)).wf = true := by
  have e1 : IntKind.u64.min = 0 := by decide
  have e2 : IntKind.u64.max = 18446744073709551615 := by decide
  simp only [Lit.wf, e1, e2, Bool.and_eq_true, decide_eq_true_eq]
  omega
theorem keyOf_ku {i : Nat} (hi : i < 1000000000) : keyOf Tryd.prog 24 (.int .u64 (i : Int)) = some (ku i) := keyOf_int_mk Tryd.underlying24 (wfU hi)
theorem isKey_ku (i : Nat) : WideAt.IsKeyLit (ku i) := trivial
/-- block b is a map of at most n keys, of which those of l are at 1, and no others there -/
def MapU (w : World) (b n : Nat) (l : List Nat) : Prop := ∃ D : DataW Unit, w.ownsMap Tryd.prog 24 (plainElem Tryd.prog 3) b n D ∧ (∀ i, i ∈ l → ∀ zd, D.atKey (ku i) zd = .lit (.int .i64 1)) ∧ (∀ k, (∀ i, i ∈ l → k ≠ ku i) → Maps.has D k = false)
section
variable {w w' : World} {b n : Nat} {l : List Nat} {M : Nat → Prop}
theorem MapU.lt (h : MapU w b n l) : b < w.heap.size := by obtain ⟨D, h, _⟩ := h; exact h.lt
theorem MapU.of_block (h : MapU w b n l) (hb : w'.heap[b]? = w.heap[b]?) : MapU w' b n l := by
  obtain ⟨D, ⟨es', clock, h1, h2⟩, hr⟩ := h
  exact ⟨D, ⟨es', clock, hb.trans h1, h2⟩, hr⟩
theorem MapU.chg (h : MapU w b n l) (hc : Chg M w w') (hM : ¬ M b) : MapU w' b n l := h.of_block (hc.block b h.lt hM)
theorem MapU.on (h : MapU w b n l) (hb : Below w.heap.size w w') : MapU w' b n l := h.of_block (hb.block b h.lt)
theorem MapU.new (w : World) : MapU (w.alloc (.map #[] 0)) w.heap.size 0 [] := ⟨_, World.ownsMap_made w _ _ _, (fun i hi => absurd hi (by simp)), (fun k _ => rfl)⟩
theorem MapU.congr {l' : List Nat} (h : MapU w b n l) (he : ∀ i, i ∈ l ↔ i ∈ l') : MapU w b n l' := by
  obtain ⟨D, h1, h2, h3⟩ := h
  exact ⟨D, h1, fun i hi => h2 i ((he i).2 hi), fun k hk => h3 k (fun i hi => hk i ((he i).1 hi))⟩
theorem zeroI64m (w : World) : (zeroValue 3).run Tryd.prog w = .ok (.int .i64 0) w := by kernel_rfl
set_option maxRecDepth 100000 in
theorem MapU.look (h : MapU w b n l) {i : Nat} (hi : i < 1000000000) :
    (Instr.lookup 63 (.map (some b)) (.int .u64 (i : Int)) false).run Tryd.prog w = .ok (.int .i64 (if i ∈ l then 1 else 0)) w := by
  obtain ⟨D, hown, h1, h2⟩ := h
  obtain ⟨c, hrun, e, hw⟩ := hown.lookup_int keyedU Tryd.underlying63 Tryd.underlying3 (zeroI64m w) (keyOf_ku hi)
  by_cases hm : i ∈ l
  · rw [h1 i hm] at e
    injection e with e
    injection e with _ e
    rw [hrun, if_pos hm, e]
  · rw [atKey_of_not_has (h2 _ (fun j hj e => hm (by rw [ku_inj e]; exact hj)))] at e
    injection e with e
    injection e with _ e
    rw [hrun, if_neg hm, e]
set_option maxRecDepth 100000 in
theorem MapU.store (h : MapU w b n l) (hn : n ≤ 1000000) {i : Nat} (hi : i < 1000000000) :
    ∃ w', (Instr.mapUpdate 63 (.map (some b)) (.int .u64 (i : Int)) (.int .i64 1)).run Tryd.prog w = .ok () w' ∧ MapU w' b (n + 1) (i :: l) ∧ w.mapTurned w' b := by
  obtain ⟨D, hown, h1, h2⟩ := h
  obtain ⟨w', hrun, r1, r2⟩ := hown.store keyedU Tryd.underlying63 (by unfold maxLen; omega) (keyOf_ku hi) (plainElem_int Tryd.underlying3 (by decide : (Lit.int .i64 1).wf = true))
  refine ⟨w', hrun, ⟨_, r1, fun j hj zd => ?_, fun k hk => ?_⟩, r2⟩
  · by_cases e : j = i
    · subst e; exact atKey_put_same hown.isMap (isKey_ku j) _ _
    · rcases List.mem_cons.1 hj with e' | hj
      · exact absurd e' e
      · exact (atKey_put_other (fun e' => e (ku_inj e')) _ _).trans (h1 j hj zd)
  · exact (has_put_other (hk i (by simp)) _).trans (h2 k (fun j hj => hk j (by simp [hj])))
set_option maxRecDepth 100000 in
theorem MapU.drop (h : MapU w b n l) {i : Nat} (hi : i < 1000000000) (ty : TypeId) :
    ∃ w', (Builtin.delete_ #[63, 24] ty #[.map (some b), .int .u64 (i : Int)]).run Tryd.prog w = .ok (.tuple #[]) w' ∧ MapU w' b n (l.filter (· ≠ i)) ∧ w.mapTurned w' b := by
  obtain ⟨D, hown, h1, h2⟩ := h
  obtain ⟨w', hrun, r1, r2⟩ := hown.drop keyedU Tryd.underlying63 (keyOf_ku hi) ty
  refine ⟨w', hrun, ⟨_, r1, fun j hj zd => ?_, fun k hk => ?_⟩, r2⟩
  · have hj2 := List.mem_filter.1 hj
    exact (atKey_del_other (fun e' => by have := ku_inj e'; simp [this] at hj2) _).trans (h1 j hj2.1 zd)
  · by_cases e : k = ku i
    · subst e; exact has_del_same
    · refine (has_del_other e).trans (h2 k (fun j hj => ?_))
      by_cases e2 : j = i
      · subst e2; exact e
      · exact hk j (List.mem_filter.2 ⟨hj, by simpa using e2⟩)
set_option maxRecDepth 100000 in
theorem hmkU (w : World) : (Instr.makeMap 63 none).run Tryd.prog w = .ok (.map (some w.heap.size)) (w.alloc (.map #[] 0)) := by
  simp [Instr.makeMap, run_underlying Tryd.underlying63, go_sem, Result.andThen]
theorem chg_turned (h : w.mapTurned w' b) : Chg (fun i => i = b) w w' := Chg.of_grown h.grown (by intro g hg; injection hg with hg; exact hg.symm)
end
end Go.Proofs.YtkpkfgcbccaibaaDoor

