
/-
  Layer 4: a map whose keys are prints: one entry, or two.
-/
import Derived.Test.YtaekndhchdpobaaKyEqP
import Derived.Maps.OwnSet
import Derived.DeepKeys4
import Derived.WideKeyPair
import Derived.WideMake
import Derived.KernelRfl
set_option linter.unusedVariables false
set_option linter.unusedSimpArgs false
namespace Go.Proofs.Ytaekndhchdpobaa
open Go.RowKit Go.Maps

theorem laidOutK : laidOutB Try.prog = true := by kernel_rfl
theorem rowPr : 58 < Try.prog.types.size := of_decide_eq_true (by kernel_rfl)
theorem widePr : (match Try.prog.underlying 58 with | some (.array _ _) | some (.struct _) => true | _ => false) = true := by kernel_rfl
set_option maxRecDepth 100000 in
theorem lawPr : WideMaps.KeyLaw Try.prog 58 := deep_law_laid laidOutK (m := 4) (by omega) rowPr (by kernel_rfl) widePr
theorem keyedPr : Keyed Try.prog 58 := Keyed.of_law lawPr
def klp (n : Nat) (f : Nat → Nat) : Lit := .string (keyBytes (prLits n f))
theorem keyOf_pr {n : Nat} {f : Nat → Nat} (h : Fit n f) : keyOf Try.prog 58 (prv n f) = some (klp n f) := by
  have hu := Try.underlying58
  have hkt : Try.prog.keyType 58 = true := by kernel_rfl
  have fx : (prv n f).formed Try.prog 58 = true := by kernel_rfl
  have e : Try.prog.keyLits (Try.prog.types.size + 1) 58 (prv n f).cells.toList = Try.prog.keyLits 4 58 (prCells n f) := by kernel_rfl
  unfold keyOf
  simp only [hu]
  rw [if_pos (by simp [hkt, fx]), e, litsPr h]
  rfl
theorem prv_inj {n m : Nat} {f g : Nat → Nat} : prv n f = prv m g ↔ n = m ∧ ∀ i, i < 8 → f i = g i := by
  rw [← prLits_inj]
  constructor
  · intro h
    simp only [prv, prCells, Value.agg.injEq, Array.mk.injEq, List.cons.injEq, Value.int.injEq, true_and, and_true] at h
    obtain ⟨h, h0, h1, h2, h3, h4, h5, h6, h7⟩ := h
    unfold prLits
    rw [h, h0, h1, h2, h3, h4, h5, h6, h7]
  · intro h
    obtain ⟨rfl, k⟩ := prLits_inj.1 h
    unfold prv prCells
    rw [k 0 (by omega), k 1 (by omega), k 2 (by omega), k 3 (by omega), k 4 (by omega), k 5 (by omega), k 6 (by omega), k 7 (by omega)]
theorem mapT : Try.prog.underlying 64 = some (.map 58 3) := Try.underlying64

theorem PrAt.apart {w : World} {P n : Nat} {f : Nat → Nat} (h : PrAt w P n f) (Q o : Nat) (vs : List Value) (hne : P ≠ Q) : PrAt (w.setCells Q o vs) P n f :=
  ⟨World.rangeAt_setCells_apart h.range Q o vs (.inl hne), World.there_setCells h.there Q o vs⟩
/-- block B is a map of these entries -/
def MapIs (w : World) (B : Nat) (es : Array MapEntry) (clock : Nat) : Prop := w.heap[B]? = some (.map es clock)
def setM (w : World) (B : Nat) (es : Array MapEntry) (clock : Nat) : World := { w with heap := w.heap.setIfInBounds B (.map es clock) }
theorem MapIs.set {w : World} {B : Nat} {es : Array MapEntry} {clock : Nat} (h : MapIs w B es clock) (es' : Array MapEntry) (clock' : Nat) : MapIs (setM w B es' clock') B es' clock' ∧ w.grownBy (setM w B es' clock') (some B) := by
  have hl : B < w.heap.size := by
    rcases Nat.lt_or_ge B w.heap.size with h2 | h2
    · exact h2
    · unfold MapIs at h; rw [Array.getElem?_eq_none h2] at h; cases h
  refine ⟨by simp [MapIs, setM, hl], ⟨rfl, rfl, rfl, by simp [setM], fun k _ hk => ?_⟩⟩
  simp only [setM]
  rw [Array.getElem?_setIfInBounds_ne (fun e => hk (by rw [e]))]
theorem MapIs.lt {w : World} {B : Nat} {es : Array MapEntry} {clock : Nat} (h : MapIs w B es clock) : B < w.heap.size := by
  rcases Nat.lt_or_ge B w.heap.size with h2 | h2
  · exact h2
  · unfold MapIs at h; rw [Array.getElem?_eq_none h2] at h; cases h
theorem find0 {n : Nat} {f : Nat → Nat} (h : Fit n f) (w : World) : (Instr.findKey 58 (prv n f) []).run Try.prog w = .ok none w := by
  rcases keyedPr.find w (keyOf_pr h) [] (fun e he => by cases he) with ⟨h1, _⟩ | ⟨j, e, _, h2, _⟩
  · exact h1
  · simp at h2
theorem find1 {n m : Nat} {f g : Nat → Nat} (h : Fit n f) (h' : Fit m g) (v : Value) (c : Nat) (w : World) : ∃ r, (Instr.findKey 58 (prv n f) [⟨prv m g, v, c⟩]).run Try.prog w = .ok r w ∧ (prv n f = prv m g → r = some (0, v)) ∧ (prv n f ≠ prv m g → r = none) := by
  rcases keyedPr.find w (keyOf_pr h) [⟨prv m g, v, c⟩] (fun e he => by simp at he; subst he; exact ⟨_, keyOf_pr h'⟩) with ⟨h1, h2⟩ | ⟨j, e, h1, h2, h3⟩
  · exact ⟨_, h1, fun e => absurd e.symm (h2 ⟨prv m g, v, c⟩ (by simp)), fun _ => rfl⟩
  · rcases j with _ | j
    · simp at h2
      subst h2
      exact ⟨_, h1, fun _ => rfl, fun hne => absurd h3.symm hne⟩
    · simp at h2
theorem find2 {n m : Nat} {f g : Nat → Nat} (h : Fit n f) (h' : Fit m g) (hne : prv n f ≠ prv m g) (v v' : Value) (c c' : Nat) (w : World) : (Instr.findKey 58 (prv n f) [⟨prv m g, v, c⟩, ⟨prv n f, v', c'⟩]).run Try.prog w = .ok (some (1, v')) w := by
  rcases keyedPr.find w (keyOf_pr h) [⟨prv m g, v, c⟩, ⟨prv n f, v', c'⟩] (fun e he => by simp at he; rcases he with rfl | rfl; exact ⟨_, keyOf_pr h'⟩; exact ⟨_, keyOf_pr h⟩) with ⟨h1, h2⟩ | ⟨j, e, h1, h2, h3⟩
  · exact absurd rfl (h2 ⟨prv n f, v', c'⟩ (by simp))
  · rcases j with _ | _ | j
    · simp at h2
      subst h2
      exact absurd h3.symm hne
    · simp at h2
      subst h2
      exact h1
    · simp at h2

/-- the first entry -/
theorem run_put0 {w : World} {B : Nat} {n : Nat} {f : Nat → Nat} (h : MapIs w B #[] 0) (hF : Fit n f) (v : Value) : (Instr.mapUpdate 64 (.map (some B)) (prv n f) v).run Try.prog w = .ok () (setM w B #[⟨prv n f, v, 0⟩] 1) := by
  have hc := keyedPr.check w false (keyOf_pr hF)
  have hf := find0 hF w
  simp [Instr.mapUpdate, run_underlying mapT, MapKept.run_getObj_map h, hc, hf, MapKept.run_setObj_map _ h, Result.andThen, setM]
/-- what is laid at a key -/
theorem run_look {w : World} {B clock : Nat} {es : Array MapEntry} {n : Nat} {f : Nat → Nat} (h : MapIs w B es clock) (hF : Fit n f) (r : Option (Nat × Value)) (hr : (Instr.findKey 58 (prv n f) es.toList).run Try.prog w = .ok r w) (x : Int) (hx : ∀ j v, r = some (j, v) → v = .int .i64 x) (hn : r = none → x = 0) :
    (Instr.lookup 64 (.map (some B)) (prv n f) false).run Try.prog w = .ok (.int .i64 x) w := by
  have hc := fun em => keyedPr.check w em (keyOf_pr hF)
  have hz : (zeroValue 3).run Try.prog w = .ok (.int .i64 0) w := by kernel_rfl
  rcases r with _ | ⟨j, v⟩
  · rw [hn rfl]
    simp [Instr.lookup, run_underlying mapT, MapKept.run_getObj_map h, hc, hr, hz, Result.andThen]
  · rw [hx j v rfl] at hr
    simp [Instr.lookup, run_underlying mapT, MapKept.run_getObj_map h, hc, hr, Result.andThen]
/-- an entry that is there -/
theorem run_entry1 {w : World} {B : Nat} {n : Nat} {f : Nat → Nat} {v : Value} (h : MapIs w B #[⟨prv n f, v, 0⟩] 1) (hF : Fit n f) : (Instr.mapEntry 64 (.map (some B)) (prv n f)).run Try.prog w = .ok (.tuple #[v, .int .i64 0]) (setM w B #[⟨prv n f, v, 0⟩] 1) := by
  have hc := keyedPr.check w false (keyOf_pr hF)
  have hs := keyedPr.stays w (keyOf_pr hF)
  obtain ⟨r, hr, h1, _⟩ := find1 hF hF v 0 w
  rw [h1 rfl] at hr
  simp [Instr.mapEntry, run_underlying mapT, MapKept.run_getObj_map h, hc, hr, hs, MapKept.run_setObj_map _ h, Result.andThen, setM, goInt]
/-- one that is made -/
theorem run_entry2 {w : World} {B : Nat} {n m : Nat} {f g : Nat → Nat} {v : Value} (h : MapIs w B #[⟨prv m g, v, 0⟩] 1) (hF : Fit n f) (hG : Fit m g) (hne : prv n f ≠ prv m g) : (Instr.mapEntry 64 (.map (some B)) (prv n f)).run Try.prog w = .ok (.tuple #[.int .i64 0, .int .i64 1]) (setM w B #[⟨prv m g, v, 0⟩, ⟨prv n f, .int .i64 0, 1⟩] 2) := by
  have hc := keyedPr.check w false (keyOf_pr hF)
  have hz : (zeroValue 3).run Try.prog w = .ok (.int .i64 0) w := by kernel_rfl
  obtain ⟨r, hr, _, h1⟩ := find1 hF hG v 0 w
  rw [h1 hne] at hr
  simp [Instr.mapEntry, run_underlying mapT, MapKept.run_getObj_map h, hc, hr, hz, MapKept.run_setObj_map _ h, Result.andThen, setM, goInt]
theorem run_store1 {w : World} {B : Nat} {k v x : Value} (h : MapIs w B #[⟨k, v, 0⟩] 1) : (Instr.entryStore 64 (.map (some B)) (.int .i64 0) x).run Try.prog w = .ok () (setM w B #[⟨k, x, 0⟩] 1) := by
  simp [Instr.entryStore, asInt, asIntOf, List.findIdx?_cons, MapKept.run_getObj_map h, MapKept.run_setObj_map _ h, Result.andThen, setM]
theorem run_store2 {w : World} {B : Nat} {k v k' v' x : Value} (h : MapIs w B #[⟨k, v, 0⟩, ⟨k', v', 1⟩] 2) : (Instr.entryStore 64 (.map (some B)) (.int .i64 1) x).run Try.prog w = .ok () (setM w B #[⟨k, v, 0⟩, ⟨k', x, 1⟩] 2) := by
  simp [Instr.entryStore, asInt, asIntOf, List.findIdx?_cons, MapKept.run_getObj_map h, MapKept.run_setObj_map _ h, Result.andThen, setM]
end Go.Proofs.Ytaekndhchdpobaa
