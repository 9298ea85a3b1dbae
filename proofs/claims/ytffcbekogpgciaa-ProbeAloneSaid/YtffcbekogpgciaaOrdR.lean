
/-
  A region that draws its order, in a round of a loop over an iterator: what the plain laws tell of it holds there too (it defers nothing).
-/
import Derived.Test.YtffcbekogpgciaaOrdL
import Derived.RangeFuncCalls
import Derived.RangeFuncNested
import Derived.OrdersIn
import Derived.TacticsIn
set_option linter.unusedVariables false
set_option linter.unusedSimpArgs false
namespace Go.Proofs.Ytffcbekogpgciaa.OrdR
open Go

/-- Q where it goes on, else 'False' -/
def OnlyN (Q : Exit → Act → World → Prop) : Exit → Act → World → Prop
  | .normal, a, w => Q .normal a w
  | _, _, _ => False
theorem OnlyN.normal {Q : Exit → Act → World → Prop} {a : Act} {w : World} (h : Q .normal a w) : OnlyN Q .normal a w := h
theorem OnlyN.lets {Q : Exit → Act → World → Prop} (h : LetsOut (OnlyN Q)) : False := by obtain ⟨a, w, h⟩ := h; exact h
def noDefer (ops : Array Oper) : Bool := ops.all fun o => match o.op with | .defer _ => false | _ => true
theorem noDefer_spec {ops : Array Oper} (h : noDefer ops = true) {i : Nat} {o : Oper} (ho : ops[i]? = some o) : ∀ c, o.op ≠ .defer c := by
  intro c e
  unfold noDefer at h
  rw [Array.all_eq_true] at h
  obtain ⟨hi, hh⟩ := Array.getElem?_eq_some_iff.1 ho
  have := h i hi
  rw [hh, e] at this
  cases this
theorem rows_in {P : Program} {row : String} {args : Array Value} {w : World} {R : Value → World → Prop} {n l : Nat} (h : Rows P row args w R) : RowsIn (Fence.wide.inRound l) n P row args w R := fun c cs _ => by
  obtain ⟨v, w', r, s⟩ := h c cs
  exact ⟨v, w', r, by rw [fenced_inRound]; exact stepsIn_wide.2 s⟩
section
variable {P : Program} {ops : Array Oper} {Q : Exit → Act → World → Prop} {md : Region.Mode}
theorem upon_in {o : Oper} {a : Act} {K : Act → World → Prop} {n l : Nat} : ∀ r : Result Next, o.upon P a K (OnlyN Q) r → o.uponIn (Fence.wide.inRound l) n P a K Q r := by
  intro r h
  have hd : ¬ ((Fence.wide.inRound l).depth.isSome = true) := by simp [Fence.wide]
  unfold Oper.upon at h
  unfold Oper.uponIn
  split at h
  · exact h
  · exact h
  · exact h
  · refine ⟨fun hh => absurd hh hd, (CallsIn.inRound l (callsIn_wide.2 h)).mono fun e w' hh => ?_⟩
    cases e with
    | returned v => exact hh
    | panicked c => exact (hh : False).elim
    | outgrown => exact (OnlyN.lets hh).elim
  · exact ⟨fun hh => absurd hh hd, rows_in h⟩
  · exact (h : False).elim
  · exact h.elim
theorem any_in (hnd : noDefer ops = true) {n l : Nat} : ∀ (f : Nat) (li : Array Bool) (a : Act) (w : World), wpAny P md ops (OnlyN Q) f li a w → wpAnyIn (Fence.wide.inRound l) n P md ops Q f li a w := by
  intro f
  induction f with
  | zero => intro li a w h; exact ⟨h.1, h.2⟩
  | succ f ih =>
    intro li a w h
    refine ⟨fun hr => h.1 hr, fun i hi => ?_⟩
    have h1 := h.2 i hi
    unfold wpOp at h1
    unfold wpOpIn
    cases ho : ops[i]? with
    | none => rw [ho] at h1; exact ih _ _ _ h1
    | some o =>
      rw [ho] at h1
      simp only at h1 ⊢
      split at h1
      · rename_i hw
        rw [if_pos hw]
        rcases h1 with h1 | h1
        · refine ⟨fun _ _ => trivial, ?_⟩
          rw [Fence.inRound_round, Oper.semAt_some _ _ _ (noDefer_spec hnd ho)]
          have h2 : o.wp P a w (wpAnyIn (Fence.wide.inRound l) n P md ops Q f (li.setIfInBounds i true)) (OnlyN Q) := Oper.wp_mono (fun a w hh => ih _ a w hh) h1
          exact upon_in _ h2
        · exact (OnlyN.lets h1.2).elim
      · rename_i hw
        rw [if_neg hw]
        exact ⟨fun _ _ => trivial, ih _ _ _ h1⟩
theorem region_in {id n l : Nat} {a : Act} {w : World} (hm : P.follows .mixedOrders = true) (hnd : noDefer ops = true) (S : World → Prop) (t : Nat)
    (h : OrdL.wpL P .any ops (OnlyN Q) S t ops.size (Array.replicate ops.size false) a w.drew) : (Code.region id ops true).wpIn (Fence.wide.inRound l) n P Q a w :=
  wpIn_region_any hm (any_in hnd _ _ _ _ (OrdL.wpL_any _ _ _ _ h))
end
end Go.Proofs.Ytffcbekogpgciaa.OrdR
