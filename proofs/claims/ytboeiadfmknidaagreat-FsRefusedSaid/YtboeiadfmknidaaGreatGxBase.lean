
/-
  Layer 6: the document's folder: rows of entries in memory; without, with, May.
-/
import Derived.Test.YtboeiadfmknidaaGreatProg
import Derived.Test.YtboeiadfmknidaaGreatWords
import Derived.Test.YtboeiadfmknidaaGreatRegion
import Derived.Test.YtboeiadfmknidaaGreatOrdL
import Derived.Deep.QuietTactic
import Derived.BigQuiet
import Derived.StillTailTactics
import Derived.Deep.DeepFit
import Derived.Deep.RegionHeld3
import Derived.Deep.LoopGhost
import Derived.Lib.Hide
import Derived.IntWalk
set_option linter.unusedVariables false
set_option linter.unusedSimpArgs false
namespace Go.Proofs.YtboeiadfmknidaaGreat
open Go.RowKit

/-- a name and an inode -/
abbrev Ent := ByteArray × Nat
def encE (x : Ent) : List Value := [.string x.1, .int .u64 (x.2 : Int)]
/-- entries as cells -/
def evs (l : List Ent) : List Value := l.flatMap encE
theorem evs_length (l : List Ent) : (evs l).length = l.length * 2 := by
  induction l with
  | nil => rfl
  | cons x r ih => simp [evs, encE] at *; omega
theorem evs_append (l m : List Ent) : evs (l ++ m) = evs l ++ evs m := by simp [evs]
theorem evs_one (l : List Ent) : ∀ u ∈ evs l, u.oneCell' = true := by
  intro u hu
  simp only [evs, List.mem_flatMap, encE, List.mem_cons, List.not_mem_nil, or_false] at hu
  obtain ⟨x, _, rfl | rfl⟩ := hu <;> rfl
theorem evs_get : ∀ (l : List Ent) (j : Nat) (x : Ent), l[j]? = some x → (evs l)[j * 2]? = some (.string x.1) ∧ (evs l)[j * 2 + 1]? = some (.int .u64 (x.2 : Int))
  | [], _, _, h => by simp at h
  | y :: r, 0, x, h => by
    simp at h
    subst h
    exact ⟨rfl, rfl⟩
  | y :: r, j + 1, x, h => by
    have := evs_get r j x (by simpa using h)
    have e : evs (y :: r) = .string y.1 :: .int .u64 (y.2 : Int) :: evs r := rfl
    rw [e, show (j + 1) * 2 = j * 2 + 1 + 1 by omega]
    exact this
/-- The value v is a slice that reads as the entries l, and lies below block B. -/
def Es (w : World) (B : Nat) (v : Value) (l : List Ent) : Prop := ∃ A c, v = .slice A l.length c ∧ l.length ≤ c ∧ Rd w B A (evs l)
section
variable {w w' : World} {B B' : Nat} {v : Value} {l : List Ent}
theorem Es.none_ : Es w B (.slice none 0 0) [] := ⟨none, 0, rfl, Nat.le_refl _, Rd.nil_⟩
theorem Es.below {C : Nat} (h : Es w B v l) (hb : Below C w w') (hC : B ≤ C) : Es w' B v l := by
  obtain ⟨A, c, e, hc, hr⟩ := h
  exact ⟨A, c, e, hc, hr.below hb hC⟩
theorem Es.mono (h : Es w B v l) (hB : B ≤ B') : Es w B' v l := by
  obtain ⟨A, c, e, hc, hr⟩ := h
  exact ⟨A, c, e, hc, hr.mono hB⟩
theorem Es.on (h : Es w w.heap.size v l) (hb : Below w.heap.size w w') : Es w' w'.heap.size v l := (h.below hb (Nat.le_refl _)).mono hb.size
theorem Es.of_own {base n : Nat} {e : TypeId} (h : w.ownsRow base e 2 v n (evs l)) : Es w w.heap.size v l := by
  have hn : l.length = n := by have := h.1; rw [evs_length] at this; omega
  subst hn
  obtain ⟨A, c, rfl, hc, _⟩ := own_slice h
  exact ⟨A, c, rfl, hc, Rd.of_own h⟩
end
def withoutL (l : List Ent) (n : ByteArray) : List Ent := l.filter fun x => x.1.toList != n.toList
theorem take_next6 {α : Type} {l : List α} {j : Nat} {x : α} (hx : l[j]? = some x) : l.take (j + 1) = l.take j ++ [x] := by
  rw [List.take_add_one, hx]
  rfl

end Go.Proofs.YtboeiadfmknidaaGreat
