/-
  SegNames, part 6 of what the law's proof leans on: GxBase, GxWith, HxPlain, Shelf6C, HxSettle, HxNames, ArgsC, HxDoes, HxMapU, FxLook, FxSettle, FxDoes.
-/
import Derived.Test.YtfabodpefbdbjaaGreatDoorProg
import Derived.Deep.QuietTactic
import Derived.BigQuiet
import Derived.StillTailTactics
import Derived.Deep.DeepFit
import Derived.Deep.RegionHeld3
import Derived.Deep.LoopGhost
import Derived.Lib.Hide
import Derived.IntWalk
import Derived.Test.YtfabodpefbdbjaaGreatDoorSegNamesQ1
import Derived.Test.YtfabodpefbdbjaaGreatDoorSegNamesQ4
import Derived.Sort.Walk0
import Derived.Sort.KeysCollected
import Derived.Laws.Cover3
import Derived.Lib.ConvBytes
import Derived.Shelf.SlMaps.Clone
import Derived.Shelf.SlIter.Nil
import Derived.Shelf.SortM.Plain
import Derived.Shelf.SortM.SortNone
import Derived.RangeFuncNested
import Derived.RangeFuncBound
import Derived.RangeFuncCalls
import Derived.RangeFuncLeaves
import Derived.RangeFuncBox
import Derived.RangeFuncMany
import Derived.Shelf.Abstract
import Derived.Shelf.RegionOpen
import Derived.OwnWalkIn
import Derived.TacticsInMore
import Derived.LoopNIn
import Derived.LoopIn
import Derived.RegionIn
import Derived.Sort.MapsRangeIn
import Derived.Maps.OwnIn
import Derived.Maps.AppendAt
import Derived.Laws.StructEq
import Derived.Test.YtfabodpefbdbjaaGreatDoorRows
import Derived.WalkKit
import Derived.ProofKit
import Derived.OpenShut
import Derived.ShutString
import Derived.ChangeOld
import Derived.Below
import Derived.SizedLaws
import Derived.Lib.SmallJoins
import Derived.Deep.Slices
import Derived.Maps.OwnSet
import Derived.Maps.Range
import Derived.Deep.DeepCutAuto
import Derived.Lib.AppendZerosOnto
/- GxBase -/

/-
  Layer 6: the document's folder: rows of entries in memory; without, with, May.
-/
set_option linter.unusedVariables false
set_option linter.unusedSimpArgs false
namespace Go.Proofs.YtfabodpefbdbjaaGreatDoor
open Go.RowKit

/-- a name and an inode -/
abbrev Ent := ByteArray × Nat
def encE (x : Ent) : List Value := [.string x.1, .int .u64 (x.2 : Int)]
/-- entries as cells -/
def evs (l : List Ent) : List Value := l.flatMap encE
theorem evs_length (l : List Ent) : (evs l).length = l.length * 2 := by
  induction l with
  | nil => rfl
  | cons x r ih => simp [evs, encE] at *; omega
theorem evs_get : ∀ (l : List Ent) (j : Nat) (x : Ent), l[j]? = some x → (evs l)[j * 2]? = some (.string x.1) ∧ (evs l)[j * 2 + 1]? = some (.int .u64 (x.2 : Int))
  | [], _, _, h => by simp at h
  | y :: r, 0, x, h => by
    simp at h
    subst h
    exact ⟨rfl, rfl⟩
  | y :: r, j + 1, x, h => by
    have := evs_get r j x (by simpa using h)
    have e : evs (y :: r) = .string y.1 :: .int .u64 (y.2 : Int) :: evs r := rfl
    rw [e, show (j + 1) * 2 = j * 2 + 1 + 1 by omega]
    exact this
/-- The value v is a slice that reads as the entries l, and lies below block B. -/
def Es (w : World) (B : Nat) (v : Value) (l : List Ent) : Prop := ∃ A c, v = .slice A l.length c ∧ l.length ≤ c ∧ Rd w B A (evs l)
section
variable {w w' : World} {B B' : Nat} {v : Value} {l : List Ent}
theorem Es.none_ : Es w B (.slice none 0 0) [] := ⟨none, 0, rfl, Nat.le_refl _, Rd.nil_⟩
theorem Es.below {C : Nat} (h : Es w B v l) (hb : Below C w w') (hC : B ≤ C) : Es w' B v l := by
  obtain ⟨A, c, e, hc, hr⟩ := h
  exact ⟨A, c, e, hc, hr.below hb hC⟩
theorem Es.mono (h : Es w B v l) (hB : B ≤ B') : Es w B' v l := by
  obtain ⟨A, c, e, hc, hr⟩ := h
  exact ⟨A, c, e, hc, hr.mono hB⟩
theorem Es.on (h : Es w w.heap.size v l) (hb : Below w.heap.size w w') : Es w' w'.heap.size v l := (h.below hb (Nat.le_refl _)).mono hb.size
theorem Es.of_own {base n : Nat} {e : TypeId} (h : w.ownsRow base e 2 v n (evs l)) : Es w w.heap.size v l := by
  have hn : l.length = n := by have := h.1; rw [evs_length] at this; omega
  subst hn
  obtain ⟨A, c, rfl, hc, _⟩ := own_slice h
  exact ⟨A, c, rfl, hc, Rd.of_own h⟩
end
def withoutL (l : List Ent) (n : ByteArray) : List Ent := l.filter fun x => x.1.toList != n.toList
theorem take_next6 {α : Type} {l : List α} {j : Nat} {x : α} (hx : l[j]? = some x) : l.take (j + 1) = l.take j ++ [x] := by
  rw [List.take_add_one, hx]
  rfl

end Go.Proofs.YtfabodpefbdbjaaGreatDoor

/- GxWith -/

/-
  Layer 6: the document's folder: with, May.
-/
set_option linter.unusedVariables false
set_option linter.unusedSimpArgs false
namespace Go.Proofs.YtfabodpefbdbjaaGreatDoor
open Go.RowKit

/-- one entry more goes through 'with' -/
def stepW (n : ByteArray) (i : Nat) (s : List Ent × Bool) (x : Ent) : List Ent × Bool := if s.2 = false ∧ Op.bytesLess n.toList x.1.toList = true then (s.1 ++ [(n, i)] ++ [x], true) else (s.1 ++ [x], s.2)
def prefW (n : ByteArray) (i : Nat) (l : List Ent) : List Ent × Bool := l.foldl (stepW n i) ([], false)
def withL (l : List Ent) (n : ByteArray) (i : Nat) : List Ent := let r := prefW n i (withoutL l n); if r.2 then r.1 else r.1 ++ [(n, i)]
theorem withoutL_length (l : List Ent) (n : ByteArray) : (withoutL l n).length ≤ l.length := List.length_filter_le _ _
end Go.Proofs.YtfabodpefbdbjaaGreatDoor

/-
  Layer 6: the document's folder: May.
-/
set_option linter.unusedVariables false
set_option linter.unusedSimpArgs false
namespace Go.Proofs.YtfabodpefbdbjaaGreatDoor
open Go.RowKit

/-- a byte that a name may hold -/
def okB (c : UInt8) : Bool := (decide (97 ≤ c.toNat) && decide (c.toNat ≤ 122)) || (decide (48 ≤ c.toNat) && decide (c.toNat ≤ 57)) || decide (c.toNat = 45) || decide (c.toNat = 46)
def mayN (s : ByteArray) : Bool := decide (0 < s.size) && decide (s.size ≤ 32) && s.data.toList.all okB
theorem mayN_no {s : ByteArray} {j : Nat} {c : UInt8} (hc : s.data.toList[j]? = some c) (ho : okB c = false) : mayN s = false := by
  have h : s.data.toList.all okB = false := by
    rw [List.all_eq_false]
    exact ⟨c, List.mem_of_getElem? hc, by simp [ho]⟩
  unfold mayN
  rw [h, Bool.and_false]
theorem all_next {s : ByteArray} {j : Nat} {c : UInt8} (hc : s.data.toList[j]? = some c) (h : (s.data.toList.take j).all okB = true) (ho : okB c = true) : (s.data.toList.take (j + 1)).all okB = true := by
  rw [take_next6 hc, List.all_append, h]
  simp [ho]
end Go.Proofs.YtfabodpefbdbjaaGreatDoor

/-
  Layer 6: the document's folder in memory: its states (rows of entries, which nobody writes), the last inode; New, List, Find.
-/
set_option linter.unusedVariables false
set_option linter.unusedSimpArgs false
namespace Go.Proofs.YtfabodpefbdbjaaGreatDoor
open Go.RowKit

/-- the value v is a slice that reads as the entries l, out of a block of N -/
def EsIn (w : World) (N : Nat → Prop) (v : Value) (l : List Ent) : Prop := ∃ A c, v = .slice A l.length c ∧ l.length ≤ c ∧ RdR w N A (evs l)
theorem EsIn.es {w : World} {N : Nat → Prop} {v : Value} {l : List Ent} (h : EsIn w N v l) : Es w w.heap.size v l := by
  obtain ⟨A, c, e, hc, hr⟩ := h
  exact ⟨A, c, e, hc, hr.rd⟩
theorem EsIn.chg {w w' : World} {N M : Nat → Prop} {v : Value} {l : List Ent} (h : EsIn w N v l) (hc : Chg M w w') (hM : ∀ i, M i → ¬ N i) : EsIn w' N v l := by
  obtain ⟨A, c, e, hc', hr⟩ := h
  exact ⟨A, c, e, hc', hr.chg hc hM⟩
theorem EsIn.mono {w : World} {N N' : Nat → Prop} {v : Value} {l : List Ent} (h : EsIn w N v l) (hN : ∀ i, N i → N' i) : EsIn w N' v l := by
  obtain ⟨A, c, e, hc', hr⟩ := h
  exact ⟨A, c, e, hc', hr.mono hN⟩
theorem EsIn.none_ {w : World} {N : Nat → Prop} : EsIn w N (.slice none 0 0) [] := ⟨none, 0, rfl, Nat.le_refl _, fun h => absurd rfl h⟩
theorem EsIn.of_own {w : World} {b n : Nat} {e : TypeId} {v : Value} {l : List Ent} (h : w.ownsRow b e 2 v n (evs l)) : EsIn w (fun i => v.ownBlock = some i) v l := by
  have hn : l.length = n := by have := h.1; rw [evs_length] at this; omega
  subst hn
  obtain ⟨A, c, rfl, hc, _⟩ := own_slice h
  refine ⟨A, c, rfl, hc, fun hx => ?_⟩
  obtain ⟨b, o, rfl, hb, hcell⟩ := Rd.of_own h hx
  exact ⟨b, o, rfl, rfl, hcell⟩
/-- the states' rows in memory -/
def StsR (w : World) (N : Nat → Prop) (vals : List Value) (sts : List (List Ent)) : Prop := vals.length = sts.length ∧ ∀ (i : Nat) v l, vals[i]? = some v → sts[i]? = some l → EsIn w N v l
theorem StsR.chg {w w' : World} {N M : Nat → Prop} {vals : List Value} {sts : List (List Ent)} (h : StsR w N vals sts) (hc : Chg M w w') (hM : ∀ i, M i → ¬ N i) : StsR w' N vals sts :=
  ⟨h.1, fun i v l hv hl => (h.2 i v l hv hl).chg hc hM⟩
theorem StsR.add {w : World} {N N' : Nat → Prop} {vals : List Value} {sts : List (List Ent)} {v : Value} {l : List Ent} (h : StsR w N vals sts) (hv : EsIn w N' v l) : StsR w (fun i => N i ∨ N' i) (vals ++ [v]) (sts ++ [l]) := by
  refine ⟨by simp [h.1], fun i v' l' hv' hl' => ?_⟩
  rw [List.getElem?_append] at hv' hl'
  rw [h.1] at hv'
  split at hv'
  · rename_i hi
    rw [if_pos hi] at hl'
    exact (h.2 i v' l' hv' hl').mono (fun _ => .inl)
  · rename_i hi
    rw [if_neg hi] at hl'
    rcases hk : i - sts.length with _ | k
    · rw [hk] at hv' hl'
      simp at hv' hl'
      subst hv' hl'
      exact hv.mono (fun _ => .inr)
    · rw [hk] at hv'
      simp at hv'
section
variable {w w' : World} {X : Nat} {N M : Nat → Prop} {vs : Value} {vals : List Value} {sts : List (List Ent)} {last : Nat}
end
end Go.Proofs.YtfabodpefbdbjaaGreatDoor

/-
  Layer 6: the document's folder: Find.
-/
set_option linter.unusedVariables false
set_option linter.unusedSimpArgs false
namespace Go.Proofs.YtfabodpefbdbjaaGreatDoor
open Go.RowKit

def findL (l : List Ent) (n : ByteArray) : Option Nat := (l.find? fun x => x.1.toList == n.toList).map (·.2)
end Go.Proofs.YtfabodpefbdbjaaGreatDoor

/- HxPlain -/

/-
  Layer 6: the program's folder as plain mathematics: rows of entries by names, what with, without, find do to them; deeds; a folder's state.
-/
set_option linter.unusedVariables false
set_option linter.unusedSimpArgs false
namespace Go.Proofs.YtfabodpefbdbjaaGreatDoor
open Go.RowKit

theorem toList_inj {a b : ByteArray} (h : a.toList = b.toList) : a = b := by
  rw [ByteArray.toList_eq, ByteArray.toList_eq] at h
  cases a; cases b
  simp at h
  exact congrArg _ h
theorem toList_ne {a b : ByteArray} (h : a ≠ b) : a.toList ≠ b.toList := fun e => h (toList_inj e)
abbrev ltN (a b : ByteArray) : Prop := Op.bytesLess a.toList b.toList = true
theorem ltN_iff {a b : ByteArray} : ltN a b ↔ a.toList < b.toList := by
  unfold ltN
  rw [bytesLess_eq]
  simp
theorem ltN_irrefl (a : ByteArray) : ¬ ltN a a := by rw [ltN_iff]; exact List.lt_irrefl _
theorem ltN_trans {a b c : ByteArray} (h : ltN a b) (k : ltN b c) : ltN a c := by rw [ltN_iff] at *; exact List.lt_trans h k
theorem ltN_total {a b : ByteArray} (h : a ≠ b) : ltN a b ∨ ltN b a := by
  rw [ltN_iff, ltN_iff]
  rcases Classical.em (a.toList < b.toList) with h1 | h1
  · exact .inl h1
  · rcases Classical.em (b.toList < a.toList) with h2 | h2
    · exact .inr h2
    · exact absurd (toList_inj (List.le_antisymm (List.not_lt.1 h2) (List.not_lt.1 h1))) h
/-- entries by their names, no name twice -/
def SortE (l : List Ent) : Prop := l.Pairwise (fun x y => ltN x.1 y.1)
theorem SortE.nil_ : SortE [] := List.Pairwise.nil
theorem SortE.ne {l : List Ent} (h : SortE l) : l.Pairwise (fun x y => x.1 ≠ y.1) := h.imp (by intro a b hl e; rw [e] at hl; exact ltN_irrefl _ hl)
theorem SortE.nodup {l : List Ent} (h : SortE l) : l.Nodup := h.ne.imp (by intro a b hn e; exact hn (by rw [e]))
theorem SortE.one {l : List Ent} (h : SortE l) {n : ByteArray} {i j : Nat} (hi : (n, i) ∈ l) (hj : (n, j) ∈ l) : i = j := by
  induction l with
  | nil => simp at hi
  | cons x r ih =>
    obtain ⟨h1, h2⟩ := List.pairwise_cons.1 h
    rcases List.mem_cons.1 hi with e | hi'
    · rcases List.mem_cons.1 hj with e' | hj'
      · rw [← e'] at e; simpa using e
      · exact absurd (h1 _ hj') (by rw [← e]; exact ltN_irrefl _)
    · rcases List.mem_cons.1 hj with e' | hj'
      · exact absurd (h1 _ hi') (by rw [← e']; exact ltN_irrefl _)
      · exact ih h2 hi' hj'
theorem findL_mem {l : List Ent} {n : ByteArray} {i : Nat} (h : findL l n = some i) : (n, i) ∈ l := by
  unfold findL at h
  obtain ⟨x, hx, rfl⟩ := Option.map_eq_some_iff.1 h
  have h1 := List.find?_some hx
  have h2 := List.mem_of_find?_eq_some hx
  have h3 : x.1 = n := toList_inj (by simpa using h1)
  subst h3
  exact h2
theorem findL_iff {l : List Ent} (h : SortE l) {n : ByteArray} {i : Nat} : findL l n = some i ↔ (n, i) ∈ l := by
  refine ⟨findL_mem, fun hm => ?_⟩
  cases hf : findL l n with
  | none =>
    unfold findL at hf
    rw [Option.map_eq_none_iff, List.find?_eq_none] at hf
    exact absurd (by simp) (hf _ hm)
  | some j => rw [h.one hm (findL_mem hf)]
theorem findL_none {l : List Ent} {n : ByteArray} : findL l n = none ↔ ∀ x ∈ l, x.1 ≠ n := by
  unfold findL
  rw [Option.map_eq_none_iff, List.find?_eq_none]
  exact ⟨fun h x hx e => h x hx (by simp [e]), fun h x hx e => h x hx (toList_inj (by simpa using e))⟩
theorem mem_withoutL {l : List Ent} {n : ByteArray} {x : Ent} : x ∈ withoutL l n ↔ x ∈ l ∧ x.1 ≠ n := by
  unfold withoutL
  rw [List.mem_filter]
  refine ⟨fun h => ⟨h.1, fun e => ?_⟩, fun h => ⟨h.1, ?_⟩⟩
  · have := h.2; rw [e] at this; simp at this
  · simpa using toList_ne h.2
theorem sortE_without {l : List Ent} (h : SortE l) (n : ByteArray) : SortE (withoutL l n) := List.Pairwise.filter _ h
/-- the entry at its place -/
def insL (n : ByteArray) (i : Nat) : List Ent → List Ent
  | [] => [(n, i)]
  | x :: r => if Op.bytesLess n.toList x.1.toList then (n, i) :: x :: r else x :: insL n i r
theorem prefW_true (n : ByteArray) (i : Nat) : ∀ (m acc : List Ent), m.foldl (stepW n i) (acc, true) = (acc ++ m, true)
  | [], acc => by simp
  | x :: r, acc => by
    rw [List.foldl_cons, show stepW n i (acc, true) x = (acc ++ [x], true) by simp [stepW], prefW_true n i r]
    simp
theorem prefW_insL (n : ByteArray) (i : Nat) : ∀ (m acc : List Ent), (let r := m.foldl (stepW n i) (acc, false); if r.2 then r.1 else r.1 ++ [(n, i)]) = acc ++ insL n i m
  | [], acc => by simp [insL]
  | x :: r, acc => by
    rw [List.foldl_cons]
    cases hb : Op.bytesLess n.toList x.1.toList
    · rw [show stepW n i (acc, false) x = (acc ++ [x], false) by simp [stepW, hb], prefW_insL n i r]
      simp [insL, hb]
    · rw [show stepW n i (acc, false) x = (acc ++ [(n, i)] ++ [x], true) by simp [stepW, hb], prefW_true]
      simp [insL, hb]
theorem withL_eq (l : List Ent) (n : ByteArray) (i : Nat) : withL l n i = insL n i (withoutL l n) := by
  have := prefW_insL n i (withoutL l n) []
  rw [List.nil_append] at this
  exact this
theorem mem_insL {n : ByteArray} {i : Nat} {x : Ent} : ∀ {m : List Ent}, x ∈ insL n i m ↔ x = (n, i) ∨ x ∈ m
  | [] => by simp [insL]
  | y :: r => by
    unfold insL
    split
    · simp
    · rw [List.mem_cons, mem_insL, List.mem_cons]
      constructor
      · rintro (h | h | h)
        · exact .inr (.inl h)
        · exact .inl h
        · exact .inr (.inr h)
      · rintro (h | h | h)
        · exact .inr (.inl h)
        · exact .inl h
        · exact .inr (.inr h)
theorem sortE_insL {n : ByteArray} {i : Nat} : ∀ {m : List Ent}, SortE m → (∀ x ∈ m, x.1 ≠ n) → SortE (insL n i m)
  | [], _, _ => List.pairwise_singleton _ _
  | y :: r, h, hn => by
    obtain ⟨h1, h2⟩ := List.pairwise_cons.1 h
    unfold insL
    split
    · rename_i hl
      refine List.pairwise_cons.2 ⟨fun z hz => ?_, h⟩
      rcases List.mem_cons.1 hz with e | hz
      · rw [e]; exact hl
      · exact ltN_trans hl (h1 z hz)
    · rename_i hl
      refine List.pairwise_cons.2 ⟨fun z hz => ?_, sortE_insL h2 (fun x hx => hn x (by simp [hx]))⟩
      rcases mem_insL.1 hz with e | hz
      · rw [e]
        rcases ltN_total (hn y (by simp)) with h3 | h3
        · exact h3
        · exact absurd h3 hl
      · exact h1 z hz
theorem mem_withL {l : List Ent} {n : ByteArray} {i : Nat} {x : Ent} : x ∈ withL l n i ↔ x = (n, i) ∨ (x ∈ l ∧ x.1 ≠ n) := by
  rw [withL_eq, mem_insL, mem_withoutL]
theorem sortE_with {l : List Ent} (h : SortE l) (n : ByteArray) (i : Nat) : SortE (withL l n i) := by
  rw [withL_eq]
  exact sortE_insL (sortE_without h n) (fun x hx => (mem_withoutL.1 hx).2)
theorem findL_with_same {l : List Ent} (h : SortE l) (n : ByteArray) (i : Nat) : findL (withL l n i) n = some i := (findL_iff (sortE_with h n i)).2 (mem_withL.2 (.inl rfl))
theorem findL_ext {l m : List Ent} (hl : SortE l) (hm : SortE m) {n k : ByteArray} (h : ∀ i, (n, i) ∈ l ↔ (k, i) ∈ m) : findL l n = findL m k := by
  cases hf : findL m k with
  | none => exact findL_none.2 (fun x hx e => by
      subst e
      exact (findL_none.1 hf) _ ((h x.2).1 hx) rfl)
  | some j => exact (findL_iff hl).2 ((h j).2 (findL_mem hf))
theorem findL_with_other {l : List Ent} (h : SortE l) {n k : ByteArray} (i : Nat) (hne : k ≠ n) : findL (withL l n i) k = findL l k :=
  findL_ext (sortE_with h n i) h (fun j => by rw [mem_withL]; simp [hne])
theorem findL_without_same {l : List Ent} (n : ByteArray) : findL (withoutL l n) n = none := findL_none.2 (fun x hx => (mem_withoutL.1 hx).2)
theorem findL_without_other {l : List Ent} (h : SortE l) {n k : ByteArray} (hne : k ≠ n) : findL (withoutL l n) k = findL l k :=
  findL_ext (sortE_without h n) h (fun j => by rw [mem_withoutL]; simp [hne])
theorem insL_length (n : ByteArray) (i : Nat) : ∀ m : List Ent, (insL n i m).length = m.length + 1
  | [] => rfl
  | x :: r => by
    unfold insL
    split
    · simp
    · simp [insL_length n i r]
theorem withL_length (l : List Ent) (n : ByteArray) (i : Nat) : (withL l n i).length ≤ l.length + 1 := by
  rw [withL_eq, insL_length]
  have := withoutL_length l n
  omega

/-- a loose deed -/
inductive Dd where
  | mk (n : ByteArray) (i : Nat)
  | mv (a b : ByteArray)
  | rm (n : ByteArray)
def Dd.app : Dd → List Ent → List Ent
  | .mk n i, s => withL s n i
  | .mv a b, s => withoutL (withL s b ((findL s a).getD 0)) a
  | .rm n, s => withoutL s n
def Dd.Ok : Dd → Prop
  | .mk n i => n.size ≤ 1000 ∧ i < 1000000000
  | .mv a b => a.size ≤ 1000 ∧ b.size ≤ 1000
  | .rm n => n.size ≤ 1000
def doAll (s : List Ent) (ds : List Dd) : List Ent := ds.foldl (fun s d => d.app s) s
theorem doAll_add (s : List Ent) (ds : List Dd) (d : Dd) : doAll s (ds ++ [d]) = d.app (doAll s ds) := by simp [doAll]
theorem doAll_next {s : List Ent} {ds : List Dd} {j : Nat} {d : Dd} (h : ds[j]? = some d) : doAll s (ds.take (j + 1)) = d.app (doAll s (ds.take j)) := by
  rw [List.take_add_one, h]
  exact doAll_add _ _ _
/-- entries that may be -/
def OkE (l : List Ent) : Prop := SortE l ∧ ∀ x ∈ l, x.1.size ≤ 1000 ∧ x.2 < 1000000000
theorem OkE.nil_ : OkE [] := ⟨SortE.nil_, by simp⟩
theorem Dd.app_ok {d : Dd} (h : d.Ok) {s : List Ent} (hs : OkE s) : OkE (d.app s) := by
  cases d with
  | mk n i => exact ⟨sortE_with hs.1 _ _, fun x hx => by
      rcases mem_withL.1 hx with rfl | h1
      · exact h
      · exact hs.2 x h1.1⟩
  | mv a b => exact ⟨sortE_without (sortE_with hs.1 _ _) _, fun x hx => by
      rcases mem_withL.1 (mem_withoutL.1 hx).1 with rfl | h1
      · refine ⟨h.2, ?_⟩
        cases hf : findL s a with
        | none => simp
        | some i => exact (hs.2 _ (findL_mem hf)).2
      · exact hs.2 x h1.1⟩
  | rm n => exact ⟨sortE_without hs.1 _, fun x hx => hs.2 x (mem_withoutL.1 hx).1⟩
theorem Dd.app_length (d : Dd) (s : List Ent) : (d.app s).length ≤ s.length + 1 := by
  cases d with
  | mk n i => exact withL_length s n i
  | mv a b => exact Nat.le_trans (withoutL_length _ _) (withL_length s b _)
  | rm n => exact Nat.le_succ_of_le (withoutL_length s n)
theorem doAll_ok {s : List Ent} (hs : OkE s) : ∀ {ds : List Dd}, (∀ d ∈ ds, d.Ok) → OkE (doAll s ds) := by
  intro ds
  induction ds generalizing s with
  | nil => intro _; exact hs
  | cons d r ih => intro h; exact ih (Dd.app_ok (h d (by simp)) hs) (fun x hx => h x (by simp [hx]))
theorem doAll_length : ∀ (ds : List Dd) (s : List Ent), (doAll s ds).length ≤ s.length + ds.length
  | [], s => by simp [doAll]
  | d :: r, s => by
    have h1 := doAll_length r (d.app s)
    have h2 := d.app_length s
    show (doAll (d.app s) r).length ≤ _
    simp only [List.length_cons]
    omega
theorem findL_app {d : Dd} {s : List Ent} (hs : SortE s) (k : ByteArray) : findL (d.app s) k = match d with
    | .mk n i => if k = n then some i else findL s k
    | .mv a b => if k = a then none else if k = b then some ((findL s a).getD 0) else findL s k
    | .rm n => if k = n then none else findL s k := by
  cases d with
  | mk n i =>
    simp only [Dd.app]
    split
    · rename_i e; rw [e, findL_with_same hs]
    · rename_i e; rw [findL_with_other hs _ e]
  | mv a b =>
    simp only [Dd.app]
    split
    · rename_i e; rw [e, findL_without_same]
    · rename_i e
      rw [findL_without_other (sortE_with hs _ _) e]
      split
      · rename_i e2; rw [e2, findL_with_same hs]
      · rename_i e2; rw [findL_with_other hs _ e2]
  | rm n =>
    simp only [Dd.app]
    split
    · rename_i e; rw [e, findL_without_same]
    · rename_i e; rw [findL_without_other hs e]
/-- a folder's state: what is safe, what is loose, the last inode, the last one that was settled -/
structure PSt where
  safe : List Ent
  deeds : List Dd
  last : Nat
  settled : Nat
def PSt.now (s : PSt) : List Ent := doAll s.safe s.deeds
structure PSt.Ok (s : PSt) : Prop where
  safe : OkE s.safe
  deeds : ∀ d ∈ s.deeds, d.Ok
  last : s.last < 100000000
  settled : s.settled ≤ s.last
  few : s.safe.length + s.deeds.length ≤ 100000
theorem PSt.Ok.now {s : PSt} (h : s.Ok) : OkE s.now := doAll_ok h.safe h.deeds
theorem PSt.Ok.now_length {s : PSt} (h : s.Ok) : s.now.length ≤ 100000 := Nat.le_trans (doAll_length _ _) h.few
def PSt.new : PSt := ⟨[], [], 0, 0⟩
theorem PSt.new_ok : PSt.new.Ok := ⟨OkE.nil_, by simp [PSt.new], by simp [PSt.new], by simp [PSt.new], by simp [PSt.new]⟩
/-- what the first k deeds make is safe, the others are dropped -/
def PSt.settle (s : PSt) (k : Nat) : PSt := ⟨doAll s.safe (s.deeds.take k), [], s.last, s.last⟩
theorem PSt.settle_ok {s : PSt} (h : s.Ok) (k : Nat) : (s.settle k).Ok := by
  refine ⟨doAll_ok h.safe (fun d hd => h.deeds d (List.mem_of_mem_take hd)), by simp [PSt.settle], h.last, Nat.le_refl _, ?_⟩
  have h1 := doAll_length (s.deeds.take k) s.safe
  have h2 := h.few
  have h3 : (s.deeds.take k).length ≤ s.deeds.length := by rw [List.length_take]; omega
  simp only [PSt.settle, List.length_nil]
  omega
/-- one deed more -/
def PSt.push (s : PSt) (d : Dd) : PSt := { s with deeds := s.deeds ++ [d] }
theorem PSt.push_now (s : PSt) (d : Dd) : (s.push d).now = d.app s.now := doAll_add _ _ _
theorem PSt.push_ok {s : PSt} (h : s.Ok) {d : Dd} (hd : d.Ok) (hf : s.safe.length + s.deeds.length < 100000) : (s.push d).Ok :=
  ⟨h.safe, fun x hx => by
    rcases List.mem_append.1 hx with h1 | h1
    · exact h.deeds x h1
    · simp at h1; subst h1; exact hd, h.last, h.settled, by simp [PSt.push]; omega⟩
end Go.Proofs.YtfabodpefbdbjaaGreatDoor

/-
  Layer 6: a map of names in memory that reads as a row of entries.
-/
set_option linter.unusedVariables false
set_option linter.unusedSimpArgs false
namespace Go.Proofs.YtfabodpefbdbjaaGreatDoor
open Go.RowKit Go.Maps

def kn (n : ByteArray) : Lit := .string n.data.toList
theorem kn_inj {a b : ByteArray} (h : kn a = kn b) : a = b := by
  unfold kn at h
  injection h with h
  exact toList_inj (by rw [ByteArray.toList_eq, ByteArray.toList_eq]; exact h)
theorem keyedS : Keyed Tryz.prog 9 := string_keyed Tryz.underlying9
theorem keyOf_kn {n : ByteArray} (h : n.size ≤ maxLen) : keyOf Tryz.prog 9 (.string n) = some (kn n) := by
  simp [keyOf, Tryz.underlying9, mapKey, kn, h]
theorem isKey_kn (n : ByteArray) : WideAt.IsKeyLit (kn n) := trivial
/-- the datum D reads as the entries es -/
def Reads (D : DataW Unit) (es : List Ent) : Prop := ∀ n : ByteArray, match findL es n with
  | some i => ∀ zd, D.atKey (kn n) zd = .lit (.int .u64 (i : Int))
  | none => Maps.has D (kn n) = false
theorem Reads.some_ {D : DataW Unit} {es : List Ent} (h : Reads D es) {n : ByteArray} {i : Nat} (hf : findL es n = some i) (zd : DataW Unit) : D.atKey (kn n) zd = .lit (.int .u64 (i : Int)) := by
  have := h n
  rw [hf] at this
  exact this zd
theorem Reads.none_ {D : DataW Unit} {es : List Ent} (h : Reads D es) {n : ByteArray} (hf : findL es n = none) : Maps.has D (kn n) = false := by
  have := h n
  rw [hf] at this
  exact this
theorem Reads.has {D : DataW Unit} {es : List Ent} (h : Reads D es) (n : ByteArray) : Maps.has D (kn n) = (findL es n).isSome := by
  cases hf : findL es n with
  | none => exact h.none_ hf
  | some i => exact has_true_of_atKey (h.some_ hf)
theorem Reads.at0 {D : DataW Unit} {es : List Ent} (h : Reads D es) (n : ByteArray) : D.atKey (kn n) (.lit (.int .u64 0)) = .lit (.int .u64 (((findL es n).getD 0 : Nat) : Int)) := by
  cases hf : findL es n with
  | none => exact atKey_of_not_has (h.none_ hf) _
  | some i => exact h.some_ hf _
theorem Reads.empty : Reads (.map []) [] := fun n => by
  show Maps.has _ _ = false
  rfl
theorem Reads.put {D : DataW Unit} {es : List Ent} (h : Reads D es) (hD : IsMap D) (hs : SortE es) (n : ByteArray) (i : Nat) : Reads (D.put (kn n) (.lit (.int .u64 (i : Int)))) (withL es n i) := fun k => by
  by_cases hk : k = n
  · subst hk
    rw [findL_with_same hs]
    exact fun zd => atKey_put_same hD (isKey_kn k) _ _
  · rw [findL_with_other hs _ hk]
    have hne : kn k ≠ kn n := fun e => hk (kn_inj e)
    have := h k
    cases hf : findL es k with
    | none => rw [hf] at this; exact (has_put_other hne _).trans this
    | some j => rw [hf] at this; exact fun zd => (atKey_put_other hne _ _).trans (this zd)
theorem Reads.del {D : DataW Unit} {es : List Ent} (h : Reads D es) (hs : SortE es) (n : ByteArray) : Reads (D.del (kn n)) (withoutL es n) := fun k => by
  by_cases hk : k = n
  · subst hk
    rw [findL_without_same]
    exact has_del_same
  · rw [findL_without_other hs hk]
    have hne : kn k ≠ kn n := fun e => hk (kn_inj e)
    have := h k
    cases hf : findL es k with
    | none => rw [hf] at this; exact (has_del_other hne).trans this
    | some j => rw [hf] at this; exact fun zd => (atKey_del_other hne _).trans (this zd)

abbrev OMS (w : World) (b n : Nat) (D : DataW Unit) : Prop := w.ownsMap Tryz.prog 9 (plainElem Tryz.prog 41) b n D
theorem names_perm {w : World} {b n : Nat} {D : DataW Unit} {es : List Ent} (h : OMS w b n D) (hr : Reads D es) (hs : SortE es) : (es.map fun x => x.1.data.toList).Perm (strKeys D) := by
  obtain ⟨es', hD, hpw, _⟩ := h.entries keyedS
  obtain ⟨es2, hD2, hko⟩ := h.keysOf
  obtain rfl : es' = es2 := by rw [hD] at hD2; simpa using hD2
  subst hD
  refine perm_strKeys hpw (fun p hp => by obtain ⟨v, hv⟩ := hko p hp; obtain ⟨x, _, hx, _⟩ := Maps.keyOf_str Tryz.underlying9 hv; exact ⟨x, hx⟩) ?_ (fun x => ?_)
  · exact List.pairwise_map.2 (hs.ne.imp (fun hn e => hn (toList_inj (by rw [ByteArray.toList_eq, ByteArray.toList_eq]; exact e))))
  · have e : (.string x : Lit) = kn ⟨x.toArray⟩ := by simp [kn]
    rw [e, hr.has, List.mem_map]
    constructor
    · rintro ⟨y, hy, rfl⟩
      have : findL es y.1 = some y.2 := (findL_iff hs).2 hy
      have e2 : (⟨y.1.data.toList.toArray⟩ : ByteArray) = y.1 := by simp
      rw [e2, this]
      rfl
    · intro hx
      obtain ⟨i, hi⟩ := Option.isSome_iff_exists.1 hx
      exact ⟨_, findL_mem hi, by simp⟩
theorem size_es {w : World} {b n : Nat} {D : DataW Unit} {es : List Ent} (h : OMS w b n D) (hr : Reads D es) (hs : SortE es) : Maps.size D = es.length := by
  have h1 := (names_perm h hr hs).length_eq
  obtain ⟨es', hD, _⟩ := h.entries keyedS
  subst hD
  simp only [List.length_map, strKeys] at h1
  rw [Maps.size_eq]
  exact h1.symm
theorem OMS.tight {w : World} {b n : Nat} {D : DataW Unit} (h : OMS w b n D) : OMS w b (Maps.size D) D := by
  obtain ⟨es, clock, hb, F, _, rfl⟩ := h
  exact ⟨es, clock, hb, F, by rw [Maps.size_eq, length_read]; exact Nat.le_refl _, rfl⟩
/-- block b is a map that reads as the entries es -/
def MapAt (w : World) (b : Nat) (es : List Ent) : Prop := OkE es ∧ ∃ D, OMS w b es.length D ∧ Reads D es
theorem MapAt.of {w : World} {b n : Nat} {D : DataW Unit} {es : List Ent} (h : OMS w b n D) (hr : Reads D es) (ho : OkE es) : MapAt w b es := ⟨ho, D, by have := OMS.tight h; rw [size_es h hr ho.1] at this; exact this, hr⟩
section
variable {w w' : World} {b : Nat} {es : List Ent} {M : Nat → Prop}
theorem MapAt.lt (h : MapAt w b es) : b < w.heap.size := by obtain ⟨_, D, h, _⟩ := h; exact h.lt
theorem MapAt.of_block (h : MapAt w b es) (hb : w'.heap[b]? = w.heap[b]?) : MapAt w' b es := by
  obtain ⟨ho, D, ⟨es', clock, h1, h2⟩, hr⟩ := h
  exact ⟨ho, D, ⟨es', clock, hb.trans h1, h2⟩, hr⟩
theorem MapAt.chg (h : MapAt w b es) (hc : Chg M w w') (hM : ¬ M b) : MapAt w' b es := h.of_block (hc.block b h.lt hM)
theorem MapAt.on (h : MapAt w b es) (hb : Below w.heap.size w w') : MapAt w' b es := h.of_block (hb.block b h.lt)
theorem MapAt.new (w : World) : MapAt (w.alloc (.map #[] 0)) w.heap.size [] := ⟨OkE.nil_, _, World.ownsMap_made w _ _ _, Reads.empty⟩
theorem MapAt.no_cell (h : MapAt w b es) (o : Nat) : w.cell? ⟨b, o, none⟩ = none := by
  obtain ⟨_, D, ⟨es', clock, h1, _⟩, _⟩ := h
  simp [World.cell?, h1]
theorem zeroU64m (w : World) : (zeroValue 41).run Tryz.prog w = .ok (.int .u64 0) w := by kernel_rfl
set_option maxRecDepth 100000 in
theorem MapAt.look (h : MapAt w b es) {n : ByteArray} (hn : n.size ≤ maxLen) :
    (Instr.lookup 139 (.map (some b)) (.string n) true).run Tryz.prog w = .ok (.tuple #[.int .u64 (((findL es n).getD 0 : Nat) : Int), .bool (findL es n).isSome]) w ∧
    (Instr.lookup 139 (.map (some b)) (.string n) false).run Tryz.prog w = .ok (.int .u64 (((findL es n).getD 0 : Nat) : Int)) w := by
  obtain ⟨ho, D, hown, hr⟩ := h
  constructor
  · obtain ⟨v, ps, hrun, hv⟩ := hown.look_ok keyedS Tryz.underlying139 (zeroU64m w) (plainElem_int Tryz.underlying41 (by decide)) (keyOf_kn hn)
    obtain ⟨c, rfl, e, hw⟩ := plainElem_int_inv Tryz.underlying41 hv
    injection e with e _
    rw [hr.at0] at e
    injection e with e
    injection e with _ e
    rw [hrun, hr.has, e]
  · obtain ⟨c, hrun, e, hw⟩ := hown.lookup_int keyedS Tryz.underlying139 Tryz.underlying41 (zeroU64m w) (keyOf_kn hn)
    rw [hr.at0] at e
    injection e with e
    injection e with _ e
    rw [hrun, e]
theorem MapAt.len (h : MapAt w b es) (ty : TypeId) : (Builtin.len_ #[139] ty #[.map (some b)]).run Tryz.prog w = .ok (.int .i64 (es.length : Int)) w := by
  obtain ⟨ho, D, hown, hr⟩ := h
  rw [hown.len Tryz.underlying139 ty, size_es hown hr ho.1]
theorem wf_u64 {i : Nat} (hi : i < 1000000000) : (Lit.int .u64 (i : Int)).wf = true := by
  have h1 : (0 : Int) ≤ (i : Int) := by omega
  have h2 : (i : Int) < 18446744073709551616 := by omega
  have e1 : IntKind.u64.min = 0 := by decide
  have e2 : IntKind.u64.max = 18446744073709551615 := by decide
  simp only [Lit.wf, e1, e2, Bool.and_eq_true, decide_eq_true_eq]
  omega
set_option maxRecDepth 100000 in
theorem MapAt.store (h : MapAt w b es) (hl : es.length ≤ 1000000) {n : ByteArray} (hn : n.size ≤ 1000) {i : Nat} (hi : i < 1000000000) :
    ∃ w', (Instr.mapUpdate 139 (.map (some b)) (.string n) (.int .u64 (i : Int))).run Tryz.prog w = .ok () w' ∧ MapAt w' b (withL es n i) ∧ w.mapTurned w' b := by
  obtain ⟨ho, D, hown, hr⟩ := h
  obtain ⟨w', hrun, r1, r2⟩ := hown.store keyedS Tryz.underlying139 (by unfold maxLen; omega) (keyOf_kn (n := n) (by unfold maxLen; omega)) (plainElem_int Tryz.underlying41 (wf_u64 hi))
  exact ⟨w', hrun, MapAt.of r1 (hr.put hown.isMap ho.1 n i) (Dd.app_ok (d := .mk n i) ⟨hn, hi⟩ ho), r2⟩
set_option maxRecDepth 100000 in
theorem MapAt.drop (h : MapAt w b es) {n : ByteArray} (hn : n.size ≤ 1000) (ty : TypeId) :
    ∃ w', (Builtin.delete_ #[139, 9] ty #[.map (some b), .string n]).run Tryz.prog w = .ok (.tuple #[]) w' ∧ MapAt w' b (withoutL es n) ∧ w.mapTurned w' b := by
  obtain ⟨ho, D, hown, hr⟩ := h
  obtain ⟨w', hrun, r1, r2⟩ := hown.drop keyedS Tryz.underlying139 (keyOf_kn (n := n) (by unfold maxLen; omega)) ty
  exact ⟨w', hrun, MapAt.of r1 (hr.del ho.1 n) (Dd.app_ok (d := .rm n) hn ho), r2⟩
theorem Chg.of_turned (h : w.mapTurned w' b) : Chg (fun i => i = b) w w' := Chg.of_grown h.grown (by intro g hg; injection hg with hg; exact hg.symm)
end
end Go.Proofs.YtfabodpefbdbjaaGreatDoor

/-
  Layer 6: the program's folder in memory: its maps, its deeds (function values over cells that nobody writes).
-/
set_option linter.unusedVariables false
set_option linter.unusedSimpArgs false
namespace Go.Proofs.YtfabodpefbdbjaaGreatDoor
open Go.RowKit Go.Maps

/-- the value v is the deed d; R: the blocks of what it captured -/
def DdAt (w : World) (R : Nat → Prop) (v : Value) : Dd → Prop
  | .mk n i => ∃ p q, v = .func (.func 163) #[] #[.pointer (some ⟨p, 0, none⟩), .pointer (some ⟨q, 0, none⟩)] ∧ R p ∧ R q ∧ w.cell? ⟨p, 0, none⟩ = some (.int .u64 (i : Int)) ∧ w.cell? ⟨q, 0, none⟩ = some (.string n)
  | .mv a b => False
  | .rm n => ∃ q, v = .func (.func 166) #[] #[.pointer (some ⟨q, 0, none⟩)] ∧ R q ∧ w.cell? ⟨q, 0, none⟩ = some (.string n)
section
variable {w w' : World} {R R' M : Nat → Prop} {v : Value} {d : Dd} {vs : List Value} {ds : List Dd}
theorem DdAt.mono (h : DdAt w R v d) (hR : ∀ i, R i → R' i) : DdAt w R' v d := by
  cases d with
  | mk n i => obtain ⟨p, q, e, h1, h2, h3⟩ := h; exact ⟨p, q, e, hR _ h1, hR _ h2, h3⟩
  | mv a b => exact h.elim
  | rm n => obtain ⟨q, e, h2, h3⟩ := h; exact ⟨q, e, hR _ h2, h3⟩
theorem cell_chg (hc : Chg M w w') (hM : ∀ i, M i → ¬ R i) {p : Nat} (hp : R p) {u : Value} (h : w.cell? ⟨p, 0, none⟩ = some u) : w'.cell? ⟨p, 0, none⟩ = some u :=
  (hc.cell (p := ⟨p, 0, none⟩) (fblock_of_cell h) (fun e => hM p e hp)).trans h
theorem DdAt.chg (h : DdAt w R v d) (hc : Chg M w w') (hM : ∀ i, M i → ¬ R i) : DdAt w' R v d := by
  cases d with
  | mk n i => obtain ⟨p, q, e, h1, h2, h3, h4⟩ := h; exact ⟨p, q, e, h1, h2, cell_chg hc hM h1 h3, cell_chg hc hM h2 h4⟩
  | mv a b => exact h.elim
  | rm n => obtain ⟨q, e, h2, h4⟩ := h; exact ⟨q, e, h2, cell_chg hc hM h2 h4⟩
theorem DdAt.one (h : DdAt w R v d) : v.oneCell' = true := by
  cases d with
  | mk n i => obtain ⟨p, q, rfl, _⟩ := h; rfl
  | mv a b => exact h.elim
  | rm n => obtain ⟨q, rfl, _⟩ := h; rfl
def DdsAt (w : World) (R : Nat → Prop) (vs : List Value) (ds : List Dd) : Prop := vs.length = ds.length ∧ ∀ (i : Nat) v d, vs[i]? = some v → ds[i]? = some d → DdAt w R v d
theorem DdsAt.chg (h : DdsAt w R vs ds) (hc : Chg M w w') (hM : ∀ i, M i → ¬ R i) : DdsAt w' R vs ds := ⟨h.1, fun i v d hv hd => (h.2 i v d hv hd).chg hc hM⟩
theorem DdsAt.mono (h : DdsAt w R vs ds) (hR : ∀ i, R i → R' i) : DdsAt w R' vs ds := ⟨h.1, fun i v d hv hd => (h.2 i v d hv hd).mono hR⟩
theorem DdsAt.nil_ : DdsAt w R [] [] := ⟨rfl, fun i v d hv hd => by simp at hv⟩
theorem DdsAt.one (h : DdsAt w R vs ds) : ∀ u ∈ vs, u.oneCell' = true := fun u hu => by
  obtain ⟨i, hi, rfl⟩ := List.mem_iff_getElem.1 hu
  exact (h.2 i _ (ds[i]'(by rw [← h.1]; exact hi)) (List.getElem?_eq_getElem hi) (List.getElem?_eq_getElem _)).one
theorem DdsAt.add (h : DdsAt w R vs ds) (hd : DdAt w R v d) : DdsAt w R (vs ++ [v]) (ds ++ [d]) := by
  refine ⟨by simp [h.1], fun i v' d' hv hd' => ?_⟩
  rw [List.getElem?_append] at hv hd'
  rw [h.1] at hv
  split at hv
  · rename_i hi
    rw [if_pos hi] at hd'
    exact h.2 i v' d' hv hd'
  · rename_i hi
    rw [if_neg hi] at hd'
    rcases hk : i - ds.length with _ | k
    · rw [hk] at hv hd'
      simp at hv hd'
      subst hv hd'
      exact hd
    · rw [hk] at hv
      simp at hv
end
/-- a folder's cells -/
structure HCells (w : World) (X bs bn : Nat) (vd : Value) (last settled : Nat) : Prop where
  c0 : w.cell? ⟨X, 0, none⟩ = some (.map (some bs))
  c1 : w.cell? ⟨X, 1, none⟩ = some (.map (some bn))
  c2 : w.cell? ⟨X, 2, none⟩ = some vd
  c3 : w.cell? ⟨X, 3, none⟩ = some (.int .u64 (last : Int))
  c4 : w.cell? ⟨X, 4, none⟩ = some (.int .u64 (settled : Int))
  f0 : w.frozen? ⟨X, 0, none⟩ = false
  f1 : w.frozen? ⟨X, 1, none⟩ = false
  f2 : w.frozen? ⟨X, 2, none⟩ = false
  f3 : w.frozen? ⟨X, 3, none⟩ = false
  f4 : w.frozen? ⟨X, 4, none⟩ = false
section
variable {w w' : World} {X bs bn : Nat} {vd : Value} {last settled : Nat}
theorem HCells.lt (h : HCells w X bs bn vd last settled) : X < w.heap.size := fblock_of_cell h.c0
theorem HCells.of_block (h : HCells w X bs bn vd last settled) (hb : w'.heap[X]? = w.heap[X]?) : HCells w' X bs bn vd last settled := by
  have hc : ∀ o, w'.cell? ⟨X, o, none⟩ = w.cell? ⟨X, o, none⟩ := fun o => World.cell?_of_block hb
  have hf : ∀ o, w'.frozen? ⟨X, o, none⟩ = w.frozen? ⟨X, o, none⟩ := fun o => World.frozen?_of_block hb
  exact ⟨(hc 0).trans h.c0, (hc 1).trans h.c1, (hc 2).trans h.c2, (hc 3).trans h.c3, (hc 4).trans h.c4, (hf 0).trans h.f0, (hf 1).trans h.f1, (hf 2).trans h.f2, (hf 3).trans h.f3, (hf 4).trans h.f4⟩
theorem HCells.on (h : HCells w X bs bn vd last settled) (hb : Below w.heap.size w w') : HCells w' X bs bn vd last settled := h.of_block (hb.block X h.lt)
theorem HCells.drew (h : HCells w X bs bn vd last settled) : HCells w.drew X bs bn vd last settled := h.of_block rfl
theorem HCells.set1 (h : HCells w X bs bn vd last settled) (k : Nat) : HCells (w.setCell ⟨X, 1, none⟩ (.map (some k))) X bs k vd last settled := by
  obtain ⟨c0, c1, c2, c3, c4, f0, f1, f2, f3, f4⟩ := h
  refine ⟨?_, World.cell?_setCell_same _ _ _ c1, ?_, ?_, ?_, by rw [World.frozen?_setCell]; assumption, by rw [World.frozen?_setCell]; assumption, by rw [World.frozen?_setCell]; assumption, by rw [World.frozen?_setCell]; assumption, by rw [World.frozen?_setCell]; assumption⟩ <;>
    (rw [World.cell?_setCell_other _ _ _ _ (by intro e; injection e with e1 e2; omega)]; assumption)
theorem HCells.set2 (h : HCells w X bs bn vd last settled) (v : Value) : HCells (w.setCell ⟨X, 2, none⟩ v) X bs bn v last settled := by
  obtain ⟨c0, c1, c2, c3, c4, f0, f1, f2, f3, f4⟩ := h
  refine ⟨?_, ?_, World.cell?_setCell_same _ _ _ c2, ?_, ?_, by rw [World.frozen?_setCell]; assumption, by rw [World.frozen?_setCell]; assumption, by rw [World.frozen?_setCell]; assumption, by rw [World.frozen?_setCell]; assumption, by rw [World.frozen?_setCell]; assumption⟩ <;>
    (rw [World.cell?_setCell_other _ _ _ _ (by intro e; injection e with e1 e2; omega)]; assumption)
theorem HCells.set3 (h : HCells w X bs bn vd last settled) (k : Nat) : HCells (w.setCell ⟨X, 3, none⟩ (.int .u64 (k : Int))) X bs bn vd k settled := by
  obtain ⟨c0, c1, c2, c3, c4, f0, f1, f2, f3, f4⟩ := h
  refine ⟨?_, ?_, ?_, World.cell?_setCell_same _ _ _ c3, ?_, by rw [World.frozen?_setCell]; assumption, by rw [World.frozen?_setCell]; assumption, by rw [World.frozen?_setCell]; assumption, by rw [World.frozen?_setCell]; assumption, by rw [World.frozen?_setCell]; assumption⟩ <;>
    (rw [World.cell?_setCell_other _ _ _ _ (by intro e; injection e with e1 e2; omega)]; assumption)
theorem HCells.set4 (h : HCells w X bs bn vd last settled) (k : Nat) : HCells (w.setCell ⟨X, 4, none⟩ (.int .u64 (k : Int))) X bs bn vd last k := by
  obtain ⟨c0, c1, c2, c3, c4, f0, f1, f2, f3, f4⟩ := h
  refine ⟨?_, ?_, ?_, ?_, World.cell?_setCell_same _ _ _ c4, by rw [World.frozen?_setCell]; assumption, by rw [World.frozen?_setCell]; assumption, by rw [World.frozen?_setCell]; assumption, by rw [World.frozen?_setCell]; assumption, by rw [World.frozen?_setCell]; assumption⟩ <;>
    (rw [World.cell?_setCell_other _ _ _ _ (by intro e; injection e with e1 e2; omega)]; assumption)
theorem HCells.new (w : World) (bs bn : Nat) (vd : Value) (last settled : Nat) (t : TypeId) : HCells (w.alloc (.cells #[.map (some bs), .map (some bn), vd, .int .u64 (last : Int), .int .u64 (settled : Int)] t)) w.heap.size bs bn vd last settled := by
  refine ⟨by simp, by simp, by simp, by simp, by simp, by simp, by simp, by simp, by simp, by simp⟩
end
/-- the blocks that are a folder's own -/
def HOwn (X bs bn : Nat) (vd : Value) (i : Nat) : Prop := i = X ∨ i = bs ∨ i = bn ∨ vd.ownBlock = some i
/-- a folder's memory -/
structure HFol (w : World) (X bs bn : Nat) (R : Nat → Prop) (vd : Value) (dvs : List Value) (s : PSt) : Prop where
  cells : HCells w X bs bn vd s.last s.settled
  safe : MapAt w bs s.safe
  now : MapAt w bn s.now
  deeds : w.ownsRow 0 201 1 vd s.deeds.length dvs
  each : DdsAt w R dvs s.deeds
  ne : bs ≠ bn
  rows : ∀ i, HOwn X bs bn vd i → ¬ R i
section
variable {w w' : World} {X bs bn : Nat} {R M : Nat → Prop} {vd : Value} {dvs : List Value} {s : PSt}
theorem HFol.lt (h : HFol w X bs bn R vd dvs s) : ∀ i, HOwn X bs bn vd i → i < w.heap.size := by
  rintro i (rfl | rfl | rfl | hi)
  · exact h.cells.lt
  · exact h.safe.lt
  · exact h.now.lt
  · exact (h.deeds.lt i hi).2
theorem HFol.xs (h : HFol w X bs bn R vd dvs s) : X ≠ bs := fun e => by have h1 := h.cells.c0; have h2 := h.safe.no_cell 0; rw [e, h2] at h1; cases h1
theorem HFol.xn (h : HFol w X bs bn R vd dvs s) : X ≠ bn := fun e => by have h1 := h.cells.c0; have h2 := h.now.no_cell 0; rw [e, h2] at h1; cases h1
theorem row_cells {g n : Nat} {e : TypeId} {v : Value} {xs : List Value} (ho : w.ownsRow 0 e 1 v n xs) (hg : v.ownBlock = some g) : ∃ cur, w.heap[g]? = some (.cells cur e (0, 0)) := by
  rcases ho.2 with ⟨rfl, _⟩ | ⟨b, cap, cur, rfl, _, hb, _⟩
  · simp [Value.ownBlock] at hg
  · simp [Value.ownBlock] at hg; subst hg; exact ⟨cur, hb⟩
theorem HFol.gs (h : HFol w X bs bn R vd dvs s) : vd.ownBlock ≠ some bs := fun e => by
  obtain ⟨cur, hb⟩ := row_cells h.deeds e
  obtain ⟨_, D, ⟨es', clock, h1, _⟩, _⟩ := h.safe
  rw [hb] at h1; cases h1
theorem HFol.gn (h : HFol w X bs bn R vd dvs s) : vd.ownBlock ≠ some bn := fun e => by
  obtain ⟨cur, hb⟩ := row_cells h.deeds e
  obtain ⟨_, D, ⟨es', clock, h1, _⟩, _⟩ := h.now
  rw [hb] at h1; cases h1
theorem HFol.chg (h : HFol w X bs bn R vd dvs s) (hc : Chg M w w') (hM : ∀ i, M i → ¬ HOwn X bs bn vd i ∧ ¬ R i) : HFol w' X bs bn R vd dvs s :=
  ⟨h.cells.of_block (hc.block X h.cells.lt (fun e => (hM X e).1 (.inl rfl))), h.safe.chg hc (fun e => (hM bs e).1 (.inr (.inl rfl))), h.now.chg hc (fun e => (hM bn e).1 (.inr (.inr (.inl rfl)))),
   hc.own h.deeds (fun g hg e => (hM g e).1 (.inr (.inr (.inr hg)))), h.each.chg hc (fun i e => (hM i e).2), h.ne, h.rows⟩
end
/-- the folder in block X holds s; its own blocks are in M, what its deeds captured in R -/
def HFolM (w : World) (X : Nat) (M R : Nat → Prop) (s : PSt) : Prop :=
  s.Ok ∧ (∀ i, M i → ¬ R i) ∧ (∀ i, M i → i < w.heap.size) ∧ (∀ i, R i → i < w.heap.size) ∧ ∃ bs bn vd dvs, HFol w X bs bn R vd dvs s ∧ vd.ownBlock ≠ some X ∧ ∀ i, HOwn X bs bn vd i → M i
section
variable {w w' : World} {X : Nat} {R M N : Nat → Prop} {s : PSt}
theorem HFolM.ok (h : HFolM w X M R s) : s.Ok := h.1
theorem HFolM.chg (h : HFolM w X M R s) (hc : Chg N w w') (hN : ∀ i, N i → ¬ M i ∧ ¬ R i) : HFolM w' X M R s := by
  obtain ⟨ho, h1, h2, h3, bs, bn, vd, dvs, h, hx, h4⟩ := h
  exact ⟨ho, h1, fun i hi => Nat.lt_of_lt_of_le (h2 i hi) hc.size, fun i hi => Nat.lt_of_lt_of_le (h3 i hi) hc.size, bs, bn, vd, dvs, h.chg hc (fun i e => ⟨fun e' => (hN i e).1 (h4 i e'), (hN i e).2⟩), hx, h4⟩
theorem HFolM.on (h : HFolM w X M R s) (hb : Below w.heap.size w w') : HFolM w' X M R s := h.chg (Chg.of_below (M := fun _ => False) hb) (fun i e => e.elim)
theorem HFolM.drew (h : HFolM w X M R s) : HFolM w.drew X M R s := h.on (Below.refl _ _).drew
end
/-- what a call leaves that changes the folder -/
def HMut (w w' : World) (X : Nat) (M R : Nat → Prop) (s : PSt) : Prop :=
  ∃ M' R', HFolM w' X M' R' s ∧ Chg M w w' ∧ (∀ i, M' i → M i ∨ w.heap.size ≤ i) ∧ (∀ i, R' i → R i ∨ w.heap.size ≤ i)
theorem HMut.of_below {w w' : World} {X : Nat} {M R : Nat → Prop} {s : PSt} (h : HFolM w X M R s) (hb : Below w.heap.size w w') : HMut w w' X M R s := ⟨M, R, h.on hb, Chg.of_below hb, fun _ => .inl, fun _ => .inl⟩
end Go.Proofs.YtfabodpefbdbjaaGreatDoor

/-
  Layer 6: the program's folder: New, made, May, has, Find, Loose.
-/
set_option linter.unusedVariables false
set_option linter.unusedSimpArgs false
namespace Go.Proofs.YtfabodpefbdbjaaGreatDoor
open Go.RowKit Go.Maps

set_option maxRecDepth 100000 in
theorem hnew (w : World) : Calls Tryz.prog 42 #[] w fun e w' => ∃ X M, e = .returned (.pointer (some ⟨X, 0, none⟩)) ∧ HFolM w' X M (fun _ => False) PSt.new ∧ Below w.heap.size w w' ∧ ∀ i, M i → w.heap.size ≤ i := by
  have hmm : ∀ w, (Instr.makeMap 139 none).run Tryz.prog w = .ok (.map (some w.heap.size)) (w.alloc (.map #[] 0)) := fun w => by
    simp [Instr.makeMap, run_underlying Tryz.underlying139, go_sem, Result.andThen]
  go_enter Tryz.func42, Tryz.ntmps42
  go_wp2
  go_ret
  obtain ⟨w1, hw1⟩ : ∃ w1, w1 = w.alloc (.map #[] 0) := ⟨_, rfl⟩
  obtain ⟨w2, hw2⟩ : ∃ w2, w2 = w1.alloc (.map #[] 0) := ⟨_, rfl⟩
  have s1 : w1.heap.size = w.heap.size + 1 := by rw [hw1]; simp
  have s2 : w2.heap.size = w.heap.size + 2 := by rw [hw2]; simp [s1]
  have m1 : MapAt w1 w.heap.size [] := by rw [hw1]; exact MapAt.new w
  have b12 : Below w1.heap.size w1 w2 := by rw [hw2]; exact (Below.refl _ _).alloc (Nat.le_refl _) _
  have m2 : MapAt w2 (w.heap.size + 1) [] := by rw [hw2, ← s1]; exact MapAt.new w1
  have hc := HCells.new w2 w.heap.size (w.heap.size + 1) (.slice none 0 0) 0 0 142
  have b23 : Below w2.heap.size w2 (w2.alloc (.cells #[.map (some w.heap.size), .map (some (w.heap.size + 1)), .slice none 0 0, .int .u64 ((0 : Nat) : Int), .int .u64 ((0 : Nat) : Int)] 142)) := (Below.refl _ _).alloc (Nat.le_refl _) _
  refine ⟨w2.heap.size, fun i => w.heap.size ≤ i ∧ i < w.heap.size + 3, by simp [hw2, hw1], ⟨PSt.new_ok, fun i h e => e, fun i hi => ?_, fun i hi => hi.elim, w.heap.size, w.heap.size + 1, .slice none 0 0, [], ⟨?_, ?_, ?_, World.ownsRow_nil _ _ _ _, DdsAt.nil_, by omega, fun i hi e => e⟩, by simp [Value.ownBlock], ?_⟩, ?_, fun i hi => hi.1⟩
  · simp
    have := hi.2
    omega
  · rw [hw2, hw1] at hc ⊢
    exact hc
  · have := (m1.on b12).on b23
    rw [hw2, hw1] at this
    exact this
  · have := m2.on b23
    rw [hw2, hw1] at this
    exact this
  · rintro i (rfl | rfl | rfl | hi)
    · omega
    · omega
    · omega
    · simp [Value.ownBlock] at hi
  · exact (((Below.refl _ _).alloc (Nat.le_refl _) _).alloc (by simp) _).alloc (by simp; omega) _
set_option maxRecDepth 100000 in
theorem hmade {w : World} {X bs bn : Nat} {vd : Value} {last settled : Nat} (h : HCells w X bs bn vd last settled) : Calls Tryz.prog 110 #[.pointer (some ⟨X, 0, none⟩)] w fun e w' => e = .returned (.bool true) ∧ w = w' := by
  have hc := h.c1
  clear h
  have hn := fun w => run_neq_map_nil (P := Tryz.prog) w 139 9 41 (some bn) Tryz.underlying139
  simp only [Option.isNone_some, Bool.not_false] at hn
  go_enter Tryz.func110, Tryz.ntmps110
  go_wp2
  go_ret
  exact ⟨rfl, rfl⟩
set_option maxRecDepth 100000 in
theorem hhas {w : World} {X bs bn : Nat} {vd : Value} {last settled : Nat} {es : List Ent} (h : HCells w X bs bn vd last settled) (hm : MapAt w bn es) {n : ByteArray} (hn : n.size ≤ maxLen) :
    Calls Tryz.prog 161 #[.pointer (some ⟨X, 0, none⟩), .string n] w fun e w' => e = .returned (.bool (findL es n).isSome) ∧ w = w' := by
  have hc := h.c1
  have hl := (hm.look hn).1
  clear h hm
  generalize ((findL es n).getD 0 : Int) = c at hl
  generalize (findL es n).isSome = q at hl ⊢
  go_enter Tryz.func161, Tryz.ntmps161
  go_wp2
  go_ret
  exact ⟨rfl, rfl⟩
set_option maxRecDepth 100000 in
theorem hfind {w : World} {X bs bn : Nat} {vd : Value} {last settled : Nat} {es : List Ent} (h : HCells w X bs bn vd last settled) (hm : MapAt w bn es) {n : ByteArray} (hn : n.size ≤ maxLen) :
    Calls Tryz.prog 115 #[.pointer (some ⟨X, 0, none⟩), .string n] w fun e w' => e = .returned (.tuple #[.int .u64 (((findL es n).getD 0 : Nat) : Int), .bool (findL es n).isSome]) ∧ w = w' := by
  have H := Lib.hid h
  have hc := h.c1
  have hl := (hm.look hn).1
  clear h hm
  generalize ((findL es n).getD 0 : Int) = c at hl ⊢
  generalize (findL es n).isSome = q at hl ⊢
  go_enter Tryz.func115, Tryz.ntmps115
  go_wp2_with (go_at_call 110; refine (hmade H.out).mono ?_; rintro e w' ⟨rfl, rfl⟩)
  go_ret2
  exact ⟨rfl, rfl⟩
end Go.Proofs.YtfabodpefbdbjaaGreatDoor

/-
  Layer 6: the program's folder: mayStand, May.
-/
set_option linter.unusedVariables false
set_option linter.unusedSimpArgs false
namespace Go.Proofs.YtfabodpefbdbjaaGreatDoor
open Go.RowKit Go.Maps

set_option maxRecDepth 100000 in
set_option maxHeartbeats 4000000 in
theorem hmayStand_b (x : Int) (b1 b2 b3 b4 b5 b6 : Bool) (e1 : decide (x ≥ 97) = b1) (e2 : decide (x ≤ 122) = b2) (e3 : decide (x ≥ 48) = b3) (e4 : decide (x ≤ 57) = b4) (e5 : (x == 45) = b5) (e6 : (x == 46) = b6) (w : World) :
    Calls Tryz.prog 160 #[.int .u8 x] w fun e w' => e = .returned (.bool (((b1 && b2) || (b3 && b4)) || b5 || b6)) ∧ w = w' := by
  cases b1 <;> cases b2 <;> cases b3 <;> cases b4 <;> cases b5 <;> cases b6 <;>
    (go_enter Tryz.func160, Tryz.ntmps160
     go_wp2
     go_ret
     exact ⟨rfl, rfl⟩)
theorem hmayStand (c : UInt8) (w : World) : Calls Tryz.prog 160 #[.int .u8 (c.toNat : Int)] w fun e w' => e = .returned (.bool (okB c)) ∧ w = w' := by
  refine (hmayStand_b (c.toNat : Int) _ _ _ _ _ _ rfl rfl rfl rfl rfl rfl w).mono fun e w' ⟨he, hw⟩ => ⟨?_, hw⟩
  rw [he]
  congr 2
  unfold okB
  have h1 : decide ((c.toNat : Int) ≥ 97) = decide (97 ≤ c.toNat) := by congr 1; apply propext; omega
  have h2 : decide ((c.toNat : Int) ≤ 122) = decide (c.toNat ≤ 122) := by congr 1; apply propext; omega
  have h3 : decide ((c.toNat : Int) ≥ 48) = decide (48 ≤ c.toNat) := by congr 1; apply propext; omega
  have h4 : decide ((c.toNat : Int) ≤ 57) = decide (c.toNat ≤ 57) := by congr 1; apply propext; omega
  have h5 : ((c.toNat : Int) == 45) = decide (c.toNat = 45) := by
    rw [show ((c.toNat : Int) == 45) = decide ((c.toNat : Int) = 45) from rfl]
    congr 1; apply propext; omega
  have h6 : ((c.toNat : Int) == 46) = decide (c.toNat = 46) := by
    rw [show ((c.toNat : Int) == 46) = decide ((c.toNat : Int) = 46) from rfl]
    congr 1; apply propext; omega
  rw [h1, h2, h3, h4, h5, h6]
theorem conv_name (w : World) (s : ByteArray) : ∃ c w', (convert 9 51 (.string s)).run Tryz.prog w = .ok (.slice (some ⟨w.heap.size, 0, none⟩) s.size c) w' ∧ Below w.heap.size w w' ∧ w.heap.size < w'.heap.size ∧
    ∀ j (x : UInt8), s.data.toList[j]? = some x → w'.cell? ⟨w.heap.size, j, none⟩ = some (.int .u8 (x.toNat : Int)) := by
  refine ⟨_, _, Lib.run_convert_string_bytes w 9 51 5 s Tryz.underlying9 Tryz.underlying51 Tryz.underlying5, ⟨rfl, rfl, rfl, ?_, fun k hk => Lib.bytesWorld_at_old w _ s k hk⟩, ?_, fun j x hx => ?_⟩
  · rw [Lib.bytesWorld_size]; omega
  · rw [Lib.bytesWorld_size]; omega
  · have hj : j < s.size := by have := (List.getElem?_eq_some_iff.1 hx).1; rw [Array.length_toList] at this; exact this
    rw [Lib.bytesWorld_cell w _ s j hj, List.getD_eq_getElem?_getD, hx]
    rfl
set_option maxRecDepth 100000 in
set_option maxHeartbeats 4000000 in
theorem hmay (s : ByteArray) (w : World) (hs : s.size ≤ 9223372036854775807) : Calls Tryz.prog 121 #[.string s] w fun e w' => e = .returned (.bool (mayN s)) ∧ Below w.heap.size w w' := by
  rcases (show s.size = 0 ∨ 32 < s.size ∨ (0 < s.size ∧ s.size ≤ 32) by omega) with h | h | h
  · have hm : mayN s = false := by unfold mayN; simp [h]
    rw [hm]
    have h1 : decide ((s.size : Int) < 1) = true := decide_eq_true (by omega)
    go_enter Tryz.func121, Tryz.ntmps121
    go_wp2
    go_ret
    exact ⟨rfl, Below.refl _ _⟩
  · have hm : mayN s = false := by
      have h9 : decide (s.size ≤ 32) = false := by simp; omega
      unfold mayN; rw [h9]; simp
    rw [hm]
    have h1 : decide ((s.size : Int) < 1) = false := decide_eq_false (by omega)
    have h2 : decide ((s.size : Int) > 32) = true := decide_eq_true (by omega)
    go_enter Tryz.func121, Tryz.ntmps121
    go_wp2
    go_ret
    exact ⟨rfl, Below.refl _ _⟩
  · obtain ⟨h3, h4⟩ := h
    have h1 : decide ((s.size : Int) < 1) = false := decide_eq_false (by omega)
    have h2 : decide ((s.size : Int) > 32) = false := decide_eq_false (by omega)
    obtain ⟨cp, w1, hcv, hb1, hlt, hcell⟩ := conv_name w s
    have HC := Lib.hid hcell
    have HB := Lib.hid hb1
    obtain ⟨B, hB⟩ : ∃ B, B = w.heap.size := ⟨_, rfl⟩
    rw [← hB] at hcv HC
    have HBB := Lib.hid hB
    clear hcell hb1 hB
    go_enter Tryz.func121, Tryz.ntmps121
    go_wp2_with fail
    go_loopw [16] (fun i wr => ∃ j : Nat, j ≤ s.size ∧ i = .int .i64 j ∧ (s.data.toList.take j).all okB = true ∧ w1 = wr) (fun i _ => s.size - (intOf i).toNat)
    case atStart => exact ⟨0, by omega, rfl, by simp, rfl⟩
    case round =>
      obtain ⟨j, hj, rfl, hall, rfl⟩ := hrel
      have HA := Lib.hid hall
      clear hall
      by_cases hjl : j < s.size
      · obtain ⟨c, hc⟩ : ∃ c, s.data.toList[j]? = some c := ⟨s.data.toList[j]'(by simpa using hjl), List.getElem?_eq_getElem _⟩
        have Hc := Lib.hid hc
        have hcl := HC.out j c hc
        clear hc
        cases ho : okB c
        · go_wp2_with (go_at_call 160; refine (hmayStand c _).mono ?_; rintro e w' ⟨rfl, rfl⟩; rw [ho])
          go_ret
          exact ⟨by rw [mayN_no Hc.out ho]; rfl, HB.out⟩
        · go_wp2_with (go_at_call 160; refine (hmayStand c _).mono ?_; rintro e w' ⟨rfl, rfl⟩; rw [ho])
          go_roundw
          case rel => exact ⟨j + 1, by omega, by go_num, all_next Hc.out HA.out ho, by first | trivial | rfl⟩
          case measure => simp [intOf]; omega
      · obtain rfl : j = s.size := by omega
        have hl : s.data.toList.take s.size = s.data.toList := List.take_of_length_le (by rw [Array.length_toList]; exact Nat.le_refl _)
        have hm : mayN s = true := by
          have h9 := HA.out
          rw [hl] at h9
          unfold mayN
          rw [h9]
          simp
          omega
        have Hm := Lib.hid hm
        clear hm hl
        go_wp2_with fail
        go_ret
        exact ⟨by rw [Hm.out]; rfl, HB.out⟩
end Go.Proofs.YtfabodpefbdbjaaGreatDoor

/-
  Layer 6: the program's folder: its deeds, called.
-/
set_option linter.unusedVariables false
set_option linter.unusedSimpArgs false
namespace Go.Proofs.YtfabodpefbdbjaaGreatDoor
open Go.RowKit Go.Maps

set_option maxRecDepth 100000 in
theorem hdeed_mk {w : World} {b p q : Nat} {es : List Ent} (h : MapAt w b es) (hl : es.length ≤ 1000000) {n : ByteArray} {i : Nat} (hn : n.size ≤ 1000) (hi : i < 1000000000) (cp : w.cell? ⟨p, 0, none⟩ = some (.int .u64 (i : Int))) (cq : w.cell? ⟨q, 0, none⟩ = some (.string n)) :
    Calls Tryz.prog 163 #[.map (some b), .pointer (some ⟨p, 0, none⟩), .pointer (some ⟨q, 0, none⟩)] w fun e w' => (∃ v, e = .returned v) ∧ MapAt w' b (withL es n i) ∧ w.mapTurned w' b := by
  obtain ⟨w1, hrun, hm, ht⟩ := h.store hl hn hi
  have HM := Lib.hid hm
  have HT := Lib.hid ht
  clear hm ht h
  go_enter Tryz.func163, Tryz.ntmps163
  go_wp2
  go_end0
  exact ⟨⟨_, rfl⟩, HM.out, HT.out⟩
set_option maxRecDepth 100000 in
theorem hdeed_rm {w : World} {b q : Nat} {es : List Ent} (h : MapAt w b es) {n : ByteArray} (hn : n.size ≤ 1000) (cq : w.cell? ⟨q, 0, none⟩ = some (.string n)) :
    Calls Tryz.prog 166 #[.map (some b), .pointer (some ⟨q, 0, none⟩)] w fun e w' => (∃ v, e = .returned v) ∧ MapAt w' b (withoutL es n) ∧ w.mapTurned w' b := by
  obtain ⟨w1, hrun, hm, ht⟩ := h.drop hn 0
  have HM := Lib.hid hm
  have HT := Lib.hid ht
  clear hm ht h
  go_enter Tryz.func166, Tryz.ntmps166
  go_wp2
  go_end0
  exact ⟨⟨_, rfl⟩, HM.out, HT.out⟩
/-- a deed's call, whatever deed: letters for its function and what it captured -/
theorem hdeed {w : World} {R : Nat → Prop} {v : Value} {d : Dd} (hd : DdAt w R v d) (hok : d.Ok) : ∃ g cap, v = .func (.func g) #[] cap ∧ (∀ args w', (callFunc g args).run Tryz.prog w' = .ok (.enter g args) w') ∧
    ∀ (w' : World) (b : Nat) (es : List Ent), MapAt w' b es → es.length ≤ 1000000 → DdAt w' R v d → Calls Tryz.prog g (#[.map (some b)] ++ cap) w' fun e w'' => (∃ v, e = .returned v) ∧ MapAt w'' b (d.app es) ∧ w'.mapTurned w'' b := by
  cases d with
  | mk n i =>
    obtain ⟨p, q, rfl, h1, h2, h3, h4⟩ := hd
    refine ⟨_, _, rfl, fun args w' => enters_of Tryz.func163 (by kernel_rfl) rfl args w', fun w' b es hm hl hd' => ?_⟩
    obtain ⟨p', q', e, k1, k2, k3, k4⟩ := hd'
    simp only [Value.func.injEq, Array.mk.injEq, List.cons.injEq, Value.pointer.injEq, Option.some.injEq, Addr.mk.injEq, and_true, true_and] at e
    obtain ⟨rfl, rfl⟩ := e
    exact hdeed_mk hm hl hok.1 hok.2 k3 k4
  | mv a b => exact hd.elim
  | rm n =>
    obtain ⟨q, rfl, h2, h4⟩ := hd
    refine ⟨_, _, rfl, fun args w' => enters_of Tryz.func166 (by kernel_rfl) rfl args w', fun w' b es hm hl hd' => ?_⟩
    obtain ⟨q', e, k2, k4⟩ := hd'
    simp only [Value.func.injEq, Array.mk.injEq, List.cons.injEq, Value.pointer.injEq, Option.some.injEq, Addr.mk.injEq, and_true, true_and] at e
    obtain rfl := e
    exact hdeed_rm hm hok k4
end Go.Proofs.YtfabodpefbdbjaaGreatDoor

/-
  Layer 6: the program's folder: do: a deed is done and told to be loose.
-/
set_option linter.unusedVariables false
set_option linter.unusedSimpArgs false
namespace Go.Proofs.YtfabodpefbdbjaaGreatDoor
open Go.RowKit Go.Maps

theorem fn_info : (Tryz.prog.info? 201).map (fun i => (i.zero, i.size, i.bytes)) = some (some .nilFunc, 1, 8) := by kernel_rfl
set_option maxRecDepth 100000 in
set_option maxHeartbeats 4000000 in
theorem hdo {w : World} {X : Nat} {M R R2 : Nat → Prop} {s : PSt} {v : Value} {d : Dd} (h : HFolM w X M R s) (hd : DdAt w R2 v d) (hok : d.Ok) (hR2 : ∀ i, R2 i → i < w.heap.size ∧ ¬ M i) (hf : s.safe.length + s.deeds.length < 100000) :
    Calls Tryz.prog 162 #[.pointer (some ⟨X, 0, none⟩), v] w fun e w' => (∃ u, e = .returned u) ∧ ∃ M', HFolM w' X M' (fun i => R i ∨ R2 i) (s.push d) ∧ Chg M w w' ∧ ∀ i, M' i → M i ∨ w.heap.size ≤ i := by
  obtain ⟨ho, hMR, hM, hR, bs, bn, vd, dvs, h, hvX, hOM⟩ := h
  obtain ⟨i0, hi0, hz0, hz1, hz2⟩ := info_parts fn_info
  obtain ⟨g, cap, rfl, hen, hcall⟩ := hdeed hd hok
  have hone := hd.one
  have hkey := hcall w bn s.now h.now (Nat.le_trans ho.now_length (by omega)) hd
  have HCa := Lib.hid hkey
  have H := Lib.hid h
  have c1 := h.cells.c1
  obtain ⟨Ad, cd, hvd, hlc, hcm, _⟩ := own_slice h.deeds
  obtain ⟨nd, hnd⟩ : ∃ nd, nd = s.deeds.length := ⟨_, rfl⟩
  have Hnd := Lib.hid hnd
  have hnd2 : nd ≤ 100000 := by omega
  have hown : w.ownsRow 0 201 1 (.slice Ad nd cd) nd dvs := by have := h.deeds; rw [hvd, ← hnd] at this; exact this
  have HO := Lib.hid hown
  have Hvd : Hid (vd = .slice Ad nd cd) := by rw [hnd]; exact hvd
  have Hho := Lib.hid ho
  have HMR := Lib.hid hMR
  have HM := Lib.hid hM
  have HR := Lib.hid hR
  have HvX := Lib.hid hvX
  have HOM := Lib.hid hOM
  have Hd := Lib.hid hd
  have Hok := Lib.hid hok
  have HR2 := Lib.hid hR2
  have Hf := Lib.hid hf
  clear ho hMR hM hR hvX hOM hd hok hR2 hf hown hvd hlc hcm hnd h hkey hcall
  go_enter Tryz.func162, Tryz.ntmps162
  go_wp2_with fail
  refine HCa.out.mono ?_
  rintro e w1 ⟨⟨u, rfl⟩, hm1, ht1⟩
  have hc1 : Chg (fun i => i = bn) w w1 := Chg.of_turned ht1
  have HM1 := Lib.hid hm1
  have HC1 := Lib.hid hc1
  have hX1 : HCells w1 X bs bn (.slice Ad nd cd) s.last s.settled := by
    have := H.out.cells.of_block (hc1.block X H.out.cells.lt H.out.xn)
    rw [Hvd.out] at this
    exact this
  have HX1 := Lib.hid hX1
  have HO1 : Hid (w1.ownsRow 0 201 1 (.slice Ad nd cd) nd dvs) := hc1.own HO.out (fun g hg e => H.out.gn (by rw [Hvd.out, hg, e]))
  have c2 := hX1.c2
  clear hm1 ht1 hc1 hX1 c1
  go_wp2_with (at_builtin; (refine wpList_append_1 _ rfl _ _ 140 rfl 0 201 i0 .nilFunc 8 Tryz.underlying140 hi0 hz0 hz1 hz2 rfl (.slice Ad nd cd) nd dvs rfl (HO1.out.alloc _) ⟨w1.heap.size, 0, none⟩ 1 (.func (.func g) #[] cap) rfl (by simp) hone (by unfold maxLen; omega) (by omega) (Nat.zero_le _) ?_); (intro v3 w3 hown3 hb3 hg3 hv3); (have HO3 := Lib.hid hown3); (have HG3 := Lib.hid hg3); (have HV3 := Lib.hid hv3); (have hbX := hg3.block X (by have := HX1.out.lt; simp; omega) (by intro e; exact HvX.out (by rw [Hvd.out]; exact e.symm))); (have hX3 := (HX1.out.on ((Below.refl _ w1).alloc (Nat.le_refl _) (.cells #[.func (.func g) #[] cap] 201))).of_block hbX); (have HX3 := Lib.hid hX3); (have c2' := hX3.c2); (have f2' := hX3.f2); clear hown3 hb3 hg3 hv3 hbX hX3 c2; (obtain ⟨A3, k3, rfl, _, _, _⟩ := own_slice HO3.out))
  go_end0
  have hcA : Chg (fun i => vd.ownBlock = some i) w1 w3 := ((Chg.refl (M := fun i => vd.ownBlock = some i) (w := w1)).alloc (.cells #[.func (.func g) #[] cap] 201)).trans (Chg.of_grown HG3.out (M := fun i => vd.ownBlock = some i) (by intro g hg; rw [Hvd.out]; exact hg)) (fun i hi => .inl hi)
  have hcB : Chg (fun i => i = X ∨ vd.ownBlock = some i) w1 (w3.setCell ⟨X, 2, none⟩ (.slice A3 (nd + 1) k3)) := (hcA.mono (fun i hi => .inr hi)).setCell (.inl rfl) _
  have hcw : Chg M w (w3.setCell ⟨X, 2, none⟩ (.slice A3 (nd + 1) k3)) := (HC1.out.mono (fun i hi => HOM.out i (.inr (.inr (.inl hi))))).trans hcB (fun i hi => .inl (HOM.out i (hi.elim .inl (fun h => .inr (.inr (.inr h))))))
  have hX4 := HX3.out.set2 (.slice A3 (nd + 1) k3)
  have hsz1 : w.heap.size ≤ w1.heap.size := HC1.out.size
  have hv3X : ∀ g, (Value.slice A3 (nd + 1) k3).ownBlock = some g → vd.ownBlock = some g ∨ w.heap.size ≤ g := fun g hg => by
    rcases HV3.out with e | e
    · rw [e] at hg; left; rw [Hvd.out]; exact hg
    · rw [hg] at e; injection e with e; simp at e; right; omega
  have hcX : Chg (fun i => i = X) w3 (w3.setCell ⟨X, 2, none⟩ (.slice A3 (nd + 1) k3)) := (Chg.refl (M := fun i => i = X) (w := w3)).setCell (p := ⟨X, 2, none⟩) rfl _
  have hv3ne : (Value.slice A3 (nd + 1) k3).ownBlock ≠ some X := fun e => by
    rcases hv3X _ e with e2 | e2
    · exact HvX.out e2
    · have := H.out.cells.lt; omega
  have hO4 : (w3.setCell ⟨X, 2, none⟩ (.slice A3 (nd + 1) k3)).ownsRow 0 201 1 (.slice A3 (nd + 1) k3) (s.push d).deeds.length (dvs ++ [.func (.func g) #[] cap]) := by
    have := hcX.own HO3.out (fun g hg e => hv3ne (by rw [hg, e]))
    have e : (s.push d).deeds.length = nd + 1 := by simp [PSt.push, Hnd.out]
    rw [e]
    exact this
  have hMnow : MapAt (w3.setCell ⟨X, 2, none⟩ (.slice A3 (nd + 1) k3)) bn (s.push d).now := by
    rw [PSt.push_now]
    exact HM1.out.chg hcB (by rintro (e | e); exact H.out.xn e.symm; exact H.out.gn e)
  have hMsafe : MapAt (w3.setCell ⟨X, 2, none⟩ (.slice A3 (nd + 1) k3)) bs s.safe := (H.out.safe.chg HC1.out H.out.ne).chg hcB (by rintro (e | e); exact H.out.xs e.symm; exact H.out.gs e)
  have hEach : DdsAt (w3.setCell ⟨X, 2, none⟩ (.slice A3 (nd + 1) k3)) (fun i => R i ∨ R2 i) (dvs ++ [.func (.func g) #[] cap]) (s.push d).deeds :=
    DdsAt.add ((H.out.each.chg hcw HMR.out).mono (fun i => .inl)) ((Hd.out.chg hcw (fun i hi e => (HR2.out i e).2 hi)).mono (fun i => .inr))
  have hrows : ∀ i, HOwn X bs bn (.slice A3 (nd + 1) k3) i → ¬ (R i ∨ R2 i) := by
    have hM' : ∀ i, M i → ¬ (R i ∨ R2 i) := fun i hi e => e.elim (HMR.out i hi) (fun e => (HR2.out i e).2 hi)
    rintro i (rfl | rfl | rfl | hi)
    · exact hM' _ (HOM.out _ (.inl rfl))
    · exact hM' _ (HOM.out _ (.inr (.inl rfl)))
    · exact hM' _ (HOM.out _ (.inr (.inr (.inl rfl))))
    · rcases hv3X i hi with e | e
      · exact hM' _ (HOM.out _ (.inr (.inr (.inr e))))
      · rintro (e2 | e2)
        · have := HR.out i e2; omega
        · have := (HR2.out i e2).1; omega
  have hFin : HFol (w3.setCell ⟨X, 2, none⟩ (.slice A3 (nd + 1) k3)) X bs bn (fun i => R i ∨ R2 i) (.slice A3 (nd + 1) k3) (dvs ++ [.func (.func g) #[] cap]) (s.push d) := ⟨hX4, hMsafe, hMnow, hO4, hEach, H.out.ne, hrows⟩
  refine ⟨⟨_, rfl⟩, fun i => HOwn X bs bn (.slice A3 (nd + 1) k3) i, ⟨PSt.push_ok Hho.out Hok.out Hf.out, hrows, hFin.lt, ?_, bs, bn, (.slice A3 (nd + 1) k3), _, hFin, hv3ne, fun i h => h⟩, hcw, ?_⟩
  · rintro i (e | e)
    · exact Nat.lt_of_lt_of_le (HR.out i e) hcw.size
    · exact Nat.lt_of_lt_of_le (HR2.out i e).1 hcw.size
  · rintro i (rfl | rfl | rfl | hi)
    · exact .inl (HOM.out _ (.inl rfl))
    · exact .inl (HOM.out _ (.inr (.inl rfl)))
    · exact .inl (HOM.out _ (.inr (.inr (.inl rfl))))
    · exact (hv3X i hi).imp (fun e => HOM.out _ (.inr (.inr (.inr e)))) (fun e => e)
end Go.Proofs.YtfabodpefbdbjaaGreatDoor

/-
  Layer 6: the program's folder: Remove, Rename.
-/
set_option linter.unusedVariables false
set_option linter.unusedSimpArgs false
namespace Go.Proofs.YtfabodpefbdbjaaGreatDoor
open Go.RowKit Go.Maps

theorem mayN_size {n : ByteArray} (h : mayN n = true) : n.size ≤ 1000 := by
  unfold mayN at h
  simp only [Bool.and_eq_true, decide_eq_true_eq] at h
  omega
theorem HFolM.cells {w : World} {X : Nat} {M R : Nat → Prop} {s : PSt} (h : HFolM w X M R s) : ∃ bs bn Ad cd, HCells w X bs bn (.slice Ad s.deeds.length cd) s.last s.settled ∧ MapAt w bs s.safe ∧ MapAt w bn s.now := by
  obtain ⟨ho, hMR, hM, hR, bs, bn, vd, dvs, h, hvX, hOM⟩ := h
  obtain ⟨Ad, cd, hvd, _⟩ := own_slice h.deeds
  have := h.cells
  rw [hvd] at this
  exact ⟨bs, bn, Ad, cd, this, h.safe, h.now⟩
/-- what Remove tells and makes -/
def removeP (s : PSt) (n : ByteArray) : Nat × PSt := if mayN n = false then (1, s) else if (findL s.now n).isSome then (0, s.push (.rm n)) else (6, s)
def renameP (s : PSt) (n dst6 : ByteArray) : Nat × PSt :=
  if mayN n = false ∨ mayN dst6 = false then (1, s) else if (findL s.now n).isSome = false then (6, s) else if n.toList == dst6.toList then (0, s) else (0, s.push (.mv n dst6))
section
variable {w : World} {X : Nat} {M R : Nat → Prop} {s : PSt}
set_option maxRecDepth 100000 in
set_option maxHeartbeats 4000000 in
theorem hremove (h : HFolM w X M R s) (hf : s.safe.length + s.deeds.length < 100000) (n : ByteArray) (hn : n.size ≤ 9223372036854775807) :
    Calls Tryz.prog 130 #[.pointer (some ⟨X, 0, none⟩), .string n] w fun e w' => e = .returned (.int .i64 ((removeP s n).1 : Int)) ∧ HMut w w' X M R (removeP s n).2 := by
  have H := Lib.hid h
  have Hf := Lib.hid hf
  clear h hf
  have hb0 : Below w.heap.size w (w.alloc (.cells #[.string n] 9)) := (Below.refl _ _).alloc (Nat.le_refl _) _
  have hq : (w.alloc (.cells #[.string n] 9)).cell? ⟨w.heap.size, 0, none⟩ = some (.string n) := by simp
  go_enter Tryz.func130, Tryz.ntmps130
  go_wp2_with fail
  obtain ⟨q, hqe⟩ : ∃ q, q = w.heap.size := ⟨_, rfl⟩
  have Hq := Lib.hid hqe
  have HB0 := Lib.hid hb0
  rw [← hqe] at hq
  simp only [← hqe]
  clear hqe
  generalize w.alloc (.cells #[.string n] 9) = w0 at *
  have H0 := Lib.hid (H.out.on HB0.out)
  obtain ⟨bs, bn, Ad, cd, hc, hms, hmn⟩ := H0.out.cells
  have Hc := Lib.hid hc
  have Hmn := Lib.hid hmn
  clear hc hms hmn
  refine (hmade Hc.out).mono ?_
  rintro e w' ⟨rfl, rfl⟩
  go_wp2_with fail
  refine (hmay n _ hn).mono ?_
  rintro e w1 ⟨rfl, hb1⟩
  have HB1 := Lib.hid hb1
  have hq1 : w1.cell? ⟨q, 0, none⟩ = some (.string n) := (hb1.cell (p := ⟨q, 0, none⟩) (fblock_of_cell hq)).trans hq
  have Hq1 := Lib.hid hq1
  have HB01 := Lib.hid (HB0.out.trans (HB1.out.mono HB0.out.size))
  have H1 := Lib.hid (H0.out.on HB1.out)
  have Hc1 := Lib.hid (Hc.out.on HB1.out)
  have Hm1 := Lib.hid (Hmn.out.on HB1.out)
  clear hq hb1
  cases hmy : mayN n
  · have Hr : Hid (removeP s n = (1, s)) := by unfold removeP; rw [if_pos hmy]; exact rfl
    go_wp2_with fail
    go_ret
    rw [Hr.out]
    exact ⟨rfl, HMut.of_below H.out HB01.out⟩
  · have Hsz := Lib.hid (mayN_size hmy)
    go_wp2_with fail
    refine (hhas Hc1.out Hm1.out (by unfold maxLen; omega)).mono ?_
    rintro e w' ⟨rfl, rfl⟩
    cases hfi : (findL s.now n).isSome
    · have Hr : Hid (removeP s n = (6, s)) := by unfold removeP; rw [if_neg (by simp [hmy]), if_neg (by simp [hfi])]; exact rfl
      go_wp2_with fail
      go_ret
      rw [Hr.out]
      exact ⟨rfl, HMut.of_below H.out HB01.out⟩
    · have Hr : Hid (removeP s n = (0, s.push (.rm n))) := by unfold removeP; rw [if_neg (by simp [hmy]), if_pos hfi]; exact rfl
      go_wp2_with fail
      have hd : DdAt w1 (fun i => i = q) (.func (.func 166) #[] #[.pointer (some ⟨q, 0, none⟩)]) (.rm n) := ⟨q, rfl, rfl, Hq1.out⟩
      have hqM : ∀ i, i = q → i < w1.heap.size ∧ ¬ M i := by
        rintro i rfl
        refine ⟨fblock_of_cell Hq1.out, fun e => ?_⟩
        have := H.out.2.2.1 _ e
        have := Hq.out
        omega
      refine (hdo H1.out hd Hsz.out hqM Hf.out).mono ?_
      rintro e w2 ⟨⟨u, rfl⟩, M', hm', hc', hM'⟩
      go_wp2_with fail
      go_ret
      rw [Hr.out]
      have hs := HB01.out.size
      refine ⟨rfl, M', fun i => R i ∨ i = q, hm', (Chg.of_below (M := M) HB01.out).trans hc' (fun i hi => .inl hi), fun i hi => (hM' i hi).imp (fun e => e) (fun e => by omega), ?_⟩
      rintro i (hi | rfl)
      · exact .inl hi
      · exact .inr (by have := Hq.out; omega)
end
end Go.Proofs.YtfabodpefbdbjaaGreatDoor

/-
  Layer 6: the program's folder: Create.
-/
set_option linter.unusedVariables false
set_option linter.unusedSimpArgs false
namespace Go.Proofs.YtfabodpefbdbjaaGreatDoor
open Go.RowKit Go.Maps

/-- what Create tells and makes -/
def PSt.made (s : PSt) (n : ByteArray) : PSt := PSt.push { s with last := s.last + 1 } (.mk n (s.last + 1))
def createP (s : PSt) (n : ByteArray) : Nat × Nat × PSt :=
  if mayN n = false then (0, 1, s) else if (findL s.now n).isSome then (0, 9, s) else if 256 ≤ s.now.length then (0, 7, s) else (s.last + 1, 0, s.made n)
section
variable {w : World} {X : Nat} {M R : Nat → Prop} {s : PSt}
theorem HFolM.set3 (h : HFolM w X M R s) (hl : s.last + 1 < 100000000) : HFolM (w.setCell ⟨X, 3, none⟩ (.int .u64 ((s.last + 1 : Nat) : Int))) X M R { s with last := s.last + 1 } := by
  obtain ⟨ho, hMR, hM, hR, bs, bn, vd, dvs, h, hvX, hOM⟩ := h
  have hc : Chg (fun i => i = X) w (w.setCell ⟨X, 3, none⟩ (.int .u64 ((s.last + 1 : Nat) : Int))) := (Chg.refl (M := fun i => i = X) (w := w)).setCell (p := ⟨X, 3, none⟩) rfl _
  have hok : PSt.Ok { s with last := s.last + 1 } := ⟨ho.safe, ho.deeds, hl, by have := ho.settled; show s.settled ≤ s.last + 1; omega, ho.few⟩
  exact ⟨hok, hMR, fun i hi => Nat.lt_of_lt_of_le (hM i hi) hc.size, fun i hi => Nat.lt_of_lt_of_le (hR i hi) hc.size, bs, bn, vd, dvs,
    ⟨h.cells.set3 _, h.safe.chg hc (fun e => h.xs e.symm), h.now.chg hc (fun e => h.xn e.symm), hc.own h.deeds (fun g hg e => hvX (by rw [hg, e])), h.each.chg hc (fun i e => by rw [e]; exact h.rows X (.inl rfl)), h.ne, h.rows⟩, hvX, hOM⟩
set_option maxRecDepth 100000 in
set_option maxHeartbeats 4000000 in
theorem hcreate (h : HFolM w X M R s) (hf : s.safe.length + s.deeds.length < 100000) (hla : s.last + 1 < 100000000) (n : ByteArray) (hn : n.size ≤ 9223372036854775807) :
    Calls Tryz.prog 123 #[.pointer (some ⟨X, 0, none⟩), .string n] w fun e w' => e = .returned (.tuple #[.int .u64 ((createP s n).1 : Int), .int .i64 ((createP s n).2.1 : Int)]) ∧ HMut w w' X M R (createP s n).2.2 := by
  have H := Lib.hid h
  have Hf := Lib.hid hf
  clear h hf
  have hb0 : Below w.heap.size w (w.alloc (.cells #[.string n] 9)) := (Below.refl _ _).alloc (Nat.le_refl _) _
  have hq : (w.alloc (.cells #[.string n] 9)).cell? ⟨w.heap.size, 0, none⟩ = some (.string n) := by simp
  go_enter Tryz.func123, Tryz.ntmps123
  go_wp2_with fail
  obtain ⟨q, hqe⟩ : ∃ q, q = w.heap.size := ⟨_, rfl⟩
  have Hq := Lib.hid hqe
  have HB0 := Lib.hid hb0
  rw [← hqe] at hq
  simp only [← hqe]
  clear hqe
  generalize w.alloc (.cells #[.string n] 9) = w0 at *
  have H0 := Lib.hid (H.out.on HB0.out)
  obtain ⟨bs, bn, Ad, cd, hc, hms, hmn⟩ := H0.out.cells
  have Hc := Lib.hid hc
  have Hmn := Lib.hid hmn
  clear hc hms hmn
  refine (hmade Hc.out).mono ?_
  rintro e w' ⟨rfl, rfl⟩
  go_wp2_with fail
  refine (hmay n _ hn).mono ?_
  rintro e w1 ⟨rfl, hb1⟩
  have HB1 := Lib.hid hb1
  have hq1 : w1.cell? ⟨q, 0, none⟩ = some (.string n) := (hb1.cell (p := ⟨q, 0, none⟩) (fblock_of_cell hq)).trans hq
  have Hq1 := Lib.hid hq1
  have HB01 := Lib.hid (HB0.out.trans (HB1.out.mono HB0.out.size))
  have H1 := Lib.hid (H0.out.on HB1.out)
  have Hc1 := Lib.hid (Hc.out.on HB1.out)
  have Hm1 := Lib.hid (Hmn.out.on HB1.out)
  clear hq hb1
  cases hmy : mayN n
  · have Hr : Hid (createP s n = (0, 1, s)) := by unfold createP; rw [if_pos hmy]; exact rfl
    go_wp2_with fail
    go_ret2
    rw [Hr.out]
    exact ⟨rfl, HMut.of_below H.out HB01.out⟩
  · have Hsz := Lib.hid (mayN_size hmy)
    go_wp2_with fail
    refine (hhas Hc1.out Hm1.out (by unfold maxLen; omega)).mono ?_
    rintro e w' ⟨rfl, rfl⟩
    cases hfi : (findL s.now n).isSome
    · have cc1 := Hc1.out.c1
      have cc3 := Hc1.out.c3
      have ff3 := Hc1.out.f3
      have hlen := Hm1.out.len 3
      by_cases h256 : 256 ≤ s.now.length
      · have Hr : Hid (createP s n = (0, 7, s)) := by unfold createP; rw [if_neg (by simp [hmy]), if_neg (by simp [hfi]), if_pos h256]; exact rfl
        have hd1 : decide ((s.now.length : Int) ≥ 256) = true := decide_eq_true (by omega)
        have H256 := Lib.hid h256
        clear h256
        go_wp2_with fail
        go_ret2
        rw [Hr.out]
        exact ⟨rfl, HMut.of_below H.out HB01.out⟩
      · have Hr : Hid (createP s n = (s.last + 1, 0, s.made n)) := by unfold createP; rw [if_neg (by simp [hmy]), if_neg (by simp [hfi]), if_neg h256]; exact rfl
        have hd1 : decide ((s.now.length : Int) ≥ 256) = false := decide_eq_false (by omega)
        have hwl : IntKind.u64.wrap ((s.last : Int) + 1) = ((s.last + 1 : Nat) : Int) := by
          have h9 := Lib.hid hla
          rw [show ((s.last : Int) + 1) = ((s.last + 1 : Nat) : Int) by omega]
          exact IntWalk.u64_in _ (by omega)
        have H256 := Lib.hid h256
        clear h256
        go_wp2_with fail
        obtain ⟨L, hL⟩ : ∃ L, L = s.last + 1 := ⟨_, rfl⟩
        have hLi : (s.last : Int) + 1 = (L : Int) := by omega
        simp only [hLi]
        have h2 := H1.out.set3 hla
        rw [← hL] at h2
        have hq2 : (w1.setCell ⟨X, 3, none⟩ (.int .u64 (L : Int))).cell? ⟨q, 0, none⟩ = some (.string n) := (World.cell?_setCell_other _ _ _ _ (by intro e; injection e with e1 e2; omega)).trans Hq1.out
        have hb2 : Chg M w (w1.setCell ⟨X, 3, none⟩ (.int .u64 (L : Int))) := (Chg.of_below (M := M) HB01.out).setCell (p := ⟨X, 3, none⟩) (by obtain ⟨_, _, _, _, _, _, _, _, _, _, hOM⟩ := H.out; exact hOM X (.inl rfl)) _
        have hsz2 : (w1.setCell ⟨X, 3, none⟩ (.int .u64 (L : Int))).heap.size = w1.heap.size := by simp
        obtain ⟨p, hp⟩ : ∃ p, p = w1.heap.size := ⟨_, rfl⟩
        rw [← hp] at hsz2
        simp only [← hp]
        have Hpp : Hid (w.heap.size ≤ p ∧ q < p) := ⟨by rw [hp]; exact HB01.out.size, by rw [hp]; exact fblock_of_cell Hq1.out⟩
        clear hp
        generalize w1.setCell ⟨X, 3, none⟩ (.int .u64 (L : Int)) = w2 at *
        have hb3 : Below w2.heap.size w2 (w2.alloc (.cells #[.int .u64 (L : Int)] 41)) := (Below.refl _ _).alloc (Nat.le_refl _) _
        have hp3 : (w2.alloc (.cells #[.int .u64 (L : Int)] 41)).cell? ⟨p, 0, none⟩ = some (.int .u64 (L : Int)) := by rw [← hsz2]; simp
        generalize w2.alloc (.cells #[.int .u64 (L : Int)] 41) = w3 at *
        have H3 := Lib.hid (h2.on hb3)
        have hq3 : w3.cell? ⟨q, 0, none⟩ = some (.string n) := (hb3.cell (p := ⟨q, 0, none⟩) (fblock_of_cell hq2)).trans hq2
        have HC3 : Hid (Chg M w w3) := hb2.trans (Chg.of_below (M := fun _ => False) hb3) (fun i hi => hi.elim)
        have hd : DdAt w3 (fun i => i = p ∨ i = q) (.func (.func 163) #[] #[.pointer (some ⟨p, 0, none⟩), .pointer (some ⟨q, 0, none⟩)]) (.mk n L) := ⟨p, q, rfl, .inl rfl, .inr rfl, hp3, hq3⟩
        have hnM : ∀ i, (i = p ∨ i = q) → ¬ M i := by
          intro i hi e
          have h9 := H.out.2.2.1 _ e
          have h8 := Hpp.out
          have h7 := Hq.out
          omega
        have hqM : ∀ i, (i = p ∨ i = q) → i < w3.heap.size ∧ ¬ M i := by
          rintro i hi
          refine ⟨?_, hnM i hi⟩
          rcases hi with rfl | rfl
          · exact fblock_of_cell hp3
          · exact fblock_of_cell hq3
        have HnM := Lib.hid hnM
        have HL := Lib.hid hL
        have Hp3 := Lib.hid hp3
        refine (hdo H3.out hd ⟨Hsz.out, by omega⟩ hqM Hf.out).mono ?_
        clear hd hqM hnM hb2 hb3 h2 hq1 hq2 hq3 hp3 hb0 hwl cc1 cc3 ff3 hlen hL
        rintro e w4 ⟨⟨u, rfl⟩, M', hm', hc', hM'⟩
        have hp4 : w4.cell? ⟨p, 0, none⟩ = some (.int .u64 (L : Int)) := (hc'.cell (p := ⟨p, 0, none⟩) (fblock_of_cell Hp3.out) (HnM.out p (.inl rfl))).trans Hp3.out
        have Hm' := Lib.hid hm'
        have Hc' := Lib.hid hc'
        have HM' := Lib.hid hM'
        clear hm' hc' hM'
        go_wp2_with fail
        go_ret2
        rw [Hr.out]
        have hs := HC3.out.size
        refine ⟨by rw [HL.out]; rfl, M', fun i => R i ∨ (i = p ∨ i = q), ?_, HC3.out.trans Hc'.out (fun i hi => .inl hi), fun i hi => (HM'.out i hi).imp (fun e => e) (fun e => by omega), ?_⟩
        · have := Hm'.out
          rw [HL.out] at this
          exact this
        · rintro i (hi | hi)
          · exact .inl hi
          · exact .inr (by have := Hq.out; have := Hpp.out; omega)
    · have Hr : Hid (createP s n = (0, 9, s)) := by unfold createP; rw [if_neg (by simp [hmy]), if_pos hfi]; exact rfl
      go_wp2_with fail
      go_ret2
      rw [Hr.out]
      exact ⟨rfl, HMut.of_below H.out HB01.out⟩
end
end Go.Proofs.YtfabodpefbdbjaaGreatDoor

/- Shelf6C -/

/-
  The shelf's contracts laid at this dump, in plain words (tools/shelf.py): tables of numbers, and for each laying one theorem, a field a fact of the dump.
-/
namespace Go.Proofs.YtfabodpefbdbjaaGreatDoor
open Go.Shelf

def Tryz.cloneS_ren : Go.Shelf.Ren := ⟨fun | 5 => 154 | 7 => 181 | n => n, fun | 23 => 139 | 25 => 9 | 3 => 41 | 4 => 4 | 20 => 20 | n => n, fun | n => n⟩
theorem Tryz.cloneS : Go.Proofs.SlLaysW.n5 Tryz.prog Tryz.cloneS_ren := {
  mixed := by kernel_rfl
  f5 := ⟨Tryz.f154.name, by decide, Tryz.func154.trans (congrArg some (by kernel_rfl))⟩
  f7 := Tryz.func181.trans (congrArg some (by kernel_rfl))
  t4 := Tryz.underlying4
  a4 := Tryz.isAgg4
  z4 := Tryz.sizeOf4
  v4 := Tryz.zeroValue4
  t20 := Tryz.underlying20
  a20 := Tryz.isAgg20
  z20 := Tryz.sizeOf20
  v20 := Tryz.zeroValue20
  t23 := Tryz.underlying139
  a23 := Tryz.isAgg139
  z23 := Tryz.sizeOf139
  v23 := Tryz.zeroValue139 }

end Go.Proofs.YtfabodpefbdbjaaGreatDoor

/- HxSettle -/

/-
  Layer 6: the program's folder: maps.Clone; settle; Sync, Crash.
-/
set_option linter.unusedVariables false
set_option linter.unusedSimpArgs false
namespace Go.Proofs.YtfabodpefbdbjaaGreatDoor
open Go.RowKit Go.Maps

theorem hclone {w : World} {b : Nat} {es : List Ent} (h : MapAt w b es) : Calls Tryz.prog 154 #[.map (some b)] w fun e w' => ∃ k, e = .returned (.map (some k)) ∧ MapAt w' k es ∧ Below w.heap.size w w' ∧ w.heap.size ≤ k ∧ k < w'.heap.size := by
  obtain ⟨ho, D, hown, hr⟩ := h
  have hcon := AnyW.maps_Clone_owns Tryz.cloneS 9 (plainElem Tryz.prog 41) b _ D w hown
  change Calls Tryz.prog 154 _ _ _ at hcon
  refine hcon.mono ?_
  rintro e w' ⟨rfl, h1, h2, hb⟩
  exact ⟨_, rfl, ⟨ho, D, h1, hr⟩, hb, Nat.le_refl _, h1.lt⟩
theorem elFuncs : Tryz.prog.underlying 140 = some (.slice (Tryz.prog.elem 140)) := by kernel_rfl
/-- 's[:k]' of deeds -/
theorem run_cut_hF (A : Option Addr) (n c k : Nat) (hkc : k ≤ c) (w : World) :
    (Instr.sliceAt 140 (.slice A n c) none (some (.int .i64 (k : Int))) none).run Tryz.prog w = .ok (.slice A k c) w := by
  rw [run_sliceAt_slice _ 140 _ _ _ _ elFuncs, run_slice_h _ 140 A n c elFuncs .i64 k (by omega) (by omega)]
  have : (sizeOf (Tryz.prog.elem 140)).run Tryz.prog w = .ok 1 w := by kernel_rfl
  rw [this]
  have e : (if c = 0 then A else A.map (·.add 0)) = A := by
    split
    · rfl
    · cases A with
      | none => rfl
      | some a => simp [Addr.add]
  simp [Result.andThen, sliced, e]
/-- what holds through settle's loop, j deeds done -/
structure HSetR (w wr : World) (bs : Nat) (s : PSt) (j : Nat) : Prop where
  safe : MapAt wr bs (doAll s.safe (s.deeds.take j))
  chg : Chg (fun i => i = bs) w wr
section
variable {w : World} {X : Nat} {M R : Nat → Prop} {s : PSt}
set_option maxRecDepth 100000 in
set_option maxHeartbeats 4000000 in
theorem hsettle (h : HFolM w X M R s) (k : Nat) (hk : k ≤ s.deeds.length) :
    Calls Tryz.prog 111 #[.pointer (some ⟨X, 0, none⟩), .int .i64 (k : Int)] w fun e w' => (∃ u, e = .returned u) ∧ HMut w w' X M R (s.settle k) := by
  obtain ⟨ho, hMR, hM, hR, bs, bn, vd, dvs, h, hvX, hOM⟩ := h
  have Hho := Lib.hid ho
  have HMR := Lib.hid hMR
  have HM := Lib.hid hM
  have HR := Lib.hid hR
  have HOM := Lib.hid hOM
  have HvX := Lib.hid hvX
  have H := Lib.hid h
  obtain ⟨Ad, cd, hvd, hlc, hcm, _⟩ := own_slice h.deeds
  obtain ⟨nd, hnd⟩ : ∃ nd, nd = s.deeds.length := ⟨_, rfl⟩
  have Hnd := Lib.hid hnd
  have hkn : k ≤ nd := by omega
  have hnd2 : nd ≤ 100000 := by have := ho.few; omega
  have Hvd : Hid (vd = .slice Ad nd cd) := by rw [hnd]; exact hvd
  have hc0 := h.cells
  rw [Hvd.out] at hc0
  have HC0 := Lib.hid hc0
  have c0 := hc0.c0
  have c2 := hc0.c2
  have HRd : Hid (Rd w w.heap.size Ad dvs) := by have := h.deeds; rw [hvd] at this; exact Rd.of_own this
  have hcut := run_cut_hF Ad nd cd k (by omega)
  have HS0 : Hid (HSetR w w bs s 0) := ⟨by simpa [doAll] using h.safe, Chg.refl⟩
  clear ho hMR hM hR hvX hOM hvd hlc hcm hnd h hk hc0
  go_enter Tryz.func111, Tryz.ntmps111
  go_wp2_with fail
  clear c0 c2
  go_loopw [13] (fun i wr => ∃ j : Nat, j ≤ k ∧ i = .int .i64 j ∧ HSetR w wr bs s j) (fun i _ => k - (intOf i).toNat)
  case atStart => exact ⟨0, by omega, rfl, HS0.out⟩
  case round =>
    obtain ⟨j, hj, rfl, hS⟩ := hrel
    have HS := Lib.hid hS
    clear hS
    have hcl := HC0.out.of_block (HS.out.chg.block X HC0.out.lt H.out.xs)
    have HCl := Lib.hid hcl
    by_cases hjl : j < k
    · obtain ⟨d, hd⟩ : ∃ d, s.deeds[j]? = some d := ⟨s.deeds[j]'(by have := Hnd.out; omega), List.getElem?_eq_getElem _⟩
      obtain ⟨dv, hdv⟩ : ∃ dv, dvs[j]? = some dv := ⟨dvs[j]'(by have := H.out.each.1; have := Hnd.out; omega), List.getElem?_eq_getElem _⟩
      have hda := H.out.each.2 j dv d hdv hd
      have hnR : ∀ i, i = bs → ¬ R i := by
        rintro i rfl
        exact H.out.rows _ (.inr (.inl rfl))
      have hda2 := hda.chg HS.out.chg hnR
      have hok : d.Ok := Hho.out.deeds d (List.mem_of_getElem? hd)
      obtain ⟨g, cap, rfl, hen, hcall⟩ := hdeed hda2 hok
      have hlen : (doAll s.safe (s.deeds.take j)).length ≤ 1000000 := by
        have h1 := doAll_length (s.deeds.take j) s.safe
        have h2 := Hho.out.few
        have h3 : (s.deeds.take j).length ≤ s.deeds.length := by rw [List.length_take]; omega
        omega
      have HCa := Lib.hid (hcall wr bs _ HS.out.safe hlen hda2)
      obtain ⟨bb, oo, rfl, hbb, hcc⟩ := HRd.out (by intro e; rw [e] at hdv; simp at hdv)
      have cj : wr.cell? ⟨bb, oo + j, none⟩ = some (.func (.func g) #[] cap) := by
        have hne : ¬ (bb = bs) := fun e => H.out.gs (by rw [Hvd.out, ← e]; rfl)
        exact (HS.out.chg.cell (p := ⟨bb, oo + j, none⟩) hbb hne).trans (hcc j _ hdv)
      have c0 := hcl.c0
      have Hd := Lib.hid hd
      clear hd hdv hda hda2 hok hlen hcall hcc hnR hcl
      go_wp2_with fail
      refine HCa.out.mono ?_
      rintro e w1 ⟨⟨u, rfl⟩, hm1, ht1⟩
      have hfin : HSetR w w1 bs s (j + 1) := ⟨by rw [doAll_next Hd.out]; exact hm1, HS.out.chg.trans (Chg.of_turned ht1) (fun i hi => .inl hi)⟩
      have HF := Lib.hid hfin
      clear hm1 ht1 hfin
      go_wp2_with fail
      go_roundw
      case rel => exact ⟨j + 1, by omega, by go_num, HF.out⟩
      case measure => simp [intOf]; omega
    · obtain rfl : j = k := by omega
      clear hcl
      go_wp2_with fail
      have HSf : Hid (MapAt wr.drew bs (doAll s.safe (s.deeds.take j))) := HS.out.safe.on (Below.refl _ _).drew
      have HCW := Lib.hid HCl.out.drew
      have HCh : Hid (Chg (fun i => i = bs) w wr.drew) := HS.out.chg.drew
      refine wp_region_noPanic ?_
      refine wp_region_held_drew (S := fun w' => w'.cell? ⟨X, 0, none⟩ = some (.map (some bs)) ∧ w'.cell? ⟨X, 3, none⟩ = some (.int .u64 (s.last : Int))) (by kernel_rfl) ⟨HCW.out.c0, HCW.out.c3⟩ (fun hHeld => ?_)
      generalize World.drew _ = W at *
      refine wpAnyH_take (i := 0) (v := ?_) opAt_0 (by kernel_rfl) (by kernel_rfl) (by kernel_rfl) (fun _ _ _ h => h) (Or.inl ⟨by rfl, ?_⟩) hHeld ?_
      rotate_left
      · (intro w' hSw; obtain ⟨k0, k3⟩ := hSw; go_simp; try with_reducible rfl)
      try simp only [Act.put, List.setIfInBounds_toArray, List.set_cons_zero, List.set_cons_succ]
      refine wpAnyH_take (i := 1) (v := ?_) opAt_1 (by kernel_rfl) (by kernel_rfl) (by kernel_rfl) (fun _ _ _ h => h) (Or.inl ⟨by rfl, ?_⟩) hHeld ?_
      rotate_left
      · (intro w' hSw; obtain ⟨k0, k3⟩ := hSw; go_simp; try with_reducible rfl)
      try simp only [Act.put, List.setIfInBounds_toArray, List.set_cons_zero, List.set_cons_succ]
      refine wpAnyH_take (i := 2) (v := ?_) opAt_2 (by kernel_rfl) (by kernel_rfl) (by kernel_rfl) (fun _ _ _ h => h) (Or.inl ⟨by rfl, ?_⟩) hHeld ?_
      rotate_left
      · (intro w' hSw; obtain ⟨k0, k3⟩ := hSw; go_simp; try with_reducible rfl)
      try simp only [Act.put, List.setIfInBounds_toArray, List.set_cons_zero, List.set_cons_succ]
      refine wpAnyH_take (i := 3) (v := ?_) opAt_3 (by kernel_rfl) (by kernel_rfl) (by kernel_rfl) (fun _ _ _ h => h) (Or.inl ⟨by rfl, ?_⟩) hHeld ?_
      rotate_left
      · (intro w' hSw; obtain ⟨k0, k3⟩ := hSw; go_simp; try with_reducible rfl)
      try simp only [Act.put, List.setIfInBounds_toArray, List.set_cons_zero, List.set_cons_succ]
      refine wpAnyH_take (i := 4) (v := ?_) opAt_4 (by kernel_rfl) (by kernel_rfl) (by kernel_rfl) (fun _ _ _ h => h) (Or.inl ⟨by rfl, ?_⟩) hHeld ?_
      rotate_left
      · (intro w' hSw; obtain ⟨k0, k3⟩ := hSw; go_simp; try with_reducible rfl)
      try simp only [Act.put, List.setIfInBounds_toArray, List.set_cons_zero, List.set_cons_succ]
      refine wpAnyH_take (i := 5) (v := ?_) opAt_5 (by kernel_rfl) (by kernel_rfl) (by kernel_rfl) (fun _ _ _ h => h) (Or.inl ⟨by rfl, ?_⟩) hHeld ?_
      rotate_left
      · (intro w' hSw; obtain ⟨k0, k3⟩ := hSw; go_simp; try with_reducible rfl)
      try simp only [Act.put, List.setIfInBounds_toArray, List.set_cons_zero, List.set_cons_succ]
      refine wpAnyH_take (i := 6) (v := ?_) opAt_6 (by kernel_rfl) (by kernel_rfl) (by kernel_rfl) (fun _ _ _ h => h) (Or.inl ⟨by rfl, ?_⟩) hHeld ?_
      rotate_left
      · (intro w' hSw; obtain ⟨k0, k3⟩ := hSw; go_simp; try with_reducible rfl)
      try simp only [Act.put, List.setIfInBounds_toArray, List.set_cons_zero, List.set_cons_succ]
      refine wpAnyH_take (i := 8) (v := ?_) opAt_8 (by kernel_rfl) (by kernel_rfl) (by kernel_rfl) (fun _ _ _ h => h) (Or.inl ⟨by rfl, ?_⟩) hHeld ?_
      rotate_left
      · (intro w' hSw; obtain ⟨k0, k3⟩ := hSw; go_simp; try with_reducible rfl)
      try simp only [Act.put, List.setIfInBounds_toArray, List.set_cons_zero, List.set_cons_succ]
      refine wpAnyH_take (i := 9) (v := ?_) opAt_9 (by kernel_rfl) (by kernel_rfl) (by kernel_rfl) (fun _ _ _ h => h) (Or.inl ⟨by rfl, ?_⟩) hHeld ?_
      rotate_left
      · (intro w' hSw; obtain ⟨k0, k3⟩ := hSw; go_simp; try with_reducible rfl)
      try simp only [Act.put, List.setIfInBounds_toArray, List.set_cons_zero, List.set_cons_succ]
      refine wpAnyH_take (i := 10) (v := ?_) opAt_10 (by kernel_rfl) (by kernel_rfl) (by kernel_rfl) (fun _ _ _ h => h) (Or.inl ⟨by rfl, ?_⟩) hHeld ?_
      rotate_left
      · (intro w' hSw; obtain ⟨k0, k3⟩ := hSw; go_simp; try with_reducible rfl)
      try simp only [Act.put, List.setIfInBounds_toArray, List.set_cons_zero, List.set_cons_succ]
      refine wpAnyH_take (i := 11) (v := ?_) opAt_11 (by kernel_rfl) (by kernel_rfl) (by kernel_rfl) (fun _ _ _ h => h) (Or.inl ⟨by rfl, ?_⟩) hHeld ?_
      rotate_left
      · (intro w' hSw; obtain ⟨k0, k3⟩ := hSw; go_simp; try with_reducible rfl)
      try simp only [Act.put, List.setIfInBounds_toArray, List.set_cons_zero, List.set_cons_succ]
      refine wpAnyH_ready (rs := [7]) (by kernel_rfl) (by simp) ?_
      refine AllReadyH.cons rfl (fun K hK => ?_) AllReadyH.nil
      go_simp
      refine (hclone HSf.out).mono ?_
      rintro e w2 ⟨nb, rfl, hm2, hb2, hge, hlt⟩
      have HM2 := Lib.hid hm2
      have HB2 := Lib.hid hb2
      have Hge := Lib.hid hge
      have hc2 := HCW.out.on hb2
      have HC2 := Lib.hid hc2
      clear hm2 hb2 hge hlt
      go_wp2_with fail
      refine hK.out _ _ ⟨hc2.c0, hc2.c3⟩ (fun hHeld => ?_)
      clear hK K
      try simp only [Act.put, List.setIfInBounds_toArray, List.set_cons_zero, List.set_cons_succ]
      refine wpAnyH_take (i := 12) (v := ?_) opAt_12 (by kernel_rfl) (by kernel_rfl) (by kernel_rfl) (fun _ _ _ h => h) (Or.inl ⟨by rfl, ?_⟩) hHeld ?_
      rotate_left
      · (intro w' hSw; obtain ⟨k0, k3⟩ := hSw; go_simp; try with_reducible rfl)
      try simp only [Act.put, List.setIfInBounds_toArray, List.set_cons_zero, List.set_cons_succ]
      refine wpAnyH_take (i := 13) (v := ?_) opAt_13 (by kernel_rfl) (by kernel_rfl) (by kernel_rfl) (fun _ _ _ h => h) (Or.inl ⟨by rfl, ?_⟩) hHeld ?_
      rotate_left
      · (intro w' hSw; obtain ⟨k0, k3⟩ := hSw; go_simp; try with_reducible rfl)
      try simp only [Act.put, List.setIfInBounds_toArray, List.set_cons_zero, List.set_cons_succ]
      refine wpAnyH_ready (rs := [14]) (by kernel_rfl) (by simp) ?_
      refine AllReadyH.cons rfl (fun K hK => ?_) AllReadyH.nil
      have f1 := HC2.out.f1
      have c1 := HC2.out.c1
      go_simp
      have hc3 := HC2.out.set1 nb
      have HC3 := Lib.hid hc3
      refine hK.out _ _ ⟨hc3.c0, hc3.c3⟩ (fun hHeld => ?_)
      clear hK K
      try simp only [Act.put, List.setIfInBounds_toArray, List.set_cons_zero, List.set_cons_succ]
      refine wpAnyH_take (i := 15) (v := ?_) opAt_15 (by kernel_rfl) (by kernel_rfl) (by kernel_rfl) (fun _ _ _ h => h) (Or.inl ⟨by rfl, ?_⟩) hHeld ?_
      rotate_left
      · (intro w' hSw; obtain ⟨k0, k3⟩ := hSw; go_simp; try with_reducible rfl)
      try simp only [Act.put, List.setIfInBounds_toArray, List.set_cons_zero, List.set_cons_succ]
      refine wpAnyH_take (i := 16) (v := ?_) opAt_16 (by kernel_rfl) (by kernel_rfl) (by kernel_rfl) (fun _ _ _ h => h) (Or.inl ⟨by rfl, ?_⟩) hHeld ?_
      rotate_left
      · (intro w' hSw; obtain ⟨k0, k3⟩ := hSw; go_simp; try with_reducible rfl)
      try simp only [Act.put, List.setIfInBounds_toArray, List.set_cons_zero, List.set_cons_succ]
      refine wpAnyH_ready (rs := [17]) (by kernel_rfl) (by simp) ?_
      refine AllReadyH.cons rfl (fun K hK => ?_) AllReadyH.nil
      have f2 := HC3.out.f2
      have c2 := HC3.out.c2
      go_simp
      have hc4 := HC3.out.set2 (.slice none 0 0)
      have HC4 := Lib.hid hc4
      refine hK.out _ _ ⟨hc4.c0, hc4.c3⟩ (fun hHeld => ?_)
      clear hK K
      try simp only [Act.put, List.setIfInBounds_toArray, List.set_cons_zero, List.set_cons_succ]
      refine wpAnyH_take (i := 18) (v := ?_) opAt_18 (by kernel_rfl) (by kernel_rfl) (by kernel_rfl) (fun _ _ _ h => h) (Or.inl ⟨by rfl, ?_⟩) hHeld ?_
      rotate_left
      · (intro w' hSw; obtain ⟨k0, k3⟩ := hSw; go_simp; try with_reducible rfl)
      try simp only [Act.put, List.setIfInBounds_toArray, List.set_cons_zero, List.set_cons_succ]
      refine wpAnyH_take (i := 19) (v := ?_) opAt_19 (by kernel_rfl) (by kernel_rfl) (by kernel_rfl) (fun _ _ _ h => h) (Or.inl ⟨by rfl, ?_⟩) hHeld ?_
      rotate_left
      · (intro w' hSw; obtain ⟨k0, k3⟩ := hSw; go_simp; try with_reducible rfl)
      try simp only [Act.put, List.setIfInBounds_toArray, List.set_cons_zero, List.set_cons_succ]
      refine wpAnyH_ready (rs := [20]) (by kernel_rfl) (by simp) ?_
      refine AllReadyH.cons rfl (fun K hK => ?_) AllReadyH.nil
      have f4 := HC4.out.f4
      have c4 := HC4.out.c4
      go_simp
      have hc5 := HC4.out.set4 s.last
      have HC5 := Lib.hid hc5
      refine hK.out _ _ ⟨hc5.c0, hc5.c3⟩ (fun hHeld => ?_)
      clear hK K
      try simp only [Act.put, List.setIfInBounds_toArray, List.set_cons_zero, List.set_cons_succ]
      refine wpAnyH_done (by kernel_rfl) ?_ _
      refine NoPanic.normal ?_
      go_wp2_with fail
      go_end0
      refine ⟨⟨_, rfl⟩, ?_⟩
      obtain ⟨w5, hw5⟩ : ∃ w5, w5 = ((w2.setCell ⟨X, 1, none⟩ (.map (some nb))).setCell ⟨X, 2, none⟩ (.slice none 0 0)).setCell ⟨X, 4, none⟩ (.int .u64 (s.last : Int)) := ⟨_, rfl⟩
      rw [← hw5]
      have hcX : Chg (fun i => i = X) w2 w5 := by rw [hw5]; exact ((((Chg.refl (M := fun i => i = X) (w := w2)).setCell (p := ⟨X, 1, none⟩) rfl _).setCell (p := ⟨X, 2, none⟩) rfl _).setCell (p := ⟨X, 4, none⟩) rfl _)
      have hc5 : HCells w5 X bs nb (.slice none 0 0) s.last s.last := by rw [hw5]; exact HC5.out
      have hsW : w.heap.size ≤ W.heap.size := HCh.out.size
      have hX := H.out.cells.lt
      have hge := Hge.out
      have hcw : Chg M w w5 := ((HCh.out.mono (N := M) (fun i hi => HOM.out i (.inr (.inl hi)))).trans (Chg.of_below (M := fun _ => False) HB2.out) (fun i hi => hi.elim)).trans hcX (fun i hi => .inl (HOM.out i (.inl hi)))
      have hms : MapAt w5 bs (s.settle j).safe := (HSf.out.on HB2.out).chg hcX (fun e => H.out.xs e.symm)
      have hmn : MapAt w5 nb (s.settle j).now := HM2.out.chg hcX (fun e => by omega)
      have hbs : bs < w.heap.size := H.out.safe.lt
      have hrows : ∀ i, HOwn X bs nb (.slice none 0 0) i → ¬ R i := by
        rintro i (rfl | rfl | rfl | hi)
        · exact H.out.rows _ (.inl rfl)
        · exact H.out.rows _ (.inr (.inl rfl))
        · intro e; have := HR.out _ e; omega
        · simp [Value.ownBlock] at hi
      have hFin : HFol w5 X bs nb R (.slice none 0 0) [] (s.settle j) := ⟨hc5, hms, hmn, World.ownsRow_nil _ _ _ _, DdsAt.nil_, by omega, hrows⟩
      refine ⟨fun i => HOwn X bs nb (.slice none 0 0) i, R, ⟨PSt.settle_ok Hho.out j, hrows, hFin.lt, fun i hi => Nat.lt_of_lt_of_le (HR.out i hi) hcw.size, bs, nb, _, [], hFin, by simp [Value.ownBlock], fun i h => h⟩, hcw, ?_, fun i hi => .inl hi⟩
      rintro i (rfl | rfl | rfl | hi)
      · exact .inl (HOM.out _ (.inl rfl))
      · exact .inl (HOM.out _ (.inr (.inl rfl)))
      · exact .inr (by omega)
      · simp [Value.ownBlock] at hi
set_option maxRecDepth 100000 in
theorem hsync (h : HFolM w X M R s) : Calls Tryz.prog 128 #[.pointer (some ⟨X, 0, none⟩)] w fun e w' => e = .returned (.int .i64 0) ∧ HMut w w' X M R (s.settle s.deeds.length) := by
  have H := Lib.hid h
  obtain ⟨bs, bn, Ad, cd, hc, hms, hmn⟩ := h.cells
  have Hc := Lib.hid hc
  have c2 := hc.c2
  have hset := hsettle h s.deeds.length (Nat.le_refl _)
  have HS := Lib.hid hset
  clear h hc hms hmn hset
  go_enter Tryz.func128, Tryz.ntmps128
  go_wp2_with fail
  refine (hmade Hc.out).mono ?_
  rintro e w' ⟨rfl, rfl⟩
  go_wp2_with fail
  refine HS.out.mono ?_
  rintro e w' ⟨⟨u, rfl⟩, hm⟩
  have HM := Lib.hid hm
  clear hm
  go_wp2_with fail
  go_ret
  exact ⟨rfl, HM.out⟩
/-- how many deeds a crash keeps -/
def keepN (k : Int) (n : Nat) : Nat := min k.toNat n
end
end Go.Proofs.YtfabodpefbdbjaaGreatDoor

/-
  Layer 6: the program's folder: Copy.
-/
set_option linter.unusedVariables false
set_option linter.unusedSimpArgs false
namespace Go.Proofs.YtfabodpefbdbjaaGreatDoor
open Go.RowKit Go.Maps

end Go.Proofs.YtfabodpefbdbjaaGreatDoor

/- HxNames -/

/-
  Layer 6: the program's folder: the names of a map, sorted.
-/
set_option linter.unusedVariables false
set_option linter.unusedSimpArgs false
namespace Go.Proofs.YtfabodpefbdbjaaGreatDoor
open Go.RowKit Go.Maps Go.Sort Go.Shelf

end Go.Proofs.YtfabodpefbdbjaaGreatDoor

/-
  Layer 6: the program's folder: List.
-/
set_option linter.unusedVariables false
set_option linter.unusedSimpArgs false
namespace Go.Proofs.YtfabodpefbdbjaaGreatDoor
open Go.RowKit Go.Maps

end Go.Proofs.YtfabodpefbdbjaaGreatDoor

/-
  Layer 6: the program's folder: the inodes of a map, in whatever order: maps.Values, slices.AppendSeq, slices.Collect at uint64.
-/
set_option linter.unusedVariables false
set_option linter.unusedSimpArgs false
namespace Go.Proofs.YtfabodpefbdbjaaGreatDoor
open Go.RowKit Go.Maps Go.Sort Go.Shelf
attribute [local go_sem] Oper.semAt_some

abbrev encU (i : Nat) : Value := .int .u64 (i : Int)
/-- some of the entries have come, in some order -/
def Come (es ps : List Ent) : Prop := (ps.map (·.1)).Nodup ∧ ∀ p ∈ ps, p ∈ es
theorem Come.perm {es ps : List Ent} (h : Come es ps) (hs : SortE es) (hall : ∀ x ∈ es, x.1 ∈ ps.map (·.1)) : ps.Perm es := by
  have hnd : ps.Nodup := (List.pairwise_map.1 h.1).imp (by intro a b hn e; exact hn (by rw [e]))
  refine (List.perm_ext_iff_of_nodup hnd hs.nodup).2 fun x => ⟨h.2 x, fun hx => ?_⟩
  obtain ⟨y, hy, e⟩ := List.mem_map.1 (hall x hx)
  have hy2 := h.2 y hy
  have : x.2 = y.2 := hs.one (n := x.1) hx (by rw [← e]; exact hy2)
  have e2 : x = y := Prod.ext e.symm this
  rw [e2]
  exact hy
set_option maxRecDepth 100000 in
set_option maxHeartbeats 1000000 in
theorem hvals1_in (n : Nat) (hn : 1 ≤ n) (l Bm b : Nat) (es : List Ent) (J Jx : List Nat → World → Prop)
    (hY : ∀ pre x W, J pre W → pre.length < es.length → YieldAt Fence.wide (n - 1) Tryz.prog l #[encU x] W fun e W' =>
      (e = .returned (.bool true) ∧ J (pre ++ [x]) W' ∧ KeepsWalks W W') ∨ (e = .returned (.bool false) ∧ Jx (pre ++ [x]) W'))
    (W : World) (hJ : AbidesFrom W.heap.size J) (hm : W.cell? ⟨Bm, 0, none⟩ = some (.map (some b))) (hmap : MapAt W b es) (h0 : J [] W) :
    CallsIn Fence.wide n Tryz.prog 157 #[.func (.yield l) #[] #[], .pointer (some ⟨Bm, 0, none⟩)] W fun e W' => (∃ v, e = .returned v) ∧
      ((∃ xs, (∃ ps, Come es ps ∧ ps.Perm es ∧ xs = ps.map (·.2)) ∧ J xs W') ∨ (∃ pre, True ∧ Jx pre W')) := by
  obtain ⟨ho, D0, hown, hr⟩ := hmap
  have hsz := size_es hown hr ho.1
  refine callsIn_of_wp Tryz.func157 rfl trivial ?_ rfl
  simp only [Tryz.ntmps157, List.size_toArray, List.length_cons, List.length_nil, Nat.reduceAdd, Nat.reduceSub, Array.replicate_succ, Array.replicate_zero, List.push_toArray, List.append_toArray, List.nil_append, List.cons_append]
  gi_wp2_with (first
    | (gi_at_range; refine wpListIn_range_own _ rfl _ 139 rfl 9 41 keyedS Tryz.underlying139 _ b es.length _ rfl hown ?_; intro w0 hrg0 hg0 hs0)
    | gi_in)
  go_frame
  gi_loopw [4] (fun _ wr => ∃ (left : Lit → Bool) (cnt : Nat) (ps : List Ent), wr.ranges Tryz.prog 9 (plainElem Tryz.prog 41) b W.heap.size es.length D0 left cnt ∧ ps.length + cnt ≤ es.length ∧ Collected D0 left (ps.map (·.1.data.toList)) ∧ Come es ps ∧ J (ps.map (·.2)) wr)
    (fun _ wr => wr.rangeLeft b W.heap.size)
  case atStart =>
    exact ⟨_, _, [], hrg0, by simp [hsz], Collected.start D0, ⟨by simp, by simp⟩, hJ [] W w0 none h0 hg0 (fun r e => by cases e)⟩
  case round =>
    obtain ⟨left, cnt, ps, hrg, hcs, hC, hV, hJs⟩ := hrel
    gi_wp2_with (first
      | (gi_at_next; refine wpListIn_next_ranges _ rfl _ rfl 9 keyedS (plainElem Tryz.prog 41) encStr (Value.int .u64) (fun key kl hk => by obtain ⟨x, hx, _⟩ := Maps.keyOf_str Tryz.underlying9 hk; exact ⟨x, hx⟩) (fun v z hv => by obtain ⟨a, ha, _⟩ := plainElem_int_inv Tryz.underlying41 hv; exact ⟨a, ha⟩) b W.heap.size es.length _ _ _ rfl hrg ?_ ?_)
      | gi_in)
    · -- nothing is left
      intro hc0 hl0
      gi_wp2
      go_end0
      refine ⟨⟨_, rfl⟩, .inl ⟨_, ⟨ps, hV, hV.perm ho.1 (fun x hx => ?_), rfl⟩, hJs⟩⟩
      have h1 : x.1.data.toList ∈ ps.map (·.1.data.toList) := (hC.2 _).2 ⟨by
        have := hr.has x.1
        rw [(findL_iff ho.1).2 hx] at this
        exact this, hl0 _⟩
      obtain ⟨y, hy, e⟩ := List.mem_map.1 h1
      exact List.mem_map.2 ⟨y, hy, toList_inj (by rw [ByteArray.toList_eq, ByteArray.toList_eq]; exact e)⟩
    · -- an entry has come
      intro x c kl yd yp w2 cnt2 hkey hlk hv hat hrg2 hlt hg2 hs2 hen
      obtain ⟨x', ex, rfl, _⟩ := Maps.keyOf_str Tryz.underlying9 hkey
      obtain rfl : x = x' := encStr_inj ex
      obtain ⟨c', ec, ez, _⟩ := plainElem_int_inv Tryz.underlying41 hv
      obtain rfl : c = c' := by simpa using ec
      obtain rfl : yd = .lit (.int .u64 c) := (Prod.mk.inj ez).1
      have hhas : Maps.has D0 (.string x) = true := has_true_of_atKey hat
      have ekn : (.string x : Lit) = kn ⟨x.toArray⟩ := by simp [kn]
      rw [ekn, hr.has] at hhas
      obtain ⟨i, hi⟩ := Option.isSome_iff_exists.1 hhas
      have hci : c = (i : Int) := by
        have h1 := hat (.lit (.int .u64 0))
        rw [ekn, hr.some_ hi] at h1
        injection h1 with h1
        injection h1 with _ h1
        exact h1.symm
      subst hci
      have hmem := findL_mem hi
      have hJ2 : J (ps.map (·.2)) w2 := hJ _ wr w2 (some W.heap.size) hJs hg2 (fun r e => by cases e; exact ⟨Nat.le_refl _, hrg.iter_walk⟩)
      obtain ⟨fn, tmps, assign, body, hy, hR⟩ := hY (ps.map (·.2)) i w2 hJ2 (by simp; omega)
      dsimp only [encU] at hy
      clear hs2
      gi_wp2
      refine hR.mono ?_
      have hC2 : Collected D0 (fun z => left z && !z.sameKey (.string x)) ((ps ++ [((⟨x.toArray⟩ : ByteArray), i)]).map (fun p : Ent => p.1.data.toList)) := by simpa using hC.step hlk hat
      have hV2 : Come es (ps ++ [(⟨x.toArray⟩, i)]) := by
        refine ⟨?_, fun p hp => (List.mem_append.1 hp).elim (hV.2 p) (fun e => by simp at e; subst e; exact hmem)⟩
        have h1 := hC2.1
        have h2 : ((ps ++ [((⟨x.toArray⟩ : ByteArray), i)]).map (·.1)).Pairwise (fun a b => a.data.toList ≠ b.data.toList) := by
          rw [List.pairwise_map]
          rw [List.nodup_iff_pairwise_ne, List.pairwise_map] at h1
          exact h1
        exact h2.imp (by intro a b hn e; exact hn (by rw [e]))
      rintro e W3 (⟨rfl, hJ3, hk3⟩ | ⟨rfl, hJx3⟩)
      · gi_wp2
        have hrg3 := hrg2.of_walks hk3
        go_roundw
        case rel => exact ⟨_, cnt2, ps ++ [(⟨x.toArray⟩, i)], hrg3, by simp; omega, hC2, hV2, by simpa using hJ3⟩
        case measure => rw [hrg3.left_eq, hrg.left_eq]; exact hlt
      · gi_wp2
        refine bodyPost_ret (results_none rfl _ _ _) rfl ?_
        exact ⟨⟨_, rfl⟩, .inr ⟨_, trivial, hJx3⟩⟩
theorem hvals_stops (n : Nat) (hn : 1 ≤ n) (Bm b : Nat) (es : List Ent) (w : World) (hBm : Bm < w.heap.size) (hm : w.cell? ⟨Bm, 0, none⟩ = some (.map (some b))) (hmap : MapAt w b es) :
    SeqStops Fence.wide n Tryz.prog 157 #[.pointer (some ⟨Bm, 0, none⟩)] encU (fun xs => ∃ ps, Come es ps ∧ ps.Perm es ∧ xs = ps.map (·.2)) (fun _ => True) es.length w := fun l J Jx W hW hJ _ hY h0 =>
  hvals1_in n hn l Bm b es J Jx hY W hJ ((hW.cell (p := ⟨Bm, 0, none⟩) hBm).trans hm) (hmap.on hW) h0
theorem hvalues (mb : Option Nat) (w : World) : Calls Tryz.prog 113 #[.map mb] w fun e w' => e = .returned (.func (.func 157) #[] #[.pointer (some ⟨w.heap.size, 0, none⟩)]) ∧ w' = w.alloc (.cells #[.map mb] 139) := by
  go_enter Tryz.func113, Tryz.ntmps113
  go_wp2
  go_ret
  exact ⟨rfl, rfl⟩
end Go.Proofs.YtfabodpefbdbjaaGreatDoor

/-
  Layer 6: the program's folder: slices.AppendSeq, slices.Collect at uint64.
-/
set_option linter.unusedVariables false
set_option linter.unusedSimpArgs false
namespace Go.Proofs.YtfabodpefbdbjaaGreatDoor
open Go.RowKit Go.Maps Go.Sort Go.Shelf
attribute [local go_sem] Oper.semAt_some

theorem u64_info : (Tryz.prog.info? 41).map (fun i => (i.zero, i.size, i.bytes)) = some (some (.int .u64 0), 1, 8) := by kernel_rfl
set_option maxRecDepth 100000 in
set_option maxHeartbeats 2000000 in
theorem happ_in (n : Nat) (hn : 2 ≤ n) (g : Nat) (lb : Array Value) (eg : ∀ args w, (callFunc g args).run Tryz.prog w = .ok (.enter g args) w)
    (S : List Nat → Prop) (N : Nat) (hN : N ≤ 1000000) (w : World) (hseq : SeqStops Fence.wide (n - 1) Tryz.prog g lb encU S (fun _ => True) N w) :
    CallsIn Fence.wide n Tryz.prog 182 #[.slice none 0 0, .func (.func g) #[] lb] w fun e w' => ∃ (v : Value) (xs : List Nat), e = .returned v ∧ S xs ∧ w'.ownsRow w.heap.size 41 1 v xs.length (xs.map encU) ∧ (v = .slice none 0 0 ↔ xs = []) ∧ Below w.heap.size w w' := by
  have h1 : 1 ≤ n := by omega
  obtain ⟨i0, hi0, hz0, hz1, hz2⟩ := info_parts u64_info
  refine callsIn_of_wp_marks Tryz.func182 rfl trivial ?_ rfl
  simp only [Tryz.ntmps182, List.size_toArray, List.length_cons, List.length_nil, Nat.reduceAdd, Nat.reduceSub, Array.replicate_succ, Array.replicate_zero, List.push_toArray, List.append_toArray, List.nil_append, List.cons_append]
  gi_wp2
  obtain ⟨W0, hW0⟩ : ∃ W0, w.alloc (.cells #[.slice none 0 0] 110) = W0 := ⟨_, rfl⟩
  have hs0 : W0.heap.size = w.heap.size + 1 := by rw [← hW0]; simp
  have hB0 : Boxed W0 w.heap.size 110 (.slice none 0 0) := by rw [← hW0]; exact Boxed.new w _ _
  have hb0 : Below w.heap.size w W0 := by rw [← hW0]; exact (Below.refl _ w).alloc (Nat.le_refl _) _
  rw [hW0]
  refine wpIn_rangeFunc_ownF rfl h1 (gf := g) (lb := lb) rfl trivial eg hseq walksK_t walksK_b hb0 (fun _ => rfl)
    (fun pre W => (∃ v, Boxed W w.heap.size 110 v ∧ W.ownsRow w.heap.size 41 1 v pre.length (pre.map encU) ∧ (v = .slice none 0 0 ↔ pre = [])) ∧ Below w.heap.size w W)
    (fun _ _ _ => False)
    (OwnFrom.and (Own.from (holdsRow_own w.heap.size w.heap.size 110 41 1 (fun pre : List Nat => pre.length) (fun pre => pre.map encU) (fun pre v => v = .slice none 0 0 ↔ pre = [])) _) (ownFrom_below (Nat.le_refl _) (by omega)))
    (fun c s A B row hs hg hr => hs)
    ⟨⟨_, hB0, World.ownsRow_nil _ _ _ _, by simp⟩, hb0⟩
    (fun x => { tmps := #[.slice none 0 0, .func (.func g) #[] lb, .pointer (some ⟨w.heap.size, 0, none⟩), undef, .slice none 0 0, encU x, .func (.func g) #[] lb, encU x, undef, undef, undef, undef, undef], defers := [] }) ?assign ?body ?done ?stop
  case assign =>
    intro l x W K hK
    gi_wp2
    exact hK
  case body =>
    rintro l pre x W ⟨⟨v, hv, hrow, hnil⟩, hB⟩ hlt
    have hvc := hv.cell
    gi_wp2_with (first
      | (gi_at_builtin; refine wpListIn_append_own _ rfl _ _ 110 rfl w.heap.size 41 i0 (.int .u64 0) 1 8 Tryz.underlying110 hi0 hz0 hz1 hz2 rfl (by decide) _ _ _ rfl (hrow.alloc _) ⟨W.heap.size, 0, none⟩ 1 1 [encU x] rfl rfl (cell_one_new _ _ _) (by simp [Value.oneCell']) (by unfold maxLen; omega) (by omega) (by have := hB.size; simp; omega) ?_; intro v' w1 hown' hgrow _; obtain ⟨g', cap', rfl⟩ := ownsRow_succ hown'; obtain ⟨hv1, hv2, hr2, hk2, hb2⟩ := hv.appended (by decide) hrow hB.size (Nat.le_refl _) hown' hgrow; have hc1 := hv1.cell; have hf1 := hv1.frozen)
      | gi_in)
    exact ⟨hk2, hk2.walks, ⟨⟨_, hv2, by simpa using hr2, by simp⟩, hB.trans hb2⟩⟩
  case done =>
    rintro D xs W hD hS ⟨⟨v, hv, hrow, hnil⟩, hB⟩ hK
    have hvc := hv.cell
    gi_wp2
    refine ⟨by simp, .inl ⟨_, _, rfl, run_takeDeferred hK, ?_⟩⟩
    exact ⟨_, results_tmp rfl _ _ _, v, xs, rfl, hS, ownsRow_putObj hrow _ hK rfl, hnil, hB.trans (belowK_b (w := w) (Nat.le_refl _) W D _ _ (by omega) hK rfl rfl)⟩
  case stop =>
    rintro D c pre W hD _ hf
    exact hf.elim
theorem hcollect {w : World} (g : Nat) (lb : Array Value) (eg : ∀ args w, (callFunc g args).run Tryz.prog w = .ok (.enter g args) w)
    (S : List Nat → Prop) (N : Nat) (hN : N ≤ 1000000) (hseq : ∀ n, 1 ≤ n → SeqStops Fence.wide n Tryz.prog g lb encU S (fun _ => True) N w) :
    Calls Tryz.prog 155 #[.func (.func g) #[] lb] w fun e w' => ∃ (v : Value) (xs : List Nat), e = .returned v ∧ S xs ∧ w'.ownsRow w.heap.size 41 1 v xs.length (xs.map encU) ∧ (v = .slice none 0 0 ↔ xs = []) ∧ Below w.heap.size w w' := by
  have hc := callsIn_wide.1 (happ_in 2 (by omega) g lb eg S N hN w (hseq 1 (by omega)))
  go_enter Tryz.func155, Tryz.ntmps155
  go_wp2_with fail
  refine hc.mono ?_
  rintro e w' ⟨v, xs, rfl, hS, hrow, hnil, hb⟩
  go_wp2_with fail
  go_ret
  exact ⟨v, xs, rfl, hS, hrow, hnil, hb⟩
set_option maxRecDepth 100000 in
theorem hins0 (w : World) : Calls Tryz.prog 191 #[.slice none 0 0, .int .i64 0, .int .i64 0] w fun e w' => (∃ u, e = .returned u) ∧ w = w' := by
  go_enter Tryz.func191, Tryz.ntmps191
  go_wp2_with fail
  go_loopw [6] (fun i wr => i = .int .i64 1 ∧ w = wr) (fun _ _ => 0)
  case atStart => exact ⟨rfl, rfl⟩
  case round =>
    obtain ⟨rfl, rfl⟩ := hrel
    go_wp2_with fail
    go_end0
    exact ⟨⟨_, rfl⟩, rfl⟩
set_option maxRecDepth 100000 in
theorem hpdq0 (w : World) (k : Int) : Calls Tryz.prog 183 #[.slice none 0 0, .int .i64 0, .int .i64 0, .int .i64 k] w fun e w' => (∃ u, e = .returned u) ∧ w = w' := by
  go_enter Tryz.func183, Tryz.ntmps183
  go_wp2_with fail
  go_loopw [1, 2, 10] (fun a b _ wr => a = .int .i64 0 ∧ b = .int .i64 0 ∧ w = wr) (fun _ _ _ _ => 0)
  case atStart => exact ⟨rfl, rfl, rfl⟩
  case round =>
    obtain ⟨rfl, rfl, rfl⟩ := hrel
    go_wp2_with (go_at_call 191; refine (hins0 _).mono ?_; rintro e w' ⟨⟨u, rfl⟩, rfl⟩)
    refine bodyPost_ret (results_none rfl _ _ _) rfl ?_
    exact ⟨⟨_, rfl⟩, rfl⟩
set_option maxRecDepth 100000 in
theorem hlen0 (w : World) : Calls Tryz.prog 184 #[.int .u64 0] w fun e w' => (∃ k : Int, e = .returned (.int .i64 k)) ∧ w = w' := by
  go_enter Tryz.func184, Tryz.ntmps184
  go_wp2
  go_ret
  exact ⟨⟨_, rfl⟩, rfl⟩
set_option maxRecDepth 100000 in
theorem hsort0 (w : World) : Calls Tryz.prog 156 #[.slice none 0 0] w fun e w' => (∃ u, e = .returned u) ∧ w = w' := by
  go_enter Tryz.func156, Tryz.ntmps156
  go_wp2_with (first
    | (go_at_call 184; refine (hlen0 _).mono ?_; rintro e w' ⟨⟨k, rfl⟩, rfl⟩)
    | (go_at_call 183; refine (hpdq0 _ _).mono ?_; rintro e w' ⟨⟨u, rfl⟩, rfl⟩))
  go_end0
  exact ⟨⟨_, rfl⟩, rfl⟩
end Go.Proofs.YtfabodpefbdbjaaGreatDoor

/-
  Layer 6: the program's folder: Live, over whatever slices.Sorted tells of the safe inodes.
-/
set_option linter.unusedVariables false
set_option linter.unusedSimpArgs false
namespace Go.Proofs.YtfabodpefbdbjaaGreatDoor
open Go.RowKit Go.Maps Go.Sort Go.Shelf

/-- what Live tells -/
def liveP (xs : List Nat) (settled last : Nat) : List Nat := xs ++ List.range' (settled + 1) (last - settled)
theorem liveP_next {xs : List Nat} {s j : Nat} : xs ++ List.range' (s + 1) (j + 1) = (xs ++ List.range' (s + 1) j) ++ [s + 1 + j] := by
  rw [List.range'_concat, List.append_assoc]
  simp
/-- slices.Sorted's contract at the inodes of the map in block b -/
def SortedAt (w : World) (b : Nat) (xs : List Nat) : Prop :=
  Calls Tryz.prog 112 #[.func (.func 157) #[] #[.pointer (some ⟨w.heap.size, 0, none⟩)]] (w.alloc (.cells #[.map (some b)] 139)) fun e w' => ∃ v, e = .returned v ∧
    w'.ownsRow (w.heap.size + 1) 41 1 v xs.length (xs.map encU) ∧ Below (w.heap.size + 1) (w.alloc (.cells #[.map (some b)] 139)) w'
set_option maxRecDepth 100000 in
set_option maxHeartbeats 4000000 in
theorem hlive_c {w : World} {X bs bn : Nat} {vd : Value} {last settled : Nat} {xs : List Nat} (hc : HCells w X bs bn vd last settled) (hs : SortedAt w bs xs) (hx : xs.length ≤ 100000) (hl : settled ≤ last) (hl2 : last ≤ 100000) :
    Calls Tryz.prog 62 #[.pointer (some ⟨X, 0, none⟩)] w fun e w' => ∃ v, e = .returned v ∧ w'.ownsRow w.heap.size 41 1 v (liveP xs settled last).length ((liveP xs settled last).map encU) ∧ Below w.heap.size w w' := by
  obtain ⟨i0, hi0, hz0, hz1, hz2⟩ := info_parts u64_info
  have HC := Lib.hid hc
  have HS := Lib.hid hs
  have c0 := hc.c0
  clear hc hs
  go_enter Tryz.func62, Tryz.ntmps62
  go_wp2_with fail
  refine (hmade HC.out).mono ?_
  rintro e w' ⟨rfl, rfl⟩
  go_wp2_with fail
  refine (hvalues _ _).mono ?_
  rintro e w' ⟨rfl, rfl⟩
  go_wp2_with fail
  refine Calls.mono HS.out ?_
  rintro e w1 ⟨v, rfl, ho1, hb1⟩
  have hbw1 : Below w.heap.size w w1 := ((Below.refl _ _).alloc (Nat.le_refl _) _).trans (hb1.mono (by omega))
  have HBW := Lib.hid hbw1
  have HC1 := Lib.hid (HC.out.on hbw1)
  have HO1 := Lib.hid (own_base ho1 (Nat.le_succ _))
  have c4 := HC1.out.c4
  have hw1 : IntKind.u64.wrap ((settled : Int) + 1) = ((settled + 1 : Nat) : Int) := by
    rw [show ((settled : Int) + 1) = ((settled + 1 : Nat) : Int) by omega]
    exact IntWalk.u64_in _ (by omega)
  clear hb1 hbw1 ho1 c0
  go_wp2_with fail
  clear c4
  go_loopw [3, 4] (fun o i wr => ∃ j : Nat, settled + j ≤ last ∧ i = .int .u64 ((settled + 1 + j : Nat) : Int) ∧ wr.ownsRow w.heap.size 41 1 o (xs.length + j) ((xs ++ List.range' (settled + 1) j).map encU) ∧ Below w.heap.size w wr) (fun _ i _ => last + 1 - (intOf i).toNat)
  case atStart => exact ⟨0, by omega, by go_num, by simpa using HO1.out, HBW.out⟩
  case round =>
    obtain ⟨j, hj, rfl, hown, hb⟩ := hrel
    have hcr := HC.out.on hb
    have c3 := hcr.c3
    have HO := Lib.hid hown
    have HB := Lib.hid hb
    obtain ⟨q, hq⟩ : ∃ q, q = settled + 1 + j := ⟨_, rfl⟩
    have hq2 : q ≤ 200000 := by omega
    rw [← hq]
    have Hq := Lib.hid hq
    by_cases hjl : q ≤ last
    · obtain ⟨Ao, co, rfl, _, _, _⟩ := own_slice hown
      have hd : decide ((q : Int) ≤ (last : Int)) = true := decide_eq_true (by omega)
      have hw2 : IntKind.u64.wrap ((q : Int) + 1) = ((q + 1 : Nat) : Int) := by
        rw [show ((q : Int) + 1) = ((q + 1 : Nat) : Int) by omega]
        exact IntWalk.u64_in _ (by omega)
      have hxj : xs.length + j ≤ 300000 := by omega
      have hwb : w.heap.size ≤ wr.heap.size := hb.size
      clear hcr hown hb hq
      go_wp2_with (at_builtin; (refine wpList_append_1 _ rfl _ _ 110 rfl w.heap.size 41 i0 (.int .u64 0) 8 Tryz.underlying110 hi0 hz0 hz1 hz2 rfl (.slice Ao (xs.length + j) co) (xs.length + j) ((xs ++ List.range' (settled + 1) j).map encU) rfl (HO.out.alloc _) ⟨wr.heap.size, 0, none⟩ 1 (.int .u64 (q : Int)) rfl (by simp) rfl (by unfold maxLen; omega) (by omega) (by simp; omega) ?_); intro v3 w3 hown3 hb3 _ _; (have HO3 := Lib.hid hown3); (have HB3 := Lib.hid hb3); clear hown3 hb3)
      have hfin : w3.ownsRow w.heap.size 41 1 v3 (xs.length + (j + 1)) ((xs ++ List.range' (settled + 1) (j + 1)).map encU) := by
        have e : (xs ++ List.range' (settled + 1) (j + 1)).map encU = (xs ++ List.range' (settled + 1) j).map encU ++ [.int .u64 (q : Int)] := by
          rw [liveP_next, List.map_append, Hq.out]
          rfl
        rw [e]
        exact HO3.out
      have hbf : Below w.heap.size w w3 := (HB.out.alloc HB.out.size _).trans HB3.out
      have HF := Lib.hid hfin
      have HBF := Lib.hid hbf
      clear hfin hbf
      go_roundw
      case rel => exact ⟨j + 1, by have := Hq.out; omega, by have := Hq.out; go_num, HF.out, HBF.out⟩
      case measure => simp [intOf]; have := Hq.out; omega
    · have hd : decide ((q : Int) ≤ (last : Int)) = false := decide_eq_false (by omega)
      clear hcr hown hb hq
      go_wp2_with fail
      go_ret
      have he : j = last - settled := by have := Hq.out; omega
      refine ⟨_, rfl, ?_, HB.out⟩
      have h1 := HO.out
      rw [he] at h1
      have h2 : (liveP xs settled last).length = xs.length + (last - settled) := by simp [liveP]
      rw [h2]
      exact h1
end Go.Proofs.YtfabodpefbdbjaaGreatDoor

/-
  Layer 6: '==' of entries.
-/
set_option linter.unusedVariables false
set_option linter.unusedSimpArgs false
namespace Go.Proofs.YtfabodpefbdbjaaGreatDoor
open Go.RowKit Go.Maps

end Go.Proofs.YtfabodpefbdbjaaGreatDoor

/-
  Layer 6: the chapter's rows: knows.
-/
set_option linter.unusedVariables false
set_option linter.unusedSimpArgs false
namespace Go.Proofs.YtfabodpefbdbjaaGreatDoor
open Go.RowKit Go.Maps

def nB : ByteArray := ⟨#[98]⟩
theorem mayB : mayN nB = true := by decide
theorem HMut.below {w0 w w' : World} {X : Nat} {M R : Nat → Prop} {s : PSt} (hm : HMut w w' X M R s) (hb : Below w0.heap.size w0 w) (hM : ∀ i, M i → w0.heap.size ≤ i) :
    ∃ M' R', HFolM w' X M' R' s ∧ Below w0.heap.size w0 w' ∧ (∀ i, M' i → w0.heap.size ≤ i) ∧ Chg M w w' := by
  obtain ⟨M', R', h1, h2, h3, h4⟩ := hm
  exact ⟨M', R', h1, hb.trans (h2.below hb.size hM), fun i hi => (h3 i hi).elim (hM i) (fun e => Nat.le_trans hb.size e), h2⟩
end Go.Proofs.YtfabodpefbdbjaaGreatDoor

/- ArgsC -/

/-
  Layer 6: the laws' argument opened: a slice of calls (a number, two names, a number).
-/
set_option linter.unusedVariables false
set_option linter.unusedSimpArgs false
namespace Go.Proofs.YtfabodpefbdbjaaGreatDoor
open Go.ChangeShapes Go.WideShapes Go.ChangeAt Go.RowKit Go.Joins Go.Deep

/-- a call -/
structure Call6 where
  what : Int
  name : ByteArray
  dst6 : ByteArray
  keep : Int
def Call6.cells (a : Call6) : List Value := [.int .i64 a.what, .string a.name, .string a.dst6, .int .i64 a.keep]
def Call6.ok (a : Call6) : Prop := a.name.size ≤ 9223372036854775807 ∧ a.dst6.size ≤ 9223372036854775807
/-- The value v is a slice that reads as the calls l, and lies below block B. -/
def Calls6 (w : World) (B : Nat) (v : Value) (l : List Call6) : Prop := ∃ A c, v = .slice A l.length c ∧ l.length ≤ c ∧ c ≤ maxLen ∧ (∀ a ∈ l, a.ok) ∧
  ∀ (i : Nat) a, l[i]? = some a → ∃ b o, A = some ⟨b, o, none⟩ ∧ b < B ∧ ∀ j u, a.cells[j]? = some u → w.cell? ⟨b, o + i * 4 + j, none⟩ = some u

section
variable {H : Type} {enc : TypeId × Value → H} {W : World} {held : Bool} {r : Reach} {base : Nat}
end
end Go.Proofs.YtfabodpefbdbjaaGreatDoor

/- HxDoes -/

/-
  Layer 6: a call of the laws on the program's folder ('does').
-/
set_option linter.unusedVariables false
set_option linter.unusedSimpArgs false
namespace Go.Proofs.YtfabodpefbdbjaaGreatDoor
open Go.RowKit Go.Maps

/-- what a call tells and makes of the program's folder -/
def doP (s : PSt) (c : Call6) : Nat × Nat × PSt :=
  if c.what = 0 ∨ c.what = 1 ∨ c.what = 2 then createP s c.name
  else if c.what = 3 then (0, (renameP s c.name c.dst6).1, (renameP s c.name c.dst6).2)
  else if c.what = 4 then (0, (removeP s c.name).1, (removeP s c.name).2)
  else if c.what = 5 then (0, 0, s.settle s.deeds.length)
  else if c.what = 6 then (0, 0, s.settle (keepN c.keep s.deeds.length))
  else (0, 0, s)
section
variable {w : World} {X : Nat} {M R : Nat → Prop} {s : PSt}
end
end Go.Proofs.YtfabodpefbdbjaaGreatDoor

/-
  Layer 6: what a folder's state keeps, call by call, and a folder in new memory.
-/
set_option linter.unusedVariables false
set_option linter.unusedSimpArgs false
namespace Go.Proofs.YtfabodpefbdbjaaGreatDoor
open Go.RowKit Go.Maps

/-- how many names and deeds there are at most -/
def PSt.big (s : PSt) : Nat := s.safe.length + s.deeds.length
theorem settle_big (s : PSt) (k : Nat) : (s.settle k).big ≤ s.big := by
  have h1 := doAll_length (s.deeds.take k) s.safe
  have h3 : (s.deeds.take k).length ≤ s.deeds.length := by rw [List.length_take]; omega
  simp only [PSt.big, PSt.settle, List.length_nil]
  omega
theorem push_big (s : PSt) (d : Dd) : (s.push d).big = s.big + 1 := by simp [PSt.big, PSt.push]; omega
/-- what a call may make of a state -/
theorem doP_cases (s : PSt) (c : Call6) : (doP s c).2.2 = s ∨ ((doP s c).2.2 = s.made c.name ∧ (0 ≤ c.what ∧ c.what ≤ 2) ∧ doP s c = (s.last + 1, 0, s.made c.name) ∧ mayN c.name = true ∧ findL s.now c.name = none ∧ s.now.length < 256) ∨
    ((doP s c).2.2 = s.push (.mv c.name c.dst6) ∧ c.what = 3 ∧ doP s c = (0, 0, s.push (.mv c.name c.dst6)) ∧ mayN c.name = true ∧ mayN c.dst6 = true ∧ (findL s.now c.name).isSome = true ∧ c.name ≠ c.dst6) ∨
    ((doP s c).2.2 = s.push (.rm c.name) ∧ c.what = 4 ∧ doP s c = (0, 0, s.push (.rm c.name)) ∧ mayN c.name = true ∧ (findL s.now c.name).isSome = true) ∨
    (∃ k, k ≤ s.deeds.length ∧ (doP s c).2.2 = s.settle k ∧ doP s c = (0, 0, s.settle k) ∧ ((c.what = 5 ∧ k = s.deeds.length) ∨ (c.what = 6 ∧ k = keepN c.keep s.deeds.length))) := by
  unfold doP
  split
  · rename_i hw
    unfold createP
    split
    · exact .inl rfl
    · rename_i h1
      split
      · exact .inl rfl
      · rename_i h2
        split
        · exact .inl rfl
        · rename_i h3
          exact .inr (.inl ⟨rfl, by omega, rfl, by simpa using h1, by simpa using h2, by omega⟩)
  · split
    · rename_i hw
      unfold renameP
      split
      · exact .inl rfl
      · rename_i h1
        split
        · exact .inl rfl
        · rename_i h2
          split
          · exact .inl rfl
          · rename_i h3
            refine .inr (.inr (.inl ⟨rfl, hw, rfl, ?_, ?_, by cases h : (findL s.now c.name).isSome; exact absurd h h2; rfl, fun e => h3 (by rw [e]; simp)⟩))
            · cases h : mayN c.name
              · exact absurd (.inl h) h1
              · rfl
            · cases h : mayN c.dst6
              · exact absurd (.inr h) h1
              · rfl
    · split
      · rename_i hw
        unfold removeP
        split
        · exact .inl rfl
        · rename_i h1
          split
          · rename_i h2
            exact .inr (.inr (.inr (.inl ⟨rfl, hw, rfl, by simpa using h1, h2⟩)))
          · exact .inl rfl
      · split
        · rename_i hw
          exact .inr (.inr (.inr (.inr ⟨_, Nat.le_refl _, rfl, rfl, .inl ⟨hw, rfl⟩⟩)))
        · split
          · rename_i hw
            exact .inr (.inr (.inr (.inr ⟨_, by unfold keepN; omega, rfl, rfl, .inr ⟨hw, rfl⟩⟩)))
          · exact .inl rfl
theorem doP_big (s : PSt) (c : Call6) : (doP s c).2.2.big ≤ s.big + 1 ∧ (doP s c).2.2.last ≤ s.last + 1 := by
  rcases doP_cases s c with h | ⟨h, _⟩ | ⟨h, _⟩ | ⟨h, _⟩ | ⟨k, _, h, _⟩
  · rw [h]; omega
  · rw [h]
    refine ⟨?_, Nat.le_refl _⟩
    unfold PSt.made
    rw [push_big]
    exact Nat.le_refl _
  · rw [h, push_big]; exact ⟨Nat.le_refl _, Nat.le_succ _⟩
  · rw [h, push_big]; exact ⟨Nat.le_refl _, Nat.le_succ _⟩
  · rw [h]; exact ⟨Nat.le_succ_of_le (settle_big s k), Nat.le_succ _⟩
/-- a deed that says nothing of the name k -/
def Dd.shuns (k : ByteArray) : Dd → Prop
  | .mk n _ => k ≠ n
  | .mv a b => k ≠ a ∧ k ≠ b
  | .rm n => k ≠ n
theorem findL_shuns {d : Dd} {s : List Ent} {k : ByteArray} (hs : SortE s) (h : d.shuns k) : findL (d.app s) k = findL s k := by
  rw [findL_app hs]
  cases d with
  | mk n i => simp [show k ≠ n from h]
  | mv a b => simp [show k ≠ a from h.1, show k ≠ b from h.2]
  | rm n => simp [show k ≠ n from h]
theorem findL_doAll {k : ByteArray} : ∀ {ds : List Dd} {s : List Ent}, OkE s → (∀ d ∈ ds, d.Ok ∧ d.shuns k) → findL (doAll s ds) k = findL s k
  | [], s, _, _ => rfl
  | d :: r, s, hs, h => by
    have h1 := h d (by simp)
    exact (findL_doAll (Dd.app_ok h1.1 hs) (fun x hx => h x (by simp [hx]))).trans (findL_shuns hs.1 h1.2)
/-- the name k leads to r (or nowhere) in the safe state, and no loose deed says anything of it -/
def KInv (k : ByteArray) (r : Option Nat) (s : PSt) : Prop := findL s.safe k = r ∧ ∀ d ∈ s.deeds, d.shuns k
theorem KInv.now {k : ByteArray} {r : Option Nat} {s : PSt} (h : KInv k r s) (ho : s.Ok) : findL s.now k = r := (findL_doAll ho.safe (fun d hd => ⟨ho.deeds d hd, h.2 d hd⟩)).trans h.1
theorem KInv.settle {k : ByteArray} {r : Option Nat} {s : PSt} (h : KInv k r s) (ho : s.Ok) (n : Nat) : KInv k r (s.settle n) :=
  ⟨(findL_doAll ho.safe (fun d hd => ⟨ho.deeds d (List.mem_of_mem_take hd), h.2 d (List.mem_of_mem_take hd)⟩)).trans h.1, by simp [PSt.settle]⟩
theorem KInv.push {k : ByteArray} {r : Option Nat} {s : PSt} (h : KInv k r s) {d : Dd} (hd : d.shuns k) : KInv k r (s.push d) :=
  ⟨h.1, fun x hx => by
    rcases List.mem_append.1 hx with h1 | h1
    · exact h.2 x h1
    · simp at h1; subst h1; exact hd⟩
theorem KInv.doP {k : ByteArray} {r : Option Nat} {s : PSt} (h : KInv k r s) (ho : s.Ok) {c : Call6} (h1 : k ≠ c.name) (h2 : k ≠ c.dst6) : KInv k r (doP s c).2.2 := by
  rcases doP_cases s c with e | ⟨e, _⟩ | ⟨e, _⟩ | ⟨e, _⟩ | ⟨n, _, e, _⟩
  · rw [e]; exact h
  · rw [e]
    have h3 : KInv k r { s with last := s.last + 1 } := h
    exact h3.push h1
  · rw [e]; exact h.push ⟨h1, h2⟩
  · rw [e]; exact h.push h1
  · rw [e]; exact h.settle ho n
/-- a folder in memory that is new since w -/
structure HLive (w wk : World) (X : Nat) (M R : Nat → Prop) (s : PSt) : Prop where
  fol : HFolM wk X M R s
  below : Below w.heap.size w wk
  newM : ∀ i, M i → w.heap.size ≤ i
section
variable {w wk w' : World} {X : Nat} {M R : Nat → Prop} {s s' : PSt}
theorem HLive.ok (h : HLive w wk X M R s) : s.Ok := h.fol.ok
theorem HLive.on (h : HLive w wk X M R s) (hb : Below wk.heap.size wk w') : HLive w w' X M R s := ⟨h.fol.on hb, h.below.trans (hb.mono h.below.size), h.newM⟩
/-- a call's cells, later -/
theorem Calls6.at_ {v : Value} {l : List Call6} (h : Calls6 w w.heap.size v l) (hb : Below w.heap.size w wk) {A : Option Addr} {n c : Nat} (hv : v = .slice A n c) {i : Nat} {a : Call6} (ha : l[i]? = some a) :
    ∃ b o, A = some ⟨b, o, none⟩ ∧ a.ok ∧ wk.cell? ⟨b, o + i * 4, none⟩ = some (.int .i64 a.what) ∧ wk.cell? ⟨b, o + i * 4 + 1, none⟩ = some (.string a.name) ∧ wk.cell? ⟨b, o + i * 4 + 2, none⟩ = some (.string a.dst6) ∧ wk.cell? ⟨b, o + i * 4 + 3, none⟩ = some (.int .i64 a.keep) := by
  obtain ⟨A', c', e, _, _, hok, h2⟩ := h
  obtain ⟨b, o, e2, hB, hc⟩ := h2 i a ha
  rw [hv] at e
  injection e with e _ _
  subst e
  have key : ∀ j u, a.cells[j]? = some u → wk.cell? ⟨b, o + i * 4 + j, none⟩ = some u := fun j u hu => (hb.cell (p := ⟨b, o + i * 4 + j, none⟩) hB).trans (hc j u hu)
  exact ⟨b, o, e2, hok a (List.mem_of_getElem? ha), key 0 _ rfl, key 1 _ rfl, key 2 _ rfl, key 3 _ rfl⟩
end
end Go.Proofs.YtfabodpefbdbjaaGreatDoor

/- HxMapU -/

/-
  Layer 6: a map of numbers (map[uint64]int) in memory, each key at 1, that reads as a row of them.
-/
set_option linter.unusedVariables false
set_option linter.unusedSimpArgs false
namespace Go.Proofs.YtfabodpefbdbjaaGreatDoor
open Go.RowKit Go.Maps

def ku (i : Nat) : Lit := .int .u64 (i : Int)
theorem ku_inj {a b : Nat} (h : ku a = ku b) : a = b := by
  unfold ku at h
  injection h with _ h
  omega
theorem keyedU : Keyed Tryz.prog 41 := int_keyed Tryz.underlying41
theorem wfU {i : Nat} (hi : i < 1000000000) : (Lit.int .u64 (i : Int)).wf = true := by
  have e1 : IntKind.u64.min = 0 := by decide
  have e2 : IntKind.u64.max = 18446744073709551615 := by decide
  simp only [Lit.wf, e1, e2, Bool.and_eq_true, decide_eq_true_eq]
  omega
theorem keyOf_ku {i : Nat} (hi : i < 1000000000) : keyOf Tryz.prog 41 (.int .u64 (i : Int)) = some (ku i) := keyOf_int_mk Tryz.underlying41 (wfU hi)
theorem isKey_ku (i : Nat) : WideAt.IsKeyLit (ku i) := trivial
/-- block b is a map of at most n keys, of which those of l are at 1, and no others there -/
def MapU (w : World) (b n : Nat) (l : List Nat) : Prop := ∃ D : DataW Unit, w.ownsMap Tryz.prog 41 (plainElem Tryz.prog 3) b n D ∧ (∀ i, i ∈ l → ∀ zd, D.atKey (ku i) zd = .lit (.int .i64 1)) ∧ (∀ k, (∀ i, i ∈ l → k ≠ ku i) → Maps.has D k = false)
section
variable {w w' : World} {b n : Nat} {l : List Nat} {M : Nat → Prop}
theorem MapU.lt (h : MapU w b n l) : b < w.heap.size := by obtain ⟨D, h, _⟩ := h; exact h.lt
theorem MapU.of_block (h : MapU w b n l) (hb : w'.heap[b]? = w.heap[b]?) : MapU w' b n l := by
  obtain ⟨D, ⟨es', clock, h1, h2⟩, hr⟩ := h
  exact ⟨D, ⟨es', clock, hb.trans h1, h2⟩, hr⟩
theorem MapU.chg (h : MapU w b n l) (hc : Chg M w w') (hM : ¬ M b) : MapU w' b n l := h.of_block (hc.block b h.lt hM)
theorem MapU.on (h : MapU w b n l) (hb : Below w.heap.size w w') : MapU w' b n l := h.of_block (hb.block b h.lt)
theorem MapU.new (w : World) : MapU (w.alloc (.map #[] 0)) w.heap.size 0 [] := ⟨_, World.ownsMap_made w _ _ _, (fun i hi => absurd hi (by simp)), (fun k _ => rfl)⟩
theorem MapU.congr {l' : List Nat} (h : MapU w b n l) (he : ∀ i, i ∈ l ↔ i ∈ l') : MapU w b n l' := by
  obtain ⟨D, h1, h2, h3⟩ := h
  exact ⟨D, h1, fun i hi => h2 i ((he i).2 hi), fun k hk => h3 k (fun i hi => hk i ((he i).1 hi))⟩
end
end Go.Proofs.YtfabodpefbdbjaaGreatDoor

/- FxLook -/

/-
  Layer 5: Size, Safe, Loose.
-/
set_option linter.unusedVariables false
set_option linter.unusedSimpArgs false
namespace Go.Proofs.YtfabodpefbdbjaaGreatDoor
open Go.RowKit

theorem fbdrewN {n : Nat} {w w' : World} (h : Below n w w') (q : Nat) : Below n w (w'.drewN q) := ⟨h.os, h.tape, h.output, h.size, h.block⟩
theorem fsize_c {w : World} {F kept loose n c : Nat} {A : Option Addr} {vs vd : Value} (h : FCells w F vs (.slice A n c) vd kept loose) (hb : kept + n ≤ 1000000000) :
    Calls Tryz.prog 98 #[.pointer (some ⟨F, 0, none⟩)] w fun e w' => e = .returned (.int .i64 ((kept + n : Nat) : Int)) ∧ Below w.heap.size w w' := by
  obtain ⟨c0, c1, c2, c3, c4, f0, f1, f2, f3, f4⟩ := h
  go_enter Tryz.func98, Tryz.ntmps98
  go_wp2_with fail
  go_quiet (fail)
  go_wp2_with fail
  go_ret
  exact ⟨by push_cast; rfl, fbdrewN (Below.refl _ _) _⟩
section
variable {w : World} {F : Nat} {M R : Nat → Prop} {s : FSt}
theorem fsize_m (h : FileM w F M R s) (hb : s.big ≤ 10000000) (n : Nat) (hn : s.bytes.length = n) :
    Calls Tryz.prog 98 #[.pointer (some ⟨F, 0, none⟩)] w fun e w' => e = .returned (.int .i64 (n : Int)) ∧ Below w.heap.size w w' := by
  obtain ⟨ho, _, _, _, vs, vt, vd, dvs, h, _⟩ := h
  have h1 := FSt.bytes_length ho
  have h2 := FSt.length_bytes ho
  obtain ⟨A, c, rfl, _⟩ := own_slice h.tail
  subst hn
  rw [h2]
  exact fsize_c h.cells (by omega)
end
end Go.Proofs.YtfabodpefbdbjaaGreatDoor

/-
  Layer 5: a deed more.
-/
set_option linter.unusedVariables false
set_option linter.unusedSimpArgs false
namespace Go.Proofs.YtfabodpefbdbjaaGreatDoor
open Go.RowKit

theorem deed_info : (Tryz.prog.info? 206).map (fun i => (i.zero, i.size, i.bytes)) = some (some .nilIface, 1, 16) := by kernel_rfl
/-- a deed more, as memory has it -/
theorem FileAt.more {w w' : World} {F : Nat} {R : Nat → Prop} {vs vt vd v v1 : Value} {dvs : List Value} {s : FSt} {d : Deed} (h : FileAt w F R vs vt vd dvs s) (hd : DeedAt w R v d) (hR : ∀ i, R i → i < w.heap.size)
    (hc : Chg (fun i => i = F ∨ vd.ownBlock = some i) w w') (hcells : FCells w' F vs vt v1 s.kept (s.loose + d.units)) (hown : w'.ownsRow 0 206 1 v1 (s.deeds.length + 1) (dvs ++ [v])) (hob : v1.ownBlock = vd.ownBlock ∨ ∀ g, v1.ownBlock = some g → w.heap.size ≤ g) :
    FileAt w' F R vs vt v1 (dvs ++ [v]) ⟨s.safe, s.kept, s.tail, s.deeds ++ [d]⟩ := by
  have hno : ∀ i, (i = F ∨ vd.ownBlock = some i) → ¬ R i := by
    rintro i (rfl | hi)
    · exact h.rows _ (.inl rfl)
    · exact h.rows _ (.inr (.inr (.inr hi)))
  have hs := (h.safe.lt)
  have ht := (h.tail.lt)
  have hF := h.cells.lt
  refine ⟨?_, hc.own h.safe ?_, hc.own h.tail ?_, by simpa using hown, (h.each.chg hc hno).add (hd.chg hc hno), ⟨h.apart.s, h.apart.t, ?_, h.apart.st, ?_, ?_⟩, ?_⟩
  · have e : FSt.loose ⟨s.safe, s.kept, s.tail, s.deeds ++ [d]⟩ = s.loose + d.units := by simp [FSt.loose, unitsL_append, unitsL]
    rw [e]
    exact hcells
  · rintro g hg (rfl | e)
    · exact h.apart.s hg
    · exact h.apart.sd g hg e
  · rintro g hg (rfl | e)
    · exact h.apart.t hg
    · exact h.apart.td g hg e
  · intro e
    rcases hob with h1 | h1
    · exact h.apart.d (h1 ▸ e)
    · have := h1 _ e; omega
  · intro g hg e
    rcases hob with h1 | h1
    · exact h.apart.sd g hg (h1 ▸ e)
    · have := h1 _ e; have := (hs g hg).2; omega
  · intro g hg e
    rcases hob with h1 | h1
    · exact h.apart.td g hg (h1 ▸ e)
    · have := h1 _ e; have := (ht g hg).2; omega
  · rintro i (rfl | hi | hi | hi) hr
    · exact h.rows _ (.inl rfl) hr
    · exact h.rows _ (.inr (.inl hi)) hr
    · exact h.rows _ (.inr (.inr (.inl hi))) hr
    · rcases hob with h1 | h1
      · exact h.rows _ (.inr (.inr (.inr (h1 ▸ hi)))) hr
      · have := h1 _ hi; have := hR i hr; omega

set_option maxRecDepth 100000 in
set_option maxHeartbeats 4000000 in
theorem fadd_added {w : World} {F : Nat} {R : Nat → Prop} {vs vt vd : Value} {dvs : List Value} {s : FSt} (h : FileAt w F R vs vt vd dvs s) (hR : ∀ i, R i → i < w.heap.size) {A : Option Addr} {n c : Nat} {d : Deed} (hd : DeedAt w R (addV A n c) d) (hn : d.units = n) (hb : s.loose + n ≤ 10000000) (hl : s.deeds.length ≤ 10000000) :
    Calls Tryz.prog 119 #[.pointer (some ⟨F, 0, none⟩), addV A n c] w fun e w' => e = .returned (.tuple #[]) ∧ ∃ vd', FileAt w' F R vs vt vd' (dvs ++ [addV A n c]) ⟨s.safe, s.kept, s.tail, s.deeds ++ [d]⟩ ∧ Chg (fun i => i = F ∨ vd.ownBlock = some i) w w' ∧ (vd'.ownBlock = vd.ownBlock ∨ ∀ g, vd'.ownBlock = some g → w.heap.size ≤ g) := by
  obtain ⟨i0, hi0, hz0, hz1, hz2⟩ := info_parts deed_info
  have hm : ∀ w : World, (method 99 200 (.agg #[.slice A n c]) "hourbook/file.units").run Tryz.prog w = .ok (246, (.agg #[.slice A n c])) w := fun _ => by kernel_rfl
  have H := Lib.hid h
  have HR := Lib.hid hR
  have HD := Lib.hid hd
  have HN := Lib.hid hn
  obtain ⟨Ad, cd, rfl, hlc, hcm, hAb⟩ := own_slice h.deeds
  obtain ⟨c0, c1, c2, c3, c4, f0, f1, f2, f3, f4⟩ := h.cells
  have hF := h.cells.lt
  have hFd := h.apart.d
  have HOwn0 := Lib.hid (h.deeds)
  have HE := Lib.hid (show ∀ R', FileAt w F R vs vt (.slice Ad s.deeds.length cd) dvs s → R' = R → True from fun _ _ _ => trivial)
  clear HE
  obtain ⟨nd, hlen⟩ : ∃ nd, nd = s.deeds.length := ⟨_, rfl⟩
  obtain ⟨vd, hvd⟩ : ∃ vd, vd = Value.slice Ad nd cd := ⟨_, rfl⟩
  rw [← hlen, ← hvd] at H HOwn0 hFd
  rw [← hlen] at c3 hl hlc
  rw [← hlen, ← hvd]
  have Hlen := Lib.hid hlen
  have Hvd := Lib.hid hvd
  clear hlen hvd hd h hn hAb hR
  have HOwn1 := Lib.hid HOwn0.out
  rw [Hvd.out] at HOwn1
  unfold addV
  go_enter Tryz.func119, Tryz.ntmps119
  go_wp2_with (at_builtin; (refine wpList_append_1 _ rfl _ _ 156 rfl 0 206 i0 .nilIface 16 Tryz.underlying156 hi0 hz0 hz1 hz2 rfl _ nd dvs rfl (HOwn1.out.alloc _) ⟨w.heap.size, 0, none⟩ 1 _ rfl (cell_new1 _ _ _) rfl (by unfold maxLen; omega) (by omega) (Nat.zero_le _) ?_); intro v1 w1 hown1 hbw1 hg1 hv1; obtain ⟨A1, n1, rfl, hlc1, hcm1, hAb1⟩ := own_slice hown1; rw [← Hvd.out] at hg1 hv1; have hbF : w1.heap[F]? = w.heap[F]? := (hg1.block F (by simp; omega) (fun e => hFd e.symm)).trans (Below.heap_alloc w _ F hF); have hcl := H.out.cells.of_block hbF; have HC1 := Lib.hid hcl; have HG1 := Lib.hid hg1; have HV1 := Lib.hid hv1; have HOwn2 := Lib.hid hown1; clear hg1 hv1 hown1 hbw1 hAb1 hbF; clear c0 c1 c2 c3 c4 f0 f1 f2 f3 f4; obtain ⟨c0, c1, c2, c3, c4, f0, f1, f2, f3, f4⟩ := hcl)
  clear c0 c1 c2 c3 c4 f0 f1 f2 f3 f4
  have HC2 := Lib.hid (HC1.out.set3 (.slice A1 (nd + 1) n1)).drew
  have HG2 : Hid (Chg (fun i => i = F ∨ vd.ownBlock = some i) w (w1.setCell ⟨F, 3, none⟩ (.slice A1 (nd + 1) n1)).drew) := ((Chg.trans (Chg.refl.alloc _) (Chg.of_grown HG1.out (fun g hg => .inr hg)) (fun i hi => .inl hi)).setCell (.inl rfl) _).drew
  have HF1 : Hid (∀ g, (Value.slice A1 (nd + 1) n1).ownBlock = some g → g ≠ F) := fun g hg e => by
    subst e
    rcases HV1.out with h1 | h1
    · exact hFd (h1 ▸ hg)
    · rw [hg] at h1; injection h1 with h1; simp at h1; omega
  have HOwn3 : Hid ((w1.setCell ⟨F, 3, none⟩ (.slice A1 (nd + 1) n1)).drew.ownsRow 0 206 1 (.slice A1 (nd + 1) n1) (nd + 1) (dvs ++ [addV A n c])) := (((Chg.refl (M := fun i => i = F) (w := w1)).setCell rfl _).drew).own HOwn2.out HF1.out
  have HV2 : Hid ((Value.slice A1 (nd + 1) n1).ownBlock = vd.ownBlock ∨ ∀ g, (Value.slice A1 (nd + 1) n1).ownBlock = some g → w.heap.size ≤ g) := HV1.out.imp id (fun h1 g hg => by rw [h1] at hg; injection hg with hg; simp at hg; omega)
  refine wp_region_noPanic ?_
  refine OrdL.wpL_region (fun w' => w'.cell? ⟨F, 4, none⟩ = some (.int .i64 (s.loose : Int))) 9 (by kernel_rfl) ?_
  clear HC1 HG1 HOwn2 HV1 HOwn1
  generalize World.drew _ = W at *
  have hHeld := HC2.out.c4
  refine OrdL.wpL_take (i := 0) (v := ?_) opAt_0 [] (by kernel_rfl) (by kernel_rfl) (by kernel_rfl) (by kernel_rfl) (by kernel_rfl) (by kernel_rfl) (fun _ _ _ h => h) (Or.inl ⟨by rfl, ?_⟩) hHeld ?_
  rotate_left
  · (intro w' hSw; go_simp; try with_reducible rfl)
  try simp only [Act.put, List.setIfInBounds_toArray, List.set_cons_zero, List.set_cons_succ]
  refine OrdL.wpL_take (i := 1) (v := ?_) opAt_1 [] (by kernel_rfl) (by kernel_rfl) (by kernel_rfl) (by kernel_rfl) (by kernel_rfl) (by kernel_rfl) (fun _ _ _ h => h) (Or.inl ⟨by rfl, ?_⟩) hHeld ?_
  rotate_left
  · (intro w' hSw; go_simp; try with_reducible rfl)
  try simp only [Act.put, List.setIfInBounds_toArray, List.set_cons_zero, List.set_cons_succ]
  refine OrdL.wpL_take (i := 2) (v := ?_) opAt_2 [] (by kernel_rfl) (by kernel_rfl) (by kernel_rfl) (by kernel_rfl) (by kernel_rfl) (by kernel_rfl) (fun _ _ _ h => h) (Or.inl ⟨by rfl, ?_⟩) hHeld ?_
  rotate_left
  · (intro w' hSw; go_simp; try with_reducible rfl)
  try simp only [Act.put, List.setIfInBounds_toArray, List.set_cons_zero, List.set_cons_succ]
  refine OrdL.wpL_take (i := 3) (v := ?_) opAt_3 [] (by kernel_rfl) (by kernel_rfl) (by kernel_rfl) (by kernel_rfl) (by kernel_rfl) (by kernel_rfl) (fun _ _ _ h => h) (Or.inl ⟨by rfl, ?_⟩) hHeld ?_
  rotate_left
  · (intro w' hSw; go_simp; try with_reducible rfl)
  try simp only [Act.put, List.setIfInBounds_toArray, List.set_cons_zero, List.set_cons_succ]
  refine OrdL.wpL_take (i := 4) (v := ?_) opAt_4 [] (by kernel_rfl) (by kernel_rfl) (by kernel_rfl) (by kernel_rfl) (by kernel_rfl) (by kernel_rfl) (fun _ _ _ h => h) (Or.inl ⟨by rfl, ?_⟩) hHeld ?_
  rotate_left
  · (intro w' hSw; go_simp; try with_reducible rfl)
  try simp only [Act.put, List.setIfInBounds_toArray, List.set_cons_zero, List.set_cons_succ]
  refine OrdL.wpL_ready (rs := [5]) (by kernel_rfl) (by simp) ?_
  refine OrdL.AllL.cons rfl (fun K hK => ?_) OrdL.AllL.nil
  go_simp
  refine (added_units A n c _).mono ?_
  rintro e w2 ⟨rfl, hb2⟩
  go_wp2_with fail
  have HC3 := Lib.hid (HC2.out.on hb2)
  have HG3 := Lib.hid (HG2.out.trans (Chg.of_below (M := fun _ => False) hb2) (fun _ h => h.elim))
  have HOwn4 := Lib.hid (own_below HOwn3.out hb2 (Nat.le_refl _))
  clear hHeld
  have hHeld := HC3.out.c4
  refine hK.out _ _ (fun _ => hHeld) ?_
  clear hK K
  try simp only [Act.put, List.setIfInBounds_toArray, List.set_cons_zero, List.set_cons_succ]
  refine OrdL.wpL_take (i := 6) (v := ?_) opAt_6 [] (by kernel_rfl) (by kernel_rfl) (by kernel_rfl) (by kernel_rfl) (by kernel_rfl) (by kernel_rfl) (fun _ _ _ h => h) (Or.inl ⟨by rfl, ?_⟩) hHeld ?_
  rotate_left
  · (intro w' hSw; go_simp; try with_reducible rfl)
  try simp only [Act.put, List.setIfInBounds_toArray, List.set_cons_zero, List.set_cons_succ]
  refine OrdL.wpL_take (i := 7) (v := ?_) opAt_7 [8] (by kernel_rfl) (by kernel_rfl) (by kernel_rfl) (by kernel_rfl) (by kernel_rfl) (by kernel_rfl) (fun _ _ _ h => h) (Or.inl ⟨by rfl, ?_⟩) hHeld ?_
  rotate_left
  · (intro w' hSw; go_simp; try with_reducible rfl)
  try simp only [Act.put, List.setIfInBounds_toArray, List.set_cons_zero, List.set_cons_succ]
  refine OrdL.wpL_take (i := 8) (v := ?_) opAt_8 [] (by kernel_rfl) (by kernel_rfl) (by kernel_rfl) (by kernel_rfl) (by kernel_rfl) (by kernel_rfl) (fun _ _ _ h => h) (Or.inl ⟨by rfl, ?_⟩) hHeld ?_
  rotate_left
  · (intro w' hSw; go_simp; try with_reducible rfl)
  try simp only [Act.put, List.setIfInBounds_toArray, List.set_cons_zero, List.set_cons_succ]
  refine OrdL.wpL_ready (rs := [9]) (by kernel_rfl) (by simp) ?_
  refine OrdL.AllL.cons rfl (fun K hK => ?_) OrdL.AllL.nil
  have f4 := HC3.out.f4
  go_simp
  refine hK.out _ _ (fun h => by simp at h) ?_
  refine OrdL.wpL_done (by kernel_rfl) ?_ _
  refine NoPanic.normal ?_
  go_wp2_with fail
  go_end0
  have e2 : ((s.loose : Int) + (n : Int)) = ((s.loose + d.units : Nat) : Int) := by rw [HN.out]; push_cast; rfl
  rw [e2]
  try rw [IntWalk.i64_in _ (by have := HN.out; omega)]
  have hg5 : Chg (fun i => i = F ∨ vd.ownBlock = some i) w (w2.setCell ⟨F, 4, none⟩ (.int .i64 ((s.loose + d.units : Nat) : Int))) := HG3.out.setCell (.inl rfl) _
  exact ⟨rfl, .slice A1 (nd + 1) n1, H.out.more HD.out HR.out hg5 (HC3.out.set4 _) (by rw [← Hlen.out]; exact ((Chg.refl (M := fun i => i = F) (w := w2)).setCell rfl _).own HOwn4.out HF1.out) HV2.out, hg5, HV2.out⟩
end Go.Proofs.YtfabodpefbdbjaaGreatDoor

/-
  Layer 5: Append.
-/
set_option linter.unusedVariables false
set_option linter.unusedSimpArgs false
namespace Go.Proofs.YtfabodpefbdbjaaGreatDoor
open Go.RowKit

/-- the value v is a slice that reads as the bytes l, out of a block of N -/
def BsIn (w : World) (N : Nat → Prop) (v : Value) (l : List UInt8) : Prop := ∃ A c, v = .slice A l.length c ∧ l.length ≤ c ∧ RdR w N A (bvs l)
theorem BsIn.bs {w : World} {N : Nat → Prop} {v : Value} {l : List UInt8} (h : BsIn w N v l) : Bs w w.heap.size v l := by
  obtain ⟨A, c, e, hc, hr⟩ := h
  exact ⟨A, c, e, hc, hr.rd⟩
theorem BsIn.chg {w w' : World} {N M : Nat → Prop} {v : Value} {l : List UInt8} (h : BsIn w N v l) (hc : Chg M w w') (hM : ∀ i, M i → ¬ N i) : BsIn w' N v l := by
  obtain ⟨A, c, e, hc', hr⟩ := h
  exact ⟨A, c, e, hc', hr.chg hc hM⟩
theorem BsIn.mono {w : World} {N N' : Nat → Prop} {v : Value} {l : List UInt8} (h : BsIn w N v l) (hN : ∀ i, N i → N' i) : BsIn w N' v l := by
  obtain ⟨A, c, e, hc', hr⟩ := h
  exact ⟨A, c, e, hc', hr.mono hN⟩
theorem BsIn.of_own {w : World} {b n : Nat} {e : TypeId} {v : Value} {l : List UInt8} (h : w.ownsRow b e 1 v n (bvs l)) : BsIn w (fun i => v.ownBlock = some i) v l := by
  have hn : l.length = n := by have := h.1; simpa [bvs] using this
  subst hn
  obtain ⟨A, c, rfl, hc, _⟩ := own_slice h
  refine ⟨A, c, rfl, hc, fun hx => ?_⟩
  obtain ⟨b, o, rfl, hb, hcell⟩ := Rd.of_own h hx
  exact ⟨b, o, rfl, rfl, hcell⟩

theorem FileAt.mono {w : World} {F : Nat} {R R' : Nat → Prop} {vs vt vd : Value} {dvs : List Value} {s : FSt} (h : FileAt w F R vs vt vd dvs s) (hR : ∀ i, R i → R' i) (hn : ∀ i, FOwn F vs vt vd i → ¬ R' i) : FileAt w F R' vs vt vd dvs s :=
  ⟨h.cells, h.safe, h.tail, h.deeds, h.each.mono hR, h.apart, hn⟩
/-- another tail, as memory has it -/
theorem FileAt.tailed {w w' : World} {F k : Nat} {R : Nat → Prop} {vs vt vt' vd : Value} {dvs : List Value} {s : FSt} {t : List UInt8} (h : FileAt w F R vs vt vd dvs s) (hR : ∀ i, R i → i < w.heap.size)
    (hc : Chg (fun i => i = F ∨ vt.ownBlock = some i) w w') (hcells : FCells w' F vs vt' vd k s.loose) (hown : w'.ownsRow 0 5 1 vt' t.length (bvs t)) (hob : vt'.ownBlock = vt.ownBlock ∨ ∀ g, vt'.ownBlock = some g → w.heap.size ≤ g) :
    FileAt w' F R vs vt' vd dvs ⟨s.safe, k, t, s.deeds⟩ := by
  have hno : ∀ i, (i = F ∨ vt.ownBlock = some i) → ¬ R i := by
    rintro i (rfl | hi)
    · exact h.rows _ (.inl rfl)
    · exact h.rows _ (.inr (.inr (.inl hi)))
  have hs := (h.safe.lt)
  have ht := (h.deeds.lt)
  have hF := h.cells.lt
  refine ⟨hcells, hc.own h.safe ?_, hown, hc.own h.deeds ?_, h.each.chg hc hno, ⟨h.apart.s, ?_, h.apart.d, ?_, h.apart.sd, ?_⟩, ?_⟩
  · rintro g hg (rfl | e)
    · exact h.apart.s hg
    · exact h.apart.st g hg e
  · rintro g hg (rfl | e)
    · exact h.apart.d hg
    · exact h.apart.td g e hg
  · intro e
    rcases hob with h1 | h1
    · exact h.apart.t (h1 ▸ e)
    · have := h1 _ e; omega
  · intro g hg e
    rcases hob with h1 | h1
    · exact h.apart.st g hg (h1 ▸ e)
    · have := h1 _ e; have := (hs g hg).2; omega
  · intro g e hg
    rcases hob with h1 | h1
    · exact h.apart.td g (h1 ▸ e) hg
    · have := h1 _ e; have := (ht g hg).2; omega
  · rintro i (rfl | hi | hi | hi) hr
    · exact h.rows _ (.inl rfl) hr
    · exact h.rows _ (.inr (.inl hi)) hr
    · rcases hob with h1 | h1
      · exact h.rows _ (.inr (.inr (.inl (h1 ▸ hi)))) hr
      · have := h1 _ hi; have := hR i hr; omega
    · exact h.rows _ (.inr (.inr (.inr hi))) hr
theorem fappend_none {w : World} (F c : Nat) (A : Option Addr) : Calls Tryz.prog 108 #[.pointer (some ⟨F, 0, none⟩), .slice A 0 c] w fun e w' => e = .returned (.int .i64 0) ∧ Below w.heap.size w w' := by
  go_enter Tryz.func108, Tryz.ntmps108
  go_wp2
  go_ret
  exact ⟨rfl, Below.refl _ _⟩

set_option maxRecDepth 100000 in
set_option maxHeartbeats 4000000 in
theorem fappend_m {w : World} {F : Nat} {M R N : Nat → Prop} {s : FSt} {v : Value} {r : List UInt8} (h : FileM w F M R s) (hv : BsIn w N v r) (hN : ∀ i, M i → ¬ N i) (hr : r ≠ []) (hb : s.big + r.length ≤ 10000000) :
    Calls Tryz.prog 108 #[.pointer (some ⟨F, 0, none⟩), v] w fun e w' => e = .returned (.int .i64 0) ∧ Mut w w' F M R (s.app r) := by
  obtain ⟨i0, hi0, hz0, hz1, hz2⟩ := info_parts fbyte_info
  obtain ⟨ho, hMR, hM, hR, vs, vt, vd, dvs, h, hOM⟩ := h
  have hbl := FSt.bytes_length ho
  have hbt := FSt.length_bytes ho
  have hdl : s.deeds.length ≤ s.loose := length_le_units _ _ ho.valid
  have hbig : s.big = s.safe.length + s.loose := rfl
  have HV := Lib.hid hv
  have HBs := Lib.hid hv.bs
  have HOk := Lib.hid ho
  have HMR := Lib.hid hMR
  have HM := Lib.hid hM
  have HR := Lib.hid hR
  have HOM := Lib.hid hOM
  have HN := Lib.hid hN
  have H := Lib.hid h
  obtain ⟨A, c, rfl, hlc, _⟩ := hv
  have hlen : 0 < r.length := List.length_pos_iff.2 hr
  have hne : ((r.length : Int) == 0) = false := by simp; omega
  obtain ⟨nr, hnr⟩ : ∃ nr, nr = r.length := ⟨_, rfl⟩
  rw [← hnr] at hne hlc hb
  rw [← hnr] at HV HBs
  rw [← hnr]
  have HNr := Lib.hid hnr
  clear ho hMR hM hR hOM hN h hnr
  go_enter Tryz.func108, Tryz.ntmps108
  go_wp2_with fail
  refine (fclone _ r _ _ HBs.out (Nat.le_refl _) (by have := HNr.out; omega)).mono ?_
  rintro e w1 ⟨v1, rfl, hown1, hb1⟩
  obtain ⟨A1, c1, rfl, hlc1, hcm1, hAb1⟩ := own_slice hown1
  have HO1 := Lib.hid hown1
  have HB1 := Lib.hid hb1
  clear hAb1 hown1 hb1
  go_wp2_with fail
  have HR1 : Hid (∀ i, (R i ∨ (w.heap.size ≤ i ∧ i < w1.heap.size)) → i < w1.heap.size) := fun i hi => hi.elim (fun h => Nat.lt_of_lt_of_le (HR.out i h) HB1.out.size) (fun h => h.2)
  have H1 : Hid (FileAt w1 F (fun i => R i ∨ (w.heap.size ≤ i ∧ i < w1.heap.size)) vs vt vd dvs s) :=
    (H.out.chg (Chg.of_below (M := fun _ => False) HB1.out) (fun i e => e.elim)).mono (fun i h => .inl h) (fun i hi hr => hr.elim (H.out.rows i hi) (fun h => by have := H.out.lt i hi; omega))
  have HD1 : Hid (DeedAt w1 (fun i => R i ∨ (w.heap.size ≤ i ∧ i < w1.heap.size)) (addV A1 r.length c1) (.added r)) :=
    ⟨A1, c1, rfl, hlc1, by
      obtain ⟨A2, c2, e, _, hr2⟩ := BsIn.of_own HO1.out
      injection e with e1 e2 e3
      subst e1
      exact hr2.mono (fun i hi => .inr (HO1.out.lt i hi))⟩
  refine (fadd_added H1.out HR1.out HD1.out rfl (by have := HNr.out; omega) (by omega)).mono ?_
  rintro e w2 ⟨rfl, vd2, h2, hc2, hd2⟩
  have H2 := Lib.hid h2
  have HC2 := Lib.hid hc2
  have HD2 := Lib.hid hd2
  have HV2 : Hid (BsIn w2 N (.slice A nr c) r) := (HV.out.chg (Chg.of_below (M := fun _ => False) HB1.out) (fun i e => e.elim)).chg HC2.out (fun i hi => HN.out i (HOM.out i (hi.elim .inl (fun h => .inr (.inr (.inr h))))))
  have HBs2 := Lib.hid HV2.out.bs
  obtain ⟨At, ct, hvt, hlt, hct, _⟩ := own_slice h2.tail
  obtain ⟨nt, hnt⟩ : ∃ nt, nt = s.tail.length := ⟨_, rfl⟩
  have hvt' : vt = .slice At nt ct := by rw [hnt]; exact hvt
  have HOt : Hid (w2.ownsRow 0 5 1 (.slice At nt ct) nt (bvs s.tail)) := by have := h2.tail; rw [hvt'] at this; rw [hnt]; rw [hnt] at this; exact this
  obtain ⟨c0, k1, c2, c3, c4, f0, f1, f2, f3, f4⟩ := h2.cells
  rw [hvt'] at c2
  have Hvt := Lib.hid hvt'
  have Hnt := Lib.hid hnt
  have hnt3 : nt ≤ 10000000 := by have : nt = s.tail.length := hnt; omega
  have hF2 := h2.cells.lt
  have hTF : vt.ownBlock ≠ some F := h2.apart.t
  clear h2 hc2 hd2 hvt hlt hct hvt' hnt
  obtain ⟨Ab, cb, eb, hcb, hrb⟩ := HBs2.out
  injection eb with eb1 eb2 eb3
  subst eb1 eb3
  have Hrb := Lib.hid hrb
  have Hcb := Lib.hid hcb
  clear hcb hrb eb2
  go_wp2_with (at_builtin; (refine wpList_append_rd _ rfl _ _ 51 rfl 0 5 i0 (.int .u8 0) 1 1 Tryz.underlying51 hi0 hz0 hz1 hz2 rfl (by omega) _ nt (bvs s.tail) rfl HOt.out w2.heap.size A nr c (bvs r) rfl (by rw [bvs_length, ← HNr.out]; omega) Hrb.out (bvs_one r) (by unfold maxLen; omega) (by omega) (Nat.zero_le _) ?_); intro v3 w3 hown3 hb3 hg3 hv3; rw [← Hvt.out] at hg3 hv3; have hbF : w3.heap[F]? = w2.heap[F]? := (hg3.block F hF2 (fun e => hTF e.symm)); have hcl := H2.out.cells.of_block hbF; have HC3 := Lib.hid hcl; have HG3 := Lib.hid hg3; have HV3 := Lib.hid hv3; have HO3 := Lib.hid hown3; obtain ⟨A3, n3, rfl, _, _, _⟩ := own_slice hown3; clear hg3 hv3 hown3 hb3 hbF; clear c0 k1 c2 c3 c4 f0 f1 f2 f3 f4; obtain ⟨c0, k1, c2, c3, c4, f0, f1, f2, f3, f4⟩ := hcl)
  go_ret
  have hcc : Chg (fun i => i = F ∨ vt.ownBlock = some i) w2 (w3.setCell ⟨F, 2, none⟩ (.slice A3 (nt + nr) n3)) := (Chg.of_grown HG3.out (fun g hg => .inr hg)).setCell (.inl rfl) _
  have hown4 : (w3.setCell ⟨F, 2, none⟩ (.slice A3 (nt + nr) n3)).ownsRow 0 5 1 (.slice A3 (nt + nr) n3) (s.tail ++ r).length (bvs (s.tail ++ r)) := by
    rw [List.length_append, ← Hnt.out, ← HNr.out, bvs_append]
    refine ((Chg.refl (M := fun i => i = F) (w := w3)).setCell rfl _).own HO3.out (fun g hg e => ?_)
    subst e
    rcases HV3.out with h1 | h1
    · exact hTF (h1 ▸ hg)
    · rw [hg] at h1; injection h1 with h1; omega
  have hfin := H2.out.tailed (fun i hi => Nat.lt_of_lt_of_le (HR1.out i hi) HC2.out.size) hcc (HC3.out.set2 _) hown4 (HV3.out.imp id (fun h1 g hg => by rw [h1] at hg; injection hg with hg; omega))
  have hcw : Chg M w (w3.setCell ⟨F, 2, none⟩ (.slice A3 (nt + nr) n3)) := ((Chg.of_below (M := M) HB1.out).trans HC2.out (fun i hi => .inl (HOM.out i (hi.elim .inl (fun h => .inr (.inr (.inr h))))))).trans hcc (fun i hi => .inl (HOM.out i (hi.elim .inl (fun h => .inr (.inr (.inl h))))))
  refine ⟨rfl, fun i => FOwn F vs (.slice A3 (nt + nr) n3) vd2 i, fun i => R i ∨ (w.heap.size ≤ i ∧ i < w1.heap.size), ⟨FSt.app_ok HOk.out hr, hfin.rows, hfin.lt, fun i hi => Nat.lt_of_lt_of_le (HR1.out i hi) (Nat.le_trans HC2.out.size hcc.size), vs, _, vd2, _, hfin, fun i h => h⟩, hcw, ?_, fun i hi => hi.imp id (fun h => h.1)⟩
  have hs1 := HB1.out.size
  have hs2 := HC2.out.size
  rintro i (rfl | hi | hi | hi)
  · exact .inl (HOM.out _ (.inl rfl))
  · exact .inl (HOM.out _ (.inr (.inl hi)))
  · rcases HV3.out with h1 | h1
    · exact .inl (HOM.out _ (.inr (.inr (.inl (h1 ▸ hi)))))
    · rw [hi] at h1; injection h1 with h1; exact .inr (by omega)
  · rcases HD2.out with h1 | h1
    · exact .inl (HOM.out _ (.inr (.inr (.inr (h1 ▸ hi)))))
    · have := h1 _ hi; exact .inr (by omega)
end Go.Proofs.YtfabodpefbdbjaaGreatDoor

/-
  Layer 5: Cut.
-/
set_option linter.unusedVariables false
set_option linter.unusedSimpArgs false
namespace Go.Proofs.YtfabodpefbdbjaaGreatDoor
open Go.RowKit

section
variable {w : World} {F : Nat} {M R : Nat → Prop} {s : FSt}
end
end Go.Proofs.YtfabodpefbdbjaaGreatDoor

/- FxSettle -/

/-
  Layer 5: what a crash makes safe (settle).
-/
set_option linter.unusedVariables false
set_option linter.unusedSimpArgs false
namespace Go.Proofs.YtfabodpefbdbjaaGreatDoor
open Go.RowKit

/-- what a deed's calls do, whichever kind it is -/
theorem DeedAt.run {w : World} {R : Nat → Prop} {v : Value} {d : Deed} (h : DeedAt w R v d) : ∃ t u fu fd, v = .iface t u ∧
    (∀ (k : Nat) (w : World), (method (k + 1) t u "hourbook/file.units").run Tryz.prog w = .ok (fu, u) w) ∧ (∀ (k : Nat) (w : World), (method (k + 1) t u "hourbook/file.do").run Tryz.prog w = .ok (fd, u) w) ∧
    (∀ (k : Nat) (w : World), (nilAhead (k + 1) t u "hourbook/file.do").run Tryz.prog w = .ok (some false) w) ∧
    (∀ (args : Array Value) (w : World), (callFunc fu args).run Tryz.prog w = .ok (.enter fu args) w) ∧ (∀ (args : Array Value) (w : World), (callFunc fd args).run Tryz.prog w = .ok (.enter fd args) w) ∧
    (∀ w1, Calls Tryz.prog fu #[u] w1 fun e w' => e = .returned (.int .i64 (d.units : Int)) ∧ Below w1.heap.size w1 w') ∧
    (∀ w1, Below w.heap.size w w1 → ∀ (x : Value) (b : List UInt8) (m : Nat), m ≤ d.units → (m = 0 ∨ d.ok b) → w1.ownsRow 0 5 1 x b.length (bvs b) → b.length + d.units ≤ 10000000 →
      Calls Tryz.prog fd #[u, x, .int .i64 (m : Int)] w1 fun e w' => ∃ x', e = .returned x' ∧ w'.ownsRow 0 5 1 x' (d.act b m).length (bvs (d.act b m)) ∧ w1.grownBy w' x.ownBlock ∧ (x'.ownBlock = x.ownBlock ∨ ∀ g, x'.ownBlock = some g → w1.heap.size ≤ g)) := by
  cases d with
  | added r =>
    obtain ⟨A, c, rfl, hc, hr⟩ := h
    refine ⟨200, .agg #[.slice A r.length c], 246, 245, rfl, fun _ _ => by kernel_rfl, fun _ _ => by kernel_rfl, fun _ _ => by kernel_rfl, fun _ _ => by kernel_rfl, fun _ _ => by kernel_rfl, fun w1 => added_units A r.length c w1, ?_⟩
    intro w1 hb x b m hm hok hx hbig
    exact added_do A r c m w.heap.size x b w1 hc hm (hr.rd.below hb (Nat.le_refl _)) hb.size hx hbig
  | cut s =>
    obtain ⟨rfl, hs⟩ := h
    refine ⟨168, .agg #[.int .i64 (s : Int)], 242, 241, rfl, fun _ _ => by kernel_rfl, fun _ _ => by kernel_rfl, fun _ _ => by kernel_rfl, fun _ _ => by kernel_rfl, fun _ _ => by kernel_rfl, fun w1 => cut_units s w1, ?_⟩
    intro w1 hb x b m hm hok hx hbig
    exact cut_do s m x b w1 (hok.imp id (fun h => Nat.le_of_lt h)) (by omega) hx hm

/-- how far settle has come -/
structure SetR (w wr : World) (F : Nat) (vs vt vd : Value) (s : FSt) (k j kj : Nat) (b : List UInt8) (v : Value) : Prop where
  cells : FCells wr F v vt vd s.kept s.loose
  own : wr.ownsRow 0 5 1 v b.length (bvs b)
  chg : Chg (fun i => i = F ∨ vs.ownBlock = some i) w wr
  ob : v.ownBlock = vs.ownBlock ∨ ∀ g, v.ownBlock = some g → w.heap.size ≤ g
  sem : settleL b kj (s.deeds.drop j) = s.behind k
  ok : kj = 0 ∨ Valid b (s.deeds.drop j)
  big : b.length + kj ≤ s.safe.length + k
theorem SetR.ne {w wr : World} {F : Nat} {vs vt vd v : Value} {s : FSt} {k j kj : Nat} {b : List UInt8} (h : SetR w wr F vs vt vd s k j kj b v) (h1 : vs.ownBlock ≠ some F) (hF : F < w.heap.size) : v.ownBlock ≠ some F := fun e => by
  rcases h.ob with h2 | h2
  · exact h1 (h2 ▸ e)
  · have := h2 _ e; omega
theorem SetR.next {w wr wx : World} {F : Nat} {vs vt vd v v' : Value} {s : FSt} {k j kj m : Nat} {b : List UInt8} {d : Deed} (h : SetR w wr F vs vt vd s k j kj b v) (hd : s.deeds[j]? = some d) (hm : m = min kj d.units)
    (hc : FCells wx F v' vt vd s.kept s.loose) (ho : wx.ownsRow 0 5 1 v' (d.act b m).length (bvs (d.act b m))) (hg : Chg (fun i => i = F ∨ v.ownBlock = some i) wr wx) (hob : v'.ownBlock = v.ownBlock ∨ ∀ g, v'.ownBlock = some g → wr.heap.size ≤ g) :
    SetR w wx F vs vt vd s k (j + 1) (kj - m) (d.act b m) v' := by
  have hdr : s.deeds.drop j = d :: s.deeds.drop (j + 1) := by
    obtain ⟨hj, rfl⟩ := List.getElem?_eq_some_iff.1 hd
    exact List.drop_eq_getElem_cons hj
  have hs := h.sem
  have hv := h.ok
  rw [hdr] at hs hv
  refine ⟨hc, ho, h.chg.trans hg ?_, ?_, ?_, ?_, ?_⟩
  · rintro i (rfl | hi)
    · exact .inl (.inl rfl)
    · rcases h.ob with h2 | h2
      · exact .inl (.inr (h2 ▸ hi))
      · exact .inr (h2 _ hi)
  · rcases hob with h2 | h2
    · rw [h2]; exact h.ob
    · exact .inr fun g hg => Nat.le_trans h.chg.size (h2 g hg)
  · rw [hm]; exact hs
  · rcases hv with h0 | hv
    · exact .inl (by omega)
    · by_cases h0 : kj - m = 0
      · exact .inl h0
      · right
        have : m = d.units := by omega
        rw [this]
        exact hv.2
  · have := Deed.act_length b m d
    have := h.big
    omega
theorem SetR.okd {w wr : World} {F : Nat} {vs vt vd v : Value} {s : FSt} {k j kj m : Nat} {b : List UInt8} {d : Deed} (h : SetR w wr F vs vt vd s k j kj b v) (hd : s.deeds[j]? = some d) (hm : m = min kj d.units) : m = 0 ∨ d.ok b := by
  have hdr : s.deeds.drop j = d :: s.deeds.drop (j + 1) := by
    obtain ⟨hj, rfl⟩ := List.getElem?_eq_some_iff.1 hd
    exact List.drop_eq_getElem_cons hj
  have hv := h.ok
  rw [hdr] at hv
  rcases hv with h0 | hv
  · exact .inl (by omega)
  · exact .inr hv.1

theorem unitsL_get : ∀ (ds : List Deed) (j : Nat) (d : Deed), ds[j]? = some d → d.units ≤ unitsL ds
  | [], j, d, h => by simp at h
  | c :: ds, 0, d, h => by simp at h; subst h; simp only [unitsL]; omega
  | c :: ds, j + 1, d, h => by have := unitsL_get ds j d (by simpa using h); simp only [unitsL]; omega
theorem FileAt.row {w : World} {F : Nat} {R : Nat → Prop} {vs vt vd : Value} {dvs : List Value} {s : FSt} (h : FileAt w F R vs vt vd dvs s) {j : Nat} {d : Deed} (hd : s.deeds[j]? = some d) : ∃ dv, dvs[j]? = some dv ∧ DeedAt w R dv d := by
  have hj : j < dvs.length := by rw [h.each.1]; exact (List.getElem?_eq_some_iff.1 hd).1
  exact ⟨dvs[j], List.getElem?_eq_getElem hj, h.each.2 j _ d (List.getElem?_eq_getElem hj) hd⟩

set_option maxRecDepth 100000 in
set_option maxHeartbeats 8000000 in
theorem fsettle_m {w : World} {F : Nat} {M R : Nat → Prop} {s : FSt} (h : FileM w F M R s) (k : Nat) (hk : k ≤ s.loose) (hb : s.big ≤ 1000000) :
    Calls Tryz.prog 114 #[.pointer (some ⟨F, 0, none⟩), .int .i64 (k : Int)] w fun e w' => e = .returned (.tuple #[]) ∧ Mut w w' F M R (s.settled k) := by
  obtain ⟨ho, hMR, hM, hR, vs, vt, vd, dvs, h, hOM⟩ := h
  have hdl : s.deeds.length ≤ s.loose := length_le_units _ _ ho.valid
  have hbig : s.big = s.safe.length + s.loose := rfl
  have HB0 : Hid (s.safe.length + s.loose ≤ 1000000 ∧ k ≤ s.loose ∧ s.deeds.length ≤ s.loose) := ⟨by omega, hk, hdl⟩
  have HOk := Lib.hid ho
  have HMR := Lib.hid hMR
  have HM := Lib.hid hM
  have HR := Lib.hid hR
  have HOM := Lib.hid hOM
  have H := Lib.hid h
  obtain ⟨Ad, cd, hvd, hlc, hcm, _⟩ := own_slice h.deeds
  obtain ⟨nd, hnd⟩ : ∃ nd, nd = s.deeds.length := ⟨_, rfl⟩
  have Hnd := Lib.hid hnd
  have hvd' : vd = .slice Ad nd cd := by rw [hnd]; exact hvd
  have hcm' : nd ≤ 1000000 := by omega
  rw [← hnd] at hlc
  have Hvd := Lib.hid hvd'
  have hcl := h.cells
  rw [hvd'] at hcl
  obtain ⟨c0, c1, c2, c3, c4, f0, f1, f2, f3, f4⟩ := hcl
  have hF := h.cells.lt
  have HAp := Lib.hid h.apart
  have HRd : Hid (Rd w w.heap.size Ad dvs) := by have := h.deeds; rw [hvd] at this; exact Rd.of_own this
  have HS0 : Hid (SetR w w F vs vt vd s k 0 k s.safe vs) := ⟨h.cells, h.safe, Chg.refl, .inl rfl, rfl, .inr ho.valid, Nat.le_refl _⟩
  clear ho hMR hM hR hOM h hdl hbig hb hk hvd hnd hvd'
  go_enter Tryz.func114, Tryz.ntmps114
  go_wp2_with fail
  clear c0 c1 c2 c3 c4 f0 f1 f2 f3 f4
  go_loopw [1, 12] (fun q i wr => ∃ (j kj : Nat) (b : List UInt8) (v : Value), j ≤ nd ∧ kj ≤ 1000000 ∧ q = .int .i64 kj ∧ i = .int .i64 j ∧ SetR w wr F vs vt vd s k j kj b v) (fun q i _ => nd - (intOf i).toNat)
  case atStart => exact ⟨0, k, _, _, by omega, by have := HB0.out; omega, rfl, rfl, HS0.out⟩
  case round =>
    obtain ⟨j, kj, b, v, hj, hkj, rfl, rfl, hS⟩ := hrel
    have HS := Lib.hid hS
    clear hS
    by_cases hjl : j < nd
    · obtain ⟨d, hd⟩ : ∃ d, s.deeds[j]? = some d := ⟨s.deeds[j]'(by have := Hnd.out; omega), List.getElem?_eq_getElem _⟩
      obtain ⟨dv, hdv, hda⟩ := H.out.row hd
      have hno : ∀ i, (i = F ∨ vs.ownBlock = some i) → ¬ R i := by
        rintro i (rfl | hi)
        · exact H.out.rows _ (.inl rfl)
        · exact H.out.rows _ (.inr (.inl hi))
      obtain ⟨t, u, fu, fd, rfl, hmu, hmd, hna, heu, hed, hcu, hcd⟩ := (hda.chg HS.out.chg hno).run
      obtain ⟨bb, oo, rfl, hbb, hcc⟩ := HRd.out (by intro e; rw [e] at hdv; simp at hdv)
      have cj : wr.cell? ⟨bb, oo + j, none⟩ = some (.iface t u) := by
        have hne : ¬ (bb = F ∨ vs.ownBlock = some bb) := by
          have e : vd.ownBlock = some bb := by rw [Hvd.out]; rfl
          rintro (e2 | e2)
          · exact HAp.out.d (e2 ▸ e)
          · exact HAp.out.sd bb e2 e
        exact (HS.out.chg.cell (p := ⟨bb, oo + j, none⟩) hbb hne).trans (hcc j _ hdv)
      have Hd := Lib.hid hd
      have Hcu := Lib.hid hcu
      have Hcd := Lib.hid hcd
      obtain ⟨un, hun⟩ : ∃ un, un = d.units := ⟨_, rfl⟩
      have hul : un ≤ 1000000 := by have h1 := unitsL_get _ _ _ hd; have h2 := HB0.out; have : s.loose = unitsL s.deeds := rfl; omega
      obtain ⟨m, hm⟩ : ∃ m, m = min kj un := ⟨_, rfl⟩
      have hmin : min (kj : Int) (un : Int) = (m : Int) := by omega
      have Hm : Hid (m = min kj d.units) := by rw [hm, hun]; exact rfl
      have Hun := Lib.hid hun
      have hmk : m ≤ kj := by omega
      rw [← hun] at Hcu
      clear hcc hda hdv hcu hcd hno hd hun hm
      go_wp2_with fail
      refine (Hcu.out _).mono ?_
      rintro e w1 ⟨rfl, hb1⟩
      have HB1 := Lib.hid hb1
      clear hb1
      go_wp2_with fail
      have HC1 := Lib.hid (HS.out.cells.on HB1.out).drew
      have HO1 := Lib.hid (own_below HS.out.own HB1.out.drew (Nat.le_refl _))
      have HB1' := Lib.hid HB1.out.drew
      refine wp_region_noPanic ?_
      refine OrdL.wpL_region (fun w' => w'.cell? ⟨F, 0, none⟩ = some v) 13 (by kernel_rfl) ?_
      clear HB1
      generalize World.drew _ = W at *
      have hHeld := HC1.out.c0
      refine OrdL.wpL_take (i := 0) (v := ?_) opAt_0 [] (by kernel_rfl) (by kernel_rfl) (by kernel_rfl) (by kernel_rfl) (by kernel_rfl) (by kernel_rfl) (fun _ _ _ h => h) (Or.inl ⟨by rfl, ?_⟩) hHeld ?_
      rotate_left
      · (intro w' hSw; go_simp; try with_reducible rfl)
      try simp only [Act.put, List.setIfInBounds_toArray, List.set_cons_zero, List.set_cons_succ]
      refine OrdL.wpL_take (i := 1) (v := ?_) opAt_1 [] (by kernel_rfl) (by kernel_rfl) (by kernel_rfl) (by kernel_rfl) (by kernel_rfl) (by kernel_rfl) (fun _ _ _ h => h) (Or.inl ⟨by rfl, ?_⟩) hHeld ?_
      rotate_left
      · (intro w' hSw; go_simp; try with_reducible rfl)
      try simp only [Act.put, List.setIfInBounds_toArray, List.set_cons_zero, List.set_cons_succ]
      refine OrdL.wpL_take (i := 2) (v := ?_) opAt_2 [] (by kernel_rfl) (by kernel_rfl) (by kernel_rfl) (by kernel_rfl) (by kernel_rfl) (by kernel_rfl) (fun _ _ _ h => h) (Or.inl ⟨by rfl, ?_⟩) hHeld ?_
      rotate_left
      · (intro w' hSw; go_simp; try with_reducible rfl)
      try simp only [Act.put, List.setIfInBounds_toArray, List.set_cons_zero, List.set_cons_succ]
      refine OrdL.wpL_take (i := 3) (v := ?_) opAt_3 [] (by kernel_rfl) (by kernel_rfl) (by kernel_rfl) (by kernel_rfl) (by kernel_rfl) (by kernel_rfl) (fun _ _ _ h => h) (Or.inl ⟨by rfl, ?_⟩) hHeld ?_
      rotate_left
      · (intro w' hSw; go_simp; try with_reducible rfl)
      try simp only [Act.put, List.setIfInBounds_toArray, List.set_cons_zero, List.set_cons_succ]
      refine OrdL.wpL_take (i := 4) (v := ?_) opAt_4 [] (by kernel_rfl) (by kernel_rfl) (by kernel_rfl) (by kernel_rfl) (by kernel_rfl) (by kernel_rfl) (fun _ _ _ h => h) (Or.inl ⟨by rfl, ?_⟩) hHeld ?_
      rotate_left
      · (intro w' hSw; go_simp; try with_reducible rfl)
      try simp only [Act.put, List.setIfInBounds_toArray, List.set_cons_zero, List.set_cons_succ]
      refine OrdL.wpL_take (i := 5) (v := ?_) opAt_5 [] (by kernel_rfl) (by kernel_rfl) (by kernel_rfl) (by kernel_rfl) (by kernel_rfl) (by kernel_rfl) (fun _ _ _ h => h) (Or.inl ⟨by rfl, ?_⟩) hHeld ?_
      rotate_left
      · (intro w' hSw; go_simp; try with_reducible rfl)
      try simp only [Act.put, List.setIfInBounds_toArray, List.set_cons_zero, List.set_cons_succ]
      refine OrdL.wpL_take (i := 6) (v := ?_) opAt_6 [] (by kernel_rfl) (by kernel_rfl) (by kernel_rfl) (by kernel_rfl) (by kernel_rfl) (by kernel_rfl) (fun _ _ _ h => h) (Or.inl ⟨by rfl, ?_⟩) hHeld ?_
      rotate_left
      · (intro w' hSw; go_simp; try with_reducible rfl)
      try simp only [Act.put, List.setIfInBounds_toArray, List.set_cons_zero, List.set_cons_succ]
      refine OrdL.wpL_take (i := 7) (v := ?_) opAt_7 [] (by kernel_rfl) (by kernel_rfl) (by kernel_rfl) (by kernel_rfl) (by kernel_rfl) (by kernel_rfl) (fun _ _ _ h => h) (Or.inl ⟨by rfl, ?_⟩) hHeld ?_
      rotate_left
      · (intro w' hSw; go_simp; try with_reducible rfl)
      try simp only [Act.put, List.setIfInBounds_toArray, List.set_cons_zero, List.set_cons_succ]
      refine OrdL.wpL_take (i := 8) (v := ?_) opAt_8 [] (by kernel_rfl) (by kernel_rfl) (by kernel_rfl) (by kernel_rfl) (by kernel_rfl) (by kernel_rfl) (fun _ _ _ h => h) (Or.inl ⟨by rfl, ?_⟩) hHeld ?_
      rotate_left
      · (intro w' hSw; go_simp; try with_reducible rfl)
      try simp only [Act.put, List.setIfInBounds_toArray, List.set_cons_zero, List.set_cons_succ]
      refine OrdL.wpL_take (i := 9) (v := ?_) opAt_9 [] (by kernel_rfl) (by kernel_rfl) (by kernel_rfl) (by kernel_rfl) (by kernel_rfl) (by kernel_rfl) (fun _ _ _ h => h) (Or.inl ⟨by rfl, ?_⟩) hHeld ?_
      rotate_left
      · (intro w' hSw; go_simp; try with_reducible rfl)
      try simp only [Act.put, List.setIfInBounds_toArray, List.set_cons_zero, List.set_cons_succ]
      refine OrdL.wpL_ready (rs := [10]) (by kernel_rfl) (by simp) ?_
      refine OrdL.AllL.cons rfl (fun K hK => ?_) OrdL.AllL.nil
      go_simp
      refine (Hcd.out _ HB1'.out v b m (by have := Hm.out; omega) (HS.out.okd Hd.out Hm.out) HO1.out (by have h1 := HS.out.big; have h2 := HB0.out; have h3 := Hun.out; omega)).mono ?_
      rintro e w2 ⟨x', rfl, hox, hgx, hobx⟩
      go_wp2_with fail
      have hvF : v.ownBlock ≠ some F := HS.out.ne HAp.out.s hF
      have HC2 := Lib.hid (HC1.out.of_block (hgx.block F HC1.out.lt (fun e => hvF e.symm)))
      have HOx := Lib.hid hox
      have HGx := Lib.hid hgx
      have HObx := Lib.hid hobx
      clear hHeld hox hgx hobx
      have hHeld := HC2.out.c0
      refine hK.out _ _ (fun _ => hHeld) ?_
      clear hK K
      try simp only [Act.put, List.setIfInBounds_toArray, List.set_cons_zero, List.set_cons_succ]
      refine OrdL.wpL_take (i := 11) (v := ?_) opAt_11 [12] (by kernel_rfl) (by kernel_rfl) (by kernel_rfl) (by kernel_rfl) (by kernel_rfl) (by kernel_rfl) (fun _ _ _ h => h) (Or.inl ⟨by rfl, ?_⟩) hHeld ?_
      rotate_left
      · (intro w' hSw; go_simp; try with_reducible rfl)
      try simp only [Act.put, List.setIfInBounds_toArray, List.set_cons_zero, List.set_cons_succ]
      refine OrdL.wpL_take (i := 12) (v := ?_) opAt_12 [] (by kernel_rfl) (by kernel_rfl) (by kernel_rfl) (by kernel_rfl) (by kernel_rfl) (by kernel_rfl) (fun _ _ _ h => h) (Or.inl ⟨by rfl, ?_⟩) hHeld ?_
      rotate_left
      · (intro w' hSw; go_simp; try with_reducible rfl)
      try simp only [Act.put, List.setIfInBounds_toArray, List.set_cons_zero, List.set_cons_succ]
      refine OrdL.wpL_ready (rs := [13]) (by kernel_rfl) (by simp) ?_
      refine OrdL.AllL.cons rfl (fun K hK => ?_) OrdL.AllL.nil
      have f0 := HC2.out.f0
      obtain ⟨Ax, cx, hxe, _, _, _⟩ := own_slice HOx.out
      obtain ⟨nx, hnx⟩ : ∃ nx, nx = (d.act b m).length := ⟨_, rfl⟩
      rw [← hnx] at hxe
      have Hnx := Lib.hid hnx
      have Hxe := Lib.hid hxe
      clear hnx
      subst hxe
      go_simp
      refine hK.out _ _ (fun h => by simp at h) ?_
      refine OrdL.wpL_done (by kernel_rfl) ?_ _
      refine NoPanic.normal ?_
      go_wp2_with fail
      go_roundw
      case rel =>
        have hxF : (Value.slice Ax nx cx).ownBlock ≠ some F := fun e => by
          rcases HObx.out with h1 | h1
          · exact hvF (h1 ▸ e)
          · have := h1 _ e; have := HC1.out.lt; omega
        refine ⟨j + 1, kj - m, _, _, by omega, by omega, by go_num, by go_num, HS.out.next Hd.out Hm.out (HC2.out.set0 _) (((Chg.refl (M := fun i => i = F) (w := w2)).setCell (p := ⟨F, 0, none⟩) rfl _).own HOx.out (fun g hg e => hxF (e ▸ hg))) ?_ ?_⟩
        · exact ((Chg.of_below (M := fun i => i = F ∨ v.ownBlock = some i) HB1'.out).trans (Chg.of_grown (M := fun i => v.ownBlock = some i) HGx.out (fun g hg => hg)) (fun i hi => .inl (.inr hi))).setCell (.inl rfl) _
        · exact HObx.out.imp id (fun h1 g hg => Nat.le_trans HB1'.out.size (h1 g hg))
      case measure => simp [intOf]; omega
    · obtain rfl : j = nd := by omega
      have HCl := Lib.hid HS.out.cells
      obtain ⟨Av, cv, hve, _, hcv, _⟩ := own_slice HS.out.own
      obtain ⟨nb, hnb⟩ : ∃ nb, nb = b.length := ⟨_, rfl⟩
      have hve' : v = .slice Av nb cv := by rw [hnb]; exact hve
      have hvF : v.ownBlock ≠ some F := HS.out.ne HAp.out.s hF
      have hcl := HCl.out
      rw [hve'] at hcl
      have HCv := Lib.hid hcl
      obtain ⟨c0, c1, c2, c3, c4, f0, f1, f2, f3, f4⟩ := hcl
      have Hve := Lib.hid hve'
      have Hnb := Lib.hid hnb
      clear hve hve' hnb
      go_wp2_with fail
      go_end0
      have hbe : b = s.behind k := by
        have := HS.out.sem
        rw [Hnd.out, List.drop_length] at this
        exact this
      have hc5 := (((HCv.out.set1 nb).set2 (.slice none 0 0)).set3 (.slice none 0 0)).set4 0
      have hg5 : Chg (fun i => i = F) wr ((((wr.setCell ⟨F, 1, none⟩ (.int .i64 (nb : Int))).setCell ⟨F, 2, none⟩ (.slice none 0 0)).setCell ⟨F, 3, none⟩ (.slice none 0 0)).setCell ⟨F, 4, none⟩ (.int .i64 ((0 : Nat) : Int))) := ((((Chg.refl (M := fun i => i = F) (w := wr)).setCell (p := ⟨F, 1, none⟩) rfl _).setCell (p := ⟨F, 2, none⟩) rfl _).setCell (p := ⟨F, 3, none⟩) rfl _).setCell (p := ⟨F, 4, none⟩) rfl _
      generalize World.setCell _ _ _ = W at *
      have ho5 := hg5.own HS.out.own (fun g hg e => hvF (e ▸ hg))
      have hvlt := fun g hg => (HS.out.own.lt g hg).2
      have hMw : Chg M w W := (HS.out.chg.mono (fun i hi => HOM.out i (hi.elim .inl (fun h => .inr (.inl h))))).trans hg5 (fun i hi => .inl (HOM.out i (.inl hi)))
      have hfin : FileAt W F R (.slice Av nb cv) (.slice none 0 0) (.slice none 0 0) [] (s.settled k) := by
        refine ⟨?_, ?_, World.ownsRow_nil _ _ _ _, World.ownsRow_nil _ _ _ _, DeedsAt.nil_, ⟨?_, by simp [Value.ownBlock], by simp [Value.ownBlock], by simp [Value.ownBlock], by simp [Value.ownBlock], by simp [Value.ownBlock]⟩, ?_⟩
        · have e : (s.settled k).kept = nb := by rw [Hnb.out, hbe]; rfl
          rw [e]
          exact hc5
        · have e : (s.settled k).safe = b := hbe.symm
          rw [e, ← Hve.out]
          exact ho5
        · rw [← Hve.out]; exact hvF
        · rintro i (rfl | hi | hi | hi) hr
          · exact H.out.rows _ (.inl rfl) hr
          · rw [← Hve.out] at hi
            rcases HS.out.ob with h1 | h1
            · exact H.out.rows _ (.inr (.inl (h1 ▸ hi))) hr
            · have := h1 _ hi; have := HR.out i hr; omega
          · simp [Value.ownBlock] at hi
          · simp [Value.ownBlock] at hi
      refine ⟨rfl, fun i => FOwn F (.slice Av nb cv) (.slice none 0 0) (.slice none 0 0) i, R, ⟨FSt.settled_ok _ _, hfin.rows, hfin.lt, fun i hi => Nat.lt_of_lt_of_le (HR.out i hi) hMw.size, _, _, _, _, hfin, fun i h => h⟩, hMw, ?_, fun i hi => .inl hi⟩
      rintro i (rfl | hi | hi | hi)
      · exact .inl (HOM.out _ (.inl rfl))
      · rw [← Hve.out] at hi
        rcases HS.out.ob with h1 | h1
        · exact .inl (HOM.out _ (.inr (.inl (h1 ▸ hi))))
        · exact .inr (h1 _ hi)
      · simp [Value.ownBlock] at hi
      · simp [Value.ownBlock] at hi
end Go.Proofs.YtfabodpefbdbjaaGreatDoor

/-
  Layer 5: New, Crash, Sync, Flip.
-/
set_option linter.unusedVariables false
set_option linter.unusedSimpArgs false
namespace Go.Proofs.YtfabodpefbdbjaaGreatDoor
open Go.RowKit

section
variable {w : World} {F : Nat} {M R : Nat → Prop} {s : FSt}
theorem fsync_m (h : FileM w F M R s) (hb : s.big ≤ 1000000) :
    Calls Tryz.prog 104 #[.pointer (some ⟨F, 0, none⟩)] w fun e w' => e = .returned (.int .i64 0) ∧ Mut w w' F M R (s.settled s.loose) := by
  have HM := Lib.hid h
  have HB := Lib.hid hb
  obtain ⟨ho, _, _, _, vs, vt, vd, dvs, h, _⟩ := h
  obtain ⟨c0, c1, c2, c3, c4, f0, f1, f2, f3, f4⟩ := h.cells
  clear hb ho h
  go_enter Tryz.func104, Tryz.ntmps104
  go_wp2_with fail
  refine (fsettle_m HM.out _ (Nat.le_refl _) HB.out).mono ?_
  rintro e w1 ⟨rfl, hmut⟩
  have HX := Lib.hid hmut
  clear hmut
  go_wp2_with fail
  go_ret
  exact ⟨rfl, HX.out⟩
theorem fnew_b {B : Nat} {v : Value} {b : List UInt8} (hv : Bs w B v b) (hB : B ≤ w.heap.size) (hl : b.length ≤ 1000000) :
    Calls Tryz.prog 124 #[v] w fun e w' => ∃ F M, e = .returned (.pointer (some ⟨F, 0, none⟩)) ∧ FileM w' F M (fun _ => False) (FSt.new b) ∧ Below w.heap.size w w' ∧ ∀ i, M i → w.heap.size ≤ i := by
  have HV := Lib.hid hv
  obtain ⟨A, c, rfl, hc, hr⟩ := hv
  clear hr
  obtain ⟨n, hn⟩ : ∃ n, n = b.length := ⟨_, rfl⟩
  rw [← hn] at HV
  rw [← hn]
  have Hn := Lib.hid hn
  have Hl := Lib.hid hl
  clear hn hl hc
  go_enter Tryz.func124, Tryz.ntmps124
  go_wp2_with fail
  refine (fclone _ b B w HV.out hB (by have := Hl.out; omega)).mono ?_
  rintro e w1 ⟨v1, rfl, hown1, hb1⟩
  obtain ⟨A1, c1, rfl, _, _, _⟩ := own_slice hown1
  have HO := Lib.hid hown1
  have HB1 := Lib.hid hb1
  clear hown1 hb1
  go_wp2_with fail
  go_ret
  have hw2 : Below w1.heap.size w1 (w1.alloc (.cells #[.slice A1 b.length c1, .int .i64 (n : Int), .slice none 0 0, .slice none 0 0, .int .i64 0] 158)) := (Below.refl _ _).alloc (Nat.le_refl _) _
  have hF : FileAt (w1.alloc (.cells #[.slice A1 b.length c1, .int .i64 (n : Int), .slice none 0 0, .slice none 0 0, .int .i64 0] 158)) w1.heap.size (fun _ => False) (.slice A1 b.length c1) (.slice none 0 0) (.slice none 0 0) [] (FSt.new b) := by
    refine ⟨?_, own_base (HO.out.alloc _) (Nat.zero_le _), World.ownsRow_nil _ _ _ _, World.ownsRow_nil _ _ _ _, DeedsAt.nil_, ⟨?_, by simp [Value.ownBlock], by simp [Value.ownBlock], by simp [Value.ownBlock], by simp [Value.ownBlock], by simp [Value.ownBlock]⟩, fun i _ h => h⟩
    · have := FCells.new w1 (.slice A1 b.length c1) (.slice none 0 0) (.slice none 0 0) n 0 158
      rw [Hn.out] at this
      rw [Hn.out]
      exact this
    · intro e
      have := (HO.out.lt _ e).2
      omega
  refine ⟨_, fun i => FOwn w1.heap.size (.slice A1 b.length c1) (.slice none 0 0) (.slice none 0 0) i, rfl, ⟨FSt.new_ok _, hF.rows, hF.lt, fun i h => h.elim, _, _, _, _, hF, fun i h => h⟩, HB1.out.trans (hw2.mono HB1.out.size), ?_⟩
  rintro i (rfl | hi | hi | hi)
  · exact HB1.out.size
  · exact (HO.out.lt _ hi).1
  · simp [Value.ownBlock] at hi
  · simp [Value.ownBlock] at hi
end
section
variable {w : World} {F : Nat} {M R : Nat → Prop} {s : FSt}
end
end Go.Proofs.YtfabodpefbdbjaaGreatDoor

/-
  Layer 5: Copy.
-/
set_option linter.unusedVariables false
set_option linter.unusedSimpArgs false
namespace Go.Proofs.YtfabodpefbdbjaaGreatDoor
open Go.RowKit

end Go.Proofs.YtfabodpefbdbjaaGreatDoor

/- FxDoes -/

/-
  Layer 5: bytes.HasPrefix; a call of the laws on a file ('does').
-/
set_option linter.unusedVariables false
set_option linter.unusedSimpArgs false
namespace Go.Proofs.YtfabodpefbdbjaaGreatDoor
open Go.RowKit

theorem Mut.of_below {w w' : World} {F : Nat} {M R : Nat → Prop} {s : FSt} (h : FileM w F M R s) (hb : Below w.heap.size w w') : Mut w w' F M R s :=
  ⟨M, R, h.on hb, Chg.of_below hb, fun _ h => .inl h, fun _ h => .inl h⟩
theorem Mut.after {w w1 w' : World} {F : Nat} {M R : Nat → Prop} {s : FSt} (hb : Below w.heap.size w w1) (h : Mut w1 w' F M R s) : Mut w w' F M R s := by
  obtain ⟨M', R', h, hc, h1, h2⟩ := h
  exact ⟨M', R', h, (Chg.of_below hb).trans hc (fun _ h => .inl h), fun i hi => (h1 i hi).imp id (fun h => Nat.le_trans hb.size h), fun i hi => (h2 i hi).imp id (fun h => Nat.le_trans hb.size h)⟩
theorem Mut.drop {w w1 w' : World} {F : Nat} {M R : Nat → Prop} {s : FSt} (h : Mut w w1 F M R s) (hb : Below w1.heap.size w1 w') : Mut w w' F M R s := by
  obtain ⟨M', R', h, hc, h1, h2⟩ := h
  exact ⟨M', R', h.on hb, hc.trans (Chg.of_below (M := fun _ => False) hb) (fun _ h => h.elim), h1, h2⟩
theorem BsIn.take {w : World} {N : Nat → Prop} {A : Option Addr} {l : List UInt8} {n c k : Nat} (h : BsIn w N (.slice A n c) l) (hk : k ≤ n) : BsIn w N (.slice A k c) (l.take k) := by
  obtain ⟨A', c', e, hc, hr⟩ := h
  injection e with e1 e2 e3
  subst e1 e2 e3
  have hl : (l.take k).length = k := by rw [List.length_take]; omega
  refine ⟨A, c, by rw [hl], by rw [hl]; omega, fun hx => ?_⟩
  obtain ⟨b, o, e, hb, hcell⟩ := hr (fun e => hx (by rw [bvs_take, e]; simp))
  refine ⟨b, o, e, hb, fun j u hu => hcell j u ?_⟩
  rw [bvs_take, List.getElem?_take] at hu
  split at hu
  · exact hu
  · cases hu

section
variable {w : World} {F : Nat} {M R N : Nat → Prop} {s : FSt}
end
end Go.Proofs.YtfabodpefbdbjaaGreatDoor

