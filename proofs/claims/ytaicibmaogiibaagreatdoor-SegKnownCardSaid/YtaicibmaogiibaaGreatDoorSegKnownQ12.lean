/-
  SegKnown, part 12 of what the law's proof leans on: GxBase, GxWith, HxPlain, Shelf6C.
-/
import Derived.Test.YtaicibmaogiibaaGreatDoorProg
import Derived.Deep.QuietTactic
import Derived.BigQuiet
import Derived.StillTailTactics
import Derived.Deep.DeepFit
import Derived.Deep.RegionHeld3
import Derived.Deep.LoopGhost
import Derived.Lib.Hide
import Derived.IntWalk
import Derived.Test.YtaicibmaogiibaaGreatDoorSegKnownQ1
import Derived.Test.YtaicibmaogiibaaGreatDoorSegKnownQ9
import Derived.Sort.Walk0
import Derived.Sort.KeysCollected
import Derived.Laws.Cover3
import Derived.Lib.ConvBytes
import Derived.Shelf.SlMaps.Clone
/- GxBase -/

/-
  Layer 6: the document's folder: rows of entries in memory; without, with, May.
-/
set_option linter.unusedVariables false
set_option linter.unusedSimpArgs false
namespace Go.Proofs.YtaicibmaogiibaaGreatDoor
open Go.RowKit

/-- a name and an inode -/
abbrev Ent := ByteArray × Nat
def encE (x : Ent) : List Value := [.string x.1, .int .u64 (x.2 : Int)]
/-- entries as cells -/
def evs (l : List Ent) : List Value := l.flatMap encE
theorem evs_length (l : List Ent) : (evs l).length = l.length * 2 := by
  induction l with
  | nil => rfl
  | cons x r ih => simp [evs, encE] at *; omega
theorem evs_append (l m : List Ent) : evs (l ++ m) = evs l ++ evs m := by simp [evs]
theorem evs_one (l : List Ent) : ∀ u ∈ evs l, u.oneCell' = true := by
  intro u hu
  simp only [evs, List.mem_flatMap, encE, List.mem_cons, List.not_mem_nil, or_false] at hu
  obtain ⟨x, _, rfl | rfl⟩ := hu <;> rfl
theorem evs_get : ∀ (l : List Ent) (j : Nat) (x : Ent), l[j]? = some x → (evs l)[j * 2]? = some (.string x.1) ∧ (evs l)[j * 2 + 1]? = some (.int .u64 (x.2 : Int))
  | [], _, _, h => by simp at h
  | y :: r, 0, x, h => by
    simp at h
    subst h
    exact ⟨rfl, rfl⟩
  | y :: r, j + 1, x, h => by
    have := evs_get r j x (by simpa using h)
    have e : evs (y :: r) = .string y.1 :: .int .u64 (y.2 : Int) :: evs r := rfl
    rw [e, show (j + 1) * 2 = j * 2 + 1 + 1 by omega]
    exact this
/-- The value v is a slice that reads as the entries l, and lies below block B. -/
def Es (w : World) (B : Nat) (v : Value) (l : List Ent) : Prop := ∃ A c, v = .slice A l.length c ∧ l.length ≤ c ∧ Rd w B A (evs l)
section
variable {w w' : World} {B B' : Nat} {v : Value} {l : List Ent}
theorem Es.none_ : Es w B (.slice none 0 0) [] := ⟨none, 0, rfl, Nat.le_refl _, Rd.nil_⟩
theorem Es.below {C : Nat} (h : Es w B v l) (hb : Below C w w') (hC : B ≤ C) : Es w' B v l := by
  obtain ⟨A, c, e, hc, hr⟩ := h
  exact ⟨A, c, e, hc, hr.below hb hC⟩
theorem Es.mono (h : Es w B v l) (hB : B ≤ B') : Es w B' v l := by
  obtain ⟨A, c, e, hc, hr⟩ := h
  exact ⟨A, c, e, hc, hr.mono hB⟩
theorem Es.on (h : Es w w.heap.size v l) (hb : Below w.heap.size w w') : Es w' w'.heap.size v l := (h.below hb (Nat.le_refl _)).mono hb.size
theorem Es.of_own {base n : Nat} {e : TypeId} (h : w.ownsRow base e 2 v n (evs l)) : Es w w.heap.size v l := by
  have hn : l.length = n := by have := h.1; rw [evs_length] at this; omega
  subst hn
  obtain ⟨A, c, rfl, hc, _⟩ := own_slice h
  exact ⟨A, c, rfl, hc, Rd.of_own h⟩
end
def withoutL (l : List Ent) (n : ByteArray) : List Ent := l.filter fun x => x.1.toList != n.toList
theorem take_next6 {α : Type} {l : List α} {j : Nat} {x : α} (hx : l[j]? = some x) : l.take (j + 1) = l.take j ++ [x] := by
  rw [List.take_add_one, hx]
  rfl

end Go.Proofs.YtaicibmaogiibaaGreatDoor

/- GxWith -/

/-
  Layer 6: the document's folder: with, May.
-/
set_option linter.unusedVariables false
set_option linter.unusedSimpArgs false
namespace Go.Proofs.YtaicibmaogiibaaGreatDoor
open Go.RowKit

/-- one entry more goes through 'with' -/
def stepW (n : ByteArray) (i : Nat) (s : List Ent × Bool) (x : Ent) : List Ent × Bool := if s.2 = false ∧ Op.bytesLess n.toList x.1.toList = true then (s.1 ++ [(n, i)] ++ [x], true) else (s.1 ++ [x], s.2)
def prefW (n : ByteArray) (i : Nat) (l : List Ent) : List Ent × Bool := l.foldl (stepW n i) ([], false)
def withL (l : List Ent) (n : ByteArray) (i : Nat) : List Ent := let r := prefW n i (withoutL l n); if r.2 then r.1 else r.1 ++ [(n, i)]
theorem withoutL_length (l : List Ent) (n : ByteArray) : (withoutL l n).length ≤ l.length := List.length_filter_le _ _
end Go.Proofs.YtaicibmaogiibaaGreatDoor

/-
  Layer 6: the document's folder: May.
-/
set_option linter.unusedVariables false
set_option linter.unusedSimpArgs false
namespace Go.Proofs.YtaicibmaogiibaaGreatDoor
open Go.RowKit

/-- a byte that a name may hold -/
def okB (c : UInt8) : Bool := (decide (97 ≤ c.toNat) && decide (c.toNat ≤ 122)) || (decide (48 ≤ c.toNat) && decide (c.toNat ≤ 57)) || decide (c.toNat = 45) || decide (c.toNat = 46)
def mayN (s : ByteArray) : Bool := decide (0 < s.size) && decide (s.size ≤ 32) && s.data.toList.all okB
theorem mayN_no {s : ByteArray} {j : Nat} {c : UInt8} (hc : s.data.toList[j]? = some c) (ho : okB c = false) : mayN s = false := by
  have h : s.data.toList.all okB = false := by
    rw [List.all_eq_false]
    exact ⟨c, List.mem_of_getElem? hc, by simp [ho]⟩
  unfold mayN
  rw [h, Bool.and_false]
theorem all_next {s : ByteArray} {j : Nat} {c : UInt8} (hc : s.data.toList[j]? = some c) (h : (s.data.toList.take j).all okB = true) (ho : okB c = true) : (s.data.toList.take (j + 1)).all okB = true := by
  rw [take_next6 hc, List.all_append, h]
  simp [ho]
end Go.Proofs.YtaicibmaogiibaaGreatDoor

/-
  Layer 6: the document's folder in memory: its states (rows of entries, which nobody writes), the last inode; New, List, Find.
-/
set_option linter.unusedVariables false
set_option linter.unusedSimpArgs false
namespace Go.Proofs.YtaicibmaogiibaaGreatDoor
open Go.RowKit

/-- the value v is a slice that reads as the entries l, out of a block of N -/
def EsIn (w : World) (N : Nat → Prop) (v : Value) (l : List Ent) : Prop := ∃ A c, v = .slice A l.length c ∧ l.length ≤ c ∧ RdR w N A (evs l)
theorem EsIn.es {w : World} {N : Nat → Prop} {v : Value} {l : List Ent} (h : EsIn w N v l) : Es w w.heap.size v l := by
  obtain ⟨A, c, e, hc, hr⟩ := h
  exact ⟨A, c, e, hc, hr.rd⟩
theorem EsIn.chg {w w' : World} {N M : Nat → Prop} {v : Value} {l : List Ent} (h : EsIn w N v l) (hc : Chg M w w') (hM : ∀ i, M i → ¬ N i) : EsIn w' N v l := by
  obtain ⟨A, c, e, hc', hr⟩ := h
  exact ⟨A, c, e, hc', hr.chg hc hM⟩
theorem EsIn.mono {w : World} {N N' : Nat → Prop} {v : Value} {l : List Ent} (h : EsIn w N v l) (hN : ∀ i, N i → N' i) : EsIn w N' v l := by
  obtain ⟨A, c, e, hc', hr⟩ := h
  exact ⟨A, c, e, hc', hr.mono hN⟩
theorem EsIn.none_ {w : World} {N : Nat → Prop} : EsIn w N (.slice none 0 0) [] := ⟨none, 0, rfl, Nat.le_refl _, fun h => absurd rfl h⟩
theorem EsIn.of_own {w : World} {b n : Nat} {e : TypeId} {v : Value} {l : List Ent} (h : w.ownsRow b e 2 v n (evs l)) : EsIn w (fun i => v.ownBlock = some i) v l := by
  have hn : l.length = n := by have := h.1; rw [evs_length] at this; omega
  subst hn
  obtain ⟨A, c, rfl, hc, _⟩ := own_slice h
  refine ⟨A, c, rfl, hc, fun hx => ?_⟩
  obtain ⟨b, o, rfl, hb, hcell⟩ := Rd.of_own h hx
  exact ⟨b, o, rfl, rfl, hcell⟩
/-- the states' rows in memory -/
def StsR (w : World) (N : Nat → Prop) (vals : List Value) (sts : List (List Ent)) : Prop := vals.length = sts.length ∧ ∀ (i : Nat) v l, vals[i]? = some v → sts[i]? = some l → EsIn w N v l
theorem StsR.chg {w w' : World} {N M : Nat → Prop} {vals : List Value} {sts : List (List Ent)} (h : StsR w N vals sts) (hc : Chg M w w') (hM : ∀ i, M i → ¬ N i) : StsR w' N vals sts :=
  ⟨h.1, fun i v l hv hl => (h.2 i v l hv hl).chg hc hM⟩
theorem StsR.add {w : World} {N N' : Nat → Prop} {vals : List Value} {sts : List (List Ent)} {v : Value} {l : List Ent} (h : StsR w N vals sts) (hv : EsIn w N' v l) : StsR w (fun i => N i ∨ N' i) (vals ++ [v]) (sts ++ [l]) := by
  refine ⟨by simp [h.1], fun i v' l' hv' hl' => ?_⟩
  rw [List.getElem?_append] at hv' hl'
  rw [h.1] at hv'
  split at hv'
  · rename_i hi
    rw [if_pos hi] at hl'
    exact (h.2 i v' l' hv' hl').mono (fun _ => .inl)
  · rename_i hi
    rw [if_neg hi] at hl'
    rcases hk : i - sts.length with _ | k
    · rw [hk] at hv' hl'
      simp at hv' hl'
      subst hv' hl'
      exact hv.mono (fun _ => .inr)
    · rw [hk] at hv'
      simp at hv'
section
variable {w w' : World} {X : Nat} {N M : Nat → Prop} {vs : Value} {vals : List Value} {sts : List (List Ent)} {last : Nat}
end
end Go.Proofs.YtaicibmaogiibaaGreatDoor

/-
  Layer 6: the document's folder: Find.
-/
set_option linter.unusedVariables false
set_option linter.unusedSimpArgs false
namespace Go.Proofs.YtaicibmaogiibaaGreatDoor
open Go.RowKit

def findL (l : List Ent) (n : ByteArray) : Option Nat := (l.find? fun x => x.1.toList == n.toList).map (·.2)
end Go.Proofs.YtaicibmaogiibaaGreatDoor

/- HxPlain -/

/-
  Layer 6: the program's folder as plain mathematics: rows of entries by names, what with, without, find do to them; deeds; a folder's state.
-/
set_option linter.unusedVariables false
set_option linter.unusedSimpArgs false
namespace Go.Proofs.YtaicibmaogiibaaGreatDoor
open Go.RowKit

theorem toList_inj {a b : ByteArray} (h : a.toList = b.toList) : a = b := by
  rw [ByteArray.toList_eq, ByteArray.toList_eq] at h
  cases a; cases b
  simp at h
  exact congrArg _ h
theorem toList_ne {a b : ByteArray} (h : a ≠ b) : a.toList ≠ b.toList := fun e => h (toList_inj e)
abbrev ltN (a b : ByteArray) : Prop := Op.bytesLess a.toList b.toList = true
theorem ltN_iff {a b : ByteArray} : ltN a b ↔ a.toList < b.toList := by
  unfold ltN
  rw [bytesLess_eq]
  simp
theorem ltN_irrefl (a : ByteArray) : ¬ ltN a a := by rw [ltN_iff]; exact List.lt_irrefl _
theorem ltN_trans {a b c : ByteArray} (h : ltN a b) (k : ltN b c) : ltN a c := by rw [ltN_iff] at *; exact List.lt_trans h k
theorem ltN_total {a b : ByteArray} (h : a ≠ b) : ltN a b ∨ ltN b a := by
  rw [ltN_iff, ltN_iff]
  rcases Classical.em (a.toList < b.toList) with h1 | h1
  · exact .inl h1
  · rcases Classical.em (b.toList < a.toList) with h2 | h2
    · exact .inr h2
    · exact absurd (toList_inj (List.le_antisymm (List.not_lt.1 h2) (List.not_lt.1 h1))) h
/-- entries by their names, no name twice -/
def SortE (l : List Ent) : Prop := l.Pairwise (fun x y => ltN x.1 y.1)
theorem SortE.nil_ : SortE [] := List.Pairwise.nil
theorem SortE.ne {l : List Ent} (h : SortE l) : l.Pairwise (fun x y => x.1 ≠ y.1) := h.imp (by intro a b hl e; rw [e] at hl; exact ltN_irrefl _ hl)
theorem SortE.nodup {l : List Ent} (h : SortE l) : l.Nodup := h.ne.imp (by intro a b hn e; exact hn (by rw [e]))
theorem SortE.one {l : List Ent} (h : SortE l) {n : ByteArray} {i j : Nat} (hi : (n, i) ∈ l) (hj : (n, j) ∈ l) : i = j := by
  induction l with
  | nil => simp at hi
  | cons x r ih =>
    obtain ⟨h1, h2⟩ := List.pairwise_cons.1 h
    rcases List.mem_cons.1 hi with e | hi'
    · rcases List.mem_cons.1 hj with e' | hj'
      · rw [← e'] at e; simpa using e
      · exact absurd (h1 _ hj') (by rw [← e]; exact ltN_irrefl _)
    · rcases List.mem_cons.1 hj with e' | hj'
      · exact absurd (h1 _ hi') (by rw [← e']; exact ltN_irrefl _)
      · exact ih h2 hi' hj'
theorem findL_mem {l : List Ent} {n : ByteArray} {i : Nat} (h : findL l n = some i) : (n, i) ∈ l := by
  unfold findL at h
  obtain ⟨x, hx, rfl⟩ := Option.map_eq_some_iff.1 h
  have h1 := List.find?_some hx
  have h2 := List.mem_of_find?_eq_some hx
  have h3 : x.1 = n := toList_inj (by simpa using h1)
  subst h3
  exact h2
theorem findL_iff {l : List Ent} (h : SortE l) {n : ByteArray} {i : Nat} : findL l n = some i ↔ (n, i) ∈ l := by
  refine ⟨findL_mem, fun hm => ?_⟩
  cases hf : findL l n with
  | none =>
    unfold findL at hf
    rw [Option.map_eq_none_iff, List.find?_eq_none] at hf
    exact absurd (by simp) (hf _ hm)
  | some j => rw [h.one hm (findL_mem hf)]
theorem findL_none {l : List Ent} {n : ByteArray} : findL l n = none ↔ ∀ x ∈ l, x.1 ≠ n := by
  unfold findL
  rw [Option.map_eq_none_iff, List.find?_eq_none]
  exact ⟨fun h x hx e => h x hx (by simp [e]), fun h x hx e => h x hx (toList_inj (by simpa using e))⟩
theorem mem_withoutL {l : List Ent} {n : ByteArray} {x : Ent} : x ∈ withoutL l n ↔ x ∈ l ∧ x.1 ≠ n := by
  unfold withoutL
  rw [List.mem_filter]
  refine ⟨fun h => ⟨h.1, fun e => ?_⟩, fun h => ⟨h.1, ?_⟩⟩
  · have := h.2; rw [e] at this; simp at this
  · simpa using toList_ne h.2
theorem sortE_without {l : List Ent} (h : SortE l) (n : ByteArray) : SortE (withoutL l n) := List.Pairwise.filter _ h
/-- the entry at its place -/
def insL (n : ByteArray) (i : Nat) : List Ent → List Ent
  | [] => [(n, i)]
  | x :: r => if Op.bytesLess n.toList x.1.toList then (n, i) :: x :: r else x :: insL n i r
theorem prefW_true (n : ByteArray) (i : Nat) : ∀ (m acc : List Ent), m.foldl (stepW n i) (acc, true) = (acc ++ m, true)
  | [], acc => by simp
  | x :: r, acc => by
    rw [List.foldl_cons, show stepW n i (acc, true) x = (acc ++ [x], true) by simp [stepW], prefW_true n i r]
    simp
theorem prefW_insL (n : ByteArray) (i : Nat) : ∀ (m acc : List Ent), (let r := m.foldl (stepW n i) (acc, false); if r.2 then r.1 else r.1 ++ [(n, i)]) = acc ++ insL n i m
  | [], acc => by simp [insL]
  | x :: r, acc => by
    rw [List.foldl_cons]
    cases hb : Op.bytesLess n.toList x.1.toList
    · rw [show stepW n i (acc, false) x = (acc ++ [x], false) by simp [stepW, hb], prefW_insL n i r]
      simp [insL, hb]
    · rw [show stepW n i (acc, false) x = (acc ++ [(n, i)] ++ [x], true) by simp [stepW, hb], prefW_true]
      simp [insL, hb]
theorem withL_eq (l : List Ent) (n : ByteArray) (i : Nat) : withL l n i = insL n i (withoutL l n) := by
  have := prefW_insL n i (withoutL l n) []
  rw [List.nil_append] at this
  exact this
theorem mem_insL {n : ByteArray} {i : Nat} {x : Ent} : ∀ {m : List Ent}, x ∈ insL n i m ↔ x = (n, i) ∨ x ∈ m
  | [] => by simp [insL]
  | y :: r => by
    unfold insL
    split
    · simp
    · rw [List.mem_cons, mem_insL, List.mem_cons]
      constructor
      · rintro (h | h | h)
        · exact .inr (.inl h)
        · exact .inl h
        · exact .inr (.inr h)
      · rintro (h | h | h)
        · exact .inr (.inl h)
        · exact .inl h
        · exact .inr (.inr h)
theorem sortE_insL {n : ByteArray} {i : Nat} : ∀ {m : List Ent}, SortE m → (∀ x ∈ m, x.1 ≠ n) → SortE (insL n i m)
  | [], _, _ => List.pairwise_singleton _ _
  | y :: r, h, hn => by
    obtain ⟨h1, h2⟩ := List.pairwise_cons.1 h
    unfold insL
    split
    · rename_i hl
      refine List.pairwise_cons.2 ⟨fun z hz => ?_, h⟩
      rcases List.mem_cons.1 hz with e | hz
      · rw [e]; exact hl
      · exact ltN_trans hl (h1 z hz)
    · rename_i hl
      refine List.pairwise_cons.2 ⟨fun z hz => ?_, sortE_insL h2 (fun x hx => hn x (by simp [hx]))⟩
      rcases mem_insL.1 hz with e | hz
      · rw [e]
        rcases ltN_total (hn y (by simp)) with h3 | h3
        · exact h3
        · exact absurd h3 hl
      · exact h1 z hz
theorem mem_withL {l : List Ent} {n : ByteArray} {i : Nat} {x : Ent} : x ∈ withL l n i ↔ x = (n, i) ∨ (x ∈ l ∧ x.1 ≠ n) := by
  rw [withL_eq, mem_insL, mem_withoutL]
theorem sortE_with {l : List Ent} (h : SortE l) (n : ByteArray) (i : Nat) : SortE (withL l n i) := by
  rw [withL_eq]
  exact sortE_insL (sortE_without h n) (fun x hx => (mem_withoutL.1 hx).2)
theorem findL_with_same {l : List Ent} (h : SortE l) (n : ByteArray) (i : Nat) : findL (withL l n i) n = some i := (findL_iff (sortE_with h n i)).2 (mem_withL.2 (.inl rfl))
theorem findL_ext {l m : List Ent} (hl : SortE l) (hm : SortE m) {n k : ByteArray} (h : ∀ i, (n, i) ∈ l ↔ (k, i) ∈ m) : findL l n = findL m k := by
  cases hf : findL m k with
  | none => exact findL_none.2 (fun x hx e => by
      subst e
      exact (findL_none.1 hf) _ ((h x.2).1 hx) rfl)
  | some j => exact (findL_iff hl).2 ((h j).2 (findL_mem hf))
theorem findL_with_other {l : List Ent} (h : SortE l) {n k : ByteArray} (i : Nat) (hne : k ≠ n) : findL (withL l n i) k = findL l k :=
  findL_ext (sortE_with h n i) h (fun j => by rw [mem_withL]; simp [hne])
theorem findL_without_same {l : List Ent} (n : ByteArray) : findL (withoutL l n) n = none := findL_none.2 (fun x hx => (mem_withoutL.1 hx).2)
theorem findL_without_other {l : List Ent} (h : SortE l) {n k : ByteArray} (hne : k ≠ n) : findL (withoutL l n) k = findL l k :=
  findL_ext (sortE_without h n) h (fun j => by rw [mem_withoutL]; simp [hne])
theorem insL_length (n : ByteArray) (i : Nat) : ∀ m : List Ent, (insL n i m).length = m.length + 1
  | [] => rfl
  | x :: r => by
    unfold insL
    split
    · simp
    · simp [insL_length n i r]
theorem withL_length (l : List Ent) (n : ByteArray) (i : Nat) : (withL l n i).length ≤ l.length + 1 := by
  rw [withL_eq, insL_length]
  have := withoutL_length l n
  omega

/-- a loose deed -/
inductive Dd where
  | mk (n : ByteArray) (i : Nat)
  | mv (a b : ByteArray)
  | rm (n : ByteArray)
def Dd.app : Dd → List Ent → List Ent
  | .mk n i, s => withL s n i
  | .mv a b, s => withoutL (withL s b ((findL s a).getD 0)) a
  | .rm n, s => withoutL s n
def Dd.Ok : Dd → Prop
  | .mk n i => n.size ≤ 1000 ∧ i < 1000000000
  | .mv a b => a.size ≤ 1000 ∧ b.size ≤ 1000
  | .rm n => n.size ≤ 1000
def doAll (s : List Ent) (ds : List Dd) : List Ent := ds.foldl (fun s d => d.app s) s
theorem doAll_add (s : List Ent) (ds : List Dd) (d : Dd) : doAll s (ds ++ [d]) = d.app (doAll s ds) := by simp [doAll]
theorem doAll_next {s : List Ent} {ds : List Dd} {j : Nat} {d : Dd} (h : ds[j]? = some d) : doAll s (ds.take (j + 1)) = d.app (doAll s (ds.take j)) := by
  rw [List.take_add_one, h]
  exact doAll_add _ _ _
/-- entries that may be -/
def OkE (l : List Ent) : Prop := SortE l ∧ ∀ x ∈ l, x.1.size ≤ 1000 ∧ x.2 < 1000000000
theorem OkE.nil_ : OkE [] := ⟨SortE.nil_, by simp⟩
theorem Dd.app_ok {d : Dd} (h : d.Ok) {s : List Ent} (hs : OkE s) : OkE (d.app s) := by
  cases d with
  | mk n i => exact ⟨sortE_with hs.1 _ _, fun x hx => by
      rcases mem_withL.1 hx with rfl | h1
      · exact h
      · exact hs.2 x h1.1⟩
  | mv a b => exact ⟨sortE_without (sortE_with hs.1 _ _) _, fun x hx => by
      rcases mem_withL.1 (mem_withoutL.1 hx).1 with rfl | h1
      · refine ⟨h.2, ?_⟩
        cases hf : findL s a with
        | none => simp
        | some i => exact (hs.2 _ (findL_mem hf)).2
      · exact hs.2 x h1.1⟩
  | rm n => exact ⟨sortE_without hs.1 _, fun x hx => hs.2 x (mem_withoutL.1 hx).1⟩
theorem Dd.app_length (d : Dd) (s : List Ent) : (d.app s).length ≤ s.length + 1 := by
  cases d with
  | mk n i => exact withL_length s n i
  | mv a b => exact Nat.le_trans (withoutL_length _ _) (withL_length s b _)
  | rm n => exact Nat.le_succ_of_le (withoutL_length s n)
theorem doAll_ok {s : List Ent} (hs : OkE s) : ∀ {ds : List Dd}, (∀ d ∈ ds, d.Ok) → OkE (doAll s ds) := by
  intro ds
  induction ds generalizing s with
  | nil => intro _; exact hs
  | cons d r ih => intro h; exact ih (Dd.app_ok (h d (by simp)) hs) (fun x hx => h x (by simp [hx]))
theorem doAll_length : ∀ (ds : List Dd) (s : List Ent), (doAll s ds).length ≤ s.length + ds.length
  | [], s => by simp [doAll]
  | d :: r, s => by
    have h1 := doAll_length r (d.app s)
    have h2 := d.app_length s
    show (doAll (d.app s) r).length ≤ _
    simp only [List.length_cons]
    omega
theorem findL_app {d : Dd} {s : List Ent} (hs : SortE s) (k : ByteArray) : findL (d.app s) k = match d with
    | .mk n i => if k = n then some i else findL s k
    | .mv a b => if k = a then none else if k = b then some ((findL s a).getD 0) else findL s k
    | .rm n => if k = n then none else findL s k := by
  cases d with
  | mk n i =>
    simp only [Dd.app]
    split
    · rename_i e; rw [e, findL_with_same hs]
    · rename_i e; rw [findL_with_other hs _ e]
  | mv a b =>
    simp only [Dd.app]
    split
    · rename_i e; rw [e, findL_without_same]
    · rename_i e
      rw [findL_without_other (sortE_with hs _ _) e]
      split
      · rename_i e2; rw [e2, findL_with_same hs]
      · rename_i e2; rw [findL_with_other hs _ e2]
  | rm n =>
    simp only [Dd.app]
    split
    · rename_i e; rw [e, findL_without_same]
    · rename_i e; rw [findL_without_other hs e]
/-- a folder's state: what is safe, what is loose, the last inode, the last one that was settled -/
structure PSt where
  safe : List Ent
  deeds : List Dd
  last : Nat
  settled : Nat
def PSt.now (s : PSt) : List Ent := doAll s.safe s.deeds
structure PSt.Ok (s : PSt) : Prop where
  safe : OkE s.safe
  deeds : ∀ d ∈ s.deeds, d.Ok
  last : s.last < 100000000
  settled : s.settled ≤ s.last
  few : s.safe.length + s.deeds.length ≤ 100000
theorem PSt.Ok.now {s : PSt} (h : s.Ok) : OkE s.now := doAll_ok h.safe h.deeds
theorem PSt.Ok.now_length {s : PSt} (h : s.Ok) : s.now.length ≤ 100000 := Nat.le_trans (doAll_length _ _) h.few
def PSt.new : PSt := ⟨[], [], 0, 0⟩
theorem PSt.new_ok : PSt.new.Ok := ⟨OkE.nil_, by simp [PSt.new], by simp [PSt.new], by simp [PSt.new], by simp [PSt.new]⟩
/-- what the first k deeds make is safe, the others are dropped -/
def PSt.settle (s : PSt) (k : Nat) : PSt := ⟨doAll s.safe (s.deeds.take k), [], s.last, s.last⟩
theorem PSt.settle_ok {s : PSt} (h : s.Ok) (k : Nat) : (s.settle k).Ok := by
  refine ⟨doAll_ok h.safe (fun d hd => h.deeds d (List.mem_of_mem_take hd)), by simp [PSt.settle], h.last, Nat.le_refl _, ?_⟩
  have h1 := doAll_length (s.deeds.take k) s.safe
  have h2 := h.few
  have h3 : (s.deeds.take k).length ≤ s.deeds.length := by rw [List.length_take]; omega
  simp only [PSt.settle, List.length_nil]
  omega
/-- one deed more -/
def PSt.push (s : PSt) (d : Dd) : PSt := { s with deeds := s.deeds ++ [d] }
theorem PSt.push_now (s : PSt) (d : Dd) : (s.push d).now = d.app s.now := doAll_add _ _ _
theorem PSt.push_ok {s : PSt} (h : s.Ok) {d : Dd} (hd : d.Ok) (hf : s.safe.length + s.deeds.length < 100000) : (s.push d).Ok :=
  ⟨h.safe, fun x hx => by
    rcases List.mem_append.1 hx with h1 | h1
    · exact h.deeds x h1
    · simp at h1; subst h1; exact hd, h.last, h.settled, by simp [PSt.push]; omega⟩
end Go.Proofs.YtaicibmaogiibaaGreatDoor

/-
  Layer 6: a map of names in memory that reads as a row of entries.
-/
set_option linter.unusedVariables false
set_option linter.unusedSimpArgs false
namespace Go.Proofs.YtaicibmaogiibaaGreatDoor
open Go.RowKit Go.Maps

def kn (n : ByteArray) : Lit := .string n.data.toList
theorem kn_inj {a b : ByteArray} (h : kn a = kn b) : a = b := by
  unfold kn at h
  injection h with h
  exact toList_inj (by rw [ByteArray.toList_eq, ByteArray.toList_eq]; exact h)
theorem keyedS : Keyed Tryz.prog 9 := string_keyed Tryz.underlying9
theorem keyOf_kn {n : ByteArray} (h : n.size ≤ maxLen) : keyOf Tryz.prog 9 (.string n) = some (kn n) := by
  simp [keyOf, Tryz.underlying9, mapKey, kn, h]
theorem isKey_kn (n : ByteArray) : WideAt.IsKeyLit (kn n) := trivial
/-- the datum D reads as the entries es -/
def Reads (D : DataW Unit) (es : List Ent) : Prop := ∀ n : ByteArray, match findL es n with
  | some i => ∀ zd, D.atKey (kn n) zd = .lit (.int .u64 (i : Int))
  | none => Maps.has D (kn n) = false
theorem Reads.some_ {D : DataW Unit} {es : List Ent} (h : Reads D es) {n : ByteArray} {i : Nat} (hf : findL es n = some i) (zd : DataW Unit) : D.atKey (kn n) zd = .lit (.int .u64 (i : Int)) := by
  have := h n
  rw [hf] at this
  exact this zd
theorem Reads.none_ {D : DataW Unit} {es : List Ent} (h : Reads D es) {n : ByteArray} (hf : findL es n = none) : Maps.has D (kn n) = false := by
  have := h n
  rw [hf] at this
  exact this
theorem Reads.has {D : DataW Unit} {es : List Ent} (h : Reads D es) (n : ByteArray) : Maps.has D (kn n) = (findL es n).isSome := by
  cases hf : findL es n with
  | none => exact h.none_ hf
  | some i => exact has_true_of_atKey (h.some_ hf)
theorem Reads.at0 {D : DataW Unit} {es : List Ent} (h : Reads D es) (n : ByteArray) : D.atKey (kn n) (.lit (.int .u64 0)) = .lit (.int .u64 (((findL es n).getD 0 : Nat) : Int)) := by
  cases hf : findL es n with
  | none => exact atKey_of_not_has (h.none_ hf) _
  | some i => exact h.some_ hf _
theorem Reads.empty : Reads (.map []) [] := fun n => by
  show Maps.has _ _ = false
  rfl
theorem Reads.put {D : DataW Unit} {es : List Ent} (h : Reads D es) (hD : IsMap D) (hs : SortE es) (n : ByteArray) (i : Nat) : Reads (D.put (kn n) (.lit (.int .u64 (i : Int)))) (withL es n i) := fun k => by
  by_cases hk : k = n
  · subst hk
    rw [findL_with_same hs]
    exact fun zd => atKey_put_same hD (isKey_kn k) _ _
  · rw [findL_with_other hs _ hk]
    have hne : kn k ≠ kn n := fun e => hk (kn_inj e)
    have := h k
    cases hf : findL es k with
    | none => rw [hf] at this; exact (has_put_other hne _).trans this
    | some j => rw [hf] at this; exact fun zd => (atKey_put_other hne _ _).trans (this zd)
theorem Reads.del {D : DataW Unit} {es : List Ent} (h : Reads D es) (hs : SortE es) (n : ByteArray) : Reads (D.del (kn n)) (withoutL es n) := fun k => by
  by_cases hk : k = n
  · subst hk
    rw [findL_without_same]
    exact has_del_same
  · rw [findL_without_other hs hk]
    have hne : kn k ≠ kn n := fun e => hk (kn_inj e)
    have := h k
    cases hf : findL es k with
    | none => rw [hf] at this; exact (has_del_other hne).trans this
    | some j => rw [hf] at this; exact fun zd => (atKey_del_other hne _).trans (this zd)

abbrev OMS (w : World) (b n : Nat) (D : DataW Unit) : Prop := w.ownsMap Tryz.prog 9 (plainElem Tryz.prog 37) b n D
theorem names_perm {w : World} {b n : Nat} {D : DataW Unit} {es : List Ent} (h : OMS w b n D) (hr : Reads D es) (hs : SortE es) : (es.map fun x => x.1.data.toList).Perm (strKeys D) := by
  obtain ⟨es', hD, hpw, _⟩ := h.entries keyedS
  obtain ⟨es2, hD2, hko⟩ := h.keysOf
  obtain rfl : es' = es2 := by rw [hD] at hD2; simpa using hD2
  subst hD
  refine perm_strKeys hpw (fun p hp => by obtain ⟨v, hv⟩ := hko p hp; obtain ⟨x, _, hx, _⟩ := Maps.keyOf_str Tryz.underlying9 hv; exact ⟨x, hx⟩) ?_ (fun x => ?_)
  · exact List.pairwise_map.2 (hs.ne.imp (fun hn e => hn (toList_inj (by rw [ByteArray.toList_eq, ByteArray.toList_eq]; exact e))))
  · have e : (.string x : Lit) = kn ⟨x.toArray⟩ := by simp [kn]
    rw [e, hr.has, List.mem_map]
    constructor
    · rintro ⟨y, hy, rfl⟩
      have : findL es y.1 = some y.2 := (findL_iff hs).2 hy
      have e2 : (⟨y.1.data.toList.toArray⟩ : ByteArray) = y.1 := by simp
      rw [e2, this]
      rfl
    · intro hx
      obtain ⟨i, hi⟩ := Option.isSome_iff_exists.1 hx
      exact ⟨_, findL_mem hi, by simp⟩
theorem size_es {w : World} {b n : Nat} {D : DataW Unit} {es : List Ent} (h : OMS w b n D) (hr : Reads D es) (hs : SortE es) : Maps.size D = es.length := by
  have h1 := (names_perm h hr hs).length_eq
  obtain ⟨es', hD, _⟩ := h.entries keyedS
  subst hD
  simp only [List.length_map, strKeys] at h1
  rw [Maps.size_eq]
  exact h1.symm
theorem OMS.tight {w : World} {b n : Nat} {D : DataW Unit} (h : OMS w b n D) : OMS w b (Maps.size D) D := by
  obtain ⟨es, clock, hb, F, _, rfl⟩ := h
  exact ⟨es, clock, hb, F, by rw [Maps.size_eq, length_read]; exact Nat.le_refl _, rfl⟩
/-- block b is a map that reads as the entries es -/
def MapAt (w : World) (b : Nat) (es : List Ent) : Prop := OkE es ∧ ∃ D, OMS w b es.length D ∧ Reads D es
theorem MapAt.of {w : World} {b n : Nat} {D : DataW Unit} {es : List Ent} (h : OMS w b n D) (hr : Reads D es) (ho : OkE es) : MapAt w b es := ⟨ho, D, by have := OMS.tight h; rw [size_es h hr ho.1] at this; exact this, hr⟩
section
variable {w w' : World} {b : Nat} {es : List Ent} {M : Nat → Prop}
theorem MapAt.lt (h : MapAt w b es) : b < w.heap.size := by obtain ⟨_, D, h, _⟩ := h; exact h.lt
theorem MapAt.of_block (h : MapAt w b es) (hb : w'.heap[b]? = w.heap[b]?) : MapAt w' b es := by
  obtain ⟨ho, D, ⟨es', clock, h1, h2⟩, hr⟩ := h
  exact ⟨ho, D, ⟨es', clock, hb.trans h1, h2⟩, hr⟩
theorem MapAt.chg (h : MapAt w b es) (hc : Chg M w w') (hM : ¬ M b) : MapAt w' b es := h.of_block (hc.block b h.lt hM)
theorem MapAt.on (h : MapAt w b es) (hb : Below w.heap.size w w') : MapAt w' b es := h.of_block (hb.block b h.lt)
theorem MapAt.new (w : World) : MapAt (w.alloc (.map #[] 0)) w.heap.size [] := ⟨OkE.nil_, _, World.ownsMap_made w _ _ _, Reads.empty⟩
theorem MapAt.no_cell (h : MapAt w b es) (o : Nat) : w.cell? ⟨b, o, none⟩ = none := by
  obtain ⟨_, D, ⟨es', clock, h1, _⟩, _⟩ := h
  simp [World.cell?, h1]
theorem zeroU64m (w : World) : (zeroValue 37).run Tryz.prog w = .ok (.int .u64 0) w := by kernel_rfl
set_option maxRecDepth 100000 in
theorem MapAt.look (h : MapAt w b es) {n : ByteArray} (hn : n.size ≤ maxLen) :
    (Instr.lookup 122 (.map (some b)) (.string n) true).run Tryz.prog w = .ok (.tuple #[.int .u64 (((findL es n).getD 0 : Nat) : Int), .bool (findL es n).isSome]) w ∧
    (Instr.lookup 122 (.map (some b)) (.string n) false).run Tryz.prog w = .ok (.int .u64 (((findL es n).getD 0 : Nat) : Int)) w := by
  obtain ⟨ho, D, hown, hr⟩ := h
  constructor
  · obtain ⟨v, ps, hrun, hv⟩ := hown.look_ok keyedS Tryz.underlying122 (zeroU64m w) (plainElem_int Tryz.underlying37 (by decide)) (keyOf_kn hn)
    obtain ⟨c, rfl, e, hw⟩ := plainElem_int_inv Tryz.underlying37 hv
    injection e with e _
    rw [hr.at0] at e
    injection e with e
    injection e with _ e
    rw [hrun, hr.has, e]
  · obtain ⟨c, hrun, e, hw⟩ := hown.lookup_int keyedS Tryz.underlying122 Tryz.underlying37 (zeroU64m w) (keyOf_kn hn)
    rw [hr.at0] at e
    injection e with e
    injection e with _ e
    rw [hrun, e]
theorem MapAt.len (h : MapAt w b es) (ty : TypeId) : (Builtin.len_ #[122] ty #[.map (some b)]).run Tryz.prog w = .ok (.int .i64 (es.length : Int)) w := by
  obtain ⟨ho, D, hown, hr⟩ := h
  rw [hown.len Tryz.underlying122 ty, size_es hown hr ho.1]
theorem wf_u64 {i : Nat} (hi : i < 1000000000) : (Lit.int .u64 (i : Int)).wf = true := by
  have h1 : (0 : Int) ≤ (i : Int) := by omega
  have h2 : (i : Int) < 18446744073709551616 := by omega
  have e1 : IntKind.u64.min = 0 := by decide
  have e2 : IntKind.u64.max = 18446744073709551615 := by decide
  simp only [Lit.wf, e1, e2, Bool.and_eq_true, decide_eq_true_eq]
  omega
set_option maxRecDepth 100000 in
theorem MapAt.store (h : MapAt w b es) (hl : es.length ≤ 1000000) {n : ByteArray} (hn : n.size ≤ 1000) {i : Nat} (hi : i < 1000000000) :
    ∃ w', (Instr.mapUpdate 122 (.map (some b)) (.string n) (.int .u64 (i : Int))).run Tryz.prog w = .ok () w' ∧ MapAt w' b (withL es n i) ∧ w.mapTurned w' b := by
  obtain ⟨ho, D, hown, hr⟩ := h
  obtain ⟨w', hrun, r1, r2⟩ := hown.store keyedS Tryz.underlying122 (by unfold maxLen; omega) (keyOf_kn (n := n) (by unfold maxLen; omega)) (plainElem_int Tryz.underlying37 (wf_u64 hi))
  exact ⟨w', hrun, MapAt.of r1 (hr.put hown.isMap ho.1 n i) (Dd.app_ok (d := .mk n i) ⟨hn, hi⟩ ho), r2⟩
set_option maxRecDepth 100000 in
theorem MapAt.drop (h : MapAt w b es) {n : ByteArray} (hn : n.size ≤ 1000) (ty : TypeId) :
    ∃ w', (Builtin.delete_ #[122, 9] ty #[.map (some b), .string n]).run Tryz.prog w = .ok (.tuple #[]) w' ∧ MapAt w' b (withoutL es n) ∧ w.mapTurned w' b := by
  obtain ⟨ho, D, hown, hr⟩ := h
  obtain ⟨w', hrun, r1, r2⟩ := hown.drop keyedS Tryz.underlying122 (keyOf_kn (n := n) (by unfold maxLen; omega)) ty
  exact ⟨w', hrun, MapAt.of r1 (hr.del ho.1 n) (Dd.app_ok (d := .rm n) hn ho), r2⟩
theorem Chg.of_turned (h : w.mapTurned w' b) : Chg (fun i => i = b) w w' := Chg.of_grown h.grown (by intro g hg; injection hg with hg; exact hg.symm)
end
end Go.Proofs.YtaicibmaogiibaaGreatDoor

/-
  Layer 6: the program's folder in memory: its maps, its deeds (function values over cells that nobody writes).
-/
set_option linter.unusedVariables false
set_option linter.unusedSimpArgs false
namespace Go.Proofs.YtaicibmaogiibaaGreatDoor
open Go.RowKit Go.Maps

/-- the value v is the deed d; R: the blocks of what it captured -/
def DdAt (w : World) (R : Nat → Prop) (v : Value) : Dd → Prop
  | .mk n i => ∃ p q, v = .func (.func 154) #[] #[.pointer (some ⟨p, 0, none⟩), .pointer (some ⟨q, 0, none⟩)] ∧ R p ∧ R q ∧ w.cell? ⟨p, 0, none⟩ = some (.int .u64 (i : Int)) ∧ w.cell? ⟨q, 0, none⟩ = some (.string n)
  | .mv a b => False
  | .rm n => ∃ q, v = .func (.func 157) #[] #[.pointer (some ⟨q, 0, none⟩)] ∧ R q ∧ w.cell? ⟨q, 0, none⟩ = some (.string n)
section
variable {w w' : World} {R R' M : Nat → Prop} {v : Value} {d : Dd} {vs : List Value} {ds : List Dd}
theorem DdAt.mono (h : DdAt w R v d) (hR : ∀ i, R i → R' i) : DdAt w R' v d := by
  cases d with
  | mk n i => obtain ⟨p, q, e, h1, h2, h3⟩ := h; exact ⟨p, q, e, hR _ h1, hR _ h2, h3⟩
  | mv a b => exact h.elim
  | rm n => obtain ⟨q, e, h2, h3⟩ := h; exact ⟨q, e, hR _ h2, h3⟩
theorem cell_chg (hc : Chg M w w') (hM : ∀ i, M i → ¬ R i) {p : Nat} (hp : R p) {u : Value} (h : w.cell? ⟨p, 0, none⟩ = some u) : w'.cell? ⟨p, 0, none⟩ = some u :=
  (hc.cell (p := ⟨p, 0, none⟩) (fblock_of_cell h) (fun e => hM p e hp)).trans h
theorem DdAt.chg (h : DdAt w R v d) (hc : Chg M w w') (hM : ∀ i, M i → ¬ R i) : DdAt w' R v d := by
  cases d with
  | mk n i => obtain ⟨p, q, e, h1, h2, h3, h4⟩ := h; exact ⟨p, q, e, h1, h2, cell_chg hc hM h1 h3, cell_chg hc hM h2 h4⟩
  | mv a b => exact h.elim
  | rm n => obtain ⟨q, e, h2, h4⟩ := h; exact ⟨q, e, h2, cell_chg hc hM h2 h4⟩
theorem DdAt.one (h : DdAt w R v d) : v.oneCell' = true := by
  cases d with
  | mk n i => obtain ⟨p, q, rfl, _⟩ := h; rfl
  | mv a b => exact h.elim
  | rm n => obtain ⟨q, rfl, _⟩ := h; rfl
def DdsAt (w : World) (R : Nat → Prop) (vs : List Value) (ds : List Dd) : Prop := vs.length = ds.length ∧ ∀ (i : Nat) v d, vs[i]? = some v → ds[i]? = some d → DdAt w R v d
theorem DdsAt.chg (h : DdsAt w R vs ds) (hc : Chg M w w') (hM : ∀ i, M i → ¬ R i) : DdsAt w' R vs ds := ⟨h.1, fun i v d hv hd => (h.2 i v d hv hd).chg hc hM⟩
theorem DdsAt.mono (h : DdsAt w R vs ds) (hR : ∀ i, R i → R' i) : DdsAt w R' vs ds := ⟨h.1, fun i v d hv hd => (h.2 i v d hv hd).mono hR⟩
theorem DdsAt.nil_ : DdsAt w R [] [] := ⟨rfl, fun i v d hv hd => by simp at hv⟩
theorem DdsAt.one (h : DdsAt w R vs ds) : ∀ u ∈ vs, u.oneCell' = true := fun u hu => by
  obtain ⟨i, hi, rfl⟩ := List.mem_iff_getElem.1 hu
  exact (h.2 i _ (ds[i]'(by rw [← h.1]; exact hi)) (List.getElem?_eq_getElem hi) (List.getElem?_eq_getElem _)).one
theorem DdsAt.add (h : DdsAt w R vs ds) (hd : DdAt w R v d) : DdsAt w R (vs ++ [v]) (ds ++ [d]) := by
  refine ⟨by simp [h.1], fun i v' d' hv hd' => ?_⟩
  rw [List.getElem?_append] at hv hd'
  rw [h.1] at hv
  split at hv
  · rename_i hi
    rw [if_pos hi] at hd'
    exact h.2 i v' d' hv hd'
  · rename_i hi
    rw [if_neg hi] at hd'
    rcases hk : i - ds.length with _ | k
    · rw [hk] at hv hd'
      simp at hv hd'
      subst hv hd'
      exact hd
    · rw [hk] at hv
      simp at hv
end
/-- a folder's cells -/
structure HCells (w : World) (X bs bn : Nat) (vd : Value) (last settled : Nat) : Prop where
  c0 : w.cell? ⟨X, 0, none⟩ = some (.map (some bs))
  c1 : w.cell? ⟨X, 1, none⟩ = some (.map (some bn))
  c2 : w.cell? ⟨X, 2, none⟩ = some vd
  c3 : w.cell? ⟨X, 3, none⟩ = some (.int .u64 (last : Int))
  c4 : w.cell? ⟨X, 4, none⟩ = some (.int .u64 (settled : Int))
  f0 : w.frozen? ⟨X, 0, none⟩ = false
  f1 : w.frozen? ⟨X, 1, none⟩ = false
  f2 : w.frozen? ⟨X, 2, none⟩ = false
  f3 : w.frozen? ⟨X, 3, none⟩ = false
  f4 : w.frozen? ⟨X, 4, none⟩ = false
section
variable {w w' : World} {X bs bn : Nat} {vd : Value} {last settled : Nat}
theorem HCells.lt (h : HCells w X bs bn vd last settled) : X < w.heap.size := fblock_of_cell h.c0
theorem HCells.of_block (h : HCells w X bs bn vd last settled) (hb : w'.heap[X]? = w.heap[X]?) : HCells w' X bs bn vd last settled := by
  have hc : ∀ o, w'.cell? ⟨X, o, none⟩ = w.cell? ⟨X, o, none⟩ := fun o => World.cell?_of_block hb
  have hf : ∀ o, w'.frozen? ⟨X, o, none⟩ = w.frozen? ⟨X, o, none⟩ := fun o => World.frozen?_of_block hb
  exact ⟨(hc 0).trans h.c0, (hc 1).trans h.c1, (hc 2).trans h.c2, (hc 3).trans h.c3, (hc 4).trans h.c4, (hf 0).trans h.f0, (hf 1).trans h.f1, (hf 2).trans h.f2, (hf 3).trans h.f3, (hf 4).trans h.f4⟩
theorem HCells.on (h : HCells w X bs bn vd last settled) (hb : Below w.heap.size w w') : HCells w' X bs bn vd last settled := h.of_block (hb.block X h.lt)
theorem HCells.drew (h : HCells w X bs bn vd last settled) : HCells w.drew X bs bn vd last settled := h.of_block rfl
theorem HCells.set1 (h : HCells w X bs bn vd last settled) (k : Nat) : HCells (w.setCell ⟨X, 1, none⟩ (.map (some k))) X bs k vd last settled := by
  obtain ⟨c0, c1, c2, c3, c4, f0, f1, f2, f3, f4⟩ := h
  refine ⟨?_, World.cell?_setCell_same _ _ _ c1, ?_, ?_, ?_, by rw [World.frozen?_setCell]; assumption, by rw [World.frozen?_setCell]; assumption, by rw [World.frozen?_setCell]; assumption, by rw [World.frozen?_setCell]; assumption, by rw [World.frozen?_setCell]; assumption⟩ <;>
    (rw [World.cell?_setCell_other _ _ _ _ (by intro e; injection e with e1 e2; omega)]; assumption)
theorem HCells.set2 (h : HCells w X bs bn vd last settled) (v : Value) : HCells (w.setCell ⟨X, 2, none⟩ v) X bs bn v last settled := by
  obtain ⟨c0, c1, c2, c3, c4, f0, f1, f2, f3, f4⟩ := h
  refine ⟨?_, ?_, World.cell?_setCell_same _ _ _ c2, ?_, ?_, by rw [World.frozen?_setCell]; assumption, by rw [World.frozen?_setCell]; assumption, by rw [World.frozen?_setCell]; assumption, by rw [World.frozen?_setCell]; assumption, by rw [World.frozen?_setCell]; assumption⟩ <;>
    (rw [World.cell?_setCell_other _ _ _ _ (by intro e; injection e with e1 e2; omega)]; assumption)
theorem HCells.set3 (h : HCells w X bs bn vd last settled) (k : Nat) : HCells (w.setCell ⟨X, 3, none⟩ (.int .u64 (k : Int))) X bs bn vd k settled := by
  obtain ⟨c0, c1, c2, c3, c4, f0, f1, f2, f3, f4⟩ := h
  refine ⟨?_, ?_, ?_, World.cell?_setCell_same _ _ _ c3, ?_, by rw [World.frozen?_setCell]; assumption, by rw [World.frozen?_setCell]; assumption, by rw [World.frozen?_setCell]; assumption, by rw [World.frozen?_setCell]; assumption, by rw [World.frozen?_setCell]; assumption⟩ <;>
    (rw [World.cell?_setCell_other _ _ _ _ (by intro e; injection e with e1 e2; omega)]; assumption)
theorem HCells.set4 (h : HCells w X bs bn vd last settled) (k : Nat) : HCells (w.setCell ⟨X, 4, none⟩ (.int .u64 (k : Int))) X bs bn vd last k := by
  obtain ⟨c0, c1, c2, c3, c4, f0, f1, f2, f3, f4⟩ := h
  refine ⟨?_, ?_, ?_, ?_, World.cell?_setCell_same _ _ _ c4, by rw [World.frozen?_setCell]; assumption, by rw [World.frozen?_setCell]; assumption, by rw [World.frozen?_setCell]; assumption, by rw [World.frozen?_setCell]; assumption, by rw [World.frozen?_setCell]; assumption⟩ <;>
    (rw [World.cell?_setCell_other _ _ _ _ (by intro e; injection e with e1 e2; omega)]; assumption)
theorem HCells.new (w : World) (bs bn : Nat) (vd : Value) (last settled : Nat) (t : TypeId) : HCells (w.alloc (.cells #[.map (some bs), .map (some bn), vd, .int .u64 (last : Int), .int .u64 (settled : Int)] t)) w.heap.size bs bn vd last settled := by
  refine ⟨by simp, by simp, by simp, by simp, by simp, by simp, by simp, by simp, by simp, by simp⟩
end
/-- the blocks that are a folder's own -/
def HOwn (X bs bn : Nat) (vd : Value) (i : Nat) : Prop := i = X ∨ i = bs ∨ i = bn ∨ vd.ownBlock = some i
/-- a folder's memory -/
structure HFol (w : World) (X bs bn : Nat) (R : Nat → Prop) (vd : Value) (dvs : List Value) (s : PSt) : Prop where
  cells : HCells w X bs bn vd s.last s.settled
  safe : MapAt w bs s.safe
  now : MapAt w bn s.now
  deeds : w.ownsRow 0 184 1 vd s.deeds.length dvs
  each : DdsAt w R dvs s.deeds
  ne : bs ≠ bn
  rows : ∀ i, HOwn X bs bn vd i → ¬ R i
section
variable {w w' : World} {X bs bn : Nat} {R M : Nat → Prop} {vd : Value} {dvs : List Value} {s : PSt}
theorem HFol.lt (h : HFol w X bs bn R vd dvs s) : ∀ i, HOwn X bs bn vd i → i < w.heap.size := by
  rintro i (rfl | rfl | rfl | hi)
  · exact h.cells.lt
  · exact h.safe.lt
  · exact h.now.lt
  · exact (h.deeds.lt i hi).2
theorem HFol.xs (h : HFol w X bs bn R vd dvs s) : X ≠ bs := fun e => by have h1 := h.cells.c0; have h2 := h.safe.no_cell 0; rw [e, h2] at h1; cases h1
theorem HFol.xn (h : HFol w X bs bn R vd dvs s) : X ≠ bn := fun e => by have h1 := h.cells.c0; have h2 := h.now.no_cell 0; rw [e, h2] at h1; cases h1
theorem row_cells {g n : Nat} {e : TypeId} {v : Value} {xs : List Value} (ho : w.ownsRow 0 e 1 v n xs) (hg : v.ownBlock = some g) : ∃ cur, w.heap[g]? = some (.cells cur e (0, 0)) := by
  rcases ho.2 with ⟨rfl, _⟩ | ⟨b, cap, cur, rfl, _, hb, _⟩
  · simp [Value.ownBlock] at hg
  · simp [Value.ownBlock] at hg; subst hg; exact ⟨cur, hb⟩
theorem HFol.gs (h : HFol w X bs bn R vd dvs s) : vd.ownBlock ≠ some bs := fun e => by
  obtain ⟨cur, hb⟩ := row_cells h.deeds e
  obtain ⟨_, D, ⟨es', clock, h1, _⟩, _⟩ := h.safe
  rw [hb] at h1; cases h1
theorem HFol.gn (h : HFol w X bs bn R vd dvs s) : vd.ownBlock ≠ some bn := fun e => by
  obtain ⟨cur, hb⟩ := row_cells h.deeds e
  obtain ⟨_, D, ⟨es', clock, h1, _⟩, _⟩ := h.now
  rw [hb] at h1; cases h1
theorem HFol.chg (h : HFol w X bs bn R vd dvs s) (hc : Chg M w w') (hM : ∀ i, M i → ¬ HOwn X bs bn vd i ∧ ¬ R i) : HFol w' X bs bn R vd dvs s :=
  ⟨h.cells.of_block (hc.block X h.cells.lt (fun e => (hM X e).1 (.inl rfl))), h.safe.chg hc (fun e => (hM bs e).1 (.inr (.inl rfl))), h.now.chg hc (fun e => (hM bn e).1 (.inr (.inr (.inl rfl)))),
   hc.own h.deeds (fun g hg e => (hM g e).1 (.inr (.inr (.inr hg)))), h.each.chg hc (fun i e => (hM i e).2), h.ne, h.rows⟩
end
/-- the folder in block X holds s; its own blocks are in M, what its deeds captured in R -/
def HFolM (w : World) (X : Nat) (M R : Nat → Prop) (s : PSt) : Prop :=
  s.Ok ∧ (∀ i, M i → ¬ R i) ∧ (∀ i, M i → i < w.heap.size) ∧ (∀ i, R i → i < w.heap.size) ∧ ∃ bs bn vd dvs, HFol w X bs bn R vd dvs s ∧ vd.ownBlock ≠ some X ∧ ∀ i, HOwn X bs bn vd i → M i
section
variable {w w' : World} {X : Nat} {R M N : Nat → Prop} {s : PSt}
theorem HFolM.ok (h : HFolM w X M R s) : s.Ok := h.1
theorem HFolM.chg (h : HFolM w X M R s) (hc : Chg N w w') (hN : ∀ i, N i → ¬ M i ∧ ¬ R i) : HFolM w' X M R s := by
  obtain ⟨ho, h1, h2, h3, bs, bn, vd, dvs, h, hx, h4⟩ := h
  exact ⟨ho, h1, fun i hi => Nat.lt_of_lt_of_le (h2 i hi) hc.size, fun i hi => Nat.lt_of_lt_of_le (h3 i hi) hc.size, bs, bn, vd, dvs, h.chg hc (fun i e => ⟨fun e' => (hN i e).1 (h4 i e'), (hN i e).2⟩), hx, h4⟩
theorem HFolM.on (h : HFolM w X M R s) (hb : Below w.heap.size w w') : HFolM w' X M R s := h.chg (Chg.of_below (M := fun _ => False) hb) (fun i e => e.elim)
theorem HFolM.drew (h : HFolM w X M R s) : HFolM w.drew X M R s := h.on (Below.refl _ _).drew
end
/-- what a call leaves that changes the folder -/
def HMut (w w' : World) (X : Nat) (M R : Nat → Prop) (s : PSt) : Prop :=
  ∃ M' R', HFolM w' X M' R' s ∧ Chg M w w' ∧ (∀ i, M' i → M i ∨ w.heap.size ≤ i) ∧ (∀ i, R' i → R i ∨ w.heap.size ≤ i)
theorem HMut.of_below {w w' : World} {X : Nat} {M R : Nat → Prop} {s : PSt} (h : HFolM w X M R s) (hb : Below w.heap.size w w') : HMut w w' X M R s := ⟨M, R, h.on hb, Chg.of_below hb, fun _ => .inl, fun _ => .inl⟩
end Go.Proofs.YtaicibmaogiibaaGreatDoor

/-
  Layer 6: the program's folder: New, made, May, has, Find, Loose.
-/
set_option linter.unusedVariables false
set_option linter.unusedSimpArgs false
namespace Go.Proofs.YtaicibmaogiibaaGreatDoor
open Go.RowKit Go.Maps

set_option maxRecDepth 100000 in
theorem hnew (w : World) : Calls Tryz.prog 33 #[] w fun e w' => ∃ X M, e = .returned (.pointer (some ⟨X, 0, none⟩)) ∧ HFolM w' X M (fun _ => False) PSt.new ∧ Below w.heap.size w w' ∧ ∀ i, M i → w.heap.size ≤ i := by
  have hmm : ∀ w, (Instr.makeMap 122 none).run Tryz.prog w = .ok (.map (some w.heap.size)) (w.alloc (.map #[] 0)) := fun w => by
    simp [Instr.makeMap, run_underlying Tryz.underlying122, go_sem, Result.andThen]
  go_enter Tryz.func33, Tryz.ntmps33
  go_wp2
  go_ret
  obtain ⟨w1, hw1⟩ : ∃ w1, w1 = w.alloc (.map #[] 0) := ⟨_, rfl⟩
  obtain ⟨w2, hw2⟩ : ∃ w2, w2 = w1.alloc (.map #[] 0) := ⟨_, rfl⟩
  have s1 : w1.heap.size = w.heap.size + 1 := by rw [hw1]; simp
  have s2 : w2.heap.size = w.heap.size + 2 := by rw [hw2]; simp [s1]
  have m1 : MapAt w1 w.heap.size [] := by rw [hw1]; exact MapAt.new w
  have b12 : Below w1.heap.size w1 w2 := by rw [hw2]; exact (Below.refl _ _).alloc (Nat.le_refl _) _
  have m2 : MapAt w2 (w.heap.size + 1) [] := by rw [hw2, ← s1]; exact MapAt.new w1
  have hc := HCells.new w2 w.heap.size (w.heap.size + 1) (.slice none 0 0) 0 0 125
  have b23 : Below w2.heap.size w2 (w2.alloc (.cells #[.map (some w.heap.size), .map (some (w.heap.size + 1)), .slice none 0 0, .int .u64 ((0 : Nat) : Int), .int .u64 ((0 : Nat) : Int)] 125)) := (Below.refl _ _).alloc (Nat.le_refl _) _
  refine ⟨w2.heap.size, fun i => w.heap.size ≤ i ∧ i < w.heap.size + 3, by simp [hw2, hw1], ⟨PSt.new_ok, fun i h e => e, fun i hi => ?_, fun i hi => hi.elim, w.heap.size, w.heap.size + 1, .slice none 0 0, [], ⟨?_, ?_, ?_, World.ownsRow_nil _ _ _ _, DdsAt.nil_, by omega, fun i hi e => e⟩, by simp [Value.ownBlock], ?_⟩, ?_, fun i hi => hi.1⟩
  · simp
    have := hi.2
    omega
  · rw [hw2, hw1] at hc ⊢
    exact hc
  · have := (m1.on b12).on b23
    rw [hw2, hw1] at this
    exact this
  · have := m2.on b23
    rw [hw2, hw1] at this
    exact this
  · rintro i (rfl | rfl | rfl | hi)
    · omega
    · omega
    · omega
    · simp [Value.ownBlock] at hi
  · exact (((Below.refl _ _).alloc (Nat.le_refl _) _).alloc (by simp) _).alloc (by simp; omega) _
set_option maxRecDepth 100000 in
theorem hmade {w : World} {X bs bn : Nat} {vd : Value} {last settled : Nat} (h : HCells w X bs bn vd last settled) : Calls Tryz.prog 97 #[.pointer (some ⟨X, 0, none⟩)] w fun e w' => e = .returned (.bool true) ∧ w = w' := by
  have hc := h.c1
  clear h
  have hn := fun w => run_neq_map_nil (P := Tryz.prog) w 122 9 37 (some bn) Tryz.underlying122
  simp only [Option.isNone_some, Bool.not_false] at hn
  go_enter Tryz.func97, Tryz.ntmps97
  go_wp2
  go_ret
  exact ⟨rfl, rfl⟩
set_option maxRecDepth 100000 in
theorem hhas {w : World} {X bs bn : Nat} {vd : Value} {last settled : Nat} {es : List Ent} (h : HCells w X bs bn vd last settled) (hm : MapAt w bn es) {n : ByteArray} (hn : n.size ≤ maxLen) :
    Calls Tryz.prog 152 #[.pointer (some ⟨X, 0, none⟩), .string n] w fun e w' => e = .returned (.bool (findL es n).isSome) ∧ w = w' := by
  have hc := h.c1
  have hl := (hm.look hn).1
  clear h hm
  generalize ((findL es n).getD 0 : Int) = c at hl
  generalize (findL es n).isSome = q at hl ⊢
  go_enter Tryz.func152, Tryz.ntmps152
  go_wp2
  go_ret
  exact ⟨rfl, rfl⟩
set_option maxRecDepth 100000 in
theorem hfind {w : World} {X bs bn : Nat} {vd : Value} {last settled : Nat} {es : List Ent} (h : HCells w X bs bn vd last settled) (hm : MapAt w bn es) {n : ByteArray} (hn : n.size ≤ maxLen) :
    Calls Tryz.prog 102 #[.pointer (some ⟨X, 0, none⟩), .string n] w fun e w' => e = .returned (.tuple #[.int .u64 (((findL es n).getD 0 : Nat) : Int), .bool (findL es n).isSome]) ∧ w = w' := by
  have H := Lib.hid h
  have hc := h.c1
  have hl := (hm.look hn).1
  clear h hm
  generalize ((findL es n).getD 0 : Int) = c at hl ⊢
  generalize (findL es n).isSome = q at hl ⊢
  go_enter Tryz.func102, Tryz.ntmps102
  go_wp2_with (go_at_call 97; refine (hmade H.out).mono ?_; rintro e w' ⟨rfl, rfl⟩)
  go_ret2
  exact ⟨rfl, rfl⟩
end Go.Proofs.YtaicibmaogiibaaGreatDoor

/-
  Layer 6: the program's folder: mayStand, May.
-/
set_option linter.unusedVariables false
set_option linter.unusedSimpArgs false
namespace Go.Proofs.YtaicibmaogiibaaGreatDoor
open Go.RowKit Go.Maps

set_option maxRecDepth 100000 in
set_option maxHeartbeats 4000000 in
theorem hmayStand_b (x : Int) (b1 b2 b3 b4 b5 b6 : Bool) (e1 : decide (x ≥ 97) = b1) (e2 : decide (x ≤ 122) = b2) (e3 : decide (x ≥ 48) = b3) (e4 : decide (x ≤ 57) = b4) (e5 : (x == 45) = b5) (e6 : (x == 46) = b6) (w : World) :
    Calls Tryz.prog 151 #[.int .u8 x] w fun e w' => e = .returned (.bool (((b1 && b2) || (b3 && b4)) || b5 || b6)) ∧ w = w' := by
  cases b1 <;> cases b2 <;> cases b3 <;> cases b4 <;> cases b5 <;> cases b6 <;>
    (go_enter Tryz.func151, Tryz.ntmps151
     go_wp2
     go_ret
     exact ⟨rfl, rfl⟩)
theorem hmayStand (c : UInt8) (w : World) : Calls Tryz.prog 151 #[.int .u8 (c.toNat : Int)] w fun e w' => e = .returned (.bool (okB c)) ∧ w = w' := by
  refine (hmayStand_b (c.toNat : Int) _ _ _ _ _ _ rfl rfl rfl rfl rfl rfl w).mono fun e w' ⟨he, hw⟩ => ⟨?_, hw⟩
  rw [he]
  congr 2
  unfold okB
  have h1 : decide ((c.toNat : Int) ≥ 97) = decide (97 ≤ c.toNat) := by congr 1; apply propext; omega
  have h2 : decide ((c.toNat : Int) ≤ 122) = decide (c.toNat ≤ 122) := by congr 1; apply propext; omega
  have h3 : decide ((c.toNat : Int) ≥ 48) = decide (48 ≤ c.toNat) := by congr 1; apply propext; omega
  have h4 : decide ((c.toNat : Int) ≤ 57) = decide (c.toNat ≤ 57) := by congr 1; apply propext; omega
  have h5 : ((c.toNat : Int) == 45) = decide (c.toNat = 45) := by
    rw [show ((c.toNat : Int) == 45) = decide ((c.toNat : Int) = 45) from rfl]
    congr 1; apply propext; omega
  have h6 : ((c.toNat : Int) == 46) = decide (c.toNat = 46) := by
    rw [show ((c.toNat : Int) == 46) = decide ((c.toNat : Int) = 46) from rfl]
    congr 1; apply propext; omega
  rw [h1, h2, h3, h4, h5, h6]
theorem conv_name (w : World) (s : ByteArray) : ∃ c w', (convert 9 47 (.string s)).run Tryz.prog w = .ok (.slice (some ⟨w.heap.size, 0, none⟩) s.size c) w' ∧ Below w.heap.size w w' ∧ w.heap.size < w'.heap.size ∧
    ∀ j (x : UInt8), s.data.toList[j]? = some x → w'.cell? ⟨w.heap.size, j, none⟩ = some (.int .u8 (x.toNat : Int)) := by
  refine ⟨_, _, Lib.run_convert_string_bytes w 9 47 5 s Tryz.underlying9 Tryz.underlying47 Tryz.underlying5, ⟨rfl, rfl, rfl, ?_, fun k hk => Lib.bytesWorld_at_old w _ s k hk⟩, ?_, fun j x hx => ?_⟩
  · rw [Lib.bytesWorld_size]; omega
  · rw [Lib.bytesWorld_size]; omega
  · have hj : j < s.size := by have := (List.getElem?_eq_some_iff.1 hx).1; rw [Array.length_toList] at this; exact this
    rw [Lib.bytesWorld_cell w _ s j hj, List.getD_eq_getElem?_getD, hx]
    rfl
set_option maxRecDepth 100000 in
set_option maxHeartbeats 4000000 in
theorem hmay (s : ByteArray) (w : World) (hs : s.size ≤ 9223372036854775807) : Calls Tryz.prog 115 #[.string s] w fun e w' => e = .returned (.bool (mayN s)) ∧ Below w.heap.size w w' := by
  rcases (show s.size = 0 ∨ 32 < s.size ∨ (0 < s.size ∧ s.size ≤ 32) by omega) with h | h | h
  · have hm : mayN s = false := by unfold mayN; simp [h]
    rw [hm]
    have h1 : decide ((s.size : Int) < 1) = true := decide_eq_true (by omega)
    go_enter Tryz.func115, Tryz.ntmps115
    go_wp2
    go_ret
    exact ⟨rfl, Below.refl _ _⟩
  · have hm : mayN s = false := by
      have h9 : decide (s.size ≤ 32) = false := by simp; omega
      unfold mayN; rw [h9]; simp
    rw [hm]
    have h1 : decide ((s.size : Int) < 1) = false := decide_eq_false (by omega)
    have h2 : decide ((s.size : Int) > 32) = true := decide_eq_true (by omega)
    go_enter Tryz.func115, Tryz.ntmps115
    go_wp2
    go_ret
    exact ⟨rfl, Below.refl _ _⟩
  · obtain ⟨h3, h4⟩ := h
    have h1 : decide ((s.size : Int) < 1) = false := decide_eq_false (by omega)
    have h2 : decide ((s.size : Int) > 32) = false := decide_eq_false (by omega)
    obtain ⟨cp, w1, hcv, hb1, hlt, hcell⟩ := conv_name w s
    have HC := Lib.hid hcell
    have HB := Lib.hid hb1
    obtain ⟨B, hB⟩ : ∃ B, B = w.heap.size := ⟨_, rfl⟩
    rw [← hB] at hcv HC
    have HBB := Lib.hid hB
    clear hcell hb1 hB
    go_enter Tryz.func115, Tryz.ntmps115
    go_wp2_with fail
    go_loopw [16] (fun i wr => ∃ j : Nat, j ≤ s.size ∧ i = .int .i64 j ∧ (s.data.toList.take j).all okB = true ∧ w1 = wr) (fun i _ => s.size - (intOf i).toNat)
    case atStart => exact ⟨0, by omega, rfl, by simp, rfl⟩
    case round =>
      obtain ⟨j, hj, rfl, hall, rfl⟩ := hrel
      have HA := Lib.hid hall
      clear hall
      by_cases hjl : j < s.size
      · obtain ⟨c, hc⟩ : ∃ c, s.data.toList[j]? = some c := ⟨s.data.toList[j]'(by simpa using hjl), List.getElem?_eq_getElem _⟩
        have Hc := Lib.hid hc
        have hcl := HC.out j c hc
        clear hc
        cases ho : okB c
        · go_wp2_with (go_at_call 151; refine (hmayStand c _).mono ?_; rintro e w' ⟨rfl, rfl⟩; rw [ho])
          go_ret
          exact ⟨by rw [mayN_no Hc.out ho]; rfl, HB.out⟩
        · go_wp2_with (go_at_call 151; refine (hmayStand c _).mono ?_; rintro e w' ⟨rfl, rfl⟩; rw [ho])
          go_roundw
          case rel => exact ⟨j + 1, by omega, by go_num, all_next Hc.out HA.out ho, by first | trivial | rfl⟩
          case measure => simp [intOf]; omega
      · obtain rfl : j = s.size := by omega
        have hl : s.data.toList.take s.size = s.data.toList := List.take_of_length_le (by rw [Array.length_toList]; exact Nat.le_refl _)
        have hm : mayN s = true := by
          have h9 := HA.out
          rw [hl] at h9
          unfold mayN
          rw [h9]
          simp
          omega
        have Hm := Lib.hid hm
        clear hm hl
        go_wp2_with fail
        go_ret
        exact ⟨by rw [Hm.out]; rfl, HB.out⟩
end Go.Proofs.YtaicibmaogiibaaGreatDoor

/-
  Layer 6: the program's folder: its deeds, called.
-/
set_option linter.unusedVariables false
set_option linter.unusedSimpArgs false
namespace Go.Proofs.YtaicibmaogiibaaGreatDoor
open Go.RowKit Go.Maps

set_option maxRecDepth 100000 in
theorem hdeed_mk {w : World} {b p q : Nat} {es : List Ent} (h : MapAt w b es) (hl : es.length ≤ 1000000) {n : ByteArray} {i : Nat} (hn : n.size ≤ 1000) (hi : i < 1000000000) (cp : w.cell? ⟨p, 0, none⟩ = some (.int .u64 (i : Int))) (cq : w.cell? ⟨q, 0, none⟩ = some (.string n)) :
    Calls Tryz.prog 154 #[.map (some b), .pointer (some ⟨p, 0, none⟩), .pointer (some ⟨q, 0, none⟩)] w fun e w' => (∃ v, e = .returned v) ∧ MapAt w' b (withL es n i) ∧ w.mapTurned w' b := by
  obtain ⟨w1, hrun, hm, ht⟩ := h.store hl hn hi
  have HM := Lib.hid hm
  have HT := Lib.hid ht
  clear hm ht h
  go_enter Tryz.func154, Tryz.ntmps154
  go_wp2
  go_end0
  exact ⟨⟨_, rfl⟩, HM.out, HT.out⟩
set_option maxRecDepth 100000 in
theorem hdeed_rm {w : World} {b q : Nat} {es : List Ent} (h : MapAt w b es) {n : ByteArray} (hn : n.size ≤ 1000) (cq : w.cell? ⟨q, 0, none⟩ = some (.string n)) :
    Calls Tryz.prog 157 #[.map (some b), .pointer (some ⟨q, 0, none⟩)] w fun e w' => (∃ v, e = .returned v) ∧ MapAt w' b (withoutL es n) ∧ w.mapTurned w' b := by
  obtain ⟨w1, hrun, hm, ht⟩ := h.drop hn 0
  have HM := Lib.hid hm
  have HT := Lib.hid ht
  clear hm ht h
  go_enter Tryz.func157, Tryz.ntmps157
  go_wp2
  go_end0
  exact ⟨⟨_, rfl⟩, HM.out, HT.out⟩
/-- a deed's call, whatever deed: letters for its function and what it captured -/
theorem hdeed {w : World} {R : Nat → Prop} {v : Value} {d : Dd} (hd : DdAt w R v d) (hok : d.Ok) : ∃ g cap, v = .func (.func g) #[] cap ∧ (∀ args w', (callFunc g args).run Tryz.prog w' = .ok (.enter g args) w') ∧
    ∀ (w' : World) (b : Nat) (es : List Ent), MapAt w' b es → es.length ≤ 1000000 → DdAt w' R v d → Calls Tryz.prog g (#[.map (some b)] ++ cap) w' fun e w'' => (∃ v, e = .returned v) ∧ MapAt w'' b (d.app es) ∧ w'.mapTurned w'' b := by
  cases d with
  | mk n i =>
    obtain ⟨p, q, rfl, h1, h2, h3, h4⟩ := hd
    refine ⟨_, _, rfl, fun args w' => enters_of Tryz.func154 (by kernel_rfl) rfl args w', fun w' b es hm hl hd' => ?_⟩
    obtain ⟨p', q', e, k1, k2, k3, k4⟩ := hd'
    simp only [Value.func.injEq, Array.mk.injEq, List.cons.injEq, Value.pointer.injEq, Option.some.injEq, Addr.mk.injEq, and_true, true_and] at e
    obtain ⟨rfl, rfl⟩ := e
    exact hdeed_mk hm hl hok.1 hok.2 k3 k4
  | mv a b => exact hd.elim
  | rm n =>
    obtain ⟨q, rfl, h2, h4⟩ := hd
    refine ⟨_, _, rfl, fun args w' => enters_of Tryz.func157 (by kernel_rfl) rfl args w', fun w' b es hm hl hd' => ?_⟩
    obtain ⟨q', e, k2, k4⟩ := hd'
    simp only [Value.func.injEq, Array.mk.injEq, List.cons.injEq, Value.pointer.injEq, Option.some.injEq, Addr.mk.injEq, and_true, true_and] at e
    obtain rfl := e
    exact hdeed_rm hm hok k4
end Go.Proofs.YtaicibmaogiibaaGreatDoor

/-
  Layer 6: the program's folder: do: a deed is done and told to be loose.
-/
set_option linter.unusedVariables false
set_option linter.unusedSimpArgs false
namespace Go.Proofs.YtaicibmaogiibaaGreatDoor
open Go.RowKit Go.Maps

theorem fn_info : (Tryz.prog.info? 184).map (fun i => (i.zero, i.size, i.bytes)) = some (some .nilFunc, 1, 8) := by kernel_rfl
set_option maxRecDepth 100000 in
set_option maxHeartbeats 4000000 in
theorem hdo {w : World} {X : Nat} {M R R2 : Nat → Prop} {s : PSt} {v : Value} {d : Dd} (h : HFolM w X M R s) (hd : DdAt w R2 v d) (hok : d.Ok) (hR2 : ∀ i, R2 i → i < w.heap.size ∧ ¬ M i) (hf : s.safe.length + s.deeds.length < 100000) :
    Calls Tryz.prog 153 #[.pointer (some ⟨X, 0, none⟩), v] w fun e w' => (∃ u, e = .returned u) ∧ ∃ M', HFolM w' X M' (fun i => R i ∨ R2 i) (s.push d) ∧ Chg M w w' ∧ ∀ i, M' i → M i ∨ w.heap.size ≤ i := by
  obtain ⟨ho, hMR, hM, hR, bs, bn, vd, dvs, h, hvX, hOM⟩ := h
  obtain ⟨i0, hi0, hz0, hz1, hz2⟩ := info_parts fn_info
  obtain ⟨g, cap, rfl, hen, hcall⟩ := hdeed hd hok
  have hone := hd.one
  have hkey := hcall w bn s.now h.now (Nat.le_trans ho.now_length (by omega)) hd
  have HCa := Lib.hid hkey
  have H := Lib.hid h
  have c1 := h.cells.c1
  obtain ⟨Ad, cd, hvd, hlc, hcm, _⟩ := own_slice h.deeds
  obtain ⟨nd, hnd⟩ : ∃ nd, nd = s.deeds.length := ⟨_, rfl⟩
  have Hnd := Lib.hid hnd
  have hnd2 : nd ≤ 100000 := by omega
  have hown : w.ownsRow 0 184 1 (.slice Ad nd cd) nd dvs := by have := h.deeds; rw [hvd, ← hnd] at this; exact this
  have HO := Lib.hid hown
  have Hvd : Hid (vd = .slice Ad nd cd) := by rw [hnd]; exact hvd
  have Hho := Lib.hid ho
  have HMR := Lib.hid hMR
  have HM := Lib.hid hM
  have HR := Lib.hid hR
  have HvX := Lib.hid hvX
  have HOM := Lib.hid hOM
  have Hd := Lib.hid hd
  have Hok := Lib.hid hok
  have HR2 := Lib.hid hR2
  have Hf := Lib.hid hf
  clear ho hMR hM hR hvX hOM hd hok hR2 hf hown hvd hlc hcm hnd h hkey hcall
  go_enter Tryz.func153, Tryz.ntmps153
  go_wp2_with fail
  refine HCa.out.mono ?_
  rintro e w1 ⟨⟨u, rfl⟩, hm1, ht1⟩
  have hc1 : Chg (fun i => i = bn) w w1 := Chg.of_turned ht1
  have HM1 := Lib.hid hm1
  have HC1 := Lib.hid hc1
  have hX1 : HCells w1 X bs bn (.slice Ad nd cd) s.last s.settled := by
    have := H.out.cells.of_block (hc1.block X H.out.cells.lt H.out.xn)
    rw [Hvd.out] at this
    exact this
  have HX1 := Lib.hid hX1
  have HO1 : Hid (w1.ownsRow 0 184 1 (.slice Ad nd cd) nd dvs) := hc1.own HO.out (fun g hg e => H.out.gn (by rw [Hvd.out, hg, e]))
  have c2 := hX1.c2
  clear hm1 ht1 hc1 hX1 c1
  go_wp2_with (at_builtin; (refine wpList_append_1 _ rfl _ _ 123 rfl 0 184 i0 .nilFunc 8 Tryz.underlying123 hi0 hz0 hz1 hz2 rfl (.slice Ad nd cd) nd dvs rfl (HO1.out.alloc _) ⟨w1.heap.size, 0, none⟩ 1 (.func (.func g) #[] cap) rfl (by simp) hone (by unfold maxLen; omega) (by omega) (Nat.zero_le _) ?_); (intro v3 w3 hown3 hb3 hg3 hv3); (have HO3 := Lib.hid hown3); (have HG3 := Lib.hid hg3); (have HV3 := Lib.hid hv3); (have hbX := hg3.block X (by have := HX1.out.lt; simp; omega) (by intro e; exact HvX.out (by rw [Hvd.out]; exact e.symm))); (have hX3 := (HX1.out.on ((Below.refl _ w1).alloc (Nat.le_refl _) (.cells #[.func (.func g) #[] cap] 184))).of_block hbX); (have HX3 := Lib.hid hX3); (have c2' := hX3.c2); (have f2' := hX3.f2); clear hown3 hb3 hg3 hv3 hbX hX3 c2; (obtain ⟨A3, k3, rfl, _, _, _⟩ := own_slice HO3.out))
  go_end0
  have hcA : Chg (fun i => vd.ownBlock = some i) w1 w3 := ((Chg.refl (M := fun i => vd.ownBlock = some i) (w := w1)).alloc (.cells #[.func (.func g) #[] cap] 184)).trans (Chg.of_grown HG3.out (M := fun i => vd.ownBlock = some i) (by intro g hg; rw [Hvd.out]; exact hg)) (fun i hi => .inl hi)
  have hcB : Chg (fun i => i = X ∨ vd.ownBlock = some i) w1 (w3.setCell ⟨X, 2, none⟩ (.slice A3 (nd + 1) k3)) := (hcA.mono (fun i hi => .inr hi)).setCell (.inl rfl) _
  have hcw : Chg M w (w3.setCell ⟨X, 2, none⟩ (.slice A3 (nd + 1) k3)) := (HC1.out.mono (fun i hi => HOM.out i (.inr (.inr (.inl hi))))).trans hcB (fun i hi => .inl (HOM.out i (hi.elim .inl (fun h => .inr (.inr (.inr h))))))
  have hX4 := HX3.out.set2 (.slice A3 (nd + 1) k3)
  have hsz1 : w.heap.size ≤ w1.heap.size := HC1.out.size
  have hv3X : ∀ g, (Value.slice A3 (nd + 1) k3).ownBlock = some g → vd.ownBlock = some g ∨ w.heap.size ≤ g := fun g hg => by
    rcases HV3.out with e | e
    · rw [e] at hg; left; rw [Hvd.out]; exact hg
    · rw [hg] at e; injection e with e; simp at e; right; omega
  have hcX : Chg (fun i => i = X) w3 (w3.setCell ⟨X, 2, none⟩ (.slice A3 (nd + 1) k3)) := (Chg.refl (M := fun i => i = X) (w := w3)).setCell (p := ⟨X, 2, none⟩) rfl _
  have hv3ne : (Value.slice A3 (nd + 1) k3).ownBlock ≠ some X := fun e => by
    rcases hv3X _ e with e2 | e2
    · exact HvX.out e2
    · have := H.out.cells.lt; omega
  have hO4 : (w3.setCell ⟨X, 2, none⟩ (.slice A3 (nd + 1) k3)).ownsRow 0 184 1 (.slice A3 (nd + 1) k3) (s.push d).deeds.length (dvs ++ [.func (.func g) #[] cap]) := by
    have := hcX.own HO3.out (fun g hg e => hv3ne (by rw [hg, e]))
    have e : (s.push d).deeds.length = nd + 1 := by simp [PSt.push, Hnd.out]
    rw [e]
    exact this
  have hMnow : MapAt (w3.setCell ⟨X, 2, none⟩ (.slice A3 (nd + 1) k3)) bn (s.push d).now := by
    rw [PSt.push_now]
    exact HM1.out.chg hcB (by rintro (e | e); exact H.out.xn e.symm; exact H.out.gn e)
  have hMsafe : MapAt (w3.setCell ⟨X, 2, none⟩ (.slice A3 (nd + 1) k3)) bs s.safe := (H.out.safe.chg HC1.out H.out.ne).chg hcB (by rintro (e | e); exact H.out.xs e.symm; exact H.out.gs e)
  have hEach : DdsAt (w3.setCell ⟨X, 2, none⟩ (.slice A3 (nd + 1) k3)) (fun i => R i ∨ R2 i) (dvs ++ [.func (.func g) #[] cap]) (s.push d).deeds :=
    DdsAt.add ((H.out.each.chg hcw HMR.out).mono (fun i => .inl)) ((Hd.out.chg hcw (fun i hi e => (HR2.out i e).2 hi)).mono (fun i => .inr))
  have hrows : ∀ i, HOwn X bs bn (.slice A3 (nd + 1) k3) i → ¬ (R i ∨ R2 i) := by
    have hM' : ∀ i, M i → ¬ (R i ∨ R2 i) := fun i hi e => e.elim (HMR.out i hi) (fun e => (HR2.out i e).2 hi)
    rintro i (rfl | rfl | rfl | hi)
    · exact hM' _ (HOM.out _ (.inl rfl))
    · exact hM' _ (HOM.out _ (.inr (.inl rfl)))
    · exact hM' _ (HOM.out _ (.inr (.inr (.inl rfl))))
    · rcases hv3X i hi with e | e
      · exact hM' _ (HOM.out _ (.inr (.inr (.inr e))))
      · rintro (e2 | e2)
        · have := HR.out i e2; omega
        · have := (HR2.out i e2).1; omega
  have hFin : HFol (w3.setCell ⟨X, 2, none⟩ (.slice A3 (nd + 1) k3)) X bs bn (fun i => R i ∨ R2 i) (.slice A3 (nd + 1) k3) (dvs ++ [.func (.func g) #[] cap]) (s.push d) := ⟨hX4, hMsafe, hMnow, hO4, hEach, H.out.ne, hrows⟩
  refine ⟨⟨_, rfl⟩, fun i => HOwn X bs bn (.slice A3 (nd + 1) k3) i, ⟨PSt.push_ok Hho.out Hok.out Hf.out, hrows, hFin.lt, ?_, bs, bn, (.slice A3 (nd + 1) k3), _, hFin, hv3ne, fun i h => h⟩, hcw, ?_⟩
  · rintro i (e | e)
    · exact Nat.lt_of_lt_of_le (HR.out i e) hcw.size
    · exact Nat.lt_of_lt_of_le (HR2.out i e).1 hcw.size
  · rintro i (rfl | rfl | rfl | hi)
    · exact .inl (HOM.out _ (.inl rfl))
    · exact .inl (HOM.out _ (.inr (.inl rfl)))
    · exact .inl (HOM.out _ (.inr (.inr (.inl rfl))))
    · exact (hv3X i hi).imp (fun e => HOM.out _ (.inr (.inr (.inr e)))) (fun e => e)
end Go.Proofs.YtaicibmaogiibaaGreatDoor

/-
  Layer 6: the program's folder: Remove, Rename.
-/
set_option linter.unusedVariables false
set_option linter.unusedSimpArgs false
namespace Go.Proofs.YtaicibmaogiibaaGreatDoor
open Go.RowKit Go.Maps

theorem mayN_size {n : ByteArray} (h : mayN n = true) : n.size ≤ 1000 := by
  unfold mayN at h
  simp only [Bool.and_eq_true, decide_eq_true_eq] at h
  omega
theorem HFolM.cells {w : World} {X : Nat} {M R : Nat → Prop} {s : PSt} (h : HFolM w X M R s) : ∃ bs bn Ad cd, HCells w X bs bn (.slice Ad s.deeds.length cd) s.last s.settled ∧ MapAt w bs s.safe ∧ MapAt w bn s.now := by
  obtain ⟨ho, hMR, hM, hR, bs, bn, vd, dvs, h, hvX, hOM⟩ := h
  obtain ⟨Ad, cd, hvd, _⟩ := own_slice h.deeds
  have := h.cells
  rw [hvd] at this
  exact ⟨bs, bn, Ad, cd, this, h.safe, h.now⟩
/-- what Remove tells and makes -/
def removeP (s : PSt) (n : ByteArray) : Nat × PSt := if mayN n = false then (1, s) else if (findL s.now n).isSome then (0, s.push (.rm n)) else (6, s)
def renameP (s : PSt) (n dst6 : ByteArray) : Nat × PSt :=
  if mayN n = false ∨ mayN dst6 = false then (1, s) else if (findL s.now n).isSome = false then (6, s) else if n.toList == dst6.toList then (0, s) else (0, s.push (.mv n dst6))
section
variable {w : World} {X : Nat} {M R : Nat → Prop} {s : PSt}
set_option maxRecDepth 100000 in
set_option maxHeartbeats 4000000 in
theorem hremove (h : HFolM w X M R s) (hf : s.safe.length + s.deeds.length < 100000) (n : ByteArray) (hn : n.size ≤ 9223372036854775807) :
    Calls Tryz.prog 124 #[.pointer (some ⟨X, 0, none⟩), .string n] w fun e w' => e = .returned (.int .i64 ((removeP s n).1 : Int)) ∧ HMut w w' X M R (removeP s n).2 := by
  have H := Lib.hid h
  have Hf := Lib.hid hf
  clear h hf
  have hb0 : Below w.heap.size w (w.alloc (.cells #[.string n] 9)) := (Below.refl _ _).alloc (Nat.le_refl _) _
  have hq : (w.alloc (.cells #[.string n] 9)).cell? ⟨w.heap.size, 0, none⟩ = some (.string n) := by simp
  go_enter Tryz.func124, Tryz.ntmps124
  go_wp2_with fail
  obtain ⟨q, hqe⟩ : ∃ q, q = w.heap.size := ⟨_, rfl⟩
  have Hq := Lib.hid hqe
  have HB0 := Lib.hid hb0
  rw [← hqe] at hq
  simp only [← hqe]
  clear hqe
  generalize w.alloc (.cells #[.string n] 9) = w0 at *
  have H0 := Lib.hid (H.out.on HB0.out)
  obtain ⟨bs, bn, Ad, cd, hc, hms, hmn⟩ := H0.out.cells
  have Hc := Lib.hid hc
  have Hmn := Lib.hid hmn
  clear hc hms hmn
  refine (hmade Hc.out).mono ?_
  rintro e w' ⟨rfl, rfl⟩
  go_wp2_with fail
  refine (hmay n _ hn).mono ?_
  rintro e w1 ⟨rfl, hb1⟩
  have HB1 := Lib.hid hb1
  have hq1 : w1.cell? ⟨q, 0, none⟩ = some (.string n) := (hb1.cell (p := ⟨q, 0, none⟩) (fblock_of_cell hq)).trans hq
  have Hq1 := Lib.hid hq1
  have HB01 := Lib.hid (HB0.out.trans (HB1.out.mono HB0.out.size))
  have H1 := Lib.hid (H0.out.on HB1.out)
  have Hc1 := Lib.hid (Hc.out.on HB1.out)
  have Hm1 := Lib.hid (Hmn.out.on HB1.out)
  clear hq hb1
  cases hmy : mayN n
  · have Hr : Hid (removeP s n = (1, s)) := by unfold removeP; rw [if_pos hmy]; exact rfl
    go_wp2_with fail
    go_ret
    rw [Hr.out]
    exact ⟨rfl, HMut.of_below H.out HB01.out⟩
  · have Hsz := Lib.hid (mayN_size hmy)
    go_wp2_with fail
    refine (hhas Hc1.out Hm1.out (by unfold maxLen; omega)).mono ?_
    rintro e w' ⟨rfl, rfl⟩
    cases hfi : (findL s.now n).isSome
    · have Hr : Hid (removeP s n = (6, s)) := by unfold removeP; rw [if_neg (by simp [hmy]), if_neg (by simp [hfi])]; exact rfl
      go_wp2_with fail
      go_ret
      rw [Hr.out]
      exact ⟨rfl, HMut.of_below H.out HB01.out⟩
    · have Hr : Hid (removeP s n = (0, s.push (.rm n))) := by unfold removeP; rw [if_neg (by simp [hmy]), if_pos hfi]; exact rfl
      go_wp2_with fail
      have hd : DdAt w1 (fun i => i = q) (.func (.func 157) #[] #[.pointer (some ⟨q, 0, none⟩)]) (.rm n) := ⟨q, rfl, rfl, Hq1.out⟩
      have hqM : ∀ i, i = q → i < w1.heap.size ∧ ¬ M i := by
        rintro i rfl
        refine ⟨fblock_of_cell Hq1.out, fun e => ?_⟩
        have := H.out.2.2.1 _ e
        have := Hq.out
        omega
      refine (hdo H1.out hd Hsz.out hqM Hf.out).mono ?_
      rintro e w2 ⟨⟨u, rfl⟩, M', hm', hc', hM'⟩
      go_wp2_with fail
      go_ret
      rw [Hr.out]
      have hs := HB01.out.size
      refine ⟨rfl, M', fun i => R i ∨ i = q, hm', (Chg.of_below (M := M) HB01.out).trans hc' (fun i hi => .inl hi), fun i hi => (hM' i hi).imp (fun e => e) (fun e => by omega), ?_⟩
      rintro i (hi | rfl)
      · exact .inl hi
      · exact .inr (by have := Hq.out; omega)
end
end Go.Proofs.YtaicibmaogiibaaGreatDoor

/-
  Layer 6: the program's folder: Create.
-/
set_option linter.unusedVariables false
set_option linter.unusedSimpArgs false
namespace Go.Proofs.YtaicibmaogiibaaGreatDoor
open Go.RowKit Go.Maps

/-- what Create tells and makes -/
def PSt.made (s : PSt) (n : ByteArray) : PSt := PSt.push { s with last := s.last + 1 } (.mk n (s.last + 1))
def createP (s : PSt) (n : ByteArray) : Nat × Nat × PSt :=
  if mayN n = false then (0, 1, s) else if (findL s.now n).isSome then (0, 9, s) else if 256 ≤ s.now.length then (0, 7, s) else (s.last + 1, 0, s.made n)
section
variable {w : World} {X : Nat} {M R : Nat → Prop} {s : PSt}
theorem HFolM.set3 (h : HFolM w X M R s) (hl : s.last + 1 < 100000000) : HFolM (w.setCell ⟨X, 3, none⟩ (.int .u64 ((s.last + 1 : Nat) : Int))) X M R { s with last := s.last + 1 } := by
  obtain ⟨ho, hMR, hM, hR, bs, bn, vd, dvs, h, hvX, hOM⟩ := h
  have hc : Chg (fun i => i = X) w (w.setCell ⟨X, 3, none⟩ (.int .u64 ((s.last + 1 : Nat) : Int))) := (Chg.refl (M := fun i => i = X) (w := w)).setCell (p := ⟨X, 3, none⟩) rfl _
  have hok : PSt.Ok { s with last := s.last + 1 } := ⟨ho.safe, ho.deeds, hl, by have := ho.settled; show s.settled ≤ s.last + 1; omega, ho.few⟩
  exact ⟨hok, hMR, fun i hi => Nat.lt_of_lt_of_le (hM i hi) hc.size, fun i hi => Nat.lt_of_lt_of_le (hR i hi) hc.size, bs, bn, vd, dvs,
    ⟨h.cells.set3 _, h.safe.chg hc (fun e => h.xs e.symm), h.now.chg hc (fun e => h.xn e.symm), hc.own h.deeds (fun g hg e => hvX (by rw [hg, e])), h.each.chg hc (fun i e => by rw [e]; exact h.rows X (.inl rfl)), h.ne, h.rows⟩, hvX, hOM⟩
set_option maxRecDepth 100000 in
set_option maxHeartbeats 4000000 in
theorem hcreate (h : HFolM w X M R s) (hf : s.safe.length + s.deeds.length < 100000) (hla : s.last + 1 < 100000000) (n : ByteArray) (hn : n.size ≤ 9223372036854775807) :
    Calls Tryz.prog 117 #[.pointer (some ⟨X, 0, none⟩), .string n] w fun e w' => e = .returned (.tuple #[.int .u64 ((createP s n).1 : Int), .int .i64 ((createP s n).2.1 : Int)]) ∧ HMut w w' X M R (createP s n).2.2 := by
  have H := Lib.hid h
  have Hf := Lib.hid hf
  clear h hf
  have hb0 : Below w.heap.size w (w.alloc (.cells #[.string n] 9)) := (Below.refl _ _).alloc (Nat.le_refl _) _
  have hq : (w.alloc (.cells #[.string n] 9)).cell? ⟨w.heap.size, 0, none⟩ = some (.string n) := by simp
  go_enter Tryz.func117, Tryz.ntmps117
  go_wp2_with fail
  obtain ⟨q, hqe⟩ : ∃ q, q = w.heap.size := ⟨_, rfl⟩
  have Hq := Lib.hid hqe
  have HB0 := Lib.hid hb0
  rw [← hqe] at hq
  simp only [← hqe]
  clear hqe
  generalize w.alloc (.cells #[.string n] 9) = w0 at *
  have H0 := Lib.hid (H.out.on HB0.out)
  obtain ⟨bs, bn, Ad, cd, hc, hms, hmn⟩ := H0.out.cells
  have Hc := Lib.hid hc
  have Hmn := Lib.hid hmn
  clear hc hms hmn
  refine (hmade Hc.out).mono ?_
  rintro e w' ⟨rfl, rfl⟩
  go_wp2_with fail
  refine (hmay n _ hn).mono ?_
  rintro e w1 ⟨rfl, hb1⟩
  have HB1 := Lib.hid hb1
  have hq1 : w1.cell? ⟨q, 0, none⟩ = some (.string n) := (hb1.cell (p := ⟨q, 0, none⟩) (fblock_of_cell hq)).trans hq
  have Hq1 := Lib.hid hq1
  have HB01 := Lib.hid (HB0.out.trans (HB1.out.mono HB0.out.size))
  have H1 := Lib.hid (H0.out.on HB1.out)
  have Hc1 := Lib.hid (Hc.out.on HB1.out)
  have Hm1 := Lib.hid (Hmn.out.on HB1.out)
  clear hq hb1
  cases hmy : mayN n
  · have Hr : Hid (createP s n = (0, 1, s)) := by unfold createP; rw [if_pos hmy]; exact rfl
    go_wp2_with fail
    go_ret2
    rw [Hr.out]
    exact ⟨rfl, HMut.of_below H.out HB01.out⟩
  · have Hsz := Lib.hid (mayN_size hmy)
    go_wp2_with fail
    refine (hhas Hc1.out Hm1.out (by unfold maxLen; omega)).mono ?_
    rintro e w' ⟨rfl, rfl⟩
    cases hfi : (findL s.now n).isSome
    · have cc1 := Hc1.out.c1
      have cc3 := Hc1.out.c3
      have ff3 := Hc1.out.f3
      have hlen := Hm1.out.len 3
      by_cases h256 : 256 ≤ s.now.length
      · have Hr : Hid (createP s n = (0, 7, s)) := by unfold createP; rw [if_neg (by simp [hmy]), if_neg (by simp [hfi]), if_pos h256]; exact rfl
        have hd1 : decide ((s.now.length : Int) ≥ 256) = true := decide_eq_true (by omega)
        have H256 := Lib.hid h256
        clear h256
        go_wp2_with fail
        go_ret2
        rw [Hr.out]
        exact ⟨rfl, HMut.of_below H.out HB01.out⟩
      · have Hr : Hid (createP s n = (s.last + 1, 0, s.made n)) := by unfold createP; rw [if_neg (by simp [hmy]), if_neg (by simp [hfi]), if_neg h256]; exact rfl
        have hd1 : decide ((s.now.length : Int) ≥ 256) = false := decide_eq_false (by omega)
        have hwl : IntKind.u64.wrap ((s.last : Int) + 1) = ((s.last + 1 : Nat) : Int) := by
          have h9 := Lib.hid hla
          rw [show ((s.last : Int) + 1) = ((s.last + 1 : Nat) : Int) by omega]
          exact IntWalk.u64_in _ (by omega)
        have H256 := Lib.hid h256
        clear h256
        go_wp2_with fail
        obtain ⟨L, hL⟩ : ∃ L, L = s.last + 1 := ⟨_, rfl⟩
        have hLi : (s.last : Int) + 1 = (L : Int) := by omega
        simp only [hLi]
        have h2 := H1.out.set3 hla
        rw [← hL] at h2
        have hq2 : (w1.setCell ⟨X, 3, none⟩ (.int .u64 (L : Int))).cell? ⟨q, 0, none⟩ = some (.string n) := (World.cell?_setCell_other _ _ _ _ (by intro e; injection e with e1 e2; omega)).trans Hq1.out
        have hb2 : Chg M w (w1.setCell ⟨X, 3, none⟩ (.int .u64 (L : Int))) := (Chg.of_below (M := M) HB01.out).setCell (p := ⟨X, 3, none⟩) (by obtain ⟨_, _, _, _, _, _, _, _, _, _, hOM⟩ := H.out; exact hOM X (.inl rfl)) _
        have hsz2 : (w1.setCell ⟨X, 3, none⟩ (.int .u64 (L : Int))).heap.size = w1.heap.size := by simp
        obtain ⟨p, hp⟩ : ∃ p, p = w1.heap.size := ⟨_, rfl⟩
        rw [← hp] at hsz2
        simp only [← hp]
        have Hpp : Hid (w.heap.size ≤ p ∧ q < p) := ⟨by rw [hp]; exact HB01.out.size, by rw [hp]; exact fblock_of_cell Hq1.out⟩
        clear hp
        generalize w1.setCell ⟨X, 3, none⟩ (.int .u64 (L : Int)) = w2 at *
        have hb3 : Below w2.heap.size w2 (w2.alloc (.cells #[.int .u64 (L : Int)] 37)) := (Below.refl _ _).alloc (Nat.le_refl _) _
        have hp3 : (w2.alloc (.cells #[.int .u64 (L : Int)] 37)).cell? ⟨p, 0, none⟩ = some (.int .u64 (L : Int)) := by rw [← hsz2]; simp
        generalize w2.alloc (.cells #[.int .u64 (L : Int)] 37) = w3 at *
        have H3 := Lib.hid (h2.on hb3)
        have hq3 : w3.cell? ⟨q, 0, none⟩ = some (.string n) := (hb3.cell (p := ⟨q, 0, none⟩) (fblock_of_cell hq2)).trans hq2
        have HC3 : Hid (Chg M w w3) := hb2.trans (Chg.of_below (M := fun _ => False) hb3) (fun i hi => hi.elim)
        have hd : DdAt w3 (fun i => i = p ∨ i = q) (.func (.func 154) #[] #[.pointer (some ⟨p, 0, none⟩), .pointer (some ⟨q, 0, none⟩)]) (.mk n L) := ⟨p, q, rfl, .inl rfl, .inr rfl, hp3, hq3⟩
        have hnM : ∀ i, (i = p ∨ i = q) → ¬ M i := by
          intro i hi e
          have h9 := H.out.2.2.1 _ e
          have h8 := Hpp.out
          have h7 := Hq.out
          omega
        have hqM : ∀ i, (i = p ∨ i = q) → i < w3.heap.size ∧ ¬ M i := by
          rintro i hi
          refine ⟨?_, hnM i hi⟩
          rcases hi with rfl | rfl
          · exact fblock_of_cell hp3
          · exact fblock_of_cell hq3
        have HnM := Lib.hid hnM
        have HL := Lib.hid hL
        have Hp3 := Lib.hid hp3
        refine (hdo H3.out hd ⟨Hsz.out, by omega⟩ hqM Hf.out).mono ?_
        clear hd hqM hnM hb2 hb3 h2 hq1 hq2 hq3 hp3 hb0 hwl cc1 cc3 ff3 hlen hL
        rintro e w4 ⟨⟨u, rfl⟩, M', hm', hc', hM'⟩
        have hp4 : w4.cell? ⟨p, 0, none⟩ = some (.int .u64 (L : Int)) := (hc'.cell (p := ⟨p, 0, none⟩) (fblock_of_cell Hp3.out) (HnM.out p (.inl rfl))).trans Hp3.out
        have Hm' := Lib.hid hm'
        have Hc' := Lib.hid hc'
        have HM' := Lib.hid hM'
        clear hm' hc' hM'
        go_wp2_with fail
        go_ret2
        rw [Hr.out]
        have hs := HC3.out.size
        refine ⟨by rw [HL.out]; rfl, M', fun i => R i ∨ (i = p ∨ i = q), ?_, HC3.out.trans Hc'.out (fun i hi => .inl hi), fun i hi => (HM'.out i hi).imp (fun e => e) (fun e => by omega), ?_⟩
        · have := Hm'.out
          rw [HL.out] at this
          exact this
        · rintro i (hi | hi)
          · exact .inl hi
          · exact .inr (by have := Hq.out; have := Hpp.out; omega)
    · have Hr : Hid (createP s n = (0, 9, s)) := by unfold createP; rw [if_neg (by simp [hmy]), if_pos hfi]; exact rfl
      go_wp2_with fail
      go_ret2
      rw [Hr.out]
      exact ⟨rfl, HMut.of_below H.out HB01.out⟩
end
end Go.Proofs.YtaicibmaogiibaaGreatDoor

/- Shelf6C -/

/-
  The shelf's contracts laid at this dump, in plain words (tools/shelf.py): tables of numbers, and for each laying one theorem, a field a fact of the dump.
-/
namespace Go.Proofs.YtaicibmaogiibaaGreatDoor
open Go.Shelf

def Tryz.cloneS_ren : Go.Shelf.Ren := ⟨fun | 5 => 136 | 7 => 168 | n => n, fun | 23 => 122 | 25 => 9 | 3 => 37 | 4 => 4 | 20 => 20 | n => n, fun | n => n⟩
theorem Tryz.cloneS : Go.Proofs.SlLaysW.n5 Tryz.prog Tryz.cloneS_ren := {
  mixed := by kernel_rfl
  f5 := ⟨Tryz.f136.name, by decide, Tryz.func136.trans (congrArg some (by kernel_rfl))⟩
  f7 := Tryz.func168.trans (congrArg some (by kernel_rfl))
  t4 := Tryz.underlying4
  a4 := Tryz.isAgg4
  z4 := Tryz.sizeOf4
  v4 := Tryz.zeroValue4
  t20 := Tryz.underlying20
  a20 := Tryz.isAgg20
  z20 := Tryz.sizeOf20
  v20 := Tryz.zeroValue20
  t23 := Tryz.underlying122
  a23 := Tryz.isAgg122
  z23 := Tryz.sizeOf122
  v23 := Tryz.zeroValue122 }

end Go.Proofs.YtaicibmaogiibaaGreatDoor

