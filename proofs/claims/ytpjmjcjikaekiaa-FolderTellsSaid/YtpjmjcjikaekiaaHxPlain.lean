
/-
  Layer 6: the program's folder as plain mathematics: rows of entries by names, what with, without, find do to them; deeds; a folder's state.
-/
import Derived.Test.YtpjmjcjikaekiaaGxFind
import Derived.Sort.Walk0
set_option linter.unusedVariables false
set_option linter.unusedSimpArgs false
namespace Go.Proofs.Ytpjmjcjikaekiaa
open Go.RowKit

theorem toList_inj {a b : ByteArray} (h : a.toList = b.toList) : a = b := by
  rw [ByteArray.toList_eq, ByteArray.toList_eq] at h
  cases a; cases b
  simp at h
  exact congrArg _ h
theorem toList_ne {a b : ByteArray} (h : a ≠ b) : a.toList ≠ b.toList := fun e => h (toList_inj e)
abbrev ltN (a b : ByteArray) : Prop := Op.bytesLess a.toList b.toList = true
theorem ltN_iff {a b : ByteArray} : ltN a b ↔ a.toList < b.toList := by
  unfold ltN
  rw [bytesLess_eq]
  simp
theorem ltN_irrefl (a : ByteArray) : ¬ ltN a a := by rw [ltN_iff]; exact List.lt_irrefl _
theorem ltN_trans {a b c : ByteArray} (h : ltN a b) (k : ltN b c) : ltN a c := by rw [ltN_iff] at *; exact List.lt_trans h k
theorem ltN_total {a b : ByteArray} (h : a ≠ b) : ltN a b ∨ ltN b a := by
  rw [ltN_iff, ltN_iff]
  rcases Classical.em (a.toList < b.toList) with h1 | h1
  · exact .inl h1
  · rcases Classical.em (b.toList < a.toList) with h2 | h2
    · exact .inr h2
    · exact absurd (toList_inj (List.le_antisymm (List.not_lt.1 h2) (List.not_lt.1 h1))) h
/-- entries by their names, no name twice -/
def SortE (l : List Ent) : Prop := l.Pairwise (fun x y => ltN x.1 y.1)
theorem SortE.nil_ : SortE [] := List.Pairwise.nil
theorem SortE.ne {l : List Ent} (h : SortE l) : l.Pairwise (fun x y => x.1 ≠ y.1) := h.imp (by intro a b hl e; rw [e] at hl; exact ltN_irrefl _ hl)
theorem SortE.nodup {l : List Ent} (h : SortE l) : l.Nodup := h.ne.imp (by intro a b hn e; exact hn (by rw [e]))
theorem SortE.one {l : List Ent} (h : SortE l) {n : ByteArray} {i j : Nat} (hi : (n, i) ∈ l) (hj : (n, j) ∈ l) : i = j := by
  induction l with
  | nil => simp at hi
  | cons x r ih =>
    obtain ⟨h1, h2⟩ := List.pairwise_cons.1 h
    rcases List.mem_cons.1 hi with e | hi'
    · rcases List.mem_cons.1 hj with e' | hj'
      · rw [← e'] at e; simpa using e
      · exact absurd (h1 _ hj') (by rw [← e]; exact ltN_irrefl _)
    · rcases List.mem_cons.1 hj with e' | hj'
      · exact absurd (h1 _ hi') (by rw [← e']; exact ltN_irrefl _)
      · exact ih h2 hi' hj'
theorem sortE_ext {l m : List Ent} (hl : SortE l) (hm : SortE m) (h : ∀ x, x ∈ l ↔ x ∈ m) : l = m :=
  List.Perm.eq_of_pairwise (le := fun x y : Ent => ltN x.1 y.1) (fun a b _ _ h1 h2 => absurd (ltN_trans h1 h2) (ltN_irrefl _)) hl hm ((List.perm_ext_iff_of_nodup hl.nodup hm.nodup).2 h)
theorem findL_mem {l : List Ent} {n : ByteArray} {i : Nat} (h : findL l n = some i) : (n, i) ∈ l := by
  unfold findL at h
  obtain ⟨x, hx, rfl⟩ := Option.map_eq_some_iff.1 h
  have h1 := List.find?_some hx
  have h2 := List.mem_of_find?_eq_some hx
  have h3 : x.1 = n := toList_inj (by simpa using h1)
  subst h3
  exact h2
theorem findL_iff {l : List Ent} (h : SortE l) {n : ByteArray} {i : Nat} : findL l n = some i ↔ (n, i) ∈ l := by
  refine ⟨findL_mem, fun hm => ?_⟩
  cases hf : findL l n with
  | none =>
    unfold findL at hf
    rw [Option.map_eq_none_iff, List.find?_eq_none] at hf
    exact absurd (by simp) (hf _ hm)
  | some j => rw [h.one hm (findL_mem hf)]
theorem findL_none {l : List Ent} {n : ByteArray} : findL l n = none ↔ ∀ x ∈ l, x.1 ≠ n := by
  unfold findL
  rw [Option.map_eq_none_iff, List.find?_eq_none]
  exact ⟨fun h x hx e => h x hx (by simp [e]), fun h x hx e => h x hx (toList_inj (by simpa using e))⟩
theorem mem_withoutL {l : List Ent} {n : ByteArray} {x : Ent} : x ∈ withoutL l n ↔ x ∈ l ∧ x.1 ≠ n := by
  unfold withoutL
  rw [List.mem_filter]
  refine ⟨fun h => ⟨h.1, fun e => ?_⟩, fun h => ⟨h.1, ?_⟩⟩
  · have := h.2; rw [e] at this; simp at this
  · simpa using toList_ne h.2
theorem sortE_without {l : List Ent} (h : SortE l) (n : ByteArray) : SortE (withoutL l n) := List.Pairwise.filter _ h
/-- the entry at its place -/
def insL (n : ByteArray) (i : Nat) : List Ent → List Ent
  | [] => [(n, i)]
  | x :: r => if Op.bytesLess n.toList x.1.toList then (n, i) :: x :: r else x :: insL n i r
theorem prefW_true (n : ByteArray) (i : Nat) : ∀ (m acc : List Ent), m.foldl (stepW n i) (acc, true) = (acc ++ m, true)
  | [], acc => by simp
  | x :: r, acc => by
    rw [List.foldl_cons, show stepW n i (acc, true) x = (acc ++ [x], true) by simp [stepW], prefW_true n i r]
    simp
theorem prefW_insL (n : ByteArray) (i : Nat) : ∀ (m acc : List Ent), (let r := m.foldl (stepW n i) (acc, false); if r.2 then r.1 else r.1 ++ [(n, i)]) = acc ++ insL n i m
  | [], acc => by simp [insL]
  | x :: r, acc => by
    rw [List.foldl_cons]
    cases hb : Op.bytesLess n.toList x.1.toList
    · rw [show stepW n i (acc, false) x = (acc ++ [x], false) by simp [stepW, hb], prefW_insL n i r]
      simp [insL, hb]
    · rw [show stepW n i (acc, false) x = (acc ++ [(n, i)] ++ [x], true) by simp [stepW, hb], prefW_true]
      simp [insL, hb]
theorem withL_eq (l : List Ent) (n : ByteArray) (i : Nat) : withL l n i = insL n i (withoutL l n) := by
  have := prefW_insL n i (withoutL l n) []
  rw [List.nil_append] at this
  exact this
theorem mem_insL {n : ByteArray} {i : Nat} {x : Ent} : ∀ {m : List Ent}, x ∈ insL n i m ↔ x = (n, i) ∨ x ∈ m
  | [] => by simp [insL]
  | y :: r => by
    unfold insL
    split
    · simp
    · rw [List.mem_cons, mem_insL, List.mem_cons]
      constructor
      · rintro (h | h | h)
        · exact .inr (.inl h)
        · exact .inl h
        · exact .inr (.inr h)
      · rintro (h | h | h)
        · exact .inr (.inl h)
        · exact .inl h
        · exact .inr (.inr h)
theorem sortE_insL {n : ByteArray} {i : Nat} : ∀ {m : List Ent}, SortE m → (∀ x ∈ m, x.1 ≠ n) → SortE (insL n i m)
  | [], _, _ => List.pairwise_singleton _ _
  | y :: r, h, hn => by
    obtain ⟨h1, h2⟩ := List.pairwise_cons.1 h
    unfold insL
    split
    · rename_i hl
      refine List.pairwise_cons.2 ⟨fun z hz => ?_, h⟩
      rcases List.mem_cons.1 hz with e | hz
      · rw [e]; exact hl
      · exact ltN_trans hl (h1 z hz)
    · rename_i hl
      refine List.pairwise_cons.2 ⟨fun z hz => ?_, sortE_insL h2 (fun x hx => hn x (by simp [hx]))⟩
      rcases mem_insL.1 hz with e | hz
      · rw [e]
        rcases ltN_total (hn y (by simp)) with h3 | h3
        · exact h3
        · exact absurd h3 hl
      · exact h1 z hz
theorem mem_withL {l : List Ent} {n : ByteArray} {i : Nat} {x : Ent} : x ∈ withL l n i ↔ x = (n, i) ∨ (x ∈ l ∧ x.1 ≠ n) := by
  rw [withL_eq, mem_insL, mem_withoutL]
theorem sortE_with {l : List Ent} (h : SortE l) (n : ByteArray) (i : Nat) : SortE (withL l n i) := by
  rw [withL_eq]
  exact sortE_insL (sortE_without h n) (fun x hx => (mem_withoutL.1 hx).2)
theorem findL_with_same {l : List Ent} (h : SortE l) (n : ByteArray) (i : Nat) : findL (withL l n i) n = some i := (findL_iff (sortE_with h n i)).2 (mem_withL.2 (.inl rfl))
theorem findL_ext {l m : List Ent} (hl : SortE l) (hm : SortE m) {n k : ByteArray} (h : ∀ i, (n, i) ∈ l ↔ (k, i) ∈ m) : findL l n = findL m k := by
  cases hf : findL m k with
  | none => exact findL_none.2 (fun x hx e => by
      subst e
      exact (findL_none.1 hf) _ ((h x.2).1 hx) rfl)
  | some j => exact (findL_iff hl).2 ((h j).2 (findL_mem hf))
theorem findL_with_other {l : List Ent} (h : SortE l) {n k : ByteArray} (i : Nat) (hne : k ≠ n) : findL (withL l n i) k = findL l k :=
  findL_ext (sortE_with h n i) h (fun j => by rw [mem_withL]; simp [hne])
theorem findL_without_same {l : List Ent} (n : ByteArray) : findL (withoutL l n) n = none := findL_none.2 (fun x hx => (mem_withoutL.1 hx).2)
theorem findL_without_other {l : List Ent} (h : SortE l) {n k : ByteArray} (hne : k ≠ n) : findL (withoutL l n) k = findL l k :=
  findL_ext (sortE_without h n) h (fun j => by rw [mem_withoutL]; simp [hne])
theorem insL_length (n : ByteArray) (i : Nat) : ∀ m : List Ent, (insL n i m).length = m.length + 1
  | [] => rfl
  | x :: r => by
    unfold insL
    split
    · simp
    · simp [insL_length n i r]
theorem withL_length (l : List Ent) (n : ByteArray) (i : Nat) : (withL l n i).length ≤ l.length + 1 := by
  rw [withL_eq, insL_length]
  have := withoutL_length l n
  omega

/-- a loose deed -/
inductive Dd where
  | mk (n : ByteArray) (i : Nat)
  | mv (a b : ByteArray)
  | rm (n : ByteArray)
def Dd.app : Dd → List Ent → List Ent
  | .mk n i, s => withL s n i
  | .mv a b, s => withoutL (withL s b ((findL s a).getD 0)) a
  | .rm n, s => withoutL s n
def Dd.Ok : Dd → Prop
  | .mk n i => n.size ≤ 1000 ∧ i < 1000000000
  | .mv a b => a.size ≤ 1000 ∧ b.size ≤ 1000
  | .rm n => n.size ≤ 1000
def doAll (s : List Ent) (ds : List Dd) : List Ent := ds.foldl (fun s d => d.app s) s
theorem doAll_add (s : List Ent) (ds : List Dd) (d : Dd) : doAll s (ds ++ [d]) = d.app (doAll s ds) := by simp [doAll]
theorem doAll_next {s : List Ent} {ds : List Dd} {j : Nat} {d : Dd} (h : ds[j]? = some d) : doAll s (ds.take (j + 1)) = d.app (doAll s (ds.take j)) := by
  rw [List.take_add_one, h]
  exact doAll_add _ _ _
/-- entries that may be -/
def OkE (l : List Ent) : Prop := SortE l ∧ ∀ x ∈ l, x.1.size ≤ 1000 ∧ x.2 < 1000000000
theorem OkE.nil_ : OkE [] := ⟨SortE.nil_, by simp⟩
theorem Dd.app_ok {d : Dd} (h : d.Ok) {s : List Ent} (hs : OkE s) : OkE (d.app s) := by
  cases d with
  | mk n i => exact ⟨sortE_with hs.1 _ _, fun x hx => by
      rcases mem_withL.1 hx with rfl | h1
      · exact h
      · exact hs.2 x h1.1⟩
  | mv a b => exact ⟨sortE_without (sortE_with hs.1 _ _) _, fun x hx => by
      rcases mem_withL.1 (mem_withoutL.1 hx).1 with rfl | h1
      · refine ⟨h.2, ?_⟩
        cases hf : findL s a with
        | none => simp
        | some i => exact (hs.2 _ (findL_mem hf)).2
      · exact hs.2 x h1.1⟩
  | rm n => exact ⟨sortE_without hs.1 _, fun x hx => hs.2 x (mem_withoutL.1 hx).1⟩
theorem Dd.app_length (d : Dd) (s : List Ent) : (d.app s).length ≤ s.length + 1 := by
  cases d with
  | mk n i => exact withL_length s n i
  | mv a b => exact Nat.le_trans (withoutL_length _ _) (withL_length s b _)
  | rm n => exact Nat.le_succ_of_le (withoutL_length s n)
theorem doAll_ok {s : List Ent} (hs : OkE s) : ∀ {ds : List Dd}, (∀ d ∈ ds, d.Ok) → OkE (doAll s ds) := by
  intro ds
  induction ds generalizing s with
  | nil => intro _; exact hs
  | cons d r ih => intro h; exact ih (Dd.app_ok (h d (by simp)) hs) (fun x hx => h x (by simp [hx]))
theorem doAll_length : ∀ (ds : List Dd) (s : List Ent), (doAll s ds).length ≤ s.length + ds.length
  | [], s => by simp [doAll]
  | d :: r, s => by
    have h1 := doAll_length r (d.app s)
    have h2 := d.app_length s
    show (doAll (d.app s) r).length ≤ _
    simp only [List.length_cons]
    omega
theorem findL_app {d : Dd} {s : List Ent} (hs : SortE s) (k : ByteArray) : findL (d.app s) k = match d with
    | .mk n i => if k = n then some i else findL s k
    | .mv a b => if k = a then none else if k = b then some ((findL s a).getD 0) else findL s k
    | .rm n => if k = n then none else findL s k := by
  cases d with
  | mk n i =>
    simp only [Dd.app]
    split
    · rename_i e; rw [e, findL_with_same hs]
    · rename_i e; rw [findL_with_other hs _ e]
  | mv a b =>
    simp only [Dd.app]
    split
    · rename_i e; rw [e, findL_without_same]
    · rename_i e
      rw [findL_without_other (sortE_with hs _ _) e]
      split
      · rename_i e2; rw [e2, findL_with_same hs]
      · rename_i e2; rw [findL_with_other hs _ e2]
  | rm n =>
    simp only [Dd.app]
    split
    · rename_i e; rw [e, findL_without_same]
    · rename_i e; rw [findL_without_other hs e]
/-- a folder's state: what is safe, what is loose, the last inode, the last one that was settled -/
structure PSt where
  safe : List Ent
  deeds : List Dd
  last : Nat
  settled : Nat
def PSt.now (s : PSt) : List Ent := doAll s.safe s.deeds
structure PSt.Ok (s : PSt) : Prop where
  safe : OkE s.safe
  deeds : ∀ d ∈ s.deeds, d.Ok
  last : s.last < 100000000
  settled : s.settled ≤ s.last
  few : s.safe.length + s.deeds.length ≤ 100000
theorem PSt.Ok.now {s : PSt} (h : s.Ok) : OkE s.now := doAll_ok h.safe h.deeds
theorem PSt.Ok.now_length {s : PSt} (h : s.Ok) : s.now.length ≤ 100000 := Nat.le_trans (doAll_length _ _) h.few
def PSt.new : PSt := ⟨[], [], 0, 0⟩
theorem PSt.new_ok : PSt.new.Ok := ⟨OkE.nil_, by simp [PSt.new], by simp [PSt.new], by simp [PSt.new], by simp [PSt.new]⟩
/-- what the first k deeds make is safe, the others are dropped -/
def PSt.settle (s : PSt) (k : Nat) : PSt := ⟨doAll s.safe (s.deeds.take k), [], s.last, s.last⟩
theorem PSt.settle_ok {s : PSt} (h : s.Ok) (k : Nat) : (s.settle k).Ok := by
  refine ⟨doAll_ok h.safe (fun d hd => h.deeds d (List.mem_of_mem_take hd)), by simp [PSt.settle], h.last, Nat.le_refl _, ?_⟩
  have h1 := doAll_length (s.deeds.take k) s.safe
  have h2 := h.few
  have h3 : (s.deeds.take k).length ≤ s.deeds.length := by rw [List.length_take]; omega
  simp only [PSt.settle, List.length_nil]
  omega
/-- one deed more -/
def PSt.push (s : PSt) (d : Dd) : PSt := { s with deeds := s.deeds ++ [d] }
theorem PSt.push_now (s : PSt) (d : Dd) : (s.push d).now = d.app s.now := doAll_add _ _ _
theorem PSt.push_ok {s : PSt} (h : s.Ok) {d : Dd} (hd : d.Ok) (hf : s.safe.length + s.deeds.length < 100000) : (s.push d).Ok :=
  ⟨h.safe, fun x hx => by
    rcases List.mem_append.1 hx with h1 | h1
    · exact h.deeds x h1
    · simp at h1; subst h1; exact hd, h.last, h.settled, by simp [PSt.push]; omega⟩
end Go.Proofs.Ytpjmjcjikaekiaa
