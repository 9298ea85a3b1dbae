
/-
  Layer 6: a call of the laws on the program's folder ('does').
-/
import Derived.Test.YtboeiadfmknidaaGreatHxNames
import Derived.Test.YtboeiadfmknidaaGreatArgsC
set_option linter.unusedVariables false
set_option linter.unusedSimpArgs false
namespace Go.Proofs.YtboeiadfmknidaaGreat
open Go.RowKit Go.Maps

/-- what a call tells and makes of the program's folder -/
def doP (s : PSt) (c : Call6) : Nat × Nat × PSt :=
  if c.what = 0 ∨ c.what = 1 ∨ c.what = 2 then createP s c.name
  else if c.what = 3 then (0, (renameP s c.name c.to).1, (renameP s c.name c.to).2)
  else if c.what = 4 then (0, (removeP s c.name).1, (removeP s c.name).2)
  else if c.what = 5 then (0, 0, s.settle s.deeds.length)
  else if c.what = 6 then (0, 0, s.settle (keepN c.keep s.deeds.length))
  else (0, 0, s)
theorem HMut.after_b {w w1 w' : World} {X : Nat} {M R : Nat → Prop} {s : PSt} (hb : Below w.heap.size w w1) (h : HMut w1 w' X M R s) : HMut w w' X M R s := by
  obtain ⟨M', R', h1, h2, h3, h4⟩ := h
  have hs := hb.size
  exact ⟨M', R', h1, (Chg.of_below (M := M) hb).trans h2 (fun i hi => .inl hi), fun i hi => (h3 i hi).imp id (fun e => by omega), fun i hi => (h4 i hi).imp id (fun e => by omega)⟩
section
variable {w : World} {X : Nat} {M R : Nat → Prop} {s : PSt}
end
end Go.Proofs.YtboeiadfmknidaaGreat

/-
  Layer 6: what a folder's state keeps, call by call, and a folder in new memory.
-/
set_option linter.unusedVariables false
set_option linter.unusedSimpArgs false
namespace Go.Proofs.YtboeiadfmknidaaGreat
open Go.RowKit Go.Maps

/-- how many names and deeds there are at most -/
def PSt.big (s : PSt) : Nat := s.safe.length + s.deeds.length
theorem settle_big (s : PSt) (k : Nat) : (s.settle k).big ≤ s.big := by
  have h1 := doAll_length (s.deeds.take k) s.safe
  have h3 : (s.deeds.take k).length ≤ s.deeds.length := by rw [List.length_take]; omega
  simp only [PSt.big, PSt.settle, List.length_nil]
  omega
theorem push_big (s : PSt) (d : Dd) : (s.push d).big = s.big + 1 := by simp [PSt.big, PSt.push]; omega
/-- what a call may make of a state -/
theorem doP_cases (s : PSt) (c : Call6) : (doP s c).2.2 = s ∨ ((doP s c).2.2 = s.made c.name ∧ (0 ≤ c.what ∧ c.what ≤ 2) ∧ doP s c = (s.last + 1, 0, s.made c.name) ∧ mayN c.name = true ∧ findL s.now c.name = none ∧ s.now.length < 256) ∨
    ((doP s c).2.2 = s.push (.mv c.name c.to) ∧ c.what = 3 ∧ doP s c = (0, 0, s.push (.mv c.name c.to)) ∧ mayN c.name = true ∧ mayN c.to = true ∧ (findL s.now c.name).isSome = true ∧ c.name ≠ c.to) ∨
    ((doP s c).2.2 = s.push (.rm c.name) ∧ c.what = 4 ∧ doP s c = (0, 0, s.push (.rm c.name)) ∧ mayN c.name = true ∧ (findL s.now c.name).isSome = true) ∨
    (∃ k, k ≤ s.deeds.length ∧ (doP s c).2.2 = s.settle k ∧ doP s c = (0, 0, s.settle k) ∧ ((c.what = 5 ∧ k = s.deeds.length) ∨ (c.what = 6 ∧ k = keepN c.keep s.deeds.length))) := by
  unfold doP
  split
  · rename_i hw
    unfold createP
    split
    · exact .inl rfl
    · rename_i h1
      split
      · exact .inl rfl
      · rename_i h2
        split
        · exact .inl rfl
        · rename_i h3
          exact .inr (.inl ⟨rfl, by omega, rfl, by simpa using h1, by simpa using h2, by omega⟩)
  · split
    · rename_i hw
      unfold renameP
      split
      · exact .inl rfl
      · rename_i h1
        split
        · exact .inl rfl
        · rename_i h2
          split
          · exact .inl rfl
          · rename_i h3
            refine .inr (.inr (.inl ⟨rfl, hw, rfl, ?_, ?_, by cases h : (findL s.now c.name).isSome; exact absurd h h2; rfl, fun e => h3 (by rw [e]; simp)⟩))
            · cases h : mayN c.name
              · exact absurd (.inl h) h1
              · rfl
            · cases h : mayN c.to
              · exact absurd (.inr h) h1
              · rfl
    · split
      · rename_i hw
        unfold removeP
        split
        · exact .inl rfl
        · rename_i h1
          split
          · rename_i h2
            exact .inr (.inr (.inr (.inl ⟨rfl, hw, rfl, by simpa using h1, h2⟩)))
          · exact .inl rfl
      · split
        · rename_i hw
          exact .inr (.inr (.inr (.inr ⟨_, Nat.le_refl _, rfl, rfl, .inl ⟨hw, rfl⟩⟩)))
        · split
          · rename_i hw
            exact .inr (.inr (.inr (.inr ⟨_, by unfold keepN; omega, rfl, rfl, .inr ⟨hw, rfl⟩⟩)))
          · exact .inl rfl
theorem doP_big (s : PSt) (c : Call6) : (doP s c).2.2.big ≤ s.big + 1 ∧ (doP s c).2.2.last ≤ s.last + 1 := by
  rcases doP_cases s c with h | ⟨h, _⟩ | ⟨h, _⟩ | ⟨h, _⟩ | ⟨k, _, h, _⟩
  · rw [h]; omega
  · rw [h]
    refine ⟨?_, Nat.le_refl _⟩
    unfold PSt.made
    rw [push_big]
    exact Nat.le_refl _
  · rw [h, push_big]; exact ⟨Nat.le_refl _, Nat.le_succ _⟩
  · rw [h, push_big]; exact ⟨Nat.le_refl _, Nat.le_succ _⟩
  · rw [h]; exact ⟨Nat.le_succ_of_le (settle_big s k), Nat.le_succ _⟩
/-- a deed that says nothing of the name k -/
def Dd.shuns (k : ByteArray) : Dd → Prop
  | .mk n _ => k ≠ n
  | .mv a b => k ≠ a ∧ k ≠ b
  | .rm n => k ≠ n
theorem findL_shuns {d : Dd} {s : List Ent} {k : ByteArray} (hs : SortE s) (h : d.shuns k) : findL (d.app s) k = findL s k := by
  rw [findL_app hs]
  cases d with
  | mk n i => simp [show k ≠ n from h]
  | mv a b => simp [show k ≠ a from h.1, show k ≠ b from h.2]
  | rm n => simp [show k ≠ n from h]
theorem findL_doAll {k : ByteArray} : ∀ {ds : List Dd} {s : List Ent}, OkE s → (∀ d ∈ ds, d.Ok ∧ d.shuns k) → findL (doAll s ds) k = findL s k
  | [], s, _, _ => rfl
  | d :: r, s, hs, h => by
    have h1 := h d (by simp)
    exact (findL_doAll (Dd.app_ok h1.1 hs) (fun x hx => h x (by simp [hx]))).trans (findL_shuns hs.1 h1.2)
/-- the name k leads to r (or nowhere) in the safe state, and no loose deed says anything of it -/
def KInv (k : ByteArray) (r : Option Nat) (s : PSt) : Prop := findL s.safe k = r ∧ ∀ d ∈ s.deeds, d.shuns k
theorem KInv.now {k : ByteArray} {r : Option Nat} {s : PSt} (h : KInv k r s) (ho : s.Ok) : findL s.now k = r := (findL_doAll ho.safe (fun d hd => ⟨ho.deeds d hd, h.2 d hd⟩)).trans h.1
theorem KInv.settle {k : ByteArray} {r : Option Nat} {s : PSt} (h : KInv k r s) (ho : s.Ok) (n : Nat) : KInv k r (s.settle n) :=
  ⟨(findL_doAll ho.safe (fun d hd => ⟨ho.deeds d (List.mem_of_mem_take hd), h.2 d (List.mem_of_mem_take hd)⟩)).trans h.1, by simp [PSt.settle]⟩
theorem KInv.push {k : ByteArray} {r : Option Nat} {s : PSt} (h : KInv k r s) {d : Dd} (hd : d.shuns k) : KInv k r (s.push d) :=
  ⟨h.1, fun x hx => by
    rcases List.mem_append.1 hx with h1 | h1
    · exact h.2 x h1
    · simp at h1; subst h1; exact hd⟩
theorem KInv.doP {k : ByteArray} {r : Option Nat} {s : PSt} (h : KInv k r s) (ho : s.Ok) {c : Call6} (h1 : k ≠ c.name) (h2 : k ≠ c.to) : KInv k r (doP s c).2.2 := by
  rcases doP_cases s c with e | ⟨e, _⟩ | ⟨e, _⟩ | ⟨e, _⟩ | ⟨n, _, e, _⟩
  · rw [e]; exact h
  · rw [e]
    have h3 : KInv k r { s with last := s.last + 1 } := h
    exact h3.push h1
  · rw [e]; exact h.push ⟨h1, h2⟩
  · rw [e]; exact h.push h1
  · rw [e]; exact h.settle ho n
/-- a folder in memory that is new since w -/
structure HLive (w wk : World) (X : Nat) (M R : Nat → Prop) (s : PSt) : Prop where
  fol : HFolM wk X M R s
  below : Below w.heap.size w wk
  newM : ∀ i, M i → w.heap.size ≤ i
section
variable {w wk w' : World} {X : Nat} {M R : Nat → Prop} {s s' : PSt}
theorem HLive.ok (h : HLive w wk X M R s) : s.Ok := h.fol.ok
theorem HLive.on (h : HLive w wk X M R s) (hb : Below wk.heap.size wk w') : HLive w w' X M R s := ⟨h.fol.on hb, h.below.trans (hb.mono h.below.size), h.newM⟩
theorem HLive.mut (h : HLive w wk X M R s) (hm : HMut wk w' X M R s') : ∃ M' R', HLive w w' X M' R' s' ∧ Chg M wk w' ∧ (∀ i, M' i → M i ∨ wk.heap.size ≤ i) ∧ (∀ i, R' i → R i ∨ wk.heap.size ≤ i) := by
  obtain ⟨M', R', h1, h2, h3, h4⟩ := hm
  exact ⟨M', R', ⟨h1, h.below.trans (h2.below h.below.size h.newM), fun i hi => (h3 i hi).elim (h.newM i) (fun e => Nat.le_trans h.below.size e)⟩, h2, h3, h4⟩
/-- a call's cells, later -/
theorem Calls6.at_ {v : Value} {l : List Call6} (h : Calls6 w w.heap.size v l) (hb : Below w.heap.size w wk) {A : Option Addr} {n c : Nat} (hv : v = .slice A n c) {i : Nat} {a : Call6} (ha : l[i]? = some a) :
    ∃ b o, A = some ⟨b, o, none⟩ ∧ a.ok ∧ wk.cell? ⟨b, o + i * 4, none⟩ = some (.int .i64 a.what) ∧ wk.cell? ⟨b, o + i * 4 + 1, none⟩ = some (.string a.name) ∧ wk.cell? ⟨b, o + i * 4 + 2, none⟩ = some (.string a.to) ∧ wk.cell? ⟨b, o + i * 4 + 3, none⟩ = some (.int .i64 a.keep) := by
  obtain ⟨A', c', e, _, _, hok, h2⟩ := h
  obtain ⟨b, o, e2, hB, hc⟩ := h2 i a ha
  rw [hv] at e
  injection e with e _ _
  subst e
  have key : ∀ j u, a.cells[j]? = some u → wk.cell? ⟨b, o + i * 4 + j, none⟩ = some u := fun j u hu => (hb.cell (p := ⟨b, o + i * 4 + j, none⟩) hB).trans (hc j u hu)
  exact ⟨b, o, e2, hok a (List.mem_of_getElem? ha), key 0 _ rfl, key 1 _ rfl, key 2 _ rfl, key 3 _ rfl⟩
end
end Go.Proofs.YtboeiadfmknidaaGreat
