
/-
  Layer 6: inodes: which a folder's names lead to, and which are live.
-/
import Derived.Test.YtboeiadfmknidaaGreatHxDoes
import Derived.Test.YtboeiadfmknidaaGreatSxSort
set_option linter.unusedVariables false
set_option linter.unusedSimpArgs false
namespace Go.Proofs.YtboeiadfmknidaaGreat
open Go.RowKit Go.Maps

/-- entries that may be, at inodes from 1 to L, no two at one -/
def Good (L : Nat) (s : List Ent) : Prop := (∀ x ∈ s, mayN x.1 = true ∧ 1 ≤ x.2 ∧ x.2 ≤ L) ∧ ∀ x ∈ s, ∀ y ∈ s, x.2 = y.2 → x = y
theorem Good.nil_ (L : Nat) : Good L [] := ⟨fun _ h => absurd h (by simp), fun _ h => absurd h (by simp)⟩
theorem Good.mono {L L' : Nat} {s : List Ent} (h : Good L s) (hl : L ≤ L') : Good L' s := ⟨fun x hx => ⟨(h.1 x hx).1, (h.1 x hx).2.1, Nat.le_trans (h.1 x hx).2.2 hl⟩, h.2⟩
theorem Good.mk_ {L : Nat} {s : List Ent} (h : Good L s) {n : ByteArray} (hn : mayN n = true) : Good (L + 1) (withL s n (L + 1)) := by
  refine ⟨fun x hx => ?_, fun x hx y hy e => ?_⟩
  · rcases mem_withL.1 hx with rfl | ⟨h1, _⟩
    · exact ⟨hn, by simp, Nat.le_refl _⟩
    · exact (h.mono (Nat.le_succ L)).1 x h1
  · rcases mem_withL.1 hx with rfl | ⟨h1, _⟩
    · rcases mem_withL.1 hy with rfl | ⟨h2, _⟩
      · rfl
      · have h3 := (h.1 y h2).2.2
        simp only at e
        omega
    · rcases mem_withL.1 hy with rfl | ⟨h2, _⟩
      · have h3 := (h.1 x h1).2.2
        simp only at e
        omega
      · exact h.2 x h1 y h2 e
theorem Good.rm {L : Nat} {s : List Ent} (h : Good L s) (n : ByteArray) : Good L (withoutL s n) :=
  ⟨fun x hx => h.1 x (mem_withoutL.1 hx).1, fun x hx y hy e => h.2 x (mem_withoutL.1 hx).1 y (mem_withoutL.1 hy).1 e⟩
theorem Good.mv {L : Nat} {s : List Ent} (h : Good L s) {a b : ByteArray} {i : Nat} (ha : (a, i) ∈ s) (hb : mayN b = true) : Good L (withoutL (withL s b i) a) := by
  refine ⟨fun x hx => ?_, fun x hx y hy e => ?_⟩
  · rcases mem_withL.1 (mem_withoutL.1 hx).1 with rfl | ⟨h1, _⟩
    · exact ⟨hb, (h.1 _ ha).2⟩
    · exact h.1 x h1
  · obtain ⟨hx1, hx2⟩ := mem_withoutL.1 hx
    obtain ⟨hy1, hy2⟩ := mem_withoutL.1 hy
    rcases mem_withL.1 hx1 with rfl | ⟨h1, _⟩
    · rcases mem_withL.1 hy1 with rfl | ⟨h2, _⟩
      · rfl
      · have := h.2 _ ha y h2 e
        subst this
        exact absurd rfl hy2
    · rcases mem_withL.1 hy1 with rfl | ⟨h2, _⟩
      · have := h.2 x h1 _ ha e
        subst this
        exact absurd rfl hx2
      · exact h.2 x h1 y h2 e
/-- what stands behind k deeds -/
def PSt.at_ (s : PSt) (k : Nat) : List Ent := doAll s.safe (s.deeds.take k)
theorem PSt.at_all (s : PSt) : s.at_ s.deeds.length = s.now := by unfold PSt.at_ PSt.now; rw [List.take_of_length_le (Nat.le_refl _)]
theorem PSt.at_zero (s : PSt) : s.at_ 0 = s.safe := by unfold PSt.at_; simp [doAll]
theorem PSt.at_push {s : PSt} {d : Dd} {k : Nat} (hk : k ≤ s.deeds.length) : (s.push d).at_ k = s.at_ k := by unfold PSt.at_ PSt.push; rw [List.take_append_of_le_length hk]
theorem PSt.at_push_all (s : PSt) (d : Dd) : (s.push d).at_ (s.deeds.length + 1) = d.app s.now := by
  have h := (s.push d).at_all
  rw [show (s.push d).deeds.length = s.deeds.length + 1 by simp [PSt.push]] at h
  rw [h, PSt.push_now]
/-- an inode that was there at the safe state, or that was made since -/
def Old (s : PSt) (i : Nat) : Prop := (∃ y ∈ s.safe, y.2 = i) ∨ s.settled < i
structure GInv (s : PSt) : Prop where
  safe : Good s.settled s.safe
  pre : ∀ k, k ≤ s.deeds.length → Good s.last (s.at_ k)
  old : ∀ k, k ≤ s.deeds.length → ∀ x ∈ s.at_ k, Old s x.2
theorem GInv.new : GInv PSt.new := ⟨Good.nil_ _, fun k _ => by unfold PSt.at_ PSt.new; simp [doAll]; exact Good.nil_ _, fun k _ x hx => by unfold PSt.at_ PSt.new at hx; simp [doAll] at hx⟩
section
variable {s : PSt}
theorem GInv.now (h : GInv s) : Good s.last s.now := by rw [← s.at_all]; exact h.pre _ (Nat.le_refl _)
theorem GInv.now_old (h : GInv s) : ∀ x ∈ s.now, Old s x.2 := by rw [← s.at_all]; exact h.old _ (Nat.le_refl _)
theorem GInv.push (h : GInv s) {d : Dd} (h1 : Good s.last (d.app s.now)) (h2 : ∀ x ∈ d.app s.now, Old s x.2) : GInv (s.push d) := by
  refine ⟨h.safe, fun k hk => ?_, fun k hk x hx => ?_⟩
  · by_cases e : k ≤ s.deeds.length
    · rw [PSt.at_push e]; exact h.pre k e
    · have e2 : k = s.deeds.length + 1 := by simp [PSt.push] at hk; omega
      subst e2
      rw [PSt.at_push_all]
      exact h1
  · by_cases e : k ≤ s.deeds.length
    · rw [PSt.at_push e] at hx; exact h.old k e x hx
    · have e2 : k = s.deeds.length + 1 := by simp [PSt.push] at hk; omega
      subst e2
      rw [PSt.at_push_all] at hx
      exact h2 x hx
theorem GInv.settle (h : GInv s) {k : Nat} (hk : k ≤ s.deeds.length) : GInv (s.settle k) := by
  have h1 := h.pre k hk
  refine ⟨h1, fun j hj => ?_, fun j hj x hx => ?_⟩
  · have : j = 0 := by simp [PSt.settle] at hj; omega
    subst this
    rw [PSt.at_zero]
    exact h1
  · have : j = 0 := by simp [PSt.settle] at hj; omega
    subst this
    rw [PSt.at_zero] at hx
    exact .inl ⟨x, hx, rfl⟩
theorem GInv.made (h : GInv s) (hs : s.settled ≤ s.last) {n : ByteArray} (hn : mayN n = true) : GInv (s.made n) := by
  have h0 : GInv { s with last := s.last + 1 } := ⟨h.safe, fun k hk => (h.pre k hk).mono (Nat.le_succ _), h.old⟩
  refine h0.push (h.now.mk_ hn) (fun x hx => ?_)
  rcases mem_withL.1 hx with rfl | ⟨h1, _⟩
  · exact .inr (Nat.lt_succ_of_le hs)
  · exact h.now_old x h1
theorem GInv.doP (h : GInv s) (ho : s.Ok) (c : Call6) : GInv (doP s c).2.2 := by
  rcases doP_cases s c with e | ⟨e, _, _, hn, _⟩ | ⟨e, _, _, ha, hb, hf, hne⟩ | ⟨e, _⟩ | ⟨k, hk, e, _⟩
  · rw [e]; exact h
  · rw [e]; exact h.made ho.settled hn
  · rw [e]
    obtain ⟨i, hi⟩ := Option.isSome_iff_exists.1 hf
    have hm := findL_mem hi
    have e2 : (Dd.mv c.name c.to).app s.now = withoutL (withL s.now c.to i) c.name := by simp [Dd.app, hi]
    refine h.push (by rw [e2]; exact h.now.mv hm hb) (fun x hx => ?_)
    rw [e2] at hx
    rcases mem_withL.1 (mem_withoutL.1 hx).1 with rfl | ⟨h1, _⟩
    · exact h.now_old (c.name, i) hm
    · exact h.now_old x h1
  · rw [e]; exact h.push (h.now.rm _) (fun x hx => h.now_old x (mem_withoutL.1 hx).1)
  · rw [e]; exact h.settle hk
/-- what Live tells -/
def PSt.live (s : PSt) : List Nat := liveP (inosL s.safe) s.settled s.last
theorem mem_live (hs : s.settled ≤ s.last) {i : Nat} : i ∈ s.live ↔ (∃ y ∈ s.safe, y.2 = i) ∨ (s.settled < i ∧ i ≤ s.last) := by
  unfold PSt.live liveP
  rw [List.mem_append, (inosL_perm s.safe).mem_iff, List.mem_map, List.mem_range'_1]
  constructor
  · rintro (h | h)
    · exact .inl h
    · exact .inr (by omega)
  · rintro (h | h)
    · exact .inl h
    · exact .inr (by omega)
theorem GInv.live_le (h : GInv s) (hs : s.settled ≤ s.last) : ∀ i ∈ s.live, 1 ≤ i ∧ i ≤ s.last := fun i hi => by
  rcases (mem_live hs).1 hi with ⟨y, hy, rfl⟩ | h1
  · have := (h.safe.1 y hy).2; omega
  · omega
theorem GInv.live_now (h : GInv s) (hs : s.settled ≤ s.last) : ∀ x ∈ s.now, x.2 ∈ s.live := fun x hx => by
  rcases h.now_old x hx with h1 | h1
  · exact (mem_live hs).2 (.inl h1)
  · exact (mem_live hs).2 (.inr ⟨h1, (h.now.1 x hx).2.2⟩)
theorem GInv.live_lt (h : GInv s) (ho : s.Ok) : s.live.Pairwise (· < ·) := by
  unfold PSt.live liveP
  refine List.pairwise_append.2 ⟨?_, List.pairwise_lt_range' , fun a ha b hb => ?_⟩
  · have hnd : (inosL s.safe).Nodup := by
      refine (inosL_perm s.safe).nodup_iff.2 ?_
      exact List.pairwise_map.2 (ho.safe.1.nodup.imp_of_mem (fun {a b} ha hb hn e => hn (h.safe.2 a ha b hb e)))
    exact List.Pairwise.imp₂ (fun a b h1 h2 => Nat.lt_of_le_of_ne h1 h2) (inosL_le s.safe) hnd
  · obtain ⟨y, hy, rfl⟩ := List.mem_map.1 ((inosL_perm s.safe).mem_iff.1 ha)
    have h1 := (h.safe.1 y hy).2.2
    have h2 := (List.mem_range'_1.1 hb).1
    omega
theorem live_length (s : PSt) : s.live.length = s.safe.length + (s.last - s.settled) := by
  unfold PSt.live liveP
  rw [List.length_append, (inosL_perm s.safe).length_eq]
  simp
theorem told_make {c : Call6} (hw : 0 ≤ c.what ∧ c.what ≤ 2) : ((doP s c).2.1 = 0 ∧ (doP s c).1 = s.last + 1 ∧ (doP s c).2.2.last = s.last + 1) ∨ ((doP s c).2.1 ≠ 0 ∧ (doP s c).1 = 0 ∧ (doP s c).2.2.last = s.last) := by
  have e : doP s c = createP s c.name := by unfold Go.Proofs.YtboeiadfmknidaaGreat.doP; rw [if_pos (by omega)]
  rw [e]
  unfold createP
  split
  · exact .inr ⟨by simp, rfl, rfl⟩
  · split
    · exact .inr ⟨by simp, rfl, rfl⟩
    · split
      · exact .inr ⟨by simp, rfl, rfl⟩
      · exact .inl ⟨rfl, rfl, rfl⟩
theorem told_mv (ho : s.Ok) {c : Call6} (hw : c.what = 3) : (doP s c).1 = 0 ∧ (doP s c).2.2.last = s.last ∧ ((doP s c).2.1 = 0 → (findL s.now c.name).isSome = true ∧ findL (doP s c).2.2.now c.to = findL s.now c.name ∧ (findL (doP s c).2.2.now c.name).isSome = (c.name.toList == c.to.toList)) := by
  have e : doP s c = (0, (renameP s c.name c.to).1, (renameP s c.name c.to).2) := by unfold Go.Proofs.YtboeiadfmknidaaGreat.doP; rw [if_neg (by omega), if_pos hw]
  rw [e]
  unfold renameP
  split
  · exact ⟨rfl, rfl, fun h => by simp at h⟩
  · split
    · exact ⟨rfl, rfl, fun h => by simp at h⟩
    · rename_i h2
      have h3 : (findL s.now c.name).isSome = true := by cases h : (findL s.now c.name).isSome; exact absurd h h2; rfl
      split
      · rename_i h4
        have h5 : c.name = c.to := toList_inj (by simpa using h4)
        exact ⟨rfl, rfl, fun _ => ⟨h3, by rw [h5], by rw [h4]; exact h3⟩⟩
      · rename_i h4
        have h5 : c.to ≠ c.name := fun e => h4 (by rw [e]; simp)
        refine ⟨rfl, rfl, fun _ => ⟨h3, ?_, ?_⟩⟩
        · simp only
          rw [PSt.push_now, findL_app ho.now.1]
          simp only [h5, if_false, if_true]
          obtain ⟨i, hi⟩ := Option.isSome_iff_exists.1 h3
          rw [hi]
          rfl
        · simp only
          rw [PSt.push_now, findL_app ho.now.1]
          simp only [if_true]
          simp [h4]
theorem told_rm (ho : s.Ok) {c : Call6} (hw : c.what = 4) : (doP s c).1 = 0 ∧ (doP s c).2.2.last = s.last ∧ ((doP s c).2.1 = 0 → (findL s.now c.name).isSome = true ∧ (findL (doP s c).2.2.now c.name).isSome = false) := by
  have e : doP s c = (0, (removeP s c.name).1, (removeP s c.name).2) := by unfold Go.Proofs.YtboeiadfmknidaaGreat.doP; rw [if_neg (by omega), if_neg (by omega), if_pos hw]
  rw [e]
  unfold removeP
  split
  · exact ⟨rfl, rfl, fun h => by simp at h⟩
  · split
    · rename_i h3
      refine ⟨rfl, rfl, fun _ => ⟨h3, ?_⟩⟩
      simp only
      rw [PSt.push_now, findL_app ho.now.1]
      simp
    · exact ⟨rfl, rfl, fun h => by simp at h⟩
theorem told_else {c : Call6} (hw : ¬ (0 ≤ c.what ∧ c.what ≤ 4)) : (doP s c).2.2.last = s.last := by
  unfold Go.Proofs.YtboeiadfmknidaaGreat.doP
  rw [if_neg (by omega), if_neg (by omega), if_neg (by omega)]
  split
  · rfl
  · split <;> rfl
end
end Go.Proofs.YtboeiadfmknidaaGreat
