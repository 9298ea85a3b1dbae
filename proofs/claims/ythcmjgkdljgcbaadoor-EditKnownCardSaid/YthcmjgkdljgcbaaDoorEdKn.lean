
/-
  What the law EditKnown lists: edits that may be, and that may not.
-/
import Derived.Test.YthcmjgkdljgcbaaDoorEdWakes
import Derived.Test.YthcmjgkdljgcbaaDoorEdMay
import Derived.OpenShut
set_option linter.unusedVariables false
set_option linter.unusedSimpArgs false
namespace Go.Proofs.YthcmjgkdljgcbaaDoor.editKnown
open Go.RowKit

theorem Sls.lit (w : World) (l : List Ed.Sl) (a : Array Value) (e : TypeId) (h : a = (slVs l).toArray) : Sls (w.alloc (.cells a e)) (w.heap.size + 1) (.slice (some ⟨w.heap.size, 0, none⟩) l.length l.length) l := by
  refine ⟨_, _, rfl, Nat.le_refl _, fun _ => ⟨w.heap.size, 0, rfl, by omega, fun j u hu => ?_⟩⟩
  have := (Bx.new w a e (slVs l) h).cell j u hu
  simpa using this
/-- the cells at block g are these edits -/
def EdsAt (w : World) (B g : Nat) (l : List Ed.E) : Prop := ∀ (i : Nat) e, l[i]? = some e → ∃ sv, w.cell? ⟨g, i * 5, none⟩ = some (.int .i64 e.kind) ∧ w.cell? ⟨g, i * 5 + 1, none⟩ = some (.string e.name) ∧ w.cell? ⟨g, i * 5 + 2, none⟩ = some (.int .u64 e.seq) ∧
  w.cell? ⟨g, i * 5 + 3, none⟩ = some (.int .u32 e.id) ∧ w.cell? ⟨g, i * 5 + 4, none⟩ = some sv ∧ Sls w B sv e.seals
theorem EdsAt.below {w w' : World} {B g C : Nat} {l : List Ed.E} (h : EdsAt w B g l) (hb : Below C w w') (hg : g < C) (hB : B ≤ C) : EdsAt w' B g l := fun i e hi => by
  obtain ⟨sv, h0, h1, h2, h3, h4, h5⟩ := h i e hi
  exact ⟨sv, (hb.cell (p := ⟨g, _, none⟩) hg).trans h0, (hb.cell (p := ⟨g, _, none⟩) hg).trans h1, (hb.cell (p := ⟨g, _, none⟩) hg).trans h2, (hb.cell (p := ⟨g, _, none⟩) hg).trans h3, (hb.cell (p := ⟨g, _, none⟩) hg).trans h4, h5.below hb hB⟩
def goods (S : ByteArray) : List Ed.E := [⟨1, ⟨#[]⟩, 0, 0, []⟩, ⟨1, ⟨#[]⟩, 1099511627776, 0, []⟩, ⟨3, S, 0, 0, []⟩, ⟨4, ⟨#[]⟩, 0, 16777215, []⟩, ⟨6, ⟨#[]⟩, 0, 0, []⟩]
def bads (S : ByteArray) : List Ed.E := [⟨0, ⟨#[]⟩, 0, 0, []⟩, ⟨7, ⟨#[]⟩, 0, 0, []⟩, ⟨-1, ⟨#[]⟩, 0, 0, []⟩, ⟨1, ⟨#[]⟩, 1099511627777, 0, []⟩, ⟨1, ⟨#[97]⟩, 0, 0, []⟩, ⟨2, ⟨#[]⟩, 0, 0, []⟩, ⟨3, S ++ ⟨#[97]⟩, 0, 0, []⟩, ⟨3, ⟨#[97]⟩, 1, 0, []⟩,
  ⟨4, ⟨#[]⟩, 0, 0, []⟩, ⟨4, ⟨#[]⟩, 0, 16777216, []⟩, ⟨5, ⟨#[]⟩, 0, 0, []⟩, ⟨5, ⟨#[]⟩, 0, 0, [⟨1, 16, 0, 0, 0⟩, ⟨2, 16, 0, 0, 0⟩]⟩, ⟨6, ⟨#[]⟩, 0, 1, []⟩, ⟨6, ⟨#[]⟩, 0, 0, [⟨2, 16, 0, 0, 0⟩, ⟨2, 16, 0, 0, 0⟩]⟩, ⟨1, ⟨#[]⟩, 0, 0, [⟨1, 16, 0, 0, 0⟩]⟩]
theorem fit_lit {e : Ed.E} (h : decide (-9223372036854775808 ≤ e.kind ∧ e.kind < 9223372036854775808 ∧ e.seq < 18446744073709551616 ∧ e.id < 4294967296 ∧ e.seals.length ≤ 9223372036854775807 ∧ (e.seals.all fun s => decide (s.id < 4294967296 ∧ s.size < 4294967296 ∧ s.many < 4294967296 ∧ s.first < 18446744073709551616 ∧ s.last < 18446744073709551616)) = true) = true) (hn : e.name.size ≤ 33) : Ed.Fit e := by
  simp only [decide_eq_true_eq] at h
  obtain ⟨h1, h2, h3, h4, h5, h6⟩ := h
  refine ⟨h1, h2, by omega, h3, h4, h5, fun s hs => ?_⟩
  have := List.all_eq_true.1 h6 s hs
  simp only [decide_eq_true_eq] at this
  exact ⟨this.1, this.2.1, this.2.2.1, this.2.2.2.1, this.2.2.2.2⟩
theorem goods_ok {S : ByteArray} (hS : S.size = 32) : ∀ e ∈ goods S, Ed.mayE e = true ∧ Ed.Fit e := by
  intro e he
  simp only [goods, List.mem_cons, List.not_mem_nil, or_false] at he
  rcases he with rfl | rfl | rfl | rfl | rfl
  · exact ⟨by decide, fit_lit (by decide) (by decide)⟩
  · exact ⟨by decide, fit_lit (by decide) (by decide)⟩
  · refine ⟨?_, Ed.fit0 3 S 0 0 (by decide) (by decide) (by omega) (by decide) (by decide)⟩
    refine Ed.may_iff.2 ⟨(by decide : (1 : Int) ≤ 3), (by decide : (3 : Int) ≤ 6), (by decide : Ed.inB (Ed.seqB 3) 0 = true), ?_, (by decide : Ed.inB (Ed.idB 3) 0 = true), (by decide : Ed.inB (Ed.manyB 3) 0 = true), rfl⟩
    show Ed.nameOk 3 S.size = true
    rw [hS]
    decide
  · exact ⟨by decide, fit_lit (by decide) (by decide)⟩
  · exact ⟨by decide, fit_lit (by decide) (by decide)⟩
theorem bads_no {S : ByteArray} (hS : S.size = 32) : ∀ e ∈ bads S, Ed.mayE e = false ∧ Ed.Fit e := by
  intro e he
  simp only [bads, List.mem_cons, List.not_mem_nil, or_false] at he
  rcases he with rfl | rfl | rfl | rfl | rfl | rfl | rfl | rfl | rfl | rfl | rfl | rfl | rfl | rfl | rfl
  case inr.inr.inr.inr.inr.inr.inl =>
    have h33 : (S ++ (⟨#[97]⟩ : ByteArray)).size = 33 := by rw [ByteArray.size_append, hS]; rfl
    refine ⟨?_, Ed.fit0 3 _ 0 0 (by decide) (by decide) (by omega) (by decide) (by decide)⟩
    cases hm : Ed.mayE ⟨3, S ++ ⟨#[97]⟩, 0, 0, []⟩
    · rfl
    · have := (Ed.may_iff.1 hm).name
      simp only at this
      rw [h33] at this
      exact absurd this (by decide)
  all_goals exact ⟨by decide, fit_lit (by decide) (by decide)⟩

end Go.Proofs.YthcmjgkdljgcbaaDoor.editKnown
