
/-
  Layer 3: the document's row and the program's map go on together: Add, Drop, Move, At.
-/
import Derived.Test.YtaekndhchdpobaaLrEq
set_option linter.unusedVariables false
set_option linter.unusedSimpArgs false
namespace Go.Proofs.Ytaekndhchdpobaa
open Go.RowKit Go.Maps

section
variable {D : DataW Unit} {R : List One3} {s o n t p : Int}
theorem sr_laid_at (h : SR D R) {j : Nat} (hj : R[j]? = some (s, o, n)) : laid D s o = n := by
  have := h.laid (s, o, n) (List.mem_of_getElem? hj)
  exact this
theorem sr_laid_none (h0 : Maps.has D (kl s o) = false) : laid D s o = 0 := by
  unfold laid
  rw [atKey_of_not_has h0]
/-- a move: away, then there -/
theorem sr_move (h : SR D R) (ht : Tidy D) (ht' : Tidy (D.del (kl s o))) (hD' : IsMap (D.del (kl s o))) (h0 : 0 ≤ s) (h1 : s < 4294967296) (h2 : 0 ≤ o) (h3 : o < 4294967296) (g0 : 0 ≤ t) (g1 : t < 4294967296) (g2 : 0 ≤ p) (g3 : p < 4294967296)
    {j : Nat} (hj : R[j]? = some (s, o, n)) (hd : (t, p) = (s, o) ∨ (t, p) ∉ R.map kOf) :
    SR ((D.del (kl s o)).put (kl t p) (.lit (.int .u64 (laid D s o)))) (R.take j ++ R.drop (j + 1) ++ [(t, p, n)]) := by
  have hin : (s, o) ∈ R.map kOf := List.mem_map.2 ⟨_, List.mem_of_getElem? hj, rfl⟩
  have hh : Maps.has D (kl s o) = true := (h.has s o h0 h1 h2 h3).2 hin
  have hb := (h.bd _ (List.mem_of_getElem? hj)).2.2
  rw [sr_laid_at h hj, cut_dropR h.nodup hj]
  refine (h.drop ht h0 h1 h2 h3 hh).add ht' hD' g0 g1 g2 g3 hb.1 hb.2 ?_
  rcases hd with e | hni
  · injection e with e1 e2
    subst e1 e2
    exact has_del_same ..
  · by_cases e : (t, p) = (s, o)
    · injection e with e1 e2
      subst e1 e2
      exact has_del_same ..
    · rw [has_del_other (kl_ne h0 h1 h2 h3 g0 g1 g2 g3 e)]
      cases hx : Maps.has D (kl t p)
      · rfl
      · exact absurd ((h.has t p g0 g1 g2 g3).1 hx) hni
end
end Go.Proofs.Ytaekndhchdpobaa
