
/-
  Layer 3: the document's Add, Drop and Move, beside the program's: the same answers, and what is held goes on.
-/
import Derived.Test.YtaekndhchdpobaaLrSI
set_option linter.unusedVariables false
set_option linter.unusedSimpArgs false
namespace Go.Proofs.Ytaekndhchdpobaa
open Go.RowKit Go.Maps

theorem ABx.fr {w w' : World} {X br : Nat} {a : Act3} {row : Option Nat} (h : ABx w X a) (hf : Fr w w' br row) (h1 : X ≠ br) (h2 : row ≠ some X) : ABx w' X a := by
  have hb := hf.block X h.lt h1 h2
  have hc : ∀ o, w'.cell? ⟨X, o, none⟩ = w.cell? ⟨X, o, none⟩ := fun o => World.cell?_of_block hb
  have hf' : ∀ o, w'.frozen? ⟨X, o, none⟩ = w.frozen? ⟨X, o, none⟩ := fun o => World.frozen?_of_block hb
  exact ⟨(hc 0).trans h.c0, (hc 1).trans h.c1, (hc 2).trans h.c2, (hc 3).trans h.c3, (hc 4).trans h.c4, (hc 5).trans h.c5, fun j => (hf' j).trans (h.f j), Nat.lt_of_lt_of_le h.lt hf.size⟩
section
variable {w wr w' : World} {B bs bm br n X : Nat} {D D1 : DataW Unit} {v : Value} {R : List One3} {s o t p c : Int} {a : Act3} {e : Ending}
theorem SI.radd (h : SI w wr B bs bm br n X D1 v R) (hA : ABx wr X a) (hs : SR D R) (hT : Tidy D) (h0 : 0 ≤ s) (h1 : s < 4294967296) (h2 : 0 ≤ o) (h3 : o < 4294967296) (n0 : 0 ≤ c) (n1 : c < 18446744073709551616) (hr : RAdd wr br B R s o c v.ownBlock e w') :
    e = .returned (.int .i64 (addE D s o)) ∧ ABx w' X a ∧ ∃ v' R', SI w w' B bs bm br n X D1 v' R' ∧ SR (addD D s o c) R' ∧ R'.length ≤ R.length + 1 := by
  unfold addE addD
  rcases hr with ⟨m, rfl, hb⟩ | ⟨m, hin, rfl, hb⟩ | ⟨m, hni, rfl, v', hrow, hf, hv⟩
  · rw [m]
    exact ⟨rfl, hA.on hb, v, R, h.on hb, hs, by omega⟩
  · have hh := (hs.has s o h0 h1 h2 h3).2 hin
    rw [m, hh]
    exact ⟨rfl, hA.on hb, v, R, h.on hb, hs, by omega⟩
  · have hh : Maps.has D (kl s o) = false := by
      cases hx : Maps.has D (kl s o)
      · rfl
      · exact absurd ((hs.has s o h0 h1 h2 h3).1 hx) hni
    rw [m, hh]
    exact ⟨rfl, hA.fr hf (fun e => h.x3 e.symm) h.x4, v', R ++ [(s, o, c)], h.rowG hrow hf (.inr rfl) hv hA.lt, hs.add hT hT.isMap h0 h1 h2 h3 n0 n1 hh, by simp⟩
/-- Drop -/
theorem SI.rdrop (h : SI w wr B bs bm br n X D1 v R) (hA : ABx wr X a) (hs : SR D R) (hT : Tidy D) (h0 : 0 ≤ s) (h1 : s < 4294967296) (h2 : 0 ≤ o) (h3 : o < 4294967296)
    (hr : (e = .returned (.int .i64 6) ∧ (s, o) ∉ R.map kOf ∧ Below wr.heap.size wr w') ∨
      (e = .returned (.int .i64 0) ∧ ∃ (j : Nat) (n : Int) (v' : Value), R[j]? = some (s, o, n) ∧ RowAt w' br B v' (R.take j ++ R.drop (j + 1)) ∧ Fr wr w' br none ∧ ∀ g, v'.ownBlock = some g → wr.heap.size ≤ g)) :
    e = .returned (.int .i64 (dropE D s o)) ∧ ABx w' X a ∧ ∃ v' R', SI w w' B bs bm br n X D1 v' R' ∧ SR (dropD D s o) R' ∧ R'.length ≤ R.length + 1 := by
  unfold dropE dropD
  rcases hr with ⟨rfl, hni, hb⟩ | ⟨rfl, j, m, v', hj, hrow, hf, hv⟩
  · have hh : Maps.has D (kl s o) = false := by
      cases hx : Maps.has D (kl s o)
      · rfl
      · exact absurd ((hs.has s o h0 h1 h2 h3).1 hx) hni
    rw [hh]
    exact ⟨rfl, hA.on hb, v, R, h.on hb, hs, by omega⟩
  · have hh := (hs.has s o h0 h1 h2 h3).2 (List.mem_map.2 ⟨_, List.mem_of_getElem? hj, rfl⟩)
    rw [hh]
    refine ⟨rfl, hA.fr hf (fun e => h.x3 e.symm) (by simp), v', _, h.rowG hrow hf (.inl rfl) (.inr hv) hA.lt, ?_, by rw [List.length_append, List.length_take, List.length_drop]; omega⟩
    rw [cut_dropR hs.nodup hj]
    exact hs.drop hT h0 h1 h2 h3 hh
/-- Move -/
theorem SI.rmove (h : SI w wr B bs bm br n X D1 v R) (hA : ABx wr X a) (hs : SR D R) (hT : Tidy D) (h0 : 0 ≤ s) (h1 : s < 4294967296) (h2 : 0 ≤ o) (h3 : o < 4294967296) (g0 : 0 ≤ t) (g1 : t < 4294967296) (g2 : 0 ≤ p) (g3 : p < 4294967296) (hr : RMove wr br B R s o t p e w') :
    e = .returned (.int .i64 (moveE D s o t p)) ∧ ABx w' X a ∧ ∃ v' R', SI w w' B bs bm br n X D1 v' R' ∧ SR (moveD D s o t p) R' ∧ R'.length ≤ R.length + 1 := by
  have no : ∀ {x y : Int}, 0 ≤ x → x < 4294967296 → 0 ≤ y → y < 4294967296 → (x, y) ∉ R.map kOf → Maps.has D (kl x y) = false := by
    intro x y a1 a2 a3 a4 hni
    cases hx : Maps.has D (kl x y)
    · rfl
    · exact absurd ((hs.has x y a1 a2 a3 a4).1 hx) hni
  unfold moveE moveD
  rcases hr with ⟨m, rfl, hb⟩ | ⟨m, hni, rfl, hb⟩ | ⟨m, hin, hne, htin, rfl, hb⟩ | ⟨m, hd, rfl, j, c, v', hj, hrow, hf, hv⟩
  · rw [m]
    exact ⟨rfl, hA.on hb, v, R, h.on hb, hs, by omega⟩
  · rw [m, no h0 h1 h2 h3 hni]
    exact ⟨rfl, hA.on hb, v, R, h.on hb, hs, by omega⟩
  · have hd : decide (t = s ∧ p = o) = false := by simp only [decide_eq_false_iff_not]; rintro ⟨rfl, rfl⟩; exact hne rfl
    rw [m, (hs.has s o h0 h1 h2 h3).2 hin, (hs.has t p g0 g1 g2 g3).2 htin, hd]
    exact ⟨rfl, hA.on hb, v, R, h.on hb, hs, by omega⟩
  · have hin := (hs.has s o h0 h1 h2 h3).2 (List.mem_map.2 ⟨_, List.mem_of_getElem? hj, rfl⟩)
    have hc : (!decide (t = s ∧ p = o) && Maps.has D (kl t p)) = false := by
      rcases hd with e | hni
      · injection e with e1 e2
        simp [e1, e2]
      · rw [no g0 g1 g2 g3 hni, Bool.and_false]
    rw [m, hin, hc]
    refine ⟨rfl, hA.fr hf (fun e => h.x3 e.symm) (by simp), v', _, h.rowG hrow hf (.inl rfl) (.inr hv) hA.lt, sr_move hs hT (hT.del _) (hT.isMap.del _) h0 h1 h2 h3 g0 g1 g2 g3 hj hd, ?_⟩
    have hl : j < R.length := (List.getElem?_eq_some_iff.1 hj).1
    rw [List.length_append, List.length_append, List.length_take, List.length_drop, List.length_singleton]
    omega
/-- a copy of the set -/
theorem SI.copy {cs cm m : Nat} (h : SI w wr B bs bm br n X D v R) (hX : X < wr.heap.size) (hset : SetAt w' cs cm m D) (h1 : wr.heap.size ≤ cs) (h2 : wr.heap.size ≤ cm) (hb : Below wr.heap.size wr w') : SI w w' B cs cm br m X D v R :=
  ⟨bstep h.bel hb, hset, h.row.on hb, h.hB0, Nat.le_trans h.hB hb.size, Nat.le_trans h.bel.size h1, Nat.le_trans h.bel.size h2, h.hbr, by have := block_of_cell h.row.cell; omega, by have := block_of_cell h.row.cell; omega, fun e => by have := (h.row.own.lt _ e).2; omega, fun e => by have := (h.row.own.lt _ e).2; omega, by omega, by omega, h.x3, h.x4⟩
/-- another map turns -/
theorem SI.other {b : Nat} (h : SI w wr B bs bm br n X D v R) (hg : wr.grownBy w' (some b)) (h0 : w.heap.size ≤ b) (h1 : bs ≠ b) (h2 : bm ≠ b) (h3 : br ≠ b) (h4 : v.ownBlock ≠ some b) : SI w w' B bs bm br n X D v R := by
  refine ⟨h.bel.grown hg h.bel.size (fun k hk => by injection hk with hk; omega), h.set.grown hg (by simpa using h1) (by simpa using h2), ⟨?_, ?_, ?_, h.row.lt, h.row.big⟩, h.hB0, Nat.le_trans h.hB hg.size, h.hbs, h.hbm, h.hbr, h.ne1, h.ne2, h.own1, h.own2, h.x1, h.x2, h.x3, h.x4⟩
  · exact (World.cell?_of_block (a := ⟨br, 0, none⟩) (hg.block br (block_of_cell h.row.cell) (fun e => h3 (by injection e)))).trans h.row.cell
  · exact own_grown h.row.own hg (fun k hk e => by rw [e] at hk; exact h4 hk)
  · exact (World.frozen?_of_block (a := ⟨br, 0, none⟩) (hg.block br (block_of_cell h.row.cell) (fun e => h3 (by injection e)))).trans h.row.free
end
end Go.Proofs.Ytaekndhchdpobaa
