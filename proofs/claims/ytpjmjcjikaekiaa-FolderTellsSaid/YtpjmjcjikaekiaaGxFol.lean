
/-
  Layer 6: the document's folder in memory: its states (rows of entries, which nobody writes), the last inode; New, List, Find.
-/
import Derived.Test.YtpjmjcjikaekiaaGxMay
set_option linter.unusedVariables false
set_option linter.unusedSimpArgs false
namespace Go.Proofs.Ytpjmjcjikaekiaa
open Go.RowKit

/-- the value v is a slice that reads as the entries l, out of a block of N -/
def EsIn (w : World) (N : Nat → Prop) (v : Value) (l : List Ent) : Prop := ∃ A c, v = .slice A l.length c ∧ l.length ≤ c ∧ RdR w N A (evs l)
theorem EsIn.es {w : World} {N : Nat → Prop} {v : Value} {l : List Ent} (h : EsIn w N v l) : Es w w.heap.size v l := by
  obtain ⟨A, c, e, hc, hr⟩ := h
  exact ⟨A, c, e, hc, hr.rd⟩
theorem EsIn.chg {w w' : World} {N M : Nat → Prop} {v : Value} {l : List Ent} (h : EsIn w N v l) (hc : Chg M w w') (hM : ∀ i, M i → ¬ N i) : EsIn w' N v l := by
  obtain ⟨A, c, e, hc', hr⟩ := h
  exact ⟨A, c, e, hc', hr.chg hc hM⟩
theorem EsIn.mono {w : World} {N N' : Nat → Prop} {v : Value} {l : List Ent} (h : EsIn w N v l) (hN : ∀ i, N i → N' i) : EsIn w N' v l := by
  obtain ⟨A, c, e, hc', hr⟩ := h
  exact ⟨A, c, e, hc', hr.mono hN⟩
theorem EsIn.none_ {w : World} {N : Nat → Prop} : EsIn w N (.slice none 0 0) [] := ⟨none, 0, rfl, Nat.le_refl _, fun h => absurd rfl h⟩
theorem EsIn.of_own {w : World} {b n : Nat} {e : TypeId} {v : Value} {l : List Ent} (h : w.ownsRow b e 2 v n (evs l)) : EsIn w (fun i => v.ownBlock = some i) v l := by
  have hn : l.length = n := by have := h.1; rw [evs_length] at this; omega
  subst hn
  obtain ⟨A, c, rfl, hc, _⟩ := own_slice h
  refine ⟨A, c, rfl, hc, fun hx => ?_⟩
  obtain ⟨b, o, rfl, hb, hcell⟩ := Rd.of_own h hx
  exact ⟨b, o, rfl, rfl, hcell⟩
/-- the states' rows in memory -/
def StsR (w : World) (N : Nat → Prop) (vals : List Value) (sts : List (List Ent)) : Prop := vals.length = sts.length ∧ ∀ (i : Nat) v l, vals[i]? = some v → sts[i]? = some l → EsIn w N v l
theorem StsR.chg {w w' : World} {N M : Nat → Prop} {vals : List Value} {sts : List (List Ent)} (h : StsR w N vals sts) (hc : Chg M w w') (hM : ∀ i, M i → ¬ N i) : StsR w' N vals sts :=
  ⟨h.1, fun i v l hv hl => (h.2 i v l hv hl).chg hc hM⟩
theorem StsR.add {w : World} {N N' : Nat → Prop} {vals : List Value} {sts : List (List Ent)} {v : Value} {l : List Ent} (h : StsR w N vals sts) (hv : EsIn w N' v l) : StsR w (fun i => N i ∨ N' i) (vals ++ [v]) (sts ++ [l]) := by
  refine ⟨by simp [h.1], fun i v' l' hv' hl' => ?_⟩
  rw [List.getElem?_append] at hv' hl'
  rw [h.1] at hv'
  split at hv'
  · rename_i hi
    rw [if_pos hi] at hl'
    exact (h.2 i v' l' hv' hl').mono (fun _ => .inl)
  · rename_i hi
    rw [if_neg hi] at hl'
    rcases hk : i - sts.length with _ | k
    · rw [hk] at hv' hl'
      simp at hv' hl'
      subst hv' hl'
      exact hv.mono (fun _ => .inr)
    · rw [hk] at hv'
      simp at hv'
theorem sts_info : (Try.prog.info? 44).map (fun i => (i.zero, i.size, i.bytes)) = some (some (.slice none 0 0), 1, 24) := by kernel_rfl
/-- the document's folder at block X: its states sts, its last inode -/
structure RFol (w : World) (X : Nat) (N : Nat → Prop) (vs : Value) (vals : List Value) (sts : List (List Ent)) (last : Nat) : Prop where
  c0 : w.cell? ⟨X, 0, none⟩ = some vs
  c1 : w.cell? ⟨X, 1, none⟩ = some (.int .u64 (last : Int))
  f0 : w.frozen? ⟨X, 0, none⟩ = false
  f1 : w.frozen? ⟨X, 1, none⟩ = false
  own : w.ownsRow 0 44 1 vs sts.length vals
  each : StsR w N vals sts
  ne : vs.ownBlock ≠ some X
  nx : ¬ N X
  nv : ∀ g, vs.ownBlock = some g → ¬ N g
  nlt : ∀ i, N i → i < w.heap.size
  pos : 0 < sts.length
section
variable {w w' : World} {X : Nat} {N M : Nat → Prop} {vs : Value} {vals : List Value} {sts : List (List Ent)} {last : Nat}
theorem RFol.ltX (h : RFol w X N vs vals sts last) : X < w.heap.size := fblock_of_cell h.c0
theorem RFol.chg (h : RFol w X N vs vals sts last) (hc : Chg M w w') (hM : ∀ i, M i → i ≠ X ∧ vs.ownBlock ≠ some i ∧ ¬ N i) : RFol w' X N vs vals sts last := by
  have hX := h.ltX
  have hnX : ¬ M X := fun e => (hM X e).1 rfl
  exact ⟨(hc.cell (p := ⟨X, 0, none⟩) hX hnX).trans h.c0, (hc.cell (p := ⟨X, 1, none⟩) hX hnX).trans h.c1, (hc.frozen (p := ⟨X, 0, none⟩) hX hnX).trans h.f0, (hc.frozen (p := ⟨X, 1, none⟩) hX hnX).trans h.f1,
    hc.own h.own (fun g hg e => (hM g e).2.1 hg), h.each.chg hc (fun i e => (hM i e).2.2), h.ne, h.nx, h.nv, fun i hi => Nat.lt_of_lt_of_le (h.nlt i hi) hc.size, h.pos⟩
theorem RFol.on (h : RFol w X N vs vals sts last) (hb : Below w.heap.size w w') : RFol w' X N vs vals sts last := h.chg (Chg.of_below (M := fun _ => False) hb) (fun _ e => e.elim)

theorem rnew (w : World) : Calls Try.prog 8 #[] w fun e w' => ∃ X vs, e = .returned (.pointer (some ⟨X, 0, none⟩)) ∧ RFol w' X (fun _ => False) vs [.slice none 0 0] [[]] 0 ∧ Below w.heap.size w w' ∧ w.heap.size ≤ X ∧ ∀ g, vs.ownBlock = some g → w.heap.size ≤ g := by
  obtain ⟨i0, hi0, hz0, hz1, hz2⟩ := info_parts sts_info
  have b1 : Below w.heap.size w (w.alloc (.cells #[.slice none 0 0, .int .u64 0] 49)) := (Below.refl _ _).alloc (Nat.le_refl _) _
  have b2 : Below w.heap.size w ((w.alloc (.cells #[.slice none 0 0, .int .u64 0] 49)).alloc (.cells #[.slice none 0 0] 44)) := b1.alloc b1.size _
  have c0 : ((w.alloc (.cells #[.slice none 0 0, .int .u64 0] 49)).alloc (.cells #[.slice none 0 0] 44)).cell? ⟨w.heap.size, 0, none⟩ = some (.slice none 0 0) := (World.cell?_alloc_lt _ _ _ (by simp)).trans (by simp)
  have c1 : ((w.alloc (.cells #[.slice none 0 0, .int .u64 0] 49)).alloc (.cells #[.slice none 0 0] 44)).cell? ⟨w.heap.size, 1, none⟩ = some (.int .u64 0) := (World.cell?_alloc_lt _ _ _ (by simp)).trans (by simp)
  have hx : (w.alloc (.cells #[.slice none 0 0, .int .u64 0] 49)).heap.size = w.heap.size + 1 := by simp
  go_enter Try.func8, Try.ntmps8
  have f0 : ((w.alloc (.cells #[.slice none 0 0, .int .u64 0] 49)).alloc (.cells #[.slice none 0 0] 44)).frozen? ⟨w.heap.size, 0, none⟩ = false := (World.frozen?_of_block (Below.heap_alloc _ _ _ (by simp))).trans (by simp)
  have f1 : ((w.alloc (.cells #[.slice none 0 0, .int .u64 0] 49)).alloc (.cells #[.slice none 0 0] 44)).frozen? ⟨w.heap.size, 1, none⟩ = false := (World.frozen?_of_block (Below.heap_alloc _ _ _ (by simp))).trans (by simp)
  have C0 := Lib.hid c0
  have C1 := Lib.hid c1
  have F0 := Lib.hid f0
  have F1 := Lib.hid f1
  have B2 := Lib.hid b2
  clear b1 b2 c0 c1 f0 f1 hx
  go_wp2_with (at_builtin; (refine wpList_append_1 _ rfl _ _ 47 rfl 0 44 i0 (.slice none 0 0) 24 Try.underlying47 hi0 hz0 hz1 hz2 rfl (.slice none 0 0) 0 [] rfl (World.ownsRow_nil _ _ _ _) ⟨w.heap.size + 1, 0, none⟩ 1 (.slice none 0 0) rfl (by simp) rfl (by unfold maxLen; omega) (by omega) (Nat.zero_le _) ?_); (intro v1 w1 hown1 hb1 hg1 hv1); (have HO := Lib.hid hown1); (have HG := Lib.hid hg1); (have HV := Lib.hid hv1); (have hbX := hg1.block w.heap.size (by simp; omega) (by simp [Value.ownBlock])); (have c0 := (World.cell?_of_block (a := ⟨w.heap.size, 0, none⟩) hbX).trans C0.out); (have c1 := (World.cell?_of_block (a := ⟨w.heap.size, 1, none⟩) hbX).trans C1.out); (have f0 := (World.frozen?_of_block (a := ⟨w.heap.size, 0, none⟩) hbX).trans F0.out); (have f1 := (World.frozen?_of_block (a := ⟨w.heap.size, 1, none⟩) hbX).trans F1.out); (have D0 := Lib.hid c0); (have D1 := Lib.hid c1); (have G0 := Lib.hid f0); (have G1 := Lib.hid f1); clear hown1 hb1 hg1 hv1 hbX c1 f1; (obtain ⟨A1, k1, rfl, _, _, _⟩ := own_slice HO.out))
  go_ret
  have hvX : ∀ g, (Value.slice A1 (0 + 1) k1).ownBlock = some g → w.heap.size + 2 ≤ g := fun g hg => by
    rcases HV.out with h1 | h1
    · rw [h1] at hg; simp [Value.ownBlock] at hg
    · rw [hg] at h1; injection h1 with h1; simp at h1; omega
  have hcX : Chg (fun i => i = w.heap.size) w1 (w1.setCell ⟨w.heap.size, 0, none⟩ (.slice A1 (0 + 1) k1)) := (Chg.refl (M := fun i => i = w.heap.size) (w := w1)).setCell (p := ⟨w.heap.size, 0, none⟩) rfl _
  refine ⟨w.heap.size, .slice A1 (0 + 1) k1, rfl, ⟨World.cell?_setCell_same _ _ _ D0.out, (World.cell?_setCell_other _ _ _ _ (by intro e; injection e with _ e; omega)).trans D1.out, by rw [World.frozen?_setCell]; exact G0.out, by rw [World.frozen?_setCell]; exact G1.out, hcX.own HO.out (fun g hg e => by have := hvX g hg; omega), ⟨rfl, fun i v l hv hl => ?_⟩, fun e => by have := hvX _ e; omega, fun e => e, fun _ _ e => e, fun i e => e.elim, by simp⟩, ?_, Nat.le_refl _, fun g hg => by have := hvX g hg; omega⟩
  · rcases i with _ | i
    · simp at hv hl
      subst hv hl
      exact EsIn.none_
    · simp at hv
  · exact (B2.out.grown HG.out B2.out.size (fun k hk => by simp [Value.ownBlock] at hk)).setCell (Nat.le_refl _) _
set_option maxRecDepth 100000 in
theorem rlist (h : RFol w X N vs vals sts last) (hl : sts.length ≤ 1000000) : ∃ v l, vals[sts.length - 1]? = some v ∧ sts[sts.length - 1]? = some l ∧ EsIn w N v l ∧
    Calls Try.prog 19 #[.pointer (some ⟨X, 0, none⟩)] w fun e w' => e = .returned v ∧ Below w.heap.size w w' := by
  obtain ⟨l, hlst⟩ : ∃ l, sts[sts.length - 1]? = some l := ⟨sts[sts.length - 1]'(by have := h.pos; omega), List.getElem?_eq_getElem _⟩
  obtain ⟨v, hv⟩ : ∃ v, vals[sts.length - 1]? = some v := ⟨vals[sts.length - 1]'(by have := h.pos; have := h.each.1; omega), List.getElem?_eq_getElem _⟩
  have hE := h.each.2 _ v l hv hlst
  refine ⟨v, l, hv, hlst, hE, ?_⟩
  obtain ⟨g, cap, hvs, _, hg⟩ := h.own.form h.pos
  obtain ⟨n, hn⟩ : ∃ n, n = sts.length := ⟨_, rfl⟩
  obtain ⟨z, hz⟩ : ∃ z, z = sts.length - 1 := ⟨_, rfl⟩
  have hpos := h.pos
  have hO := h.own
  rw [hvs] at hO
  have cz : w.cell? ⟨g, z, none⟩ = some v := by
    rw [hO.cellAt z (by omega), hz]
    exact hv
  have c0 := h.c0
  rw [hvs, ← hn] at c0
  have hzs : (n : Int) - 1 = (z : Int) := by omega
  have hzn : z < n := by omega
  have hwz : IntKind.i64.wrap (z : Int) = (z : Int) := IntWalk.i64_in _ (by omega)
  obtain ⟨A, c, rfl, _, _⟩ := hE
  clear hO hn hz hpos h hv hlst hvs hg
  go_enter Try.func19, Try.ntmps19
  go_wp2_with fail
  go_quiet (fail)
  go_wp2_with fail
  go_ret
  exact ⟨rfl, below_drewN (Below.refl _ _) _⟩
end
end Go.Proofs.Ytpjmjcjikaekiaa
