
/-
  Layer 5: Flip of a byte that is there; a file that a law works on.
-/
import Derived.Test.YtmlbhconbabdhaaFxWakes
set_option linter.unusedVariables false
set_option linter.unusedSimpArgs false
namespace Go.Proofs.Ytmlbhconbabdhaa
open Go.RowKit

set_option maxRecDepth 100000 in
theorem fflip_at {w : World} {F : Nat} {M R : Nat → Prop} {s : FSt} (h : FileM w F M R s) (hd : s.deeds = []) (hb : s.big ≤ 10000000) (n : Nat) (x z : UInt8) (b : Int) (hx : s.safe[n]? = some x) (hz : bits .xor .u8 (x.toNat : Int) b = (z.toNat : Int)) :
    Calls Try.prog 22 #[.pointer (some ⟨F, 0, none⟩), .int .i64 (n : Int), .int .u8 b] w fun e w' => e = .returned (.int .i64 0) ∧ Mut w w' F M R (FSt.new (s.safe.set n z)) := by
  obtain ⟨ho, hMR, hM, hR, vs, vt, vd, dvs, h, hOM⟩ := h
  have hstill := FSt.still ho hd
  have hn : n < s.safe.length := (List.getElem?_eq_some_iff.1 hx).1
  have hbig : s.big = s.safe.length + s.loose := rfl
  obtain ⟨As, cs, hvs, _, _, _⟩ := own_slice h.safe
  obtain ⟨Ad, cd, hvd, _, _, _⟩ := own_slice h.deeds
  obtain ⟨At, ct, hvt, _, _, _⟩ := own_slice h.tail
  rw [hd] at hvd
  simp only [List.length_nil] at hvd
  obtain ⟨bb, oo, hA, hbb, hcc⟩ := Rd.of_own (by have := h.safe; rw [hvs] at this; exact this) (by intro e; have := congrArg List.length e; rw [bvs_length, List.length_nil] at this; omega)
  have hform : oo = 0 := by
    have h1 := h.safe
    rw [hvs, hA] at h1
    rcases h1.2 with ⟨e, _⟩ | ⟨g, cap, cur, e, _⟩
    · cases e
    · injection e with e1 _ _
      injection e1 with e1
      injection e1 with _ e2 _
  subst hform
  obtain ⟨ns, hns⟩ : ∃ ns, ns = s.safe.length := ⟨_, rfl⟩
  have hvs' : vs = .slice (some ⟨bb, 0, none⟩) ns cs := by rw [hvs, hA, hns]
  have hO : w.ownsRow 0 5 1 (.slice (some ⟨bb, 0, none⟩) ns cs) ns (bvs s.safe) := by have := h.safe; rw [hvs'] at this; rw [hns]; rw [hns] at this; exact this
  have cn : w.cell? ⟨bb, n, none⟩ = some (.int .u8 (x.toNat : Int)) := by
    have := hcc n (bv x) (by rw [bvs_get _ _ hn]; have := (List.getElem?_eq_some_iff.1 hx).2; rw [this])
    rwa [Nat.zero_add] at this
  have fn := hO.frozenAt n
  have hst := hO.stored n (bv z)
  have hcl := h.cells
  rw [hvs', hvd] at hcl
  have HC := Lib.hid h.cells
  obtain ⟨c0, c1, c2, c3, c4, f0, f1, f2, f3, f4⟩ := hcl
  rw [← hns] at hn
  have hge : decide ((n : Int) ≥ (ns : Int)) = false := by simp; omega
  have hlt : (n : Int) < (ns : Int) := by omega
  have hbF : bb ≠ F := fun e => h.apart.s (by rw [hvs']; simp [Value.ownBlock, e])
  have H := Lib.hid h
  have Ho := Lib.hid ho
  have HR := Lib.hid hR
  have HOM := Lib.hid hOM
  have Hst := Lib.hid hst
  have Hsti := Lib.hid hstill
  have Hvs := Lib.hid hvs'
  have Hns := Lib.hid hns
  have hnsb : ns ≤ 10000000 := by omega
  clear h ho hMR hM hR hOM hst hstill hvs hvs' hns hO hcc hx hbig hvd hvt hb
  go_enter Try.func22, Try.ntmps22
  go_wp2_with fail
  go_ret
  have hbv : Value.int .u8 (z.toNat : Int) = bv z := rfl
  have hg := Hst.out.2
  have hvb : vs.ownBlock = some bb := by rw [Hvs.out]; rfl
  have hcg : Chg (fun i => i = bb) w (w.setCell ⟨bb, n, none⟩ (bv z)) := Chg.of_grown hg (fun g h => by injection h with h; exact h.symm)
  have hfin : FileAt (w.setCell ⟨bb, n, none⟩ (bv z)) F R vs vt vd dvs (FSt.new (s.safe.set n z)) := by
    have h1 := H.out
    refine ⟨?_, ?_, ?_, ?_, ?_, h1.apart, h1.rows⟩
    · have e1 : (FSt.new (s.safe.set n z)).kept = s.kept := by show (s.safe.set n z).length = _; rw [List.length_set]; exact Hsti.out.1.symm
      have e2 : (FSt.new (s.safe.set n z)).loose = s.loose := by show 0 = unitsL s.deeds; rw [hd]; rfl
      rw [e1, e2]
      exact HC.out.of_block (hcg.block F HC.out.lt (fun e => hbF e.symm))
    · show (w.setCell _ _).ownsRow 0 _ 1 vs (s.safe.set n z).length (bvs (s.safe.set n z))
      rw [List.length_set, bvs_set, ← Hns.out, Hvs.out]
      exact Hst.out.1
    · have e : (FSt.new (s.safe.set n z)).tail = s.tail := Hsti.out.2.1.symm
      rw [e]
      exact hcg.own h1.tail (fun g hg e => h1.apart.st bb hvb (e ▸ hg))
    · have e : (FSt.new (s.safe.set n z)).deeds = s.deeds := hd.symm
      rw [e]
      exact hcg.own h1.deeds (fun g hg e => h1.apart.sd bb hvb (e ▸ hg))
    · have e : (FSt.new (s.safe.set n z)).deeds = s.deeds := hd.symm
      rw [e]
      exact h1.each.chg hcg (fun i e => e ▸ h1.rows bb (.inr (.inl hvb)))
  have hcM : Chg M w (w.setCell ⟨bb, n, none⟩ (bv z)) := hcg.mono (fun i e => e ▸ HOM.out bb (.inr (.inl hvb)))
  first
    | exact ⟨rfl, fun i => FOwn F vs vt vd i, R, ⟨FSt.new_ok _, hfin.rows, hfin.lt, fun i hi => Nat.lt_of_lt_of_le (HR.out i hi) hcM.size, _, _, _, _, hfin, fun i h => h⟩, hcM, fun i hi => .inl (HOM.out i hi), fun i hi => .inl hi⟩

/-- a file that lives in new memory -/
structure Live (w wk : World) (F : Nat) (M R : Nat → Prop) (s : FSt) : Prop where
  below : Below w.heap.size w wk
  file : FileM wk F M R s
  fresh : ∀ i, M i → w.heap.size ≤ i
theorem Live.on {w wk w' : World} {F : Nat} {M R : Nat → Prop} {s : FSt} (h : Live w wk F M R s) (hb : Below wk.heap.size wk w') : Live w w' F M R s :=
  ⟨h.below.trans (hb.mono h.below.size), h.file.on hb, h.fresh⟩
theorem Live.mut {w wk w' : World} {F : Nat} {M R : Nat → Prop} {s s' : FSt} (h : Live w wk F M R s) (hm : Mut wk w' F M R s') : ∃ M' R', Live w w' F M' R' s' ∧ Chg M wk w' ∧ (∀ i, M' i → M i ∨ wk.heap.size ≤ i) ∧ (∀ i, R' i → R i ∨ wk.heap.size ≤ i) := by
  obtain ⟨M', R', hf, hc, h1, h2⟩ := hm
  exact ⟨M', R', ⟨h.below.trans (hc.below h.below.size h.fresh), hf, fun i hi => (h1 i hi).elim (h.fresh i) (fun h3 => Nat.le_trans h.below.size h3)⟩, hc, h1, h2⟩
/-- another file's change leaves it -/
theorem Live.keep {w wk w' : World} {F : Nat} {M R N : Nat → Prop} {s : FSt} (h : Live w wk F M R s) (hc : Chg N wk w') (hN : ∀ i, N i → ¬ M i ∧ ¬ R i) (hf : ∀ i, N i → w.heap.size ≤ i) : Live w w' F M R s :=
  ⟨h.below.trans (hc.below h.below.size hf), h.file.chg hc hN, h.fresh⟩
theorem Live.bs {w wk : World} {F : Nat} {M R : Nat → Prop} {s : FSt} (h : Live w wk F M R s) {v : Value} {l : List UInt8} (hv : Bs w w.heap.size v l) : Bs wk w.heap.size v l := hv.below h.below (Nat.le_refl _)
end Go.Proofs.Ytmlbhconbabdhaa
