
/-
  Layer 9: the laws' arguments opened: a seal; an edit.
-/
import Derived.Test.YtggijjknfcofoaaDoorRows
import Derived.Test.YtggijjknfcofoaaDoorEdMem
import Derived.WalkKit
import Derived.ProofKit
import Derived.OpenShut
import Derived.ChangeOld
import Derived.Below
import Derived.SizedLaws
import Derived.Lib.SmallJoins
import Derived.Deep.Slices
set_option linter.unusedVariables false
set_option linter.unusedSimpArgs false
namespace Go.Proofs.YtggijjknfcofoaaDoor
open Go.ChangeShapes Go.WideShapes Go.ChangeAt Go.RowKit Go.Joins Go.Deep

theorem bnd_u64 {n : Int} (h : (Lit.int .u64 n).wf = true) : 0 ≤ n ∧ n ≤ 18446744073709551615 := by
  simp only [Lit.wf, Bool.and_eq_true, decide_eq_true_eq] at h
  have h1 : IntKind.u64.min = 0 := rfl
  have h2 : IntKind.u64.max = 18446744073709551615 := rfl
  omega
theorem bnd_u32 {n : Int} (h : (Lit.int .u32 n).wf = true) : 0 ≤ n ∧ n ≤ 4294967295 := by
  simp only [Lit.wf, Bool.and_eq_true, decide_eq_true_eq] at h
  have h1 : IntKind.u32.min = 0 := rfl
  have h2 : IntKind.u32.max = 4294967295 := rfl
  omega
theorem bnd_i64 {n : Int} (h : (Lit.int .i64 n).wf = true) : -9223372036854775808 ≤ n ∧ n ≤ 9223372036854775807 := by
  simp only [Lit.wf, Bool.and_eq_true, decide_eq_true_eq] at h
  have h1 : IntKind.i64.min = -9223372036854775808 := rfl
  have h2 : IntKind.i64.max = 9223372036854775807 := rfl
  omega
theorem rd_each {w : World} {b o : Nat} (l : List Ed.Sl) (h : ∀ (i : Nat) s, l[i]? = some s → w.cell? ⟨b, o + i * 5, none⟩ = some (.int .u32 s.id) ∧ w.cell? ⟨b, o + i * 5 + 1, none⟩ = some (.int .u32 s.size) ∧ w.cell? ⟨b, o + i * 5 + 2, none⟩ = some (.int .u32 s.many) ∧
    w.cell? ⟨b, o + i * 5 + 3, none⟩ = some (.int .u64 s.first) ∧ w.cell? ⟨b, o + i * 5 + 4, none⟩ = some (.int .u64 s.last)) : ∀ j u, (slVs l)[j]? = some u → w.cell? ⟨b, o + j, none⟩ = some u := by
  intro j u hu
  have hj : j < l.length * 5 := by
    have := (List.getElem?_eq_some_iff.1 hu).1
    rwa [slVs_length] at this
  obtain ⟨q, t, rfl, ht⟩ : ∃ q t, j = q * 5 + t ∧ t < 5 := ⟨j / 5, j % 5, by omega, by omega⟩
  obtain ⟨s, hs⟩ : ∃ s, l[q]? = some s := ⟨_, List.getElem?_eq_getElem (by omega)⟩
  obtain ⟨g0, g1, g2, g3, g4⟩ := slVs_get l q s hs
  obtain ⟨h0, h1, h2, h3, h4⟩ := h q s hs
  rcases t with _ | _ | _ | _ | _ | t
  · rw [Nat.add_zero, g0] at hu; injection hu with hu; subst hu; exact h0
  · rw [g1] at hu; injection hu with hu; subst hu; exact h1
  · rw [g2] at hu; injection hu with hu; subst hu; exact h2
  · rw [g3] at hu; injection hu with hu; subst hu; exact h3
  · rw [g4] at hu; injection hu with hu; subst hu; exact h4
  · omega
section
variable {H : Type} {enc : TypeId × Value → H} {W : World} {held : Bool} {r : Reach} {base : Nat}
set_option maxRecDepth 100000 in
theorem open_sl {n : Nat} {cs : List Value} {x : DataW H × List MemPlace} (hl : cs.length = 5) (h : DataW.trod enc Tryd.prog W 0 (fun _ => true) held n 28 cs = some x) :
    ∃ s : Ed.Sl, cs = slVs [s] ∧ Ed.FitS s := by
  obtain ⟨c0, c1, c2, c3, c4, rfl⟩ : ∃ c0 c1 c2 c3 c4, cs = [c0, c1, c2, c3, c4] := by
    match cs, hl with
    | [c0, c1, c2, c3, c4], _ => exact ⟨c0, c1, c2, c3, c4, rfl⟩
  have k1 : Tryd.prog.cellsOf 22 = 1 := by kernel_rfl
  have k5 : Tryd.prog.cellsOf 23 = 1 := by kernel_rfl
  obtain ⟨ys, m, _, _, _, hyl, hf⟩ := DataW.trod_struct Tryd.underlying28 h
  match ys, hyl with
  | [y0, y1, y2, y3, y4], _ =>
    have f0 : DataW.trod enc Tryd.prog W 0 (fun _ => true) held m 23 [c0] = some y0 := by simpa [k5] using hf 0 _ rfl
    have f1 : DataW.trod enc Tryd.prog W 0 (fun _ => true) held m 23 [c1] = some y1 := by simpa [k5] using hf 1 _ rfl
    have f2 : DataW.trod enc Tryd.prog W 0 (fun _ => true) held m 23 [c2] = some y2 := by simpa [k5] using hf 2 _ rfl
    have f3 : DataW.trod enc Tryd.prog W 0 (fun _ => true) held m 22 [c3] = some y3 := by simpa [k1] using hf 3 _ rfl
    have f4 : DataW.trod enc Tryd.prog W 0 (fun _ => true) held m 22 [c4] = some y4 := by simpa [k1] using hf 4 _ rfl
    obtain ⟨a0, e0, _, w0⟩ := DataW.trod_int Tryd.underlying23 f0
    obtain ⟨a1, e1, _, w1⟩ := DataW.trod_int Tryd.underlying23 f1
    obtain ⟨a2, e2, _, w2⟩ := DataW.trod_int Tryd.underlying23 f2
    obtain ⟨a3, e3, _, w3⟩ := DataW.trod_int Tryd.underlying22 f3
    obtain ⟨a4, e4, _, w4⟩ := DataW.trod_int Tryd.underlying22 f4
    injection e0 with e0
    injection e1 with e1
    injection e2 with e2
    injection e3 with e3
    injection e4 with e4
    subst e0 e1 e2 e3 e4
    have b0 := bnd_u32 w0
    have b1 := bnd_u32 w1
    have b2 := bnd_u32 w2
    have b3 := bnd_u64 w3
    have b4 := bnd_u64 w4
    refine ⟨⟨a0.toNat, a1.toNat, a2.toNat, a3.toNat, a4.toNat⟩, ?_, ⟨by show a0.toNat < _; omega, by show a1.toNat < _; omega, by show a2.toNat < _; omega, by show a3.toNat < _; omega, by show a4.toNat < _; omega⟩⟩
    simp only [slVs, List.append_nil]
    rw [show (a0.toNat : Int) = a0 by omega, show (a1.toNat : Int) = a1 by omega, show (a2.toNat : Int) = a2 by omega, show (a3.toNat : Int) = a3 by omega, show (a4.toNat : Int) = a4 by omega]
set_option maxRecDepth 100000 in
theorem open_seal {v : Value} {d : DataW H} {p : List MemPlace} (hv : Value.okWide Tryd.prog W r base 28 v) (h : DataW.Trod enc Tryd.prog W 0 (fun _ => true) held 28 v d p) :
    ∃ s : Ed.Sl, v = slV s ∧ Ed.FitS s := by
  obtain ⟨cs, rfl, hsz⟩ := okWide_struct Tryd.underlying28 hv
  obtain ⟨fuel, hf⟩ := h
  have k5 : Tryd.prog.cellsOf 28 = 5 := by kernel_rfl
  obtain ⟨s, e, f⟩ := open_sl (by simpa [Value.cells, k5] using hsz) hf
  refine ⟨s, ?_, f⟩
  unfold slV
  congr 1
  apply Array.toList_inj.1
  simpa [Value.cells, slVs] using e
set_option maxRecDepth 100000 in
theorem open_sls {fuel : Nat} {c : Value} {x : DataW H × List MemPlace} (hf : DataW.trod enc Tryd.prog W 0 (fun _ => true) held fuel 24 [c] = some x) :
    ∃ l : List Ed.Sl, Sls W W.heap.size c l ∧ l.length ≤ 9223372036854775807 ∧ ∀ s ∈ l, Ed.FitS s := by
  have k6 : Tryd.prog.cellsOf 28 = 5 := by kernel_rfl
  rcases open_slice Tryd.underlying24 hf with ⟨hcs, _⟩ | ⟨a, ln, cp, m, n, D, Pl, hcs, _, hl, hm, hmm, _, hi⟩
  · injection hcs with hcs
    subst hcs
    exact ⟨[], Sls.none_, by simp, by simp⟩
  · injection hcs with hcs
    subst hcs
    simp only [if_true] at hmm
    subst hmm
    rw [k6] at hi
    have each : ∀ i, i < ln → ∃ x : Ed.Sl, (W.cell? ⟨a.block, a.off + i * 5, none⟩ = some (.int .u32 x.id) ∧ W.cell? ⟨a.block, a.off + i * 5 + 1, none⟩ = some (.int .u32 x.size) ∧ W.cell? ⟨a.block, a.off + i * 5 + 2, none⟩ = some (.int .u32 x.many) ∧
        W.cell? ⟨a.block, a.off + i * 5 + 3, none⟩ = some (.int .u64 x.first) ∧ W.cell? ⟨a.block, a.off + i * 5 + 4, none⟩ = some (.int .u64 x.last)) ∧ Ed.FitS x ∧ a.spot = none := fun i hlt => by
      obtain ⟨cs, hc, ht⟩ := hi i (by omega)
      obtain ⟨_, hcl, hat⟩ := World.cells?_some hc
      obtain ⟨x, rfl, hfit⟩ := open_sl hcl ht
      have h0 := hat 0 (by omega)
      have h1 := hat 1 (by omega)
      have h2 := hat 2 (by omega)
      have h3 := hat 3 (by omega)
      have h4 := hat 4 (by omega)
      have hsp0 : a.spot = none := by
        obtain ⟨cs0, hc0, _⟩ := hi 0 (by omega)
        obtain ⟨_, hcl0, hat0⟩ := World.cells?_some hc0
        have h00 := hat0 0 (by omega)
        rw [Nat.zero_mul] at h00
        have e : (a.add 0).add 0 = a := by unfold Addr.add; simp
        rw [e] at h00
        have h01 : 0 < cs0.length := by omega
        rw [List.getElem?_eq_getElem h01] at h00
        exact World.cell?_spot h00
      obtain ⟨b, o, sp⟩ := a
      have hsp : sp = none := hsp0
      subst hsp
      rw [add_none, add_none] at h0 h1 h2 h3 h4
      exact ⟨x, ⟨h0, h1, h2, h3, h4⟩, hfit, rfl⟩
    have hex : ∃ f : Nat → Ed.Sl, ∀ i, i < ln → (W.cell? ⟨a.block, a.off + i * 5, none⟩ = some (.int .u32 (f i).id) ∧ W.cell? ⟨a.block, a.off + i * 5 + 1, none⟩ = some (.int .u32 (f i).size) ∧ W.cell? ⟨a.block, a.off + i * 5 + 2, none⟩ = some (.int .u32 (f i).many) ∧
        W.cell? ⟨a.block, a.off + i * 5 + 3, none⟩ = some (.int .u64 (f i).first) ∧ W.cell? ⟨a.block, a.off + i * 5 + 4, none⟩ = some (.int .u64 (f i).last)) ∧ Ed.FitS (f i) ∧ a.spot = none :=
      ⟨fun i => if h : i < ln then (each i h).choose else ⟨0, 0, 0, 0, 0⟩, fun i h => by
        simp only [h, dif_pos]
        exact (each i h).choose_spec⟩
    obtain ⟨f, hfs⟩ := hex
    have hln : ((List.range ln).map f).length = ln := by simp
    have hget : ∀ (i : Nat) s, ((List.range ln).map f)[i]? = some s → i < ln ∧ s = f i := fun i s hx => by
      have hlt : i < ln := by
        have := (List.getElem?_eq_some_iff.1 hx).1
        rw [hln] at this
        exact this
      refine ⟨hlt, ?_⟩
      rw [List.getElem?_map, List.getElem?_range hlt] at hx
      simpa using hx.symm
    refine ⟨(List.range ln).map f, ⟨some a, _, by rw [hln], by rw [hln]; exact hl, fun hne => ?_⟩, by rw [hln]; unfold maxLen at hm; omega, fun s hs => ?_⟩
    · have h0 : 0 < ln := by
        rcases Nat.eq_zero_or_pos ln with e | e
        · subst e; simp [slVs] at hne
        · exact e
      obtain ⟨hc0, _, hsp⟩ := hfs 0 h0
      obtain ⟨b, o, sp⟩ := a
      simp only at hsp
      subst hsp
      refine ⟨b, o, rfl, block_lt_of_cell hc0.1, rd_each _ fun i s hs => ?_⟩
      obtain ⟨h1, rfl⟩ := hget i s hs
      exact (hfs i h1).1
    · obtain ⟨i, hi⟩ := List.getElem?_of_mem hs
      obtain ⟨h1, rfl⟩ := hget i s hi
      exact (hfs i h1).2.1
set_option maxRecDepth 100000 in
set_option maxRecDepth 100000 in
theorem open_edit {v : Value} {d : DataW H} {p : List MemPlace} (hv : Value.okWide Tryd.prog W r base 26 v) (h : DataW.Trod enc Tryd.prog W 0 (fun _ => true) held 26 v d p) :
    ∃ e : Ed.E, EdV W W.heap.size v e ∧ Ed.Fit e := by
  obtain ⟨cs, rfl, hsz⟩ := okWide_struct Tryd.underlying26 hv
  obtain ⟨fuel, hf⟩ := h
  have k6 : Tryd.prog.cellsOf 26 = 5 := by kernel_rfl
  have hl : cs.toList.length = 5 := by simpa [Value.cells, k6] using hsz
  have hf' : DataW.trod enc Tryd.prog W 0 (fun _ => true) held fuel 26 cs.toList = some (d, p) := by simpa [Value.cells] using hf
  obtain ⟨c0, c1, c2, c3, c4, hcs⟩ : ∃ c0 c1 c2 c3 c4, cs.toList = [c0, c1, c2, c3, c4] := by
    generalize cs.toList = q at hl
    match q, hl with
    | [c0, c1, c2, c3, c4], _ => exact ⟨c0, c1, c2, c3, c4, rfl⟩
  rw [hcs] at hf'
  have k1 : Tryd.prog.cellsOf 22 = 1 := by kernel_rfl
  have k2 : Tryd.prog.cellsOf 3 = 1 := by kernel_rfl
  have k3 : Tryd.prog.cellsOf 9 = 1 := by kernel_rfl
  have k4 : Tryd.prog.cellsOf 24 = 1 := by kernel_rfl
  have k5 : Tryd.prog.cellsOf 23 = 1 := by kernel_rfl
  obtain ⟨ys, m, _, _, _, hyl, hg⟩ := DataW.trod_struct Tryd.underlying26 hf'
  match ys, hyl with
  | [y0, y1, y2, y3, y4], _ =>
    have f0 : DataW.trod enc Tryd.prog W 0 (fun _ => true) held m 3 [c0] = some y0 := by simpa [k2] using hg 0 _ rfl
    have f1 : DataW.trod enc Tryd.prog W 0 (fun _ => true) held m 9 [c1] = some y1 := by simpa [k3] using hg 1 _ rfl
    have f2 : DataW.trod enc Tryd.prog W 0 (fun _ => true) held m 22 [c2] = some y2 := by simpa [k1] using hg 2 _ rfl
    have f3 : DataW.trod enc Tryd.prog W 0 (fun _ => true) held m 23 [c3] = some y3 := by simpa [k5] using hg 3 _ rfl
    have f4 : DataW.trod enc Tryd.prog W 0 (fun _ => true) held m 24 [c4] = some y4 := by simpa [k4] using hg 4 _ rfl
    obtain ⟨a0, e0, _, w0⟩ := DataW.trod_int Tryd.underlying3 f0
    obtain ⟨a1, e1, _, w1⟩ := DataW.trod_string Tryd.underlying9 f1
    obtain ⟨a2, e2, _, w2⟩ := DataW.trod_int Tryd.underlying22 f2
    obtain ⟨a3, e3, _, w3⟩ := DataW.trod_int Tryd.underlying23 f3
    obtain ⟨l, hl1, hl2, hl3⟩ := open_sls f4
    injection e0 with e0
    injection e1 with e1
    injection e2 with e2
    injection e3 with e3
    subst e0 e1 e2 e3
    have b0 := bnd_i64 w0
    have b2 := bnd_u64 w2
    have b3 := bnd_u32 w3
    refine ⟨⟨a0, a1, a2.toNat, a3.toNat, l⟩, ⟨c4, ?_, hl1⟩, ⟨b0.1, by show a0 < _; omega, by show a1.size ≤ _; unfold maxLen at w1; omega, by show a2.toNat < _; omega, by show a3.toNat < _; omega, hl2, hl3⟩⟩
    unfold edV
    simp only
    rw [show (a2.toNat : Int) = a2 by omega, show (a3.toNat : Int) = a3 by omega]
    congr 1
    apply Array.toList_inj.1
    rw [hcs]
end
end Go.Proofs.YtggijjknfcofoaaDoor
