
/-
  Layer 8: the laws' arguments opened: a record; a slice of records.
-/
import Derived.Test.YtmiljicohnfejaaDoorRows
import Derived.Test.YtmiljicohnfejaaDoorRcMem
import Derived.WalkKit
import Derived.ProofKit
import Derived.OpenShut
import Derived.ChangeOld
import Derived.Below
import Derived.SizedLaws
import Derived.Lib.SmallJoins
import Derived.Deep.Slices
set_option linter.unusedVariables false
set_option linter.unusedSimpArgs false
namespace Go.Proofs.YtmiljicohnfejaaDoor
open Go.ChangeShapes Go.WideShapes Go.ChangeAt Go.RowKit Go.Joins Go.Deep

/-- the cells at block b from o on are a record -/
def RecAt (w : World) (B b o : Nat) (r : Rc.Rec) : Prop := ∃ kv vv, w.cell? ⟨b, o, none⟩ = some (.int .u64 r.seq) ∧ w.cell? ⟨b, o + 1, none⟩ = some (.int .i64 r.kind) ∧ w.cell? ⟨b, o + 2, none⟩ = some kv ∧
  w.cell? ⟨b, o + 3, none⟩ = some vv ∧ w.cell? ⟨b, o + 4, none⟩ = some (.int .u32 r.seg) ∧ w.cell? ⟨b, o + 5, none⟩ = some (.int .u32 r.off) ∧ Bs w B kv r.key ∧ Bs w B vv r.val ∧ Rc.Fit r
/-- The value v is a slice that reads as the records l, and lies below block B. -/
def Recs (w : World) (B : Nat) (v : Value) (l : List Rc.Rec) : Prop := ∃ A c, v = .slice A l.length c ∧ l.length ≤ c ∧ c ≤ maxLen ∧
  ∀ (i : Nat) r, l[i]? = some r → ∃ b o, A = some ⟨b, o, none⟩ ∧ b < B ∧ RecAt w B b (o + i * 6) r

section
variable {H : Type} {enc : TypeId × Value → H} {W : World} {held : Bool} {r : Reach} {base : Nat}
theorem open_bs {m : Nat} {c : Value} {y : DataW H × List MemPlace} (h : DataW.trod enc Tryd.prog W 0 (fun _ => true) held m 23 [c] = some y) : ∃ l : List UInt8, Bs W W.heap.size c l ∧ l.length ≤ 9223372036854775807 := by
  rcases open_ints Tryd.underlying23 Tryd.underlying5 (by kernel_rfl) h with ⟨hcs, _⟩ | ⟨x, l, c, zs, hcs, _, hl', hm, hz, hx, hcell, hwz⟩
  · injection hcs with hcs
    subst hcs
    exact ⟨[], Bs.none_, by simp⟩
  · injection hcs with hcs
    subst hcs
    have hz' : zs.length = c := by simpa using hz
    have hi : Ints W W.heap.size .u8 (.slice (some x) l c) (zs.take l) := ints_of_row hl' hz' hcell
    refine ⟨_, bs_of_ints hi (fun z hz => bounds_u8 (hwz z (List.mem_of_mem_take hz))), ?_⟩
    rw [List.length_map, List.length_take]
    unfold maxLen at hm
    omega
set_option maxRecDepth 100000 in
theorem open_rec {n : Nat} {cs : List Value} {x : DataW H × List MemPlace} (hl : cs.length = 6) (h : DataW.trod enc Tryd.prog W 0 (fun _ => true) held n 28 cs = some x) :
    ∃ (r : Rc.Rec) (kv vv : Value), cs = [.int .u64 r.seq, .int .i64 r.kind, kv, vv, .int .u32 r.seg, .int .u32 r.off] ∧ Bs W W.heap.size kv r.key ∧ Bs W W.heap.size vv r.val ∧ Rc.Fit r := by
  obtain ⟨c0, c1, c2, c3, c4, c5, rfl⟩ : ∃ c0 c1 c2 c3 c4 c5, cs = [c0, c1, c2, c3, c4, c5] := by
    match cs, hl with
    | [c0, c1, c2, c3, c4, c5], _ => exact ⟨c0, c1, c2, c3, c4, c5, rfl⟩
  have k1 : Tryd.prog.cellsOf 22 = 1 := by kernel_rfl
  have k2 : Tryd.prog.cellsOf 3 = 1 := by kernel_rfl
  have k3 : Tryd.prog.cellsOf 23 = 1 := by kernel_rfl
  have k4 : Tryd.prog.cellsOf 26 = 2 := by kernel_rfl
  have k5 : Tryd.prog.cellsOf 24 = 1 := by kernel_rfl
  obtain ⟨ys, m, _, _, _, hyl, hf⟩ := DataW.trod_struct Tryd.underlying28 h
  match ys, hyl with
  | [y0, y1, y2, y3, y4], _ =>
    have f0 : DataW.trod enc Tryd.prog W 0 (fun _ => true) held m 22 [c0] = some y0 := by simpa [k1] using hf 0 _ rfl
    have f1 : DataW.trod enc Tryd.prog W 0 (fun _ => true) held m 3 [c1] = some y1 := by simpa [k2] using hf 1 _ rfl
    have f2 : DataW.trod enc Tryd.prog W 0 (fun _ => true) held m 23 [c2] = some y2 := by simpa [k3] using hf 2 _ rfl
    have f3 : DataW.trod enc Tryd.prog W 0 (fun _ => true) held m 23 [c3] = some y3 := by simpa [k3] using hf 3 _ rfl
    have f4 : DataW.trod enc Tryd.prog W 0 (fun _ => true) held m 26 [c4, c5] = some y4 := by simpa [k4] using hf 4 _ rfl
    obtain ⟨zs, q, _, _, _, hzl, hg⟩ := DataW.trod_struct Tryd.underlying26 f4
    match zs, hzl with
    | [z0, z1], _ =>
      have g0 : DataW.trod enc Tryd.prog W 0 (fun _ => true) held q 24 [c4] = some z0 := by simpa [k5] using hg 0 _ rfl
      have g1 : DataW.trod enc Tryd.prog W 0 (fun _ => true) held q 24 [c5] = some z1 := by simpa [k5] using hg 1 _ rfl
      obtain ⟨a0, e0, _, w0⟩ := DataW.trod_int Tryd.underlying22 f0
      obtain ⟨a1, e1, _, w1⟩ := DataW.trod_int Tryd.underlying3 f1
      obtain ⟨a4, e4, _, w4⟩ := DataW.trod_int Tryd.underlying24 g0
      obtain ⟨a5, e5, _, w5⟩ := DataW.trod_int Tryd.underlying24 g1
      injection e0 with e0
      injection e1 with e1
      injection e4 with e4
      injection e5 with e5
      subst e0 e1 e4 e5
      obtain ⟨l2, h2, n2⟩ := open_bs f2
      obtain ⟨l3, h3, n3⟩ := open_bs f3
      have b0 := bounds_u64 w0
      have b1 := bounds_i64 w1
      have b4 := bounds_u32 w4
      have b5 := bounds_u32 w5
      exact ⟨⟨a0, a1, l2, l3, a4, a5⟩, _, _, rfl, h2, h3, ⟨b0.1, by show a0 < _; omega, by show _ ≤ a1; omega, by show a1 < _; omega, b4.1, by show a4 < _; omega, b5.1, by show a5 < _; omega, n2, n3⟩⟩

set_option maxRecDepth 100000 in
theorem open_record {v : Value} {d : DataW H} {p : List MemPlace} (hv : Value.okWide Tryd.prog W r base 28 v) (h : DataW.Trod enc Tryd.prog W 0 (fun _ => true) held 28 v d p) :
    ∃ r : Rc.Rec, RecV W W.heap.size v r ∧ Rc.Fit r := by
  obtain ⟨cs, rfl, hsz⟩ := okWide_struct Tryd.underlying28 hv
  obtain ⟨fuel, hf⟩ := h
  have k6 : Tryd.prog.cellsOf 28 = 6 := by kernel_rfl
  obtain ⟨r, kv, vv, e, h1, h2, f⟩ := open_rec (by simpa [Value.cells, k6] using hsz) hf
  refine ⟨r, ⟨kv, vv, ?_, h1, h2⟩, f⟩
  unfold recV
  congr 1
  apply Array.toList_inj.1
  simpa [Value.cells] using e

set_option maxRecDepth 100000 in
theorem open_records {v : Value} {d : DataW H} {p : List MemPlace} (hv : Value.okWide Tryd.prog W r base 46 v) (h : DataW.Trod enc Tryd.prog W 0 (fun _ => true) held 46 v d p) :
    ∃ l : List Rc.Rec, Recs W W.heap.size v l := by
  obtain ⟨cc, len, cap, rfl⟩ := okWide_slice Tryd.underlying46 hv
  obtain ⟨fuel, hf⟩ := h
  have k6 : Tryd.prog.cellsOf 28 = 6 := by kernel_rfl
  rcases open_slice Tryd.underlying46 hf with ⟨hcs, _⟩ | ⟨a, ln, cp, m, n, D, Pl, hcs, _, hl, hm, hmm, _, hi⟩
  · simp [Value.cells] at hcs
    obtain ⟨rfl, rfl, rfl⟩ := hcs
    exact ⟨[], none, 0, rfl, Nat.le_refl _, Nat.zero_le _, by simp⟩
  · simp [Value.cells] at hcs
    obtain ⟨rfl, rfl, rfl⟩ := hcs
    simp only [if_true] at hmm
    subst hmm
    rw [k6] at hi
    have each : ∀ i, i < len → ∃ x : Rc.Rec, RecAt W W.heap.size a.block (a.off + i * 6) x ∧ a.spot = none := fun i hlt => by
      obtain ⟨cs, hc, ht⟩ := hi i (by omega)
      obtain ⟨_, hcl, hat⟩ := World.cells?_some hc
      obtain ⟨x, kv, vv, rfl, hb1, hb2, hfit⟩ := open_rec hcl ht
      have h0 := hat 0 (by omega)
      have h1 := hat 1 (by omega)
      have h2 := hat 2 (by omega)
      have h3 := hat 3 (by omega)
      have h4 := hat 4 (by omega)
      have h5 := hat 5 (by omega)
      have hsp0 : a.spot = none := by
        obtain ⟨cs0, hc0, _⟩ := hi 0 (by omega)
        obtain ⟨_, hcl0, hat0⟩ := World.cells?_some hc0
        have h00 := hat0 0 (by omega)
        rw [Nat.zero_mul] at h00
        have e : (a.add 0).add 0 = a := by unfold Addr.add; simp
        rw [e] at h00
        have h01 : 0 < cs0.length := by omega
        rw [List.getElem?_eq_getElem h01] at h00
        exact World.cell?_spot h00
      obtain ⟨b, o, sp⟩ := a
      have hsp : sp = none := hsp0
      subst hsp
      rw [add_none, add_none] at h0 h1 h2 h3 h4 h5
      exact ⟨x, ⟨kv, vv, h0, h1, h2, h3, h4, h5, hb1, hb2, hfit⟩, rfl⟩
    have hex : ∃ f : Nat → Rc.Rec, ∀ i, i < len → RecAt W W.heap.size a.block (a.off + i * 6) (f i) ∧ a.spot = none :=
      ⟨fun i => if h : i < len then (each i h).choose else Rc.none, fun i h => by
        simp only [h, dif_pos]
        exact (each i h).choose_spec⟩
    obtain ⟨f, hfs⟩ := hex
    have hln : ((List.range len).map f).length = len := by simp
    refine ⟨(List.range len).map f, some a, _, by rw [hln], by rw [hln]; exact hl, hm, ?_⟩
    intro i x hx
    have hlt : i < len := by
      have := (List.getElem?_eq_some_iff.1 hx).1
      rw [hln] at this
      exact this
    have hx' : x = f i := by
      rw [List.getElem?_map, List.getElem?_range hlt] at hx
      simpa using hx.symm
    subst hx'
    obtain ⟨h1, h2⟩ := hfs i hlt
    obtain ⟨b, o, sp⟩ := a
    simp only at h2
    subst h2
    refine ⟨b, o, rfl, ?_, h1⟩
    obtain ⟨kv, vv, h0, _⟩ := h1
    exact block_lt_of_cell h0
end
end Go.Proofs.YtmiljicohnfejaaDoor
