
/-
  Layer 7: the laws' argument opened: a slice of calls (a number, two names, two numbers, a slice of bytes, a slice of numbers).
-/
import Derived.Test.YtboeiadfmknidaaGreatRows
import Derived.Test.YtboeiadfmknidaaGreatWords
import Derived.Test.YtboeiadfmknidaaGreatJxAct
import Derived.WalkKit
import Derived.ProofKit
import Derived.OpenShut
import Derived.ShutString
import Derived.ChangeOld
import Derived.Below
import Derived.SizedLaws
import Derived.Lib.SmallJoins
import Derived.Deep.Slices
set_option linter.unusedVariables false
set_option linter.unusedSimpArgs false
namespace Go.Proofs.YtboeiadfmknidaaGreat
open Go.ChangeShapes Go.WideShapes Go.ChangeAt Go.RowKit Go.Joins Go.Deep

/-- the cells at block b from o on are a call -/
structure Act7At (w : World) (B b o : Nat) (a : Act7) : Prop where
  c0 : w.cell? ⟨b, o, none⟩ = some (.int .i64 a.what)
  c1 : w.cell? ⟨b, o + 1, none⟩ = some (.string a.name)
  c2 : w.cell? ⟨b, o + 2, none⟩ = some (.string a.dst)
  c3 : w.cell? ⟨b, o + 3, none⟩ = some (.int .i64 a.n)
  c4 : w.cell? ⟨b, o + 4, none⟩ = some (.int .i64 a.m)
  c5 : ∃ v, w.cell? ⟨b, o + 5, none⟩ = some v ∧ Bs w B v a.b ∧ a.b.length ≤ 9223372036854775807
  c6 : ∃ v, w.cell? ⟨b, o + 6, none⟩ = some v ∧ Ints w B .i64 v a.picks ∧ a.picks.length ≤ 9223372036854775807
  ok : a.name.size ≤ maxLen ∧ a.dst.size ≤ maxLen ∧ a.n < 9223372036854775808
/-- The value v is a slice that reads as the calls l, and lies below block B. -/
def Acts7 (w : World) (B : Nat) (v : Value) (l : List Act7) : Prop := ∃ A c, v = .slice A l.length c ∧ l.length ≤ c ∧ c ≤ maxLen ∧
  ∀ (i : Nat) a, l[i]? = some a → ∃ b o, A = some ⟨b, o, none⟩ ∧ b < B ∧ Act7At w B b (o + i * 7) a

theorem lt_of_wf64 {n : Int} (h : (Lit.int .i64 n).wf = true) : n < 9223372036854775808 := by
  have e2 : IntKind.i64.max = 9223372036854775807 := by decide
  simp only [Lit.wf, e2, Bool.and_eq_true, decide_eq_true_eq] at h
  omega
section
variable {H : Type} {enc : TypeId × Value → H} {W : World} {held : Bool} {r : Reach} {base : Nat}
set_option maxRecDepth 100000 in
theorem open_act7 {n : Nat} {cs : List Value} {x : DataW H × List MemPlace} (hl : cs.length = 7) (h : DataW.trod enc Tryz.prog W 0 (fun _ => true) held n 31 cs = some x) :
    ∃ (a : Act7) (v u : Value), cs = [.int .i64 a.what, .string a.name, .string a.dst, .int .i64 a.n, .int .i64 a.m, v, u] ∧ (Bs W W.heap.size v a.b ∧ a.b.length ≤ 9223372036854775807) ∧ (Ints W W.heap.size .i64 u a.picks ∧ a.picks.length ≤ 9223372036854775807) ∧ a.name.size ≤ maxLen ∧ a.dst.size ≤ maxLen ∧ a.n < 9223372036854775808 := by
  obtain ⟨c0, c1, c2, c3, c4, c5, c6, rfl⟩ : ∃ c0 c1 c2 c3 c4 c5 c6, cs = [c0, c1, c2, c3, c4, c5, c6] := by
    match cs, hl with
    | [c0, c1, c2, c3, c4, c5, c6], _ => exact ⟨c0, c1, c2, c3, c4, c5, c6, rfl⟩
  have k3 : Tryz.prog.cellsOf 3 = 1 := by kernel_rfl
  have k9 : Tryz.prog.cellsOf 9 = 1 := by kernel_rfl
  have k22 : Tryz.prog.cellsOf 23 = 1 := by kernel_rfl
  have k23 : Tryz.prog.cellsOf 24 = 1 := by kernel_rfl
  obtain ⟨ys, m, _, _, _, hyl, hf⟩ := DataW.trod_struct Tryz.underlying31 h
  match ys, hyl with
  | [y0, y1, y2, y3, y4, y5, y6], _ =>
    have f0 : DataW.trod enc Tryz.prog W 0 (fun _ => true) held m 3 [c0] = some y0 := by simpa [k3] using hf 0 _ rfl
    have f1 : DataW.trod enc Tryz.prog W 0 (fun _ => true) held m 9 [c1] = some y1 := by simpa [k9] using hf 1 _ rfl
    have f2 : DataW.trod enc Tryz.prog W 0 (fun _ => true) held m 9 [c2] = some y2 := by simpa [k9] using hf 2 _ rfl
    have f3 : DataW.trod enc Tryz.prog W 0 (fun _ => true) held m 3 [c3] = some y3 := by simpa [k3] using hf 3 _ rfl
    have f4 : DataW.trod enc Tryz.prog W 0 (fun _ => true) held m 3 [c4] = some y4 := by simpa [k3] using hf 4 _ rfl
    have f5 : DataW.trod enc Tryz.prog W 0 (fun _ => true) held m 23 [c5] = some y5 := by simpa [k22] using hf 5 _ rfl
    have f6 : DataW.trod enc Tryz.prog W 0 (fun _ => true) held m 24 [c6] = some y6 := by simpa [k23] using hf 6 _ rfl
    obtain ⟨wh, e0, _, _⟩ := DataW.trod_int Tryz.underlying3 f0
    obtain ⟨nm, e1, _, hs1⟩ := DataW.trod_string Tryz.underlying9 f1
    obtain ⟨ds, e2, _, hs2⟩ := DataW.trod_string Tryz.underlying9 f2
    obtain ⟨nn, e3, _, hn3⟩ := DataW.trod_int Tryz.underlying3 f3
    obtain ⟨mm, e4, _, _⟩ := DataW.trod_int Tryz.underlying3 f4
    injection e0 with e0
    injection e1 with e1
    injection e2 with e2
    injection e3 with e3
    injection e4 with e4
    subst e0 e1 e2 e3 e4
    have kb : ∃ bl, Bs W W.heap.size c5 bl ∧ bl.length ≤ 9223372036854775807 := by
      rcases open_ints Tryz.underlying23 Tryz.underlying5 (by kernel_rfl) f5 with ⟨hcs, _⟩ | ⟨x, l, c, zs, hcs, _, hl', hm, hz, hx, hcell, hwz⟩
      · injection hcs with hcs
        subst hcs
        exact ⟨[], Bs.none_, by simp⟩
      · injection hcs with hcs
        subst hcs
        have hz' : zs.length = c := by simpa using hz
        have hi : Ints W W.heap.size .u8 (.slice (some x) l c) (zs.take l) := ints_of_row hl' hz' hcell
        refine ⟨_, bs_of_ints hi (fun z hz => bounds_u8 (hwz z (List.mem_of_mem_take hz))), ?_⟩
        rw [List.length_map, List.length_take]
        unfold maxLen at hm
        omega
    have kp : ∃ pl, Ints W W.heap.size .i64 c6 pl ∧ pl.length ≤ 9223372036854775807 := by
      rcases open_ints Tryz.underlying24 Tryz.underlying3 (by kernel_rfl) f6 with ⟨hcs, _⟩ | ⟨x, l, c, zs, hcs, _, hl', hm, hz, hx, hcell, hwz⟩
      · injection hcs with hcs
        subst hcs
        exact ⟨[], Ints.none_, by simp⟩
      · injection hcs with hcs
        subst hcs
        have hz' : zs.length = c := by simpa using hz
        have hi : Ints W W.heap.size .i64 (.slice (some x) l c) (zs.take l) := ints_of_row hl' hz' hcell
        refine ⟨_, hi, ?_⟩
        rw [List.length_take]
        unfold maxLen at hm
        omega
    obtain ⟨bl, hb1, hb2⟩ := kb
    obtain ⟨pl, hp1, hp2⟩ := kp
    exact ⟨⟨wh, nm, ds, nn, mm, bl, pl⟩, c5, c6, rfl, ⟨hb1, hb2⟩, ⟨hp1, hp2⟩, hs1, hs2, lt_of_wf64 hn3⟩

set_option maxRecDepth 100000 in
theorem open_acts7 {v : Value} {d : DataW H} {p : List MemPlace} (hv : Value.okWide Tryz.prog W r base 22 v) (h : DataW.Trod enc Tryz.prog W 0 (fun _ => true) held 22 v d p) :
    ∃ l : List Act7, Acts7 W W.heap.size v l := by
  obtain ⟨cc, len, cap, rfl⟩ := okWide_slice Tryz.underlying22 hv
  obtain ⟨fuel, hf⟩ := h
  have k4 : Tryz.prog.cellsOf 31 = 7 := by kernel_rfl
  rcases open_slice Tryz.underlying22 hf with ⟨hcs, _⟩ | ⟨a, ln, cp, m, n, D, Pl, hcs, _, hl, hm, hmm, _, hi⟩
  · simp [Value.cells] at hcs
    obtain ⟨rfl, rfl, rfl⟩ := hcs
    exact ⟨[], none, 0, rfl, Nat.le_refl _, Nat.zero_le _, by simp⟩
  · simp [Value.cells] at hcs
    obtain ⟨rfl, rfl, rfl⟩ := hcs
    simp only [if_true] at hmm
    subst hmm
    rw [k4] at hi
    have each : ∀ i, i < len → ∃ x : Act7, Act7At W W.heap.size a.block (a.off + i * 7) x ∧ a.spot = none := fun i hlt => by
      obtain ⟨cs, hc, ht⟩ := hi i (by omega)
      obtain ⟨_, hcl, hat⟩ := World.cells?_some hc
      obtain ⟨x, v, u, rfl, hb, hp, hn⟩ := open_act7 hcl ht
      have h0 := hat 0 (by omega)
      have h1 := hat 1 (by omega)
      have h2 := hat 2 (by omega)
      have h3 := hat 3 (by omega)
      have h4 := hat 4 (by omega)
      have h5 := hat 5 (by omega)
      have h6 := hat 6 (by omega)
      have hsp0 : a.spot = none := by
        obtain ⟨cs0, hc0, _⟩ := hi 0 (by omega)
        obtain ⟨_, hcl0, hat0⟩ := World.cells?_some hc0
        have h00 := hat0 0 (by omega)
        rw [Nat.zero_mul] at h00
        have e : (a.add 0).add 0 = a := by unfold Addr.add; simp
        rw [e] at h00
        have h01 : 0 < cs0.length := by omega
        rw [List.getElem?_eq_getElem h01] at h00
        exact World.cell?_spot h00
      obtain ⟨b, o, sp⟩ := a
      have hsp : sp = none := hsp0
      subst hsp
      rw [add_none, add_none] at h0 h1 h2 h3 h4 h5 h6
      exact ⟨x, ⟨h0, h1, h2, h3, h4, ⟨v, h5, hb⟩, ⟨u, h6, hp⟩, hn⟩, rfl⟩
    have hex : ∃ f : Nat → Act7, ∀ i, i < len → Act7At W W.heap.size a.block (a.off + i * 7) (f i) ∧ a.spot = none :=
      ⟨fun i => if h : i < len then (each i h).choose else ⟨0, .empty, .empty, 0, 0, [], []⟩, fun i h => by
        simp only [h, dif_pos]
        exact (each i h).choose_spec⟩
    obtain ⟨f, hfs⟩ := hex
    have hln : ((List.range len).map f).length = len := by simp
    refine ⟨(List.range len).map f, some a, _, by rw [hln], by rw [hln]; exact hl, hm, ?_⟩
    intro i x hx
    have hlt : i < len := by
      have := (List.getElem?_eq_some_iff.1 hx).1
      rw [hln] at this
      exact this
    have hx' : x = f i := by
      rw [List.getElem?_map, List.getElem?_range hlt] at hx
      simpa using hx.symm
    subst hx'
    obtain ⟨h1, h2⟩ := hfs i hlt
    obtain ⟨b, o, sp⟩ := a
    simp only at h2
    subst h2
    exact ⟨b, o, rfl, World.block_lt_of_cell? W ⟨b, _, none⟩ h1.c0, h1⟩
end
end Go.Proofs.YtboeiadfmknidaaGreat
