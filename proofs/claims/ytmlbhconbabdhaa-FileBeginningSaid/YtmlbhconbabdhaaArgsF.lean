
/-
  Layer 5: the laws' argument opened: a slice of calls (each three numbers and a slice of bytes).
-/
import Derived.Test.YtmlbhconbabdhaaRows
import Derived.Test.YtmlbhconbabdhaaFxDoes
import Derived.WalkKit
import Derived.ProofKit
import Derived.OpenShut
import Derived.ChangeOld
import Derived.Below
import Derived.SizedLaws
import Derived.Lib.SmallJoins
import Derived.Deep.Slices
set_option linter.unusedVariables false
set_option linter.unusedSimpArgs false
namespace Go.Proofs.Ytmlbhconbabdhaa
open Go.ChangeShapes Go.WideShapes Go.ChangeAt Go.RowKit Go.Joins Go.Deep

/-- a call -/
structure Act5 where
  what : Int
  n : Int
  m : Int
  b : List UInt8
/-- the cells at block b from o on are a call -/
def Act5At (w : World) (B b o : Nat) (a : Act5) : Prop :=
  w.cell? ⟨b, o, none⟩ = some (.int .i64 a.what) ∧ w.cell? ⟨b, o + 1, none⟩ = some (.int .i64 a.n) ∧ w.cell? ⟨b, o + 2, none⟩ = some (.int .i64 a.m) ∧ ∃ v, w.cell? ⟨b, o + 3, none⟩ = some v ∧ Bs w B v a.b ∧ a.b.length ≤ 9223372036854775807
/-- The value v is a slice that reads as the calls l, and lies below block B. -/
def Acts5 (w : World) (B : Nat) (v : Value) (l : List Act5) : Prop := ∃ A c, v = .slice A l.length c ∧ l.length ≤ c ∧ c ≤ maxLen ∧
  ∀ (i : Nat) a, l[i]? = some a → ∃ b o, A = some ⟨b, o, none⟩ ∧ b < B ∧ Act5At w B b (o + i * 4) a

section
variable {H : Type} {enc : TypeId × Value → H} {W : World} {held : Bool} {r : Reach} {base : Nat}
set_option maxRecDepth 100000 in
theorem open_act5 {n : Nat} {cs : List Value} {x : DataW H × List MemPlace} (hl : cs.length = 4) (h : DataW.trod enc Try.prog W 0 (fun _ => true) held n 31 cs = some x) :
    ∃ (a : Act5) (v : Value), cs = [.int .i64 a.what, .int .i64 a.n, .int .i64 a.m, v] ∧ Bs W W.heap.size v a.b ∧ a.b.length ≤ 9223372036854775807 := by
  obtain ⟨c0, c1, c2, c3, rfl⟩ : ∃ c0 c1 c2 c3, cs = [c0, c1, c2, c3] := by
    match cs, hl with
    | [c0, c1, c2, c3], _ => exact ⟨c0, c1, c2, c3, rfl⟩
  have k3 : Try.prog.cellsOf 3 = 1 := by kernel_rfl
  have k22 : Try.prog.cellsOf 22 = 1 := by kernel_rfl
  obtain ⟨ys, m, _, _, _, hyl, hf⟩ := DataW.trod_struct Try.underlying31 h
  match ys, hyl with
  | [y0, y1, y2, y3], _ =>
    have f0 : DataW.trod enc Try.prog W 0 (fun _ => true) held m 3 [c0] = some y0 := by simpa [k3] using hf 0 _ rfl
    have f1 : DataW.trod enc Try.prog W 0 (fun _ => true) held m 3 [c1] = some y1 := by simpa [k3] using hf 1 _ rfl
    have f2 : DataW.trod enc Try.prog W 0 (fun _ => true) held m 3 [c2] = some y2 := by simpa [k3] using hf 2 _ rfl
    have f3 : DataW.trod enc Try.prog W 0 (fun _ => true) held m 22 [c3] = some y3 := by simpa [k22] using hf 3 _ rfl
    obtain ⟨wh, e0, _, _⟩ := DataW.trod_int Try.underlying3 f0
    obtain ⟨nn, e1, _, _⟩ := DataW.trod_int Try.underlying3 f1
    obtain ⟨mm, e2, _, _⟩ := DataW.trod_int Try.underlying3 f2
    injection e0 with e0
    injection e1 with e1
    injection e2 with e2
    subst e0 e1 e2
    rcases open_ints Try.underlying22 Try.underlying5 (by kernel_rfl) f3 with ⟨hcs, _⟩ | ⟨x, l, c, zs, hcs, _, hl', hm, hz, hx, hcell, hwz⟩
    · injection hcs with hcs
      subst hcs
      exact ⟨⟨wh, nn, mm, []⟩, _, rfl, Bs.none_, by simp⟩
    · injection hcs with hcs
      subst hcs
      have hz' : zs.length = c := by simpa using hz
      have hi : Ints W W.heap.size .u8 (.slice (some x) l c) (zs.take l) := ints_of_row hl' hz' hcell
      refine ⟨⟨wh, nn, mm, _⟩, _, rfl, bs_of_ints hi (fun z hz => bounds_u8 (hwz z (List.mem_of_mem_take hz))), ?_⟩
      rw [List.length_map, List.length_take]
      unfold maxLen at hm
      omega

set_option maxRecDepth 100000 in
theorem open_acts5 {v : Value} {d : DataW H} {p : List MemPlace} (hv : Value.okWide Try.prog W r base 23 v) (h : DataW.Trod enc Try.prog W 0 (fun _ => true) held 23 v d p) :
    ∃ l : List Act5, Acts5 W W.heap.size v l := by
  obtain ⟨cc, len, cap, rfl⟩ := okWide_slice Try.underlying23 hv
  obtain ⟨fuel, hf⟩ := h
  have k4 : Try.prog.cellsOf 31 = 4 := by kernel_rfl
  rcases open_slice Try.underlying23 hf with ⟨hcs, _⟩ | ⟨a, ln, cp, m, n, D, Pl, hcs, _, hl, hm, hmm, _, hi⟩
  · simp [Value.cells] at hcs
    obtain ⟨rfl, rfl, rfl⟩ := hcs
    exact ⟨[], none, 0, rfl, Nat.le_refl _, Nat.zero_le _, by simp⟩
  · simp [Value.cells] at hcs
    obtain ⟨rfl, rfl, rfl⟩ := hcs
    simp only [if_true] at hmm
    subst hmm
    rw [k4] at hi
    have each : ∀ i, i < len → ∃ x : Act5, Act5At W W.heap.size a.block (a.off + i * 4) x ∧ a.spot = none := fun i hlt => by
      obtain ⟨cs, hc, ht⟩ := hi i (by omega)
      obtain ⟨_, hcl, hat⟩ := World.cells?_some hc
      obtain ⟨x, v, rfl, hb, hlb⟩ := open_act5 hcl ht
      have h0 := hat 0 (by omega)
      have h1 := hat 1 (by omega)
      have h2 := hat 2 (by omega)
      have h3 := hat 3 (by omega)
      have hsp0 : a.spot = none := by
        obtain ⟨cs0, hc0, _⟩ := hi 0 (by omega)
        obtain ⟨_, hcl0, hat0⟩ := World.cells?_some hc0
        have h00 := hat0 0 (by omega)
        rw [Nat.zero_mul] at h00
        have e : (a.add 0).add 0 = a := by unfold Addr.add; simp
        rw [e] at h00
        have h01 : 0 < cs0.length := by omega
        rw [List.getElem?_eq_getElem h01] at h00
        exact World.cell?_spot h00
      obtain ⟨b, o, sp⟩ := a
      have hsp : sp = none := hsp0
      subst hsp
      rw [add_none, add_none] at h0 h1 h2 h3
      exact ⟨x, ⟨h0, h1, h2, v, h3, hb, hlb⟩, rfl⟩
    have hex : ∃ f : Nat → Act5, ∀ i, i < len → Act5At W W.heap.size a.block (a.off + i * 4) (f i) ∧ a.spot = none :=
      ⟨fun i => if h : i < len then (each i h).choose else ⟨0, 0, 0, []⟩, fun i h => by
        simp only [h, dif_pos]
        exact (each i h).choose_spec⟩
    obtain ⟨f, hfs⟩ := hex
    have hln : ((List.range len).map f).length = len := by simp
    refine ⟨(List.range len).map f, some a, _, by rw [hln], by rw [hln]; exact hl, hm, ?_⟩
    intro i x hx
    have hlt : i < len := by
      have := (List.getElem?_eq_some_iff.1 hx).1
      rw [hln] at this
      exact this
    have hx' : x = f i := by
      rw [List.getElem?_map, List.getElem?_range hlt] at hx
      simpa using hx.symm
    subst hx'
    obtain ⟨h1, h2⟩ := hfs i hlt
    obtain ⟨b, o, sp⟩ := a
    simp only at h2
    subst h2
    exact ⟨b, o, rfl, fblock_of_cell h1.1, h1⟩
end
end Go.Proofs.Ytmlbhconbabdhaa
