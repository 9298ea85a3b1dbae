
/-
  Layer 14: the laws' arguments opened: a slice of calls (each a number, a slice of bytes, a number); a slice of slices of bytes.
-/
import Derived.Test.YtffcbekogpgciaaRows
import Derived.Test.YtffcbekogpgciaaPrAny
import Derived.WalkKit
import Derived.ProofKit
import Derived.OpenShut
import Derived.ChangeOld
import Derived.Below
import Derived.SizedLaws
import Derived.Lib.SmallJoins
import Derived.Deep.Slices
set_option linter.unusedVariables false
set_option linter.unusedSimpArgs false
namespace Go.Proofs.Ytffcbekogpgciaa
open Go.ChangeShapes Go.WideShapes Go.ChangeAt Go.RowKit Go.Joins Go.Deep

/-- a call -/
structure Call14 where
  what : Int
  key : List UInt8
  n : Nat
/-- the cells at block b from o on are a call -/
def Call14At (w : World) (B b o : Nat) (a : Call14) : Prop :=
  w.cell? ⟨b, o, none⟩ = some (.int .i64 a.what) ∧ (∃ v, w.cell? ⟨b, o + 1, none⟩ = some v ∧ Bs w B v a.key ∧ a.key.length ≤ 9223372036854775807) ∧ w.cell? ⟨b, o + 2, none⟩ = some (.int .u64 (a.n : Int)) ∧ a.n < 18446744073709551616
/-- The value v is a slice that reads as the calls l, and lies below block B. -/
def Calls14 (w : World) (B : Nat) (v : Value) (l : List Call14) : Prop := ∃ A c, v = .slice A l.length c ∧ l.length ≤ c ∧ c ≤ maxLen ∧
  ∀ (i : Nat) a, l[i]? = some a → ∃ b o, A = some ⟨b, o, none⟩ ∧ b < B ∧ Call14At w B b (o + i * 3) a

section
variable {H : Type} {enc : TypeId × Value → H} {W : World} {held : Bool} {r : Reach} {base : Nat}
set_option maxRecDepth 100000 in
theorem open_bytes14 {n : Nat} {c3 : Value} {y : DataW H × List MemPlace} (f3 : DataW.trod enc Try.prog W 0 (fun _ => true) held n 30 [c3] = some y) :
    ∃ l : List UInt8, Bs W W.heap.size c3 l ∧ l.length ≤ 9223372036854775807 := by
  rcases open_ints Try.underlying30 Try.underlying5 (by kernel_rfl) f3 with ⟨hcs, _⟩ | ⟨x, l, c, zs, hcs, _, hl', hm, hz, hx, hcell, hwz⟩
  · injection hcs with hcs
    subst hcs
    exact ⟨[], Bs.none_, by simp⟩
  · injection hcs with hcs
    subst hcs
    have hz' : zs.length = c := by simpa using hz
    have hi : Ints W W.heap.size .u8 (.slice (some x) l c) (zs.take l) := ints_of_row hl' hz' hcell
    refine ⟨_, bs_of_ints hi (fun z hz => bounds_u8 (hwz z (List.mem_of_mem_take hz))), ?_⟩
    rw [List.length_map, List.length_take]
    unfold maxLen at hm
    omega
set_option maxRecDepth 100000 in
theorem open_call14 {n : Nat} {cs : List Value} {x : DataW H × List MemPlace} (hl : cs.length = 3) (h : DataW.trod enc Try.prog W 0 (fun _ => true) held n 32 cs = some x) :
    ∃ (a : Call14) (v : Value), cs = [.int .i64 a.what, v, .int .u64 (a.n : Int)] ∧ Bs W W.heap.size v a.key ∧ a.key.length ≤ 9223372036854775807 ∧ a.n < 18446744073709551616 := by
  obtain ⟨c0, c1, c2, rfl⟩ : ∃ c0 c1 c2, cs = [c0, c1, c2] := by
    match cs, hl with
    | [c0, c1, c2], _ => exact ⟨c0, c1, c2, rfl⟩
  have k3 : Try.prog.cellsOf 3 = 1 := by kernel_rfl
  have k22 : Try.prog.cellsOf 30 = 1 := by kernel_rfl
  have k4 : Try.prog.cellsOf 22 = 1 := by kernel_rfl
  obtain ⟨ys, m, _, _, _, hyl, hf⟩ := DataW.trod_struct Try.underlying32 h
  match ys, hyl with
  | [y0, y1, y2], _ =>
    have f0 : DataW.trod enc Try.prog W 0 (fun _ => true) held m 3 [c0] = some y0 := by simpa [k3] using hf 0 _ rfl
    have f1 : DataW.trod enc Try.prog W 0 (fun _ => true) held m 30 [c1] = some y1 := by simpa [k22] using hf 1 _ rfl
    have f2 : DataW.trod enc Try.prog W 0 (fun _ => true) held m 22 [c2] = some y2 := by simpa [k4] using hf 2 _ rfl
    obtain ⟨wh, e0, _, _⟩ := DataW.trod_int Try.underlying3 f0
    obtain ⟨nn, e2, _, hw⟩ := DataW.trod_int Try.underlying22 f2
    obtain ⟨b0, b1⟩ := bounds_u64 hw
    obtain ⟨nn, rfl⟩ := Int.eq_ofNat_of_zero_le b0
    injection e0 with e0
    injection e2 with e2
    subst e0 e2
    obtain ⟨l, hb, hbl⟩ := open_bytes14 f1
    exact ⟨⟨wh, l, nn⟩, _, rfl, hb, hbl, by show nn < _; omega⟩

set_option maxRecDepth 100000 in
theorem open_calls14 {v : Value} {d : DataW H} {p : List MemPlace} (hv : Value.okWide Try.prog W r base 23 v) (h : DataW.Trod enc Try.prog W 0 (fun _ => true) held 23 v d p) :
    ∃ l : List Call14, Calls14 W W.heap.size v l := by
  obtain ⟨cc, len, cap, rfl⟩ := okWide_slice Try.underlying23 hv
  obtain ⟨fuel, hf⟩ := h
  have k4 : Try.prog.cellsOf 32 = 3 := by kernel_rfl
  rcases open_slice Try.underlying23 hf with ⟨hcs, _⟩ | ⟨a, ln, cp, m, n, D, Pl, hcs, _, hl, hm, hmm, _, hi⟩
  · simp [Value.cells] at hcs
    obtain ⟨rfl, rfl, rfl⟩ := hcs
    exact ⟨[], none, 0, rfl, Nat.le_refl _, Nat.zero_le _, by simp⟩
  · simp [Value.cells] at hcs
    obtain ⟨rfl, rfl, rfl⟩ := hcs
    simp only [if_true] at hmm
    subst hmm
    rw [k4] at hi
    have each : ∀ i, i < len → ∃ x : Call14, Call14At W W.heap.size a.block (a.off + i * 3) x ∧ a.spot = none := fun i hlt => by
      obtain ⟨cs, hc, ht⟩ := hi i (by omega)
      obtain ⟨_, hcl, hat⟩ := World.cells?_some hc
      obtain ⟨x, v, rfl, hb, hlb, hnb⟩ := open_call14 hcl ht
      have h0 := hat 0 (by omega)
      have h1 := hat 1 (by omega)
      have h2 := hat 2 (by omega)
      have hsp0 : a.spot = none := by
        obtain ⟨cs0, hc0, _⟩ := hi 0 (by omega)
        obtain ⟨_, hcl0, hat0⟩ := World.cells?_some hc0
        have h00 := hat0 0 (by omega)
        rw [Nat.zero_mul] at h00
        have e : (a.add 0).add 0 = a := by unfold Addr.add; simp
        rw [e] at h00
        have h01 : 0 < cs0.length := by omega
        rw [List.getElem?_eq_getElem h01] at h00
        exact World.cell?_spot h00
      obtain ⟨b, o, sp⟩ := a
      have hsp : sp = none := hsp0
      subst hsp
      rw [add_none, add_none] at h0 h1 h2
      exact ⟨x, ⟨h0, ⟨v, h1, hb, hlb⟩, h2, hnb⟩, rfl⟩
    have hex : ∃ f : Nat → Call14, ∀ i, i < len → Call14At W W.heap.size a.block (a.off + i * 3) (f i) ∧ a.spot = none :=
      ⟨fun i => if h : i < len then (each i h).choose else ⟨0, [], 0⟩, fun i h => by
        simp only [h, dif_pos]
        exact (each i h).choose_spec⟩
    obtain ⟨f, hfs⟩ := hex
    have hln : ((List.range len).map f).length = len := by simp
    refine ⟨(List.range len).map f, some a, _, by rw [hln], by rw [hln]; exact hl, hm, ?_⟩
    intro i x hx
    have hlt : i < len := by
      have := (List.getElem?_eq_some_iff.1 hx).1
      rw [hln] at this
      exact this
    have hx' : x = f i := by
      rw [List.getElem?_map, List.getElem?_range hlt] at hx
      simpa using hx.symm
    subst hx'
    obtain ⟨h1, h2⟩ := hfs i hlt
    obtain ⟨b, o, sp⟩ := a
    simp only at h2
    subst h2
    exact ⟨b, o, rfl, fblock_of_cell h1.1, h1⟩
/-- The value v is a slice of slices of bytes that reads as the rows l, and lies below block B. -/
def Rows14 (w : World) (B : Nat) (v : Value) (l : List (List UInt8)) : Prop := ∃ A c, v = .slice A l.length c ∧ l.length ≤ c ∧ c ≤ maxLen ∧
  ∀ (i : Nat) a, l[i]? = some a → ∃ b o, A = some ⟨b, o, none⟩ ∧ b < B ∧ ∃ v, w.cell? ⟨b, o + i, none⟩ = some v ∧ Bs w B v a ∧ a.length ≤ 9223372036854775807
set_option maxRecDepth 100000 in
theorem open_rows14 {v : Value} {d : DataW H} {p : List MemPlace} (hv : Value.okWide Try.prog W r base 45 v) (h : DataW.Trod enc Try.prog W 0 (fun _ => true) held 45 v d p) :
    ∃ l : List (List UInt8), Rows14 W W.heap.size v l := by
  obtain ⟨cc, len, cap, rfl⟩ := okWide_slice Try.underlying45 hv
  obtain ⟨fuel, hf⟩ := h
  have k4 : Try.prog.cellsOf 30 = 1 := by kernel_rfl
  rcases open_slice Try.underlying45 hf with ⟨hcs, _⟩ | ⟨a, ln, cp, m, n, D, Pl, hcs, _, hl, hm, hmm, _, hi⟩
  · simp [Value.cells] at hcs
    obtain ⟨rfl, rfl, rfl⟩ := hcs
    exact ⟨[], none, 0, rfl, Nat.le_refl _, Nat.zero_le _, by simp⟩
  · simp [Value.cells] at hcs
    obtain ⟨rfl, rfl, rfl⟩ := hcs
    simp only [if_true] at hmm
    subst hmm
    rw [k4] at hi
    have each : ∀ i, i < len → ∃ x : List UInt8, (∃ v, W.cell? ⟨a.block, a.off + i, none⟩ = some v ∧ Bs W W.heap.size v x ∧ x.length ≤ 9223372036854775807) ∧ a.spot = none := fun i hlt => by
      obtain ⟨cs, hc, ht⟩ := hi i (by omega)
      obtain ⟨_, hcl, hat⟩ := World.cells?_some hc
      obtain ⟨c0, rfl⟩ : ∃ c0, cs = [c0] := by
        match cs, hcl with
        | [c0], _ => exact ⟨c0, rfl⟩
      obtain ⟨x, hb, hlb⟩ := open_bytes14 ht
      have h0 := hat 0 (by omega)
      have hsp0 : a.spot = none := by
        obtain ⟨cs0, hc0, _⟩ := hi 0 (by omega)
        obtain ⟨_, hcl0, hat0⟩ := World.cells?_some hc0
        have h00 := hat0 0 (by omega)
        rw [Nat.zero_mul] at h00
        have e : (a.add 0).add 0 = a := by unfold Addr.add; simp
        rw [e] at h00
        have h01 : 0 < cs0.length := by omega
        rw [List.getElem?_eq_getElem h01] at h00
        exact World.cell?_spot h00
      obtain ⟨b, o, sp⟩ := a
      have hsp : sp = none := hsp0
      subst hsp
      rw [add_none, add_none, Nat.mul_one, Nat.add_zero] at h0
      exact ⟨x, ⟨_, h0, hb, hlb⟩, rfl⟩
    have hex : ∃ f : Nat → List UInt8, ∀ i, i < len → (∃ v, W.cell? ⟨a.block, a.off + i, none⟩ = some v ∧ Bs W W.heap.size v (f i) ∧ (f i).length ≤ 9223372036854775807) ∧ a.spot = none :=
      ⟨fun i => if h : i < len then (each i h).choose else [], fun i h => by
        simp only [h, dif_pos]
        exact (each i h).choose_spec⟩
    obtain ⟨f, hfs⟩ := hex
    have hln : ((List.range len).map f).length = len := by simp
    refine ⟨(List.range len).map f, some a, _, by rw [hln], by rw [hln]; exact hl, hm, ?_⟩
    intro i x hx
    have hlt : i < len := by
      have := (List.getElem?_eq_some_iff.1 hx).1
      rw [hln] at this
      exact this
    have hx' : x = f i := by
      rw [List.getElem?_map, List.getElem?_range hlt] at hx
      simpa using hx.symm
    subst hx'
    obtain ⟨h1, h2⟩ := hfs i hlt
    obtain ⟨b, o, sp⟩ := a
    simp only at h2
    subst h2
    obtain ⟨v, hv, _⟩ := id h1
    exact ⟨b, o, rfl, fblock_of_cell hv, h1⟩
end
end Go.Proofs.Ytffcbekogpgciaa
