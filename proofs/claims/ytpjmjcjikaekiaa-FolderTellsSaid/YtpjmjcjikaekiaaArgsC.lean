
/-
  Layer 6: the laws' argument opened: a slice of calls (a number, two names, a number).
-/
import Derived.Test.YtpjmjcjikaekiaaRows
import Derived.Test.YtpjmjcjikaekiaaWords
import Derived.WalkKit
import Derived.ProofKit
import Derived.OpenShut
import Derived.ShutString
import Derived.ChangeOld
import Derived.Below
import Derived.SizedLaws
import Derived.Lib.SmallJoins
import Derived.Deep.Slices
set_option linter.unusedVariables false
set_option linter.unusedSimpArgs false
namespace Go.Proofs.Ytpjmjcjikaekiaa
open Go.ChangeShapes Go.WideShapes Go.ChangeAt Go.RowKit Go.Joins Go.Deep

/-- a call -/
structure Call6 where
  what : Int
  name : ByteArray
  to : ByteArray
  keep : Int
def Call6.cells (a : Call6) : List Value := [.int .i64 a.what, .string a.name, .string a.to, .int .i64 a.keep]
def Call6.ok (a : Call6) : Prop := a.name.size ≤ 9223372036854775807 ∧ a.to.size ≤ 9223372036854775807
/-- The value v is a slice that reads as the calls l, and lies below block B. -/
def Calls6 (w : World) (B : Nat) (v : Value) (l : List Call6) : Prop := ∃ A c, v = .slice A l.length c ∧ l.length ≤ c ∧ c ≤ maxLen ∧ (∀ a ∈ l, a.ok) ∧
  ∀ (i : Nat) a, l[i]? = some a → ∃ b o, A = some ⟨b, o, none⟩ ∧ b < B ∧ ∀ j u, a.cells[j]? = some u → w.cell? ⟨b, o + i * 4 + j, none⟩ = some u

section
variable {H : Type} {enc : TypeId × Value → H} {W : World} {held : Bool} {r : Reach} {base : Nat}
set_option maxRecDepth 100000 in
theorem open_call6 {n : Nat} {cs : List Value} {x : DataW H × List MemPlace} (hl : cs.length = 4) (h : DataW.trod enc Try.prog W 0 (fun _ => true) held n 28 cs = some x) :
    ∃ a : Call6, a.ok ∧ cs = a.cells := by
  obtain ⟨c0, c1, c2, c3, rfl⟩ : ∃ c0 c1 c2 c3, cs = [c0, c1, c2, c3] := by
    match cs, hl with
    | [c0, c1, c2, c3], _ => exact ⟨c0, c1, c2, c3, rfl⟩
  have k3 : Try.prog.cellsOf 3 = 1 := by kernel_rfl
  have k9 : Try.prog.cellsOf 9 = 1 := by kernel_rfl
  obtain ⟨ys, m, _, _, _, hyl, hf⟩ := DataW.trod_struct Try.underlying28 h
  match ys, hyl with
  | [y0, y1, y2, y3], _ =>
    have f0 : DataW.trod enc Try.prog W 0 (fun _ => true) held m 3 [c0] = some y0 := by simpa [k3] using hf 0 _ rfl
    have f1 : DataW.trod enc Try.prog W 0 (fun _ => true) held m 9 [c1] = some y1 := by simpa [k9] using hf 1 _ rfl
    have f2 : DataW.trod enc Try.prog W 0 (fun _ => true) held m 9 [c2] = some y2 := by simpa [k9] using hf 2 _ rfl
    have f3 : DataW.trod enc Try.prog W 0 (fun _ => true) held m 3 [c3] = some y3 := by simpa [k3] using hf 3 _ rfl
    obtain ⟨wh, e0, _, _⟩ := DataW.trod_int Try.underlying3 f0
    obtain ⟨kp, e3, _, _⟩ := DataW.trod_int Try.underlying3 f3
    obtain ⟨nm, e1, _, hs1⟩ := DataW.trod_string Try.underlying9 f1
    obtain ⟨to, e2, _, hs2⟩ := DataW.trod_string Try.underlying9 f2
    injection e0 with e0
    injection e1 with e1
    injection e2 with e2
    injection e3 with e3
    subst e0 e1 e2 e3
    unfold maxLen at hs1 hs2
    exact ⟨⟨wh, nm, to, kp⟩, ⟨by show nm.size ≤ _; omega, by show to.size ≤ _; omega⟩, rfl⟩

set_option maxRecDepth 100000 in
theorem open_calls6 {v : Value} {d : DataW H} {p : List MemPlace} (hv : Value.okWide Try.prog W r base 22 v) (h : DataW.Trod enc Try.prog W 0 (fun _ => true) held 22 v d p) :
    ∃ l : List Call6, Calls6 W W.heap.size v l := by
  obtain ⟨cc, len, cap, rfl⟩ := okWide_slice Try.underlying22 hv
  obtain ⟨fuel, hf⟩ := h
  have k6 : Try.prog.cellsOf 28 = 4 := by kernel_rfl
  rcases open_slice Try.underlying22 hf with ⟨hcs, _⟩ | ⟨a, ln, cp, m, n, D, Pl, hcs, _, hl, hm, hmm, _, hi⟩
  · simp [Value.cells] at hcs
    obtain ⟨rfl, rfl, rfl⟩ := hcs
    exact ⟨[], none, 0, rfl, Nat.le_refl _, Nat.zero_le _, by simp, by simp⟩
  · simp [Value.cells] at hcs
    obtain ⟨rfl, rfl, rfl⟩ := hcs
    simp only [if_true] at hmm
    subst hmm
    rw [k6] at hi
    have each : ∀ i, i < len → ∃ x : Call6, x.ok ∧ ∀ j u, x.cells[j]? = some u → W.cell? ((a.add (i * 4)).add j) = some u := fun i hlt => by
      obtain ⟨cs, hc, ht⟩ := hi i (by omega)
      obtain ⟨_, hcl, hat⟩ := World.cells?_some hc
      obtain ⟨x, hok, rfl⟩ := open_call6 hcl ht
      refine ⟨x, hok, fun j u hu => ?_⟩
      have hj : j < 4 := (List.getElem?_eq_some_iff.1 hu).1
      rw [hat j hj]
      exact hu
    have hex : ∃ f : Nat → Call6, ∀ i, i < len → (f i).ok ∧ ∀ j u, (f i).cells[j]? = some u → W.cell? ((a.add (i * 4)).add j) = some u :=
      ⟨fun i => if h : i < len then (each i h).choose else ⟨0, .empty, .empty, 0⟩, fun i h => by
        simp only [h, dif_pos]
        exact (each i h).choose_spec⟩
    obtain ⟨f, hfs⟩ := hex
    have hln : ((List.range len).map f).length = len := by simp
    refine ⟨(List.range len).map f, some a, _, by rw [hln], by rw [hln]; exact hl, hm, ?_, ?_⟩
    · intro x hx
      obtain ⟨i, hi', rfl⟩ := List.mem_map.1 hx
      exact (hfs i (List.mem_range.1 hi')).1
    · intro i x hx
      have hlt : i < len := by
        have := (List.getElem?_eq_some_iff.1 hx).1
        rw [hln] at this
        exact this
      have hx' : x = f i := by
        rw [List.getElem?_map, List.getElem?_range hlt] at hx
        simpa using hx.symm
      subst hx'
      have hc := (hfs i hlt).2
      have h0 := hc 0 _ rfl
      have hblk := World.block_lt_of_cell? W _ h0
      have hsp : a.spot = none := by
        have h00 := (hfs 0 (by omega)).2 0 _ rfl
        rw [Nat.zero_mul] at h00
        have e : (a.add 0).add 0 = a := by unfold Addr.add; simp
        rw [e] at h00
        exact World.cell?_spot h00
      obtain ⟨b, o, sp⟩ := a
      simp only at hsp
      subst hsp
      refine ⟨b, o, rfl, ?_, fun j u hu => ?_⟩
      · have e : ((Addr.add ⟨b, o, none⟩ (i * 4)).add 0).block = b := by rw [add_none, add_none]
        rw [e] at hblk
        exact hblk
      · have h1 := hc j u hu
        rw [add_none, add_none] at h1
        exact h1
end
end Go.Proofs.Ytpjmjcjikaekiaa
