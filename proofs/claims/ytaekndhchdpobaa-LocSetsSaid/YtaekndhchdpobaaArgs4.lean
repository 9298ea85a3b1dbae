
/-
  Layer 3: the argument of the laws on sets opened: a slice of calls (each six cells).
-/
import Derived.Test.YtaekndhchdpobaaArgs3
import Derived.Test.YtaekndhchdpobaaActs
import Derived.Deep.Slices
set_option linter.unusedVariables false
set_option linter.unusedSimpArgs false
namespace Go.Proofs.Ytaekndhchdpobaa
open Go.ChangeShapes Go.WideShapes Go.ChangeAt Go.RowKit Go.Joins Go.Deep

section
variable {H : Type} {enc : TypeId × Value → H} {W : World} {base base' : Nat} {spare : Nat → Bool} {held : Bool} {r : Reach}
set_option maxRecDepth 100000 in
theorem open_act {n : Nat} {cs : List Value} {x : DataW H × List MemPlace} (hl : cs.length = 6) (h : DataW.trod enc Try.prog W base spare held n 34 cs = some x) : ∃ a : Act3, a.ok ∧ cs = a.cells := by
  obtain ⟨c0, c1, c2, c3, c4, c5, rfl⟩ : ∃ c0 c1 c2 c3 c4 c5, cs = [c0, c1, c2, c3, c4, c5] := by
    match cs, hl with
    | [c0, c1, c2, c3, c4, c5], _ => exact ⟨c0, c1, c2, c3, c4, c5, rfl⟩
  have k3 : Try.prog.cellsOf 3 = 1 := by kernel_rfl
  have k24 : Try.prog.cellsOf 31 = 2 := by kernel_rfl
  have k22 : Try.prog.cellsOf 29 = 1 := by kernel_rfl
  have k25 : Try.prog.cellsOf 32 = 1 := by kernel_rfl
  obtain ⟨ys, m, _, _, _, hyl, hf⟩ := DataW.trod_struct Try.underlying34 h
  match ys, hyl with
  | [y0, y1, y2, y3], _ =>
    have f0 : DataW.trod enc Try.prog W base spare held m 3 [c0] = some y0 := by simpa [k3] using hf 0 _ rfl
    have f1 : DataW.trod enc Try.prog W base spare held m 31 [c1, c2] = some y1 := by simpa [k24] using hf 1 _ rfl
    have f2 : DataW.trod enc Try.prog W base spare held m 31 [c3, c4] = some y2 := by simpa [k24] using hf 2 _ rfl
    have f3 : DataW.trod enc Try.prog W base spare held m 32 [c5] = some y3 := by simpa [k25] using hf 3 _ rfl
    have two : ∀ (a b : Value) (y : DataW H × List MemPlace), DataW.trod enc Try.prog W base spare held m 31 [a, b] = some y → ∃ s o : Int, a = .int .u32 s ∧ b = .int .u32 o ∧ (0 ≤ s ∧ s < 4294967296) ∧ (0 ≤ o ∧ o < 4294967296) := fun a b y hy => by
      obtain ⟨zs, q, _, _, _, hzl, hg⟩ := DataW.trod_struct Try.underlying31 hy
      match zs, hzl with
      | [z0, z1], _ =>
        have g0 : DataW.trod enc Try.prog W base spare held q 29 [a] = some z0 := by simpa [k22] using hg 0 _ rfl
        have g1 : DataW.trod enc Try.prog W base spare held q 29 [b] = some z1 := by simpa [k22] using hg 1 _ rfl
        obtain ⟨s, e0, _, w0⟩ := DataW.trod_int Try.underlying29 g0
        obtain ⟨o, e1, _, w1⟩ := DataW.trod_int Try.underlying29 g1
        injection e0 with e0
        injection e1 with e1
        have b0 := bounds_u32 w0
        have b1 := bounds_u32 w1
        exact ⟨s, o, e0, e1, by omega, by omega⟩
    obtain ⟨wh, e0, _, _⟩ := DataW.trod_int Try.underlying3 f0
    obtain ⟨nn, e3, _, w3⟩ := DataW.trod_int Try.underlying32 f3
    obtain ⟨s, o, e1, e2, bs, bo⟩ := two c1 c2 y1 f1
    obtain ⟨t, p, e4, e5, bt, bp⟩ := two c3 c4 y2 f2
    injection e0 with e0
    injection e3 with e3
    have b3 := bounds_u64 w3
    subst e0 e1 e2 e3 e4 e5
    exact ⟨⟨wh, s, o, t, p, nn⟩, ⟨bs.1, bs.2, bo.1, bo.2, bt.1, bt.2, bp.1, bp.2, b3.1, by show nn < _; omega⟩, rfl⟩

set_option maxRecDepth 100000 in
theorem open_acts3 {v : Value} {d : DataW H} {p : List MemPlace} (hv : Value.okWide Try.prog W r base 22 v) (h : DataW.Trod enc Try.prog W 0 (fun _ => true) held 22 v d p) :
    ∃ l : List Act3, Acts3 W W.heap.size v l := by
  obtain ⟨cc, len, cap, rfl⟩ := okWide_slice Try.underlying22 hv
  obtain ⟨fuel, hf⟩ := h
  have k6 : Try.prog.cellsOf 34 = 6 := by kernel_rfl
  rcases open_slice Try.underlying22 hf with ⟨hcs, _⟩ | ⟨a, ln, cp, m, n, D, Pl, hcs, _, hl, hm, hmm, _, hi⟩
  · simp [Value.cells] at hcs
    obtain ⟨rfl, rfl, rfl⟩ := hcs
    exact ⟨[], none, 0, rfl, Nat.le_refl _, Nat.zero_le _, by simp, by simp⟩
  · simp [Value.cells] at hcs
    obtain ⟨rfl, rfl, rfl⟩ := hcs
    simp only [if_true] at hmm
    subst hmm
    rw [k6] at hi
    have each : ∀ i, i < len → ∃ x : Act3, x.ok ∧ ∀ j u, x.cells[j]? = some u → W.cell? ((a.add (i * 6)).add j) = some u := fun i hlt => by
      obtain ⟨cs, hc, ht⟩ := hi i (by omega)
      obtain ⟨_, hcl, hat⟩ := World.cells?_some hc
      obtain ⟨x, hok, rfl⟩ := open_act hcl ht
      refine ⟨x, hok, fun j u hu => ?_⟩
      have hj : j < 6 := (List.getElem?_eq_some_iff.1 hu).1
      rw [hat j hj]
      exact hu
    have hex : ∃ f : Nat → Act3, ∀ i, i < len → (f i).ok ∧ ∀ j u, (f i).cells[j]? = some u → W.cell? ((a.add (i * 6)).add j) = some u :=
      ⟨fun i => if h : i < len then (each i h).choose else ⟨0, 0, 0, 0, 0, 0⟩, fun i h => by
        simp only [h, dif_pos]
        exact (each i h).choose_spec⟩
    obtain ⟨f, hfs⟩ := hex
    have hln : ((List.range len).map f).length = len := by simp
    refine ⟨(List.range len).map f, some a, _, by rw [hln], by rw [hln]; exact hl, hm, ?_, ?_⟩
    · intro x hx
      obtain ⟨i, hi', rfl⟩ := List.mem_map.1 hx
      exact (hfs i (List.mem_range.1 hi')).1
    · intro i x hx
      have hlt : i < len := by
        have := (List.getElem?_eq_some_iff.1 hx).1
        rw [hln] at this
        exact this
      have hx' : x = f i := by
        rw [List.getElem?_map, List.getElem?_range hlt] at hx
        simpa using hx.symm
      subst hx'
      have hc := (hfs i hlt).2
      have h0 := hc 0 _ rfl
      have hblk := World.block_lt_of_cell? W _ h0
      have hsp : a.spot = none := by
        have h00 := (hfs 0 (by omega)).2 0 _ rfl
        rw [Nat.zero_mul] at h00
        have e : (a.add 0).add 0 = a := by unfold Addr.add; simp
        rw [e] at h00
        exact World.cell?_spot h00
      obtain ⟨b, o, sp⟩ := a
      simp only at hsp
      subst hsp
      refine ⟨b, o, rfl, ?_, fun j u hu => ?_⟩
      · have e : ((Addr.add ⟨b, o, none⟩ (i * 6)).add 0).block = b := by rw [add_none, add_none]
        rw [e] at hblk
        exact hblk
      · have h1 := hc j u hu
        rw [add_none, add_none] at h1
        exact h1
end
end Go.Proofs.Ytaekndhchdpobaa
