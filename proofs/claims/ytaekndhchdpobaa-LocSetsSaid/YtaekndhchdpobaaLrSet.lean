
/-
  Layer 3: the document's set: where its row lies, and Place.
-/
import Derived.Test.YtaekndhchdpobaaLrSetP
import Derived.Test.YtaekndhchdpobaaLrMem
import Derived.Test.YtaekndhchdpobaaLxOfW
import Derived.Deep.LoopGhost
import Derived.BigQuiet
set_option linter.unusedVariables false
set_option linter.unusedSimpArgs false
namespace Go.Proofs.Ytaekndhchdpobaa
open Go.RowKit Go.Maps

theorem bdrewN {n : Nat} {w w' : World} (h : Below n w w') (q : Nat) : Below n w (w'.drewN q) := ⟨h.os, h.tape, h.output, h.size, h.block⟩
def encO (x : One3) : List Value := [.int .u32 x.1, .int .u32 x.2.1, .int .u64 x.2.2]
/-- the row's cells -/
def ovs (l : List One3) : List Value := l.flatMap encO
theorem ovs_length (l : List One3) : (ovs l).length = l.length * 3 := by
  induction l with
  | nil => rfl
  | cons x r ih => simp [ovs, encO] at *; omega
theorem ovs_append (l m : List One3) : ovs (l ++ m) = ovs l ++ ovs m := by simp [ovs]
theorem ovs_one (l : List One3) : ∀ u ∈ ovs l, u.oneCell' = true := by
  intro u hu
  simp only [ovs, List.mem_flatMap, encO, List.mem_cons, List.not_mem_nil, or_false] at hu
  obtain ⟨x, _, rfl | rfl | rfl⟩ := hu <;> rfl
theorem ovs_get : ∀ (l : List One3) (j : Nat) (x : One3), l[j]? = some x → (ovs l)[j * 3]? = some (.int .u32 x.1) ∧ (ovs l)[j * 3 + 1]? = some (.int .u32 x.2.1) ∧ (ovs l)[j * 3 + 2]? = some (.int .u64 x.2.2)
  | [], _, _, h => by simp at h
  | y :: r, 0, x, h => by
    simp at h
    subst h
    exact ⟨rfl, rfl, rfl⟩
  | y :: r, j + 1, x, h => by
    have := ovs_get r j x (by simpa using h)
    have e : ovs (y :: r) = .int .u32 y.1 :: .int .u32 y.2.1 :: .int .u64 y.2.2 :: ovs r := rfl
    rw [e, show (j + 1) * 3 = j * 3 + 1 + 1 + 1 by omega]
    exact this

/-- the row's slice lies in the block br, its cells from the block B on -/
structure RowAt (w : World) (br B : Nat) (v : Value) (R : List One3) : Prop where
  cell : w.cell? ⟨br, 0, none⟩ = some v
  own : w.ownsRow B 45 3 v R.length (ovs R)
  free : w.frozen? ⟨br, 0, none⟩ = false
  lt : br < B
  big : R.length < 1000000

/-- what a call on the row leaves: all but the set's own cell and its row's block -/
structure Fr (w w' : World) (br : Nat) (row : Option Nat) : Prop where
  os : w'.os = w.os
  tape : w'.tape = w.tape
  output : w'.output = w.output
  size : w.heap.size ≤ w'.heap.size
  block : ∀ i, i < w.heap.size → i ≠ br → row ≠ some i → w'.heap[i]? = w.heap[i]?
theorem Fr.of_below {w w' : World} {br : Nat} {row : Option Nat} (h : Below w.heap.size w w') : Fr w w' br row := ⟨h.os, h.tape, h.output, h.size, fun i hi _ _ => h.block i hi⟩
theorem RowAt.on {w w' : World} {br B : Nat} {v : Value} {R : List One3} (h : RowAt w br B v R) (hb : Below w.heap.size w w') : RowAt w' br B v R :=
  ⟨(hb.cell (p := ⟨br, 0, none⟩) (block_of_cell h.cell)).trans h.cell, own_below h.own hb (Nat.le_refl _), (World.frozen?_of_block (a := ⟨br, 0, none⟩) (hb.block br (block_of_cell h.cell))).trans h.free, h.lt, h.big⟩

def PlcOf (R : List One3) (s o : Int) (k : Int) : Prop := (k = -1 ∧ (s, o) ∉ R.map kOf) ∨ ∃ (j : Nat) (n : Int), k = j ∧ R[j]? = some (s, o, n)

set_option maxRecDepth 100000 in
theorem place_any {w : World} {br B : Nat} {v : Value} {R : List One3} (h : RowAt w br B v R) {s o : Int} :
    Calls Try.prog 18 #[.pointer (some ⟨br, 0, none⟩), lv s o] w fun e w' => ∃ k, e = .returned (.int .i64 k) ∧ PlcOf R s o k ∧ Below w.heap.size w w' := by
  obtain ⟨hc, hown, hfz, hlt, hbig⟩ := h
  obtain ⟨A, c, rfl, hlc, hcm, hAb⟩ := own_slice hown
  have hrd := Rd.of_own hown
  have he := run_eql_loc
  have hg := guard_loc
  have hbr : br < w.heap.size := block_of_cell hc
  unfold lv
  clear hown hAb
  have HR := Lib.hid hrd
  clear hrd
  go_enter Try.func18, Try.ntmps18
  have HX := Lib.hid (LBox.new w s o 31)
  have hb := bnew w (.cells #[.int .u32 s, .int .u32 o] 31)
  have hc' := (hb.cell (p := ⟨br, 0, none⟩) hbr).trans hc
  replace HR := Lib.hid (HR.out.below hb (Nat.le_refl _))
  clear hc
  go_wp2_with fail
  have HB := Lib.hid hb
  generalize hX : w.heap.size = X at HX
  generalize w.alloc (.cells #[.int .u32 s, .int .u32 o] 31) = w1 at *
  go_loopw [5] (fun i wr => ∃ j : Nat, j ≤ R.length ∧ i = .int .i64 j ∧ (∀ x ∈ R.take j, kOf x ≠ (s, o)) ∧ Below w1.heap.size w1 wr) (fun i _ => R.length - (intOf i).toNat)
  case atStart => exact ⟨0, by omega, rfl, by simp, Below.refl _ _⟩
  case round =>
    obtain ⟨j, hj, rfl, hn, hw⟩ := hrel
    replace HR := Lib.hid (HR.out.below hw hb.size)
    replace HX := Lib.hid (HX.out.on hw)
    replace hc' := (hw.cell (p := ⟨br, 0, none⟩) (block_of_cell hc')).trans hc'
    have HW := Lib.hid hw
    have HB2 := Lib.hid (bstep HB.out hw)
    clear hw hb
    have HN := Lib.hid hn
    clear hn
    by_cases hjl : j < R.length
    · obtain ⟨x, hx⟩ : ∃ x, R[j]? = some x := ⟨R[j], List.getElem?_eq_getElem hjl⟩
      obtain ⟨xs, xo, xn⟩ := x
      obtain ⟨b, o', rfl, hbb, hcc⟩ := HR.out (by intro e; have := congrArg List.length e; rw [ovs_length] at this; simp at this; omega)
      have hg3 := ovs_get R j _ hx
      have c0 : wr.cell? ⟨b, o' + j * 3, none⟩ = some (.int .u32 xs) := hcc _ _ hg3.1
      have c1 : wr.cell? ⟨b, o' + j * 3 + 1, none⟩ = some (.int .u32 xo) := hcc _ _ hg3.2.1
      have Hx := Lib.hid hx
      have Hcc := Lib.hid hcc
      clear hcc hg3 hx
      obtain ⟨d0, d1, f0, f1, dz⟩ := HX.out
      by_cases heq : xs = s ∧ xo = o
      · have hd : decide (xs = s ∧ xo = o) = true := by simpa using heq
        have Heq := Lib.hid heq
        clear heq
        go_wp2_with fail
        go_quiet (fail)
        go_wp2_with fail
        go_ret
        exact ⟨_, rfl, Or.inr ⟨j, xn, rfl, by rw [← Heq.out.1, ← Heq.out.2]; exact Hx.out⟩, bdrewN HB2.out _⟩
      · have hd : decide (xs = s ∧ xo = o) = false := by simpa using heq
        have Heq := Lib.hid heq
        clear heq
        go_wp2_with fail
        go_quiet (fail)
        go_wp2_with fail
        go_roundw
        case rel => exact ⟨j + 1, by omega, by go_num, fun y hy => by
          rw [take_next Hx.out] at hy
          rcases List.mem_append.1 hy with hy | hy
          · exact HN.out y hy
          · obtain rfl := List.mem_singleton.1 hy
            exact fun e => Heq.out (by injection e with e1 e2; exact ⟨e1, e2⟩), bdrewN HW.out _⟩
        case measure => simp [intOf]; omega
    · obtain rfl : j = R.length := by omega
      go_wp2_with fail
      go_ret
      exact ⟨_, rfl, Or.inl ⟨rfl, fun hm => by
        obtain ⟨x, hx, e⟩ := List.mem_map.1 hm
        exact HN.out x (by simpa using hx) e⟩, HB2.out⟩
end Go.Proofs.Ytaekndhchdpobaa
