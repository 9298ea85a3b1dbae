
/-
  Layer 3: the contracts of Compare, Put, Get, and of 'brought'.
-/
import Derived.Test.YtaekndhchdpobaaLxPure
import Derived.Test.YtaekndhchdpobaaCut
set_option linter.unusedVariables false
set_option linter.unusedSimpArgs false
namespace Go.Proofs.Ytaekndhchdpobaa
open Go.RowKit

theorem box_size {w w1 : World} {o : Obj} (hb : Below (w.heap.size + 1) (w.alloc o) w1) : w.heap.size + 1 ≤ w1.heap.size := by have := hb.size; simp at this; omega

theorem compare_any (s o s' o' : Int) (w : World) :
    Calls Try.prog 42 #[lv s o, lv s' o'] w fun e w' => e = .returned (.int .i64 (Lx.cmpL s o s' o')) ∧ Below w.heap.size w w' := by
  by_cases h : s = s'
  · have e1 : Lx.cmpL s o s' o' = Lx.cmpI o o' := if_pos h
    rw [e1]
    have hn : (s != s') = false := by simp [h]
    clear e1 h
    unfold lv
    go_enter Try.func42, Try.ntmps42
    go_wp2_with fail
    refine (cmp32_any _ _ _).mono ?_
    rintro e w1 ⟨rfl, rfl⟩
    go_wp2_with fail
    go_ret
    exact ⟨rfl, balloc (bnew _ _) _⟩
  · have e1 : Lx.cmpL s o s' o' = Lx.cmpI s s' := if_neg h
    rw [e1]
    have hn : (s != s') = true := by simp [h]
    clear e1 h
    unfold lv
    go_enter Try.func42, Try.ntmps42
    go_wp2_with fail
    refine (cmp32_any _ _ _).mono ?_
    rintro e w1 ⟨rfl, rfl⟩
    go_wp2_with fail
    go_ret
    exact ⟨rfl, balloc (bnew _ _) _⟩

/-- what Put lays -/
def Lx.putR (l : List UInt8) (s o : Int) : List UInt8 := if Lx.mayB s o then l ++ Lx.putL s o else []

theorem lput_any (v : Value) (l : List UInt8) (s o : Int) (w : World) (h : Bs w w.heap.size v l) (h0 : 0 ≤ s) (h1 : s < 4294967296) (h2 : 0 ≤ o) (h3 : o < 4294967296) (hm : l.length + 18 ≤ 140737488355328) :
    Calls Try.prog 45 #[v, lv s o] w fun e w' => ∃ r, e = .returned (.tuple #[r, .int .i64 (Lx.pkE s o)]) ∧ Bs w' w'.heap.size r (Lx.putR l s o) ∧ Below w.heap.size w w' := by
  have e1 : Lx.putR l s o = if Lx.mayB s o then l ++ Lx.putL s o else [] := rfl
  have e2 : Lx.pkE s o = if Lx.mayB s o then 0 else 1 := rfl
  have Hv := Lib.hid h
  clear h
  cases hm : Lx.mayB s o
  · rw [hm] at e1 e2
    simp only [Bool.false_eq_true, if_false] at e1 e2
    rw [e1, e2]
    have Hm := Lib.hid hm
    clear hm e1 e2
    unfold lv
    go_enter Try.func45, Try.ntmps45
    go_wp2_with fail
    have b0 := bnew w (.cells #[.int .u32 s, .int .u32 o] 31)
    refine (may_b s o _ h0 h1 h2 h3 _ Hm.out).mono ?_
    rintro e w1 ⟨rfl, hb⟩
    have b1 := bstep b0 hb
    clear hb b0
    go_wp2_with fail
    go_ret2
    exact ⟨_, rfl, Bs.none_, b1⟩
  · rw [hm] at e1 e2
    simp only [if_true] at e1 e2
    rw [e1, e2]
    have Hm := Lib.hid hm
    clear hm e1 e2
    cases hn : Lx.noneB s o
    · have hs : 1 ≤ s ∧ 16 ≤ o ∧ o ≤ 16777216 := by
        have h := Hm.out
        rw [Lx.mayB, hn, Bool.false_or, Lx.standsB, decide_eq_true_eq] at h
        omega
      have hpl : Lx.putL s o = Px.formL s.toNat ++ Px.formL (o - 16).toNat := if_neg (by omega)
      have Hn := Lib.hid hn
      have Hpl := Lib.hid hpl
      clear hn hpl
      obtain ⟨q1, q2, q3⟩ := hs
      have hsz := Px.sizeN_pos s.toNat
      have hfl := Px.formL_length s.toNat
      have Hfl := Lib.hid hfl
      clear hfl
      unfold lv
      go_enter Try.func45, Try.ntmps45
      go_wp2_with fail
      have b0 := bnew w (.cells #[.int .u32 s, .int .u32 o] 31)
      refine (may_b s o _ h0 h1 h2 h3 _ Hm.out).mono ?_
      rintro e w1 ⟨rfl, hb⟩
      have b1 := bstep b0 hb
      simp only [World.size_alloc] at hb
      have cc := box2 hb
      have hz1 := box_size hb
      clear hb b0
      have Hv1 := Lib.hid (Hv.out.on b1)
      obtain ⟨c0, c1⟩ := cc
      go_wp2_with fail
      refine (put_b _ l _ _ Hv1.out (by omega) (by omega) (by omega)).mono ?_
      rintro e w2 ⟨r2, rfl, hown, hb⟩
      have d0 : w2.cell? ⟨w.heap.size, 0, none⟩ = some (.int .u32 s) := (hb.cell (by simp; omega)).trans c0
      have d1 : w2.cell? ⟨w.heap.size, 1, none⟩ = some (.int .u32 o) := (hb.cell (by simp; omega)).trans c1
      have hz2 : w.heap.size + 1 ≤ w2.heap.size := by have := hb.size; omega
      have b2 := bstep b1 hb
      have Hs2 := Lib.hid (Bs.of_own hown)
      clear hown hb c0 c1 b1 Hv1
      go_wp2_with fail
      refine (none_b s o _ _ Hn.out).mono ?_
      rintro e w3 ⟨rfl, hb⟩
      have c0 : w3.cell? ⟨w.heap.size, 0, none⟩ = some (.int .u32 s) := (hb.cell (by simp; omega)).trans d0
      have c1 : w3.cell? ⟨w.heap.size, 1, none⟩ = some (.int .u32 o) := (hb.cell (by simp; omega)).trans d1
      have b3 := bstep b2 hb
      have Hs3 := Lib.hid (Hs2.out.on hb)
      clear hb d0 d1 b2 Hs2
      go_wp2_with fail
      refine (put_b _ (l ++ Px.formL s.toNat) _ _ Hs3.out (by omega) (by omega) (by rw [List.length_append, Hfl.out]; omega)).mono ?_
      rintro e w4 ⟨r4, rfl, hown, hb⟩
      have b4 := bstep b3 hb
      have Hs4 := Lib.hid (Bs.of_own hown)
      clear hown hb
      go_wp2_with fail
      go_ret2
      refine ⟨_, rfl, ?_, b4⟩
      rw [Hpl.out, ← List.append_assoc]
      exact Hs4.out
    · have hs : s = 0 ∧ o = 0 := by
        rw [Lx.noneB, decide_eq_true_eq] at hn
        exact hn
      have hpl : Lx.putL s o = Px.formL 0 := if_pos hs.1
      obtain ⟨rfl, rfl⟩ := hs
      have Hn := Lib.hid hn
      have Hpl := Lib.hid hpl
      clear hn hpl
      unfold lv
      go_enter Try.func45, Try.ntmps45
      go_wp2_with fail
      have b0 := bnew w (.cells #[.int .u32 0, .int .u32 0] 31)
      refine (may_b 0 0 _ h0 h1 h2 h3 _ Hm.out).mono ?_
      rintro e w1 ⟨rfl, hb⟩
      have b1 := bstep b0 hb
      simp only [World.size_alloc] at hb
      have cc := box2 hb
      have hz1 := box_size hb
      clear hb b0
      have Hv1 := Lib.hid (Hv.out.on b1)
      obtain ⟨c0, c1⟩ := cc
      go_wp2_with fail
      refine (put_b _ l _ _ Hv1.out (by omega) (by omega) (by omega)).mono ?_
      rintro e w2 ⟨r2, rfl, hown, hb⟩
      have d0 : w2.cell? ⟨w.heap.size, 0, none⟩ = some (.int .u32 0) := (hb.cell (by simp; omega)).trans c0
      have d1 : w2.cell? ⟨w.heap.size, 1, none⟩ = some (.int .u32 0) := (hb.cell (by simp; omega)).trans c1
      have b2 := bstep b1 hb
      have Hs2 := Lib.hid (Bs.of_own hown)
      clear hown hb c0 c1 b1 Hv1
      go_wp2_with fail
      refine (none_b 0 0 _ _ Hn.out).mono ?_
      rintro e w3 ⟨rfl, hb⟩
      have b3 := bstep b2 hb
      have Hs3 := Lib.hid (Hs2.out.on hb)
      clear hb d0 d1 b2 Hs2
      go_wp2_with fail
      go_ret2
      refine ⟨_, rfl, ?_, b3⟩
      rw [Hpl.out]
      exact Hs3.out

def Lx.getV (l : List UInt8) : Value := .tuple #[lv (Lx.getQ l).1 (Lx.getQ l).2.1, .int .i64 (Lx.getQ l).2.2.1, .int .i64 (Lx.getQ l).2.2.2]
def Lx.gV (s o k e : Int) : Value := .tuple #[lv s o, .int .i64 k, .int .i64 e]
theorem Lx.getV_eq {l : List UInt8} {s o k e : Int} (h : Lx.getQ l = (s, o, k, e)) : Lx.getV l = Lx.gV s o k e := by unfold Lx.getV Lx.gV; rw [h]

theorem getV_eq {l : List UInt8} {n k e : Nat} (h : Px.getN l = (n, k, e)) : getV l = .tuple #[.int .u64 n, .int .i64 k, .int .i64 e] := by unfold getV; rw [h]

end Go.Proofs.Ytaekndhchdpobaa
