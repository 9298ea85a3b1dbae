/-
  SegKnown, part 20 of what the law's proof leans on: SgMem, SgMake, SgLaid, SgDo, SgApp.
-/
import Derived.BigQuiet
import Derived.Test.YtaicibmaogiibaaGreatDoorSegKnownQ8
import Derived.Test.YtaicibmaogiibaaGreatDoorSegKnownQ17
import Derived.Test.YtaicibmaogiibaaGreatDoorSegKnownQ3
import Derived.Test.YtaicibmaogiibaaGreatDoorRows
import Derived.ProofKit
import Derived.LaidMore
import Derived.OpenShut
import Derived.Stop.Joined
import Derived.Lib.LaidTab
import Derived.Stop.LaidErr
import Derived.Test.YtaicibmaogiibaaGreatDoorSegKnownQ1
import Derived.Deep.QuietTactic
import Derived.Test.YtaicibmaogiibaaGreatDoorSegKnownQ4
/- SgMem -/

/-
  Layer 11: a segment in memory: its cells; made, name, count, Seal, Safe.
-/
set_option linter.unusedVariables false
set_option linter.unusedSimpArgs false
namespace Go.Proofs.YtaicibmaogiibaaGreatDoor.Sg
open Go Go.RowKit

/-- what is known of a segment, and what of it is safe -/
structure S where
  id : Nat
  size : Nat
  many : Nat
  first : Nat
  last : Nat
  safe : Nat
/-- numbers that their types have -/
structure S.Fit (x : S) : Prop where
  id : x.id < 4294967296
  size : x.size < 4294967296
  many : x.many < 4294967296
  first : x.first < 18446744073709551616
  last : x.last < 18446744073709551616
  safe : x.safe < 18446744073709551616
/-- one record more -/
def S.more (x : S) (q n : Nat) : S := { x with size := x.size + n, many := x.many + 1, first := if x.first = 0 then q else x.first, last := q }
def S.seal (x : S) : Value := .agg #[.int .u32 (x.id : Int), .int .u32 (x.size : Int), .int .u32 (x.many : Int), .int .u64 (x.first : Int), .int .u64 (x.last : Int)]
/-- a segment's cells -/
structure SegC (w : World) (G A : Nat) (x : S) : Prop where
  c0 : w.cell? ⟨G, 0, none⟩ = some (.pointer (some ⟨A, 0, none⟩))
  c1 : w.cell? ⟨G, 1, none⟩ = some (.int .u32 (x.id : Int))
  c2 : w.cell? ⟨G, 2, none⟩ = some (.int .u32 (x.size : Int))
  c3 : w.cell? ⟨G, 3, none⟩ = some (.int .u32 (x.many : Int))
  c4 : w.cell? ⟨G, 4, none⟩ = some (.int .u64 (x.first : Int))
  c5 : w.cell? ⟨G, 5, none⟩ = some (.int .u64 (x.last : Int))
  c6 : w.cell? ⟨G, 6, none⟩ = some (.int .u64 (x.safe : Int))
  f0 : w.frozen? ⟨G, 0, none⟩ = false
  f1 : w.frozen? ⟨G, 1, none⟩ = false
  f2 : w.frozen? ⟨G, 2, none⟩ = false
  f3 : w.frozen? ⟨G, 3, none⟩ = false
  f4 : w.frozen? ⟨G, 4, none⟩ = false
  f5 : w.frozen? ⟨G, 5, none⟩ = false
  f6 : w.frozen? ⟨G, 6, none⟩ = false
section
variable {w w' : World} {G A : Nat} {x : S}
theorem SegC.lt (h : SegC w G A x) : G < w.heap.size := fblock_of_cell h.c0
theorem SegC.of_block (h : SegC w G A x) (hb : w'.heap[G]? = w.heap[G]?) : SegC w' G A x := by
  have hc : ∀ o, w'.cell? ⟨G, o, none⟩ = w.cell? ⟨G, o, none⟩ := fun o => World.cell?_of_block hb
  have hf : ∀ o, w'.frozen? ⟨G, o, none⟩ = w.frozen? ⟨G, o, none⟩ := fun o => World.frozen?_of_block hb
  exact ⟨(hc 0).trans h.c0, (hc 1).trans h.c1, (hc 2).trans h.c2, (hc 3).trans h.c3, (hc 4).trans h.c4, (hc 5).trans h.c5, (hc 6).trans h.c6, (hf 0).trans h.f0, (hf 1).trans h.f1, (hf 2).trans h.f2, (hf 3).trans h.f3, (hf 4).trans h.f4, (hf 5).trans h.f5, (hf 6).trans h.f6⟩
theorem SegC.on (h : SegC w G A x) (hb : Below w.heap.size w w') : SegC w' G A x := h.of_block (hb.block G h.lt)
theorem SegC.chg {M : Nat → Prop} (h : SegC w G A x) (hc : Chg M w w') (hM : ¬ M G) : SegC w' G A x := h.of_block (hc.block G h.lt hM)
theorem SegC.drew (h : SegC w G A x) : SegC w.drew G A x := h.of_block rfl
theorem SegC.set2 (h : SegC w G A x) (k : Nat) : SegC (w.setCell ⟨G, 2, none⟩ (.int .u32 (k : Int))) G A { x with size := k } := by
  obtain ⟨c0, c1, c2, c3, c4, c5, c6, f0, f1, f2, f3, f4, f5, f6⟩ := h
  refine ⟨?_, ?_, World.cell?_setCell_same _ _ _ c2, ?_, ?_, ?_, ?_, by rw [World.frozen?_setCell]; assumption, by rw [World.frozen?_setCell]; assumption, by rw [World.frozen?_setCell]; assumption, by rw [World.frozen?_setCell]; assumption, by rw [World.frozen?_setCell]; assumption, by rw [World.frozen?_setCell]; assumption, by rw [World.frozen?_setCell]; assumption⟩ <;>
    (rw [World.cell?_setCell_other _ _ _ _ (by intro e; injection e with e1 e2; omega)]; assumption)
theorem SegC.set3 (h : SegC w G A x) (k : Nat) : SegC (w.setCell ⟨G, 3, none⟩ (.int .u32 (k : Int))) G A { x with many := k } := by
  obtain ⟨c0, c1, c2, c3, c4, c5, c6, f0, f1, f2, f3, f4, f5, f6⟩ := h
  refine ⟨?_, ?_, ?_, World.cell?_setCell_same _ _ _ c3, ?_, ?_, ?_, by rw [World.frozen?_setCell]; assumption, by rw [World.frozen?_setCell]; assumption, by rw [World.frozen?_setCell]; assumption, by rw [World.frozen?_setCell]; assumption, by rw [World.frozen?_setCell]; assumption, by rw [World.frozen?_setCell]; assumption, by rw [World.frozen?_setCell]; assumption⟩ <;>
    (rw [World.cell?_setCell_other _ _ _ _ (by intro e; injection e with e1 e2; omega)]; assumption)
theorem SegC.set4 (h : SegC w G A x) (k : Nat) : SegC (w.setCell ⟨G, 4, none⟩ (.int .u64 (k : Int))) G A { x with first := k } := by
  obtain ⟨c0, c1, c2, c3, c4, c5, c6, f0, f1, f2, f3, f4, f5, f6⟩ := h
  refine ⟨?_, ?_, ?_, ?_, World.cell?_setCell_same _ _ _ c4, ?_, ?_, by rw [World.frozen?_setCell]; assumption, by rw [World.frozen?_setCell]; assumption, by rw [World.frozen?_setCell]; assumption, by rw [World.frozen?_setCell]; assumption, by rw [World.frozen?_setCell]; assumption, by rw [World.frozen?_setCell]; assumption, by rw [World.frozen?_setCell]; assumption⟩ <;>
    (rw [World.cell?_setCell_other _ _ _ _ (by intro e; injection e with e1 e2; omega)]; assumption)
theorem SegC.set5 (h : SegC w G A x) (k : Nat) : SegC (w.setCell ⟨G, 5, none⟩ (.int .u64 (k : Int))) G A { x with last := k } := by
  obtain ⟨c0, c1, c2, c3, c4, c5, c6, f0, f1, f2, f3, f4, f5, f6⟩ := h
  refine ⟨?_, ?_, ?_, ?_, ?_, World.cell?_setCell_same _ _ _ c5, ?_, by rw [World.frozen?_setCell]; assumption, by rw [World.frozen?_setCell]; assumption, by rw [World.frozen?_setCell]; assumption, by rw [World.frozen?_setCell]; assumption, by rw [World.frozen?_setCell]; assumption, by rw [World.frozen?_setCell]; assumption, by rw [World.frozen?_setCell]; assumption⟩ <;>
    (rw [World.cell?_setCell_other _ _ _ _ (by intro e; injection e with e1 e2; omega)]; assumption)
theorem SegC.set6 (h : SegC w G A x) (k : Nat) : SegC (w.setCell ⟨G, 6, none⟩ (.int .u64 (k : Int))) G A { x with safe := k } := by
  obtain ⟨c0, c1, c2, c3, c4, c5, c6, f0, f1, f2, f3, f4, f5, f6⟩ := h
  refine ⟨?_, ?_, ?_, ?_, ?_, ?_, World.cell?_setCell_same _ _ _ c6, by rw [World.frozen?_setCell]; assumption, by rw [World.frozen?_setCell]; assumption, by rw [World.frozen?_setCell]; assumption, by rw [World.frozen?_setCell]; assumption, by rw [World.frozen?_setCell]; assumption, by rw [World.frozen?_setCell]; assumption, by rw [World.frozen?_setCell]; assumption⟩ <;>
    (rw [World.cell?_setCell_other _ _ _ _ (by intro e; injection e with e1 e2; omega)]; assumption)
theorem SegC.new (w : World) (A : Nat) (x : S) (t : TypeId) : SegC (w.alloc (.cells #[.pointer (some ⟨A, 0, none⟩), .int .u32 (x.id : Int), .int .u32 (x.size : Int), .int .u32 (x.many : Int), .int .u64 (x.first : Int), .int .u64 (x.last : Int), .int .u64 (x.safe : Int)] t)) w.heap.size A x := by
  refine ⟨by simp, by simp, by simp, by simp, by simp, by simp, by simp, by simp, by simp, by simp, by simp, by simp, by simp, by simp⟩
end
section
variable {w : World} {G A : Nat} {x : S}
set_option maxRecDepth 100000 in
theorem smade (h : SegC w G A x) : Calls Tryz.prog 37 #[.pointer (some ⟨G, 0, none⟩)] w fun e w' => e = .returned (.bool true) ∧ w = w' := by
  have h0 := h.c0
  clear h
  go_enter Tryz.func37, Tryz.ntmps37
  go_wp2_with fail
  go_ret
  exact ⟨rfl, rfl⟩
set_option maxRecDepth 100000 in
theorem smade_nil (w : World) : Calls Tryz.prog 37 #[.pointer none] w fun e w' => e = .returned (.bool false) ∧ w = w' := by
  go_enter Tryz.func37, Tryz.ntmps37
  go_wp2_with fail
  go_ret
  exact ⟨rfl, rfl⟩
set_option maxRecDepth 100000 in
theorem sname (h : SegC w G A x) (hi : x.id < 4294967296) (hS : Std w) : Calls Tryz.prog 40 #[.pointer (some ⟨G, 0, none⟩)] w fun e w' => e = .returned (.string (nameB x.id)) ∧ Below w.heap.size w w' := by
  have h1 := h.c1
  have HN := Lib.hid (name_any x.id hi w hS)
  clear h hS
  generalize nameB x.id = nb at *
  go_enter Tryz.func40, Tryz.ntmps40
  go_wp2_with fail
  refine HN.out.mono ?_
  rintro e w1 ⟨rfl, hb⟩
  have HB := Lib.hid hb
  clear hb
  go_wp2_with fail
  go_ret
  exact ⟨rfl, HB.out⟩
set_option maxRecDepth 100000 in
theorem sseal (h : SegC w G A x) : Calls Tryz.prog 12 #[.pointer (some ⟨G, 0, none⟩)] w fun e w' => e = .returned x.seal ∧ Below w.heap.size w w' := by
  have hb : Below w.heap.size w (w.alloc (.cells #[.int .u32 0, .int .u32 0, .int .u32 0, .int .u64 0, .int .u64 0] 39)) := (Below.refl _ _).alloc (Nat.le_refl _) _
  have HM := Lib.hid (smade (h.on hb))
  have h1 := (h.on hb).c1
  have h2 := (h.on hb).c2
  have h3 := (h.on hb).c3
  have h4 := (h.on hb).c4
  have h5 := (h.on hb).c5
  have HB := Lib.hid hb
  clear h hb
  go_enter Tryz.func12, Tryz.ntmps12
  go_wp2_with fail
  refine HM.out.mono ?_
  rintro e w1 ⟨rfl, rfl⟩
  go_wp2_with fail
  exact bodyPost_ret (v := x.seal) (by simp [results, Tryz.results12, go_sem, S.seal]) rfl ⟨rfl, (Below.refl _ _).alloc (Nat.le_refl _) _⟩
set_option maxRecDepth 100000 in
theorem sseal_nil (w : World) : Calls Tryz.prog 12 #[.pointer none] w fun e w' => e = .returned (S.seal ⟨0, 0, 0, 0, 0, 0⟩) ∧ Below w.heap.size w w' := by
  have HM := Lib.hid (smade_nil (w.alloc (.cells #[.int .u32 0, .int .u32 0, .int .u32 0, .int .u64 0, .int .u64 0] 39)))
  go_enter Tryz.func12, Tryz.ntmps12
  go_wp2_with fail
  refine HM.out.mono ?_
  rintro e w1 ⟨rfl, rfl⟩
  go_wp2_with fail
  exact bodyPost_ret (v := S.seal ⟨0, 0, 0, 0, 0, 0⟩) (by simp [results, Tryz.results12, go_sem, S.seal]) rfl ⟨rfl, (Below.refl _ _).alloc (Nat.le_refl _) _⟩
set_option maxRecDepth 100000 in
theorem ssafe_nil (w : World) : Calls Tryz.prog 18 #[.pointer none] w fun e w' => e = .returned (.int .u64 0) ∧ w = w' := by
  have HM := Lib.hid (smade_nil w)
  go_enter Tryz.func18, Tryz.ntmps18
  go_wp2_with fail
  refine HM.out.mono ?_
  rintro e w1 ⟨rfl, rfl⟩
  go_wp2_with fail
  go_ret
  exact ⟨rfl, rfl⟩
set_option maxRecDepth 100000 in
set_option maxHeartbeats 4000000 in
theorem scount (h : SegC w G A x) (q n : Nat) (hs : x.size + n < 4294967296) (hm : x.many + 1 < 4294967296) (hq : q < 18446744073709551616) :
    Calls Tryz.prog 46 #[.pointer (some ⟨G, 0, none⟩), .int .u64 (q : Int), .int .i64 (n : Int)] w fun e w' => e = .returned (.tuple #[]) ∧ SegC w' G A (x.more q n) ∧ Chg (fun i => i = G) w w' := by
  have hw1 : IntKind.u32.wrap (n : Int) = (n : Int) := IntWalk.u32_in _ (by omega)
  have hw2 : IntKind.u32.wrap ((x.size : Int) + (n : Int)) = ((x.size + n : Nat) : Int) := by rw [IntWalk.u32_in _ (by omega)]; push_cast; rfl
  have hw3 : IntKind.u32.wrap ((x.many : Int) + 1) = ((x.many + 1 : Nat) : Int) := by rw [IntWalk.u32_in _ (by omega)]; push_cast; rfl
  have a2 := h.c2
  have b2 := h.f2
  have a3 := h.c3
  have b3 := h.f3
  have a4 := h.c4
  have b4 := h.f4
  have a5 := h.c5
  have b5 := h.f5
  have H := Lib.hid h
  clear h
  by_cases h0 : x.first = 0
  · have e0 : Hid (x.more q n = { ({ ({ ({ x with size := x.size + n } : S) with many := x.many + 1 } : S) with first := q } : S) with last := q }) := Lib.hid (by unfold S.more; rw [if_pos h0])
    go_enter Tryz.func46, Tryz.ntmps46
    go_wp2_with fail
    first | go_end0 | refine bodyPost_ret (results_none rfl _ _ _) rfl ?_
    exact ⟨rfl, by rw [e0.out]; exact (((H.out.set2 (x.size + n)).set3 (x.many + 1)).set4 q).set5 q, (((chg_set w G 2 _).setCell (p := ⟨G, 3, none⟩) rfl _).setCell (p := ⟨G, 4, none⟩) rfl _).setCell (p := ⟨G, 5, none⟩) rfl _⟩
  · have e0 : Hid (x.more q n = { ({ ({ x with size := x.size + n } : S) with many := x.many + 1 } : S) with last := q }) := Lib.hid (by unfold S.more; rw [if_neg h0])
    have i0 : ¬ (x.first : Int) = 0 := by omega
    go_enter Tryz.func46, Tryz.ntmps46
    go_wp2_with fail
    first | go_end0 | refine bodyPost_ret (results_none rfl _ _ _) rfl ?_
    exact ⟨rfl, by rw [e0.out]; exact ((H.out.set2 (x.size + n)).set3 (x.many + 1)).set5 q, ((chg_set w G 2 _).setCell (p := ⟨G, 3, none⟩) rfl _).setCell (p := ⟨G, 5, none⟩) rfl _⟩
set_option maxRecDepth 100000 in
/-- why there can be no segment of that id -/
theorem sready (A : Option Addr) (id : Nat) (w : World) : Calls Tryz.prog 36 #[.pointer A, .int .u32 (id : Int)] w fun e w' => e = .returned (.int .i64 ((if A = none then 2 else if 1 ≤ id ∧ id ≤ 16777215 then 0 else 1 : Nat) : Int)) ∧ w = w' := by
  have hm := smay_any id w
  cases A with
  | none =>
    go_enter Tryz.func36, Tryz.ntmps36
    go_wp2_with fail
    go_ret
    exact ⟨rfl, rfl⟩
  | some a =>
    by_cases h : 1 ≤ id ∧ id ≤ 16777215
    · rw [decide_eq_true h] at hm
      rw [if_neg (by simp), if_pos h]
      clear h
      go_enter Tryz.func36, Tryz.ntmps36
      go_wp2_with fail
      refine hm.mono ?_
      rintro e w1 ⟨rfl, rfl⟩
      go_wp2_with fail
      go_ret
      exact ⟨rfl, rfl⟩
    · rw [decide_eq_false h] at hm
      rw [if_neg (by simp), if_neg h]
      clear h
      go_enter Tryz.func36, Tryz.ntmps36
      go_wp2_with fail
      refine hm.mono ?_
      rintro e w1 ⟨rfl, rfl⟩
      go_wp2_with fail
      go_ret
      exact ⟨rfl, rfl⟩
end

end Go.Proofs.YtaicibmaogiibaaGreatDoor.Sg

/- SgMake -/

/-
  Layer 11: Create: a row of steps, closures, done until the first error.
-/
set_option linter.unusedVariables false
set_option linter.unusedSimpArgs false
namespace Go.Proofs.YtaicibmaogiibaaGreatDoor.Sg
open Go Go.RowKit

section
variable {w w' : World} {A q T p c r : Nat} {M R : Nat → Prop} {s : FsP} {nm : ByteArray} {id : Nat}
set_option maxRecDepth 100000 in
theorem mk1 (hnm : nm.size ≤ maxLen) (h : FsM w A s.used M R s) (hf : FInv s q T) (hq : q ≤ 200) (hT : T ≤ 100000) (hst : s.steps + 1 ≤ 1000000) (cp : w.cell? ⟨p, 0, none⟩ = some (.pointer (some ⟨A, 0, none⟩))) (cc : w.cell? ⟨c, 0, none⟩ = some (.string nm)) :
    Calls Tryz.prog 67 #[.pointer (some ⟨p, 0, none⟩), .pointer (some ⟨c, 0, none⟩)] w fun e w' => e = .returned (.int .i64 ((stepF s (createK nm)).1 : Int)) ∧ FsMut w w' A (stepF s (createK nm)).2.used M R (stepF s (createK nm)).2 := by
  have HC := Lib.hid (kcreate hnm h hf hq hT hst)
  clear h hf
  generalize stepF s (createK nm) = an at *
  go_enter Tryz.func67, Tryz.ntmps67
  go_wp2_with fail
  refine HC.out.mono ?_
  rintro e w1 ⟨rfl, hm⟩
  have HM := Lib.hid hm
  clear hm
  go_wp2_with fail
  go_ret
  exact ⟨rfl, HM.out⟩
set_option maxRecDepth 100000 in
theorem mk3 (hnm : nm.size ≤ maxLen) (h : FsM w A s.used M R s) (hf : FInv s q T) (hT : T ≤ 100000) (hst : s.steps + 1 ≤ 1000000) (cp : w.cell? ⟨p, 0, none⟩ = some (.pointer (some ⟨A, 0, none⟩))) (cc : w.cell? ⟨c, 0, none⟩ = some (.string nm)) :
    Calls Tryz.prog 71 #[.pointer (some ⟨p, 0, none⟩), .pointer (some ⟨c, 0, none⟩)] w fun e w' => e = .returned (.int .i64 ((stepF s (syncK nm)).1 : Int)) ∧ FsMut w w' A (stepF s (syncK nm)).2.used M R (stepF s (syncK nm)).2 := by
  have HC := Lib.hid (ksync hnm h hf hT hst)
  clear h hf
  generalize stepF s (syncK nm) = an at *
  go_enter Tryz.func71, Tryz.ntmps71
  go_wp2_with fail
  refine HC.out.mono ?_
  rintro e w1 ⟨rfl, hm⟩
  have HM := Lib.hid hm
  clear hm
  go_wp2_with fail
  go_ret
  exact ⟨rfl, HM.out⟩
set_option maxRecDepth 100000 in
theorem mk4 (h : FsM w A s.used M R s) (hf : FInv s q T) (hq : q ≤ 200) (hT : T ≤ 100000) (hst : s.steps + 1 ≤ 1000000) (cp : w.cell? ⟨p, 0, none⟩ = some (.pointer (some ⟨A, 0, none⟩))) :
    Calls Tryz.prog 72 #[.pointer (some ⟨p, 0, none⟩)] w fun e w' => e = .returned (.int .i64 ((stepF s syncDirK).1 : Int)) ∧ FsMut w w' A (stepF s syncDirK).2.used M R (stepF s syncDirK).2 := by
  have HC := Lib.hid (ksyncdir h hf hq hT hst)
  clear h hf
  generalize stepF s syncDirK = an at *
  go_enter Tryz.func72, Tryz.ntmps72
  go_wp2_with fail
  refine HC.out.mono ?_
  rintro e w1 ⟨rfl, hm⟩
  have HM := Lib.hid hm
  clear hm
  go_wp2_with fail
  go_ret
  exact ⟨rfl, HM.out⟩
/-- a new row of bytes, as blocks of its own -/
theorem own_bsin {w : World} {base n : Nat} {v : Value} {l : List UInt8} (h : w.ownsRow base 5 1 v n (bvs l)) (hn : n = l.length) : BsIn w (fun i => base ≤ i ∧ i < w.heap.size) v l := by
  obtain ⟨A, c, rfl, h1, h2, _⟩ := own_slice h
  subst hn
  exact ⟨A, c, rfl, h1, rdR_of_own h⟩
set_option maxRecDepth 100000 in
theorem mk2 (hi : 1 ≤ id ∧ id ≤ 16777215) (hnm : nm.size ≤ maxLen) (h : FsM w A s.used M R s) (hf : FInv s q T) (hT : T ≤ 100000) (hst : s.steps + 1 ≤ 1000000) (ht : Crc.Tab w) (cr : w.cell? ⟨r, 0, none⟩ = some (.int .u32 (id : Int))) (cp : w.cell? ⟨p, 0, none⟩ = some (.pointer (some ⟨A, 0, none⟩))) (cc : w.cell? ⟨c, 0, none⟩ = some (.string nm)) :
    Calls Tryz.prog 69 #[.pointer (some ⟨r, 0, none⟩), .pointer (some ⟨p, 0, none⟩), .pointer (some ⟨c, 0, none⟩)] w fun e w' => e = .returned (.int .i64 ((stepF s (appendK nm (Hd.headL 1 id))).1 : Int)) ∧ FsMut w w' A (stepF s (appendK nm (Hd.headL 1 id))).2.used M R (stepF s (appendK nm (Hd.headL 1 id))).2 := by
  have hm1 : Hd.mayB ((1 : Nat) : Int) (id : Int) = true := decide_eq_true (.inl ⟨rfl, by omega, by omega⟩)
  have HP := Lib.hid (Hd.put_ok 1 id w hm1 ht)
  have H := Lib.hid (And.intro h (And.intro hf (And.intro hT hst)))
  have hml := h.ml
  have HML := Lib.hid hml
  have hlen : (Hd.headL 1 id).length = 16 := Hd.headL_length 1 id
  have HL := Lib.hid hlen
  clear h hf hm1 hml hlen
  go_enter Tryz.func69, Tryz.ntmps69
  go_wp2_with fail
  refine HP.out.mono ?_
  rintro e w1 ⟨v, rfl, hv, hb⟩
  have hp1 := (hb.cell (p := ⟨p, 0, none⟩) (fblock_of_cell cp)).trans cp
  have hc1 := (hb.cell (p := ⟨c, 0, none⟩) (fblock_of_cell cc)).trans cc
  have HB := Lib.hid hb
  have HK := Lib.hid (kappend hnm (H.out.1.on hb) H.out.2.1 H.out.2.2.1 H.out.2.2.2 (own_bsin hv HL.out.symm) (fun i hi e => by have := HML.out i hi; omega) (by rw [HL.out]; omega))
  clear hb hv cr cp cc
  go_wp2_with fail
  refine HK.out.mono ?_
  rintro e w2 ⟨rfl, hm⟩
  have HM := Lib.hid (hm.after (Chg.of_below HB.out) (fun _ => .inl) (fun _ => .inl))
  clear hm
  go_wp2_with fail
  go_ret
  exact ⟨rfl, HM.out⟩
end
-- Create itself
/-- what Create does, step by step -/
def mkK (n : ByteArray) (id : Nat) : Nat → FsP → Nat × FsP
  | 0 => createK n
  | 1 => appendK n (Hd.headL 1 id)
  | 2 => syncK n
  | _ => syncDirK
/-- the steps from i on, so many: until one tells an error -/
def runM (n : ByteArray) (id : Nat) (i : Nat) : Nat → FsP → Nat × FsP
  | 0, s => (0, s)
  | k + 1, s => if (stepF s (mkK n id i)).1 = 0 then runM n id (i + 1) k (stepF s (mkK n id i)).2 else ((stepF s (mkK n id i)).1, if i = 0 then (stepF s (mkK n id i)).2 else (stepF (stepF s (mkK n id i)).2 (removeK n)).2)
def createG (s : FsP) (id : Nat) : Nat × FsP := runM (nameB id) id 0 4 s
theorem stepF_steps (s : FsP) (k : FsP → Nat × FsP) (hk : ∀ t, (k t).2.steps = t.steps) : (stepF s k).2.steps ≤ s.steps + 1 := by
  have hb : (beginF s).2.steps ≤ s.steps + 1 := by
    unfold beginF
    split
    · exact Nat.le_succ _
    · split <;> exact Nat.le_refl _
  unfold stepF
  split
  · rw [hk]; exact hb
  · exact hb
theorem onF_steps (s : FsP) (n : ByteArray) (k : FSt → Nat × FSt) : (onF s n k).2.steps = s.steps := by unfold onF; split <;> rfl
theorem createK_steps (n : ByteArray) (s : FsP) : (createK n s).2.steps = s.steps := by
  unfold createK
  first | rfl | (split <;> rfl)
theorem mkK_steps (n : ByteArray) (id i : Nat) (s : FsP) : (mkK n id i s).2.steps = s.steps := by
  unfold mkK
  split
  · exact createK_steps n s
  · exact onF_steps _ _ _
  · exact onF_steps _ _ _
  · rfl
theorem finv_mk {s : FsP} {q T : Nat} (h : FInv s q T) (hq : q ≤ 1000) (n : ByteArray) (id i : Nat) : FInv (stepF s (mkK n id i)).2 (q + 1) (T + 60) := by
  unfold mkK
  split
  · exact h.c_create hq n
  · exact h.c_append hq n (by rw [Hd.headL_length]; omega)
  · exact h.c_sync hq n
  · exact h.c_syncdir hq
/-- a segment beside its file system, behind a call -/
def SegMut (w w' : World) (G A : Nat) (M R : Nat → Prop) (s : FsP) (x : S) : Prop :=
  ∃ M' R', FsM w' A s.used M' R' s ∧ Chg (fun i => M i ∨ i = G) w w' ∧ (∀ i, M' i → M i ∨ w.heap.size ≤ i) ∧ (∀ i, R' i → R i ∨ w.heap.size ≤ i) ∧ SegC w' G A x ∧ ¬ M' G ∧ ¬ R' G
/-- what the walks lean on, in memory below B -/
structure Ctx (B : Nat) (w : World) : Prop where
  tab : RTab w
  std : Std w
  b1 : 4 < B
  b2 : 0 < B
  b3 : 2 < B
  b4 : 3 < B
  b5 : 7 < B
theorem Ctx.below {B : Nat} {w w' : World} (h : Ctx B w) (hb : Below B w w') : Ctx B w' := by
  obtain ⟨⟨h1, h2⟩, ⟨⟨⟨t1, p1, e1⟩, ⟨t2, p2, e2⟩⟩, h4⟩, b1, b2, b3, b4, b5⟩ := h
  refine ⟨⟨h1.below hb b1, ?_⟩, ⟨⟨⟨t1, p1, (hb.cell b3).trans e1⟩, ⟨t2, p2, (hb.cell b4).trans e2⟩⟩, (hb.cell b5).trans h4⟩, b1, b2, b3, b4, b5⟩
  obtain ⟨q0, q1, q2, q3, q4, q5⟩ := h2
  exact ⟨(hb.cell b2).trans q0, (hb.cell b2).trans q1, (hb.cell b2).trans q2, (hb.cell b2).trans q3, (hb.cell b2).trans q4, (hb.cell b2).trans q5⟩
theorem Ctx.of {w : World} (h1 : RTab w) (h2 : Std w) : Ctx w.heap.size w := by
  obtain ⟨⟨t1, p1, e1⟩, ⟨t2, p2, e2⟩⟩ := h2.errs
  exact ⟨h1, h2, h1.1.lt, Lib.lt_of_cell h1.2.1, Lib.lt_of_cell e1, Lib.lt_of_cell e2, Lib.lt_of_cell h2.tz⟩
theorem Ctx.mono {B B' : Nat} {w : World} (h : Ctx B w) (hB : B ≤ B') : Ctx B' w := by
  obtain ⟨h1, h2, b1, b2, b3, b4, b5⟩ := h
  exact ⟨h1, h2, by omega, by omega, by omega, by omega, by omega⟩
/-- what stands while Create's steps are done -/
def MkR (w W : World) (A q T p r c id : Nat) (nm : ByteArray) (M R : Nat → Prop) (s : FsP) (an : Nat × FsP) (i : Nat) : Prop :=
  ∃ M' R' t, FsM W A t.used M' R' t ∧ Chg M w W ∧ (∀ j, M' j → M j ∨ w.heap.size ≤ j) ∧ (∀ j, R' j → R j ∨ w.heap.size ≤ j) ∧ FInv t (q + i) (T + 60 * i) ∧ t.steps ≤ s.steps + i ∧ an = runM nm id i (4 - i) t ∧
    W.cell? ⟨p, 0, none⟩ = some (.pointer (some ⟨A, 0, none⟩)) ∧ W.cell? ⟨r, 0, none⟩ = some (.int .u32 (id : Int)) ∧ W.cell? ⟨c, 0, none⟩ = some (.string nm) ∧ ¬ M' p ∧ ¬ M' r ∧ ¬ M' c
section
variable {w w' : World} {A q T : Nat} {M R : Nat → Prop} {s : FsP} {id : Nat}
set_option maxRecDepth 100000 in
set_option maxHeartbeats 16000000 in
theorem screate {B : Nat} (hx : Ctx B w) (hB : B ≤ w.heap.size) (hMB : ∀ i, M i → B ≤ i) (hi : 1 ≤ id ∧ id ≤ 16777215) (h : FsM w A s.used M R s) (hf : FInv s q T) (hq : q ≤ 100) (hT : T ≤ 90000) (hst : s.steps + 6 ≤ 1000000) :
    Calls Tryz.prog 24 #[.pointer (some ⟨A, 0, none⟩), .int .u32 (id : Int)] w fun e w' =>
      ((createG s id).1 = 0 ∧ ∃ G, e = .returned (.tuple #[.pointer (some ⟨G, 0, none⟩), .int .i64 0]) ∧ w.heap.size ≤ G ∧ SegMut w w' G A M R (createG s id).2 ⟨id, 16, 0, 0, 0, 0⟩) ∨
      ((createG s id).1 ≠ 0 ∧ e = .returned (.tuple #[.pointer none, .int .i64 ((createG s id).1 : Int)]) ∧ FsMut w w' A (createG s id).2.used M R (createG s id).2) := by
  obtain ⟨nm, hnm⟩ : ∃ nm, nm = nameB id := ⟨_, rfl⟩
  have hsz : nm.size ≤ maxLen := by rw [hnm]; have := nameB_size id; unfold maxLen; omega
  have HI := Lib.hid hi
  have Hsz := Lib.hid hsz
  obtain ⟨an, han⟩ : ∃ an, an = createG s id := ⟨_, rfl⟩
  have hal : an = runM nm id 0 4 s := by rw [han, hnm]; rfl
  rw [← han]
  have HA := Lib.hid hal
  obtain ⟨W, hW⟩ : ∃ W, W = (w.alloc (.cells #[.pointer (some ⟨A, 0, none⟩)] 26)).alloc (.cells #[.int .u32 (id : Int)] 23) := ⟨_, rfl⟩
  have hb : Below w.heap.size w W := by rw [hW]; exact ((Below.refl _ _).alloc (Nat.le_refl _) _).alloc (by simp) _
  have c0 : W.cell? ⟨w.heap.size, 0, none⟩ = some (.pointer (some ⟨A, 0, none⟩)) := by rw [hW]; exact cell_al (box_new _ _ _ _ rfl) _
  have c1 : W.cell? ⟨w.heap.size + 1, 0, none⟩ = some (.int .u32 (id : Int)) := by rw [hW]; exact box_new _ _ _ _ (by simp)
  have hWs : W.heap.size = w.heap.size + 2 := by rw [hW]; simp
  have hr := sready (some ⟨A, 0, none⟩) id W
  rw [if_neg (by simp), if_pos hi] at hr
  have HN := Lib.hid (name_any id (by omega) W (hx.std.on hb))
  rw [← hnm] at HN
  have H0 := Lib.hid (h.on hb)
  have HF := Lib.hid hf
  have HML := Lib.hid (show ∀ i, M i ∨ R i → i < w.heap.size from fun i hi => hi.elim (h.ml i) (h.rl i))
  have HX := Lib.hid (And.intro hx (And.intro hB hMB))
  have HQ := Lib.hid (And.intro hq (And.intro hT hst))
  obtain ⟨p, hp⟩ : ∃ p, p = w.heap.size := ⟨_, rfl⟩
  have HP := Lib.hid hp
  have HB := Lib.hid hb
  rw [← hp] at c0 c1 hWs
  have HC0 := Lib.hid c0
  have HC1 := Lib.hid c1
  clear h hf hal han hb hx hi hst hsz hnm hB hMB hq hT
  go_enter Tryz.func24, Tryz.ntmps24
  go_wp2_with fail
  rw [← hW, ← hp]
  clear hW hp
  refine hr.mono ?_
  rintro e w1 ⟨rfl, rfl⟩
  clear hr
  go_wp2_with fail
  refine HN.out.mono ?_
  rintro e w1 ⟨rfl, hb1⟩
  have c2 := (hb1.cell (p := ⟨p, 0, none⟩) (fblock_of_cell c0)).trans c0
  have c3 := (hb1.cell (p := ⟨p + 1, 0, none⟩) (fblock_of_cell c1)).trans c1
  clear c0 c1
  obtain ⟨c, hc⟩ : ∃ c, c = w1.heap.size := ⟨_, rfl⟩
  obtain ⟨W3, hW3⟩ : ∃ W3, W3 = (w1.alloc (.cells #[.string nm] 9)).alloc (.cells #[.func (.func 67) #[] #[.pointer (some ⟨p, 0, none⟩), .pointer (some ⟨w1.heap.size, 0, none⟩)], .func (.func 69) #[] #[.pointer (some ⟨p + 1, 0, none⟩), .pointer (some ⟨p, 0, none⟩), .pointer (some ⟨w1.heap.size, 0, none⟩)], .func (.func 71) #[] #[.pointer (some ⟨p, 0, none⟩), .pointer (some ⟨w1.heap.size, 0, none⟩)], .func (.func 72) #[] #[.pointer (some ⟨p, 0, none⟩)]] 115) := ⟨_, rfl⟩
  have hb3 : Below w1.heap.size w1 W3 := by rw [hW3]; exact ((Below.refl _ _).alloc (Nat.le_refl _) _).alloc (by simp) _
  have d0 := (hb3.cell (p := ⟨p, 0, none⟩) (fblock_of_cell c2)).trans c2
  have d1 := (hb3.cell (p := ⟨p + 1, 0, none⟩) (fblock_of_cell c3)).trans c3
  have d2 : W3.cell? ⟨c, 0, none⟩ = some (.string nm) := by rw [hW3]; exact cell_al (box_new _ _ _ _ hc) _
  have hb4 : Below w.heap.size w W3 := (HB.out.trans (hb1.mono HB.out.size)).trans (hb3.mono (Nat.le_trans HB.out.size hb1.size))
  have hps : p = w.heap.size := HP.out
  have hcs : w.heap.size + 2 ≤ c := by rw [hc, ← hps, ← hWs]; exact hb1.size
  have HR : Hid (MkR w W3 A q T p (p + 1) c id nm M R s an 0) := Lib.hid ⟨M, R, s, (H0.out.on hb1).on hb3, Chg.of_below hb4, fun _ => .inl, fun _ => .inl, HF.out, Nat.le_refl _, HA.out, d0, d1, d2, (fun e => by have := HML.out _ (.inl e); omega), (fun e => by have := HML.out _ (.inl e); omega), (fun e => by have := HML.out _ (.inl e); omega)⟩
  have HCS := Lib.hid hcs
  clear d0 d1 d2 hb4 hb3 hb1 c2 c3 hps hcs HN HA
  go_wp2_with fail
  rw [← hW3, ← hc]
  clear hW3 hc hWs
  go_loopw [26] (fun vi wr => ∃ (i : Nat), vi = .int .i64 i ∧ i ≤ 4 ∧ Hid (MkR w wr A q T p (p + 1) c id nm M R s an i)) (fun vi _ => 4 - (RowKit.intOf vi).toNat)
  case atStart => exact ⟨0, rfl, by omega, HR⟩
  case round =>
    obtain ⟨i, rfl, hi, hh⟩ := hrel
    rename World => V
    clear HR
    rcases (show i = 0 ∨ i = 1 ∨ i = 2 ∨ i = 3 ∨ i = 4 by omega) with rfl | rfl | rfl | rfl | rfl
    · obtain ⟨M', R', t, h1, h2, h3, h4, h5, h6, h7, d0, d1, d2, n0, n1, n2⟩ := hh.out
      have hix : ∀ w : World, (Instr.index 115 (.agg #[.func (.func 67) #[] #[.pointer (some ⟨p, 0, none⟩), .pointer (some ⟨c, 0, none⟩)], .func (.func 69) #[] #[.pointer (some ⟨p + 1, 0, none⟩), .pointer (some ⟨p, 0, none⟩), .pointer (some ⟨c, 0, none⟩)], .func (.func 71) #[] #[.pointer (some ⟨p, 0, none⟩), .pointer (some ⟨c, 0, none⟩)], .func (.func 72) #[] #[.pointer (some ⟨p, 0, none⟩)]]) (.int .i64 0)).run Tryz.prog w = .ok (.func (.func 67) #[] #[.pointer (some ⟨p, 0, none⟩), .pointer (some ⟨c, 0, none⟩)]) w := fun _ => by kernel_rfl
      have hq1 := HQ.out
      have HK := Lib.hid (mk1 Hsz.out h1 h5 (by omega) (by omega) (by omega) d0 d2)
      have hin := finv_mk h5 (by omega) nm id 0
      have hst1 := stepF_steps t (mkK nm id 0) (mkK_steps nm id 0)
      have hmk : mkK nm id 0 = createK nm := rfl
      rw [← hmk] at HK
      have h7 : an = (if (stepF t (mkK nm id 0)).1 = 0 then runM nm id 1 3 (stepF t (mkK nm id 0)).2 else ((stepF t (mkK nm id 0)).1, (stepF t (mkK nm id 0)).2)) := h7
      obtain ⟨r1, hr1⟩ : ∃ r1, r1 = stepF t (mkK nm id 0) := ⟨_, rfl⟩
      rw [← hr1] at HK hin hst1 h7
      have H2 := Lib.hid h2
      have H3 := Lib.hid (And.intro h3 h4)
      have H5 := Lib.hid hin
      have H6 := Lib.hid (And.intro h6 hst1)
      have H7 := Lib.hid h7
      have HN := Lib.hid (And.intro n0 (And.intro n1 n2))
      have HD1 := Lib.hid d1
      have hlt : p < V.heap.size ∧ p + 1 < V.heap.size ∧ c < V.heap.size := ⟨fblock_of_cell d0, fblock_of_cell d1, fblock_of_cell d2⟩
      have HLT := Lib.hid hlt
      have HD0 := Lib.hid d0
      have HD2 := Lib.hid d2
      clear hh h1 h2 h3 h4 h5 h6 h7 hin hst1 hmk hr1 n0 n1 n2 d1 d0 d2 hlt hq1
      go_wp2_with fail
      refine HK.out.mono ?_
      rintro e V1 ⟨rfl, hm⟩
      obtain ⟨M2, R2, k1, k2, k3, k4⟩ := hm
      have d0 := (k2.cell (p := ⟨p, 0, none⟩) HLT.out.1 HN.out.1).trans HD0.out
      have d1 := (k2.cell (p := ⟨p + 1, 0, none⟩) HLT.out.2.1 HN.out.2.1).trans HD1.out
      have d2 := (k2.cell (p := ⟨c, 0, none⟩) HLT.out.2.2 HN.out.2.2).trans HD2.out
      have HD1' := Lib.hid d1
      have HC := Lib.hid (H2.out.trans k2 H3.out.1)
      have HM := Lib.hid (show (∀ j, M2 j → M j ∨ w.heap.size ≤ j) ∧ (∀ j, R2 j → R j ∨ w.heap.size ≤ j) from ⟨fun j hj => (k3 j hj).elim (H3.out.1 j) (fun e => .inr (Nat.le_trans H2.out.size e)), fun j hj => (k4 j hj).elim (H3.out.2 j) (fun e => .inr (Nat.le_trans H2.out.size e))⟩)
      have HN2 := Lib.hid (show ¬ M2 p ∧ ¬ M2 (p + 1) ∧ ¬ M2 c from ⟨fun e => (k3 _ e).elim HN.out.1 (fun e => by have := HLT.out.1; omega), fun e => (k3 _ e).elim HN.out.2.1 (fun e => by have := HLT.out.2.1; omega), fun e => (k3 _ e).elim HN.out.2.2 (fun e => by have := HLT.out.2.2; omega)⟩)
      have HF1 := Lib.hid k1
      clear k1 k2 k3 k4 d1 HK HN HLT HD0 HD1 HD2 H2 H3
      by_cases e0 : r1.1 = 0
      · rw [e0]
        have HH : Hid (MkR w V1 A q T p (p + 1) c id nm M R s an 1) := Lib.hid ⟨M2, R2, r1.2, HF1.out, HC.out, HM.out.1, HM.out.2, by have := H5.out; exact this, by have := H6.out; omega, by rw [H7.out, if_pos e0], d0, HD1'.out, d2, HN2.out.1, HN2.out.2.1, HN2.out.2.2⟩
        clear d0 d2 e0
        go_wp2_with fail
        exact ⟨⟨1, rfl, by omega, HH⟩, by simp [RowKit.intOf]⟩
      · have HE := Lib.hid (show an = (r1.1, r1.2) by rw [H7.out, if_neg e0])
        have E0 := Lib.hid e0
        have i0 : ¬ (r1.1 : Int) = 0 := by omega
        obtain ⟨cd, hcd⟩ : ∃ cd, cd = r1.1 := ⟨_, rfl⟩
        rw [← hcd] at i0 ⊢
        have HCD := Lib.hid hcd
        clear e0 hcd
        clear d0 d2
        go_wp2_with fail
        go_ret2
        exact .inr ⟨by rw [HE.out]; exact E0.out, by rw [HE.out, HCD.out]; rfl, by rw [HE.out]; exact ⟨M2, R2, HF1.out, HC.out, HM.out.1, HM.out.2⟩⟩
    · obtain ⟨M', R', t, h1, h2, h3, h4, h5, h6, h7, d0, d1, d2, n0, n1, n2⟩ := hh.out
      have hix : ∀ w : World, (Instr.index 115 (.agg #[.func (.func 67) #[] #[.pointer (some ⟨p, 0, none⟩), .pointer (some ⟨c, 0, none⟩)], .func (.func 69) #[] #[.pointer (some ⟨p + 1, 0, none⟩), .pointer (some ⟨p, 0, none⟩), .pointer (some ⟨c, 0, none⟩)], .func (.func 71) #[] #[.pointer (some ⟨p, 0, none⟩), .pointer (some ⟨c, 0, none⟩)], .func (.func 72) #[] #[.pointer (some ⟨p, 0, none⟩)]]) (.int .i64 1)).run Tryz.prog w = .ok (.func (.func 69) #[] #[.pointer (some ⟨p + 1, 0, none⟩), .pointer (some ⟨p, 0, none⟩), .pointer (some ⟨c, 0, none⟩)]) w := fun _ => by kernel_rfl
      have hq1 := HQ.out
      have HK := Lib.hid (mk2 HI.out Hsz.out h1 h5 (by omega) (by omega) (HX.out.1.below (h2.below HX.out.2.1 HX.out.2.2)).tab.1 d1 d0 d2)
      have hin := finv_mk h5 (by omega) nm id 1
      have hst1 := stepF_steps t (mkK nm id 1) (mkK_steps nm id 1)
      have hmk : mkK nm id 1 = appendK nm (Hd.headL 1 id) := rfl
      rw [← hmk] at HK
      have h7 : an = (if (stepF t (mkK nm id 1)).1 = 0 then runM nm id 2 2 (stepF t (mkK nm id 1)).2 else ((stepF t (mkK nm id 1)).1, (stepF (stepF t (mkK nm id 1)).2 (removeK nm)).2)) := h7
      obtain ⟨r1, hr1⟩ : ∃ r1, r1 = stepF t (mkK nm id 1) := ⟨_, rfl⟩
      rw [← hr1] at HK hin hst1 h7
      have H2 := Lib.hid h2
      have H3 := Lib.hid (And.intro h3 h4)
      have H5 := Lib.hid hin
      have H6 := Lib.hid (And.intro h6 hst1)
      have H7 := Lib.hid h7
      have HN := Lib.hid (And.intro n0 (And.intro n1 n2))
      have HD1 := Lib.hid d1
      have hlt : p < V.heap.size ∧ p + 1 < V.heap.size ∧ c < V.heap.size := ⟨fblock_of_cell d0, fblock_of_cell d1, fblock_of_cell d2⟩
      have HLT := Lib.hid hlt
      have HD0 := Lib.hid d0
      have HD2 := Lib.hid d2
      clear hh h1 h2 h3 h4 h5 h6 h7 hin hst1 hmk hr1 n0 n1 n2 d1 d0 d2 hlt hq1
      go_wp2_with fail
      refine HK.out.mono ?_
      rintro e V1 ⟨rfl, hm⟩
      obtain ⟨M2, R2, k1, k2, k3, k4⟩ := hm
      have d0 := (k2.cell (p := ⟨p, 0, none⟩) HLT.out.1 HN.out.1).trans HD0.out
      have d1 := (k2.cell (p := ⟨p + 1, 0, none⟩) HLT.out.2.1 HN.out.2.1).trans HD1.out
      have d2 := (k2.cell (p := ⟨c, 0, none⟩) HLT.out.2.2 HN.out.2.2).trans HD2.out
      have HD1' := Lib.hid d1
      have HC := Lib.hid (H2.out.trans k2 H3.out.1)
      have HM := Lib.hid (show (∀ j, M2 j → M j ∨ w.heap.size ≤ j) ∧ (∀ j, R2 j → R j ∨ w.heap.size ≤ j) from ⟨fun j hj => (k3 j hj).elim (H3.out.1 j) (fun e => .inr (Nat.le_trans H2.out.size e)), fun j hj => (k4 j hj).elim (H3.out.2 j) (fun e => .inr (Nat.le_trans H2.out.size e))⟩)
      have HN2 := Lib.hid (show ¬ M2 p ∧ ¬ M2 (p + 1) ∧ ¬ M2 c from ⟨fun e => (k3 _ e).elim HN.out.1 (fun e => by have := HLT.out.1; omega), fun e => (k3 _ e).elim HN.out.2.1 (fun e => by have := HLT.out.2.1; omega), fun e => (k3 _ e).elim HN.out.2.2 (fun e => by have := HLT.out.2.2; omega)⟩)
      have HF1 := Lib.hid k1
      clear k1 k2 k3 k4 d1 HK HN HLT HD0 HD1 HD2 H2 H3
      by_cases e0 : r1.1 = 0
      · rw [e0]
        have HH : Hid (MkR w V1 A q T p (p + 1) c id nm M R s an 2) := Lib.hid ⟨M2, R2, r1.2, HF1.out, HC.out, HM.out.1, HM.out.2, by have := H5.out; exact this, by have := H6.out; omega, by rw [H7.out, if_pos e0], d0, HD1'.out, d2, HN2.out.1, HN2.out.2.1, HN2.out.2.2⟩
        clear d0 d2 e0
        go_wp2_with fail
        exact ⟨⟨2, rfl, by omega, HH⟩, by simp [RowKit.intOf]⟩
      · have HE := Lib.hid (show an = (r1.1, (stepF r1.2 (removeK nm)).2) by rw [H7.out, if_neg e0])
        have E0 := Lib.hid e0
        have i0 : ¬ (r1.1 : Int) = 0 := by omega
        obtain ⟨cd, hcd⟩ : ∃ cd, cd = r1.1 := ⟨_, rfl⟩
        rw [← hcd] at i0 ⊢
        have HCD := Lib.hid hcd
        clear e0 hcd
        have hq1 := HQ.out
        have h56 := H6.out
        have HRm := Lib.hid (kremove Hsz.out HF1.out H5.out (by omega) (by omega) (by omega))
        clear hq1 h56
        go_wp2_with fail
        refine HRm.out.mono ?_
        rintro e V2 ⟨rfl, hm⟩
        have HM2 := Lib.hid (hm.after HC.out HM.out.1 HM.out.2)
        clear hm d0 d2 HRm
        generalize ((stepF r1.2 (removeK nm)).1 : Int) = rc at *
        go_wp2_with fail
        go_ret2
        exact .inr ⟨by rw [HE.out]; exact E0.out, by rw [HE.out, HCD.out]; rfl, by rw [HE.out]; exact HM2.out⟩
    · obtain ⟨M', R', t, h1, h2, h3, h4, h5, h6, h7, d0, d1, d2, n0, n1, n2⟩ := hh.out
      have hix : ∀ w : World, (Instr.index 115 (.agg #[.func (.func 67) #[] #[.pointer (some ⟨p, 0, none⟩), .pointer (some ⟨c, 0, none⟩)], .func (.func 69) #[] #[.pointer (some ⟨p + 1, 0, none⟩), .pointer (some ⟨p, 0, none⟩), .pointer (some ⟨c, 0, none⟩)], .func (.func 71) #[] #[.pointer (some ⟨p, 0, none⟩), .pointer (some ⟨c, 0, none⟩)], .func (.func 72) #[] #[.pointer (some ⟨p, 0, none⟩)]]) (.int .i64 2)).run Tryz.prog w = .ok (.func (.func 71) #[] #[.pointer (some ⟨p, 0, none⟩), .pointer (some ⟨c, 0, none⟩)]) w := fun _ => by kernel_rfl
      have hq1 := HQ.out
      have HK := Lib.hid (mk3 Hsz.out h1 h5 (by omega) (by omega) d0 d2)
      have hin := finv_mk h5 (by omega) nm id 2
      have hst1 := stepF_steps t (mkK nm id 2) (mkK_steps nm id 2)
      have hmk : mkK nm id 2 = syncK nm := rfl
      rw [← hmk] at HK
      have h7 : an = (if (stepF t (mkK nm id 2)).1 = 0 then runM nm id 3 1 (stepF t (mkK nm id 2)).2 else ((stepF t (mkK nm id 2)).1, (stepF (stepF t (mkK nm id 2)).2 (removeK nm)).2)) := h7
      obtain ⟨r1, hr1⟩ : ∃ r1, r1 = stepF t (mkK nm id 2) := ⟨_, rfl⟩
      rw [← hr1] at HK hin hst1 h7
      have H2 := Lib.hid h2
      have H3 := Lib.hid (And.intro h3 h4)
      have H5 := Lib.hid hin
      have H6 := Lib.hid (And.intro h6 hst1)
      have H7 := Lib.hid h7
      have HN := Lib.hid (And.intro n0 (And.intro n1 n2))
      have HD1 := Lib.hid d1
      have hlt : p < V.heap.size ∧ p + 1 < V.heap.size ∧ c < V.heap.size := ⟨fblock_of_cell d0, fblock_of_cell d1, fblock_of_cell d2⟩
      have HLT := Lib.hid hlt
      have HD0 := Lib.hid d0
      have HD2 := Lib.hid d2
      clear hh h1 h2 h3 h4 h5 h6 h7 hin hst1 hmk hr1 n0 n1 n2 d1 d0 d2 hlt hq1
      go_wp2_with fail
      refine HK.out.mono ?_
      rintro e V1 ⟨rfl, hm⟩
      obtain ⟨M2, R2, k1, k2, k3, k4⟩ := hm
      have d0 := (k2.cell (p := ⟨p, 0, none⟩) HLT.out.1 HN.out.1).trans HD0.out
      have d1 := (k2.cell (p := ⟨p + 1, 0, none⟩) HLT.out.2.1 HN.out.2.1).trans HD1.out
      have d2 := (k2.cell (p := ⟨c, 0, none⟩) HLT.out.2.2 HN.out.2.2).trans HD2.out
      have HD1' := Lib.hid d1
      have HC := Lib.hid (H2.out.trans k2 H3.out.1)
      have HM := Lib.hid (show (∀ j, M2 j → M j ∨ w.heap.size ≤ j) ∧ (∀ j, R2 j → R j ∨ w.heap.size ≤ j) from ⟨fun j hj => (k3 j hj).elim (H3.out.1 j) (fun e => .inr (Nat.le_trans H2.out.size e)), fun j hj => (k4 j hj).elim (H3.out.2 j) (fun e => .inr (Nat.le_trans H2.out.size e))⟩)
      have HN2 := Lib.hid (show ¬ M2 p ∧ ¬ M2 (p + 1) ∧ ¬ M2 c from ⟨fun e => (k3 _ e).elim HN.out.1 (fun e => by have := HLT.out.1; omega), fun e => (k3 _ e).elim HN.out.2.1 (fun e => by have := HLT.out.2.1; omega), fun e => (k3 _ e).elim HN.out.2.2 (fun e => by have := HLT.out.2.2; omega)⟩)
      have HF1 := Lib.hid k1
      clear k1 k2 k3 k4 d1 HK HN HLT HD0 HD1 HD2 H2 H3
      by_cases e0 : r1.1 = 0
      · rw [e0]
        have HH : Hid (MkR w V1 A q T p (p + 1) c id nm M R s an 3) := Lib.hid ⟨M2, R2, r1.2, HF1.out, HC.out, HM.out.1, HM.out.2, by have := H5.out; exact this, by have := H6.out; omega, by rw [H7.out, if_pos e0], d0, HD1'.out, d2, HN2.out.1, HN2.out.2.1, HN2.out.2.2⟩
        clear d0 d2 e0
        go_wp2_with fail
        exact ⟨⟨3, rfl, by omega, HH⟩, by simp [RowKit.intOf]⟩
      · have HE := Lib.hid (show an = (r1.1, (stepF r1.2 (removeK nm)).2) by rw [H7.out, if_neg e0])
        have E0 := Lib.hid e0
        have i0 : ¬ (r1.1 : Int) = 0 := by omega
        obtain ⟨cd, hcd⟩ : ∃ cd, cd = r1.1 := ⟨_, rfl⟩
        rw [← hcd] at i0 ⊢
        have HCD := Lib.hid hcd
        clear e0 hcd
        have hq1 := HQ.out
        have h56 := H6.out
        have HRm := Lib.hid (kremove Hsz.out HF1.out H5.out (by omega) (by omega) (by omega))
        clear hq1 h56
        go_wp2_with fail
        refine HRm.out.mono ?_
        rintro e V2 ⟨rfl, hm⟩
        have HM2 := Lib.hid (hm.after HC.out HM.out.1 HM.out.2)
        clear hm d0 d2 HRm
        generalize ((stepF r1.2 (removeK nm)).1 : Int) = rc at *
        go_wp2_with fail
        go_ret2
        exact .inr ⟨by rw [HE.out]; exact E0.out, by rw [HE.out, HCD.out]; rfl, by rw [HE.out]; exact HM2.out⟩
    · obtain ⟨M', R', t, h1, h2, h3, h4, h5, h6, h7, d0, d1, d2, n0, n1, n2⟩ := hh.out
      have hix : ∀ w : World, (Instr.index 115 (.agg #[.func (.func 67) #[] #[.pointer (some ⟨p, 0, none⟩), .pointer (some ⟨c, 0, none⟩)], .func (.func 69) #[] #[.pointer (some ⟨p + 1, 0, none⟩), .pointer (some ⟨p, 0, none⟩), .pointer (some ⟨c, 0, none⟩)], .func (.func 71) #[] #[.pointer (some ⟨p, 0, none⟩), .pointer (some ⟨c, 0, none⟩)], .func (.func 72) #[] #[.pointer (some ⟨p, 0, none⟩)]]) (.int .i64 3)).run Tryz.prog w = .ok (.func (.func 72) #[] #[.pointer (some ⟨p, 0, none⟩)]) w := fun _ => by kernel_rfl
      have hq1 := HQ.out
      have HK := Lib.hid (mk4 h1 h5 (by omega) (by omega) (by omega) d0)
      have hin := finv_mk h5 (by omega) nm id 3
      have hst1 := stepF_steps t (mkK nm id 3) (mkK_steps nm id 3)
      have hmk : mkK nm id 3 = syncDirK := rfl
      rw [← hmk] at HK
      have h7 : an = (if (stepF t (mkK nm id 3)).1 = 0 then runM nm id 4 0 (stepF t (mkK nm id 3)).2 else ((stepF t (mkK nm id 3)).1, (stepF (stepF t (mkK nm id 3)).2 (removeK nm)).2)) := h7
      obtain ⟨r1, hr1⟩ : ∃ r1, r1 = stepF t (mkK nm id 3) := ⟨_, rfl⟩
      rw [← hr1] at HK hin hst1 h7
      have H2 := Lib.hid h2
      have H3 := Lib.hid (And.intro h3 h4)
      have H5 := Lib.hid hin
      have H6 := Lib.hid (And.intro h6 hst1)
      have H7 := Lib.hid h7
      have HN := Lib.hid (And.intro n0 (And.intro n1 n2))
      have HD1 := Lib.hid d1
      have hlt : p < V.heap.size ∧ p + 1 < V.heap.size ∧ c < V.heap.size := ⟨fblock_of_cell d0, fblock_of_cell d1, fblock_of_cell d2⟩
      have HLT := Lib.hid hlt
      have HD0 := Lib.hid d0
      have HD2 := Lib.hid d2
      clear hh h1 h2 h3 h4 h5 h6 h7 hin hst1 hmk hr1 n0 n1 n2 d1 d0 d2 hlt hq1
      go_wp2_with fail
      refine HK.out.mono ?_
      rintro e V1 ⟨rfl, hm⟩
      obtain ⟨M2, R2, k1, k2, k3, k4⟩ := hm
      have d0 := (k2.cell (p := ⟨p, 0, none⟩) HLT.out.1 HN.out.1).trans HD0.out
      have d1 := (k2.cell (p := ⟨p + 1, 0, none⟩) HLT.out.2.1 HN.out.2.1).trans HD1.out
      have d2 := (k2.cell (p := ⟨c, 0, none⟩) HLT.out.2.2 HN.out.2.2).trans HD2.out
      have HD1' := Lib.hid d1
      have HC := Lib.hid (H2.out.trans k2 H3.out.1)
      have HM := Lib.hid (show (∀ j, M2 j → M j ∨ w.heap.size ≤ j) ∧ (∀ j, R2 j → R j ∨ w.heap.size ≤ j) from ⟨fun j hj => (k3 j hj).elim (H3.out.1 j) (fun e => .inr (Nat.le_trans H2.out.size e)), fun j hj => (k4 j hj).elim (H3.out.2 j) (fun e => .inr (Nat.le_trans H2.out.size e))⟩)
      have HN2 := Lib.hid (show ¬ M2 p ∧ ¬ M2 (p + 1) ∧ ¬ M2 c from ⟨fun e => (k3 _ e).elim HN.out.1 (fun e => by have := HLT.out.1; omega), fun e => (k3 _ e).elim HN.out.2.1 (fun e => by have := HLT.out.2.1; omega), fun e => (k3 _ e).elim HN.out.2.2 (fun e => by have := HLT.out.2.2; omega)⟩)
      have HF1 := Lib.hid k1
      clear k1 k2 k3 k4 d1 HK HN HLT HD0 HD1 HD2 H2 H3
      by_cases e0 : r1.1 = 0
      · rw [e0]
        have HH : Hid (MkR w V1 A q T p (p + 1) c id nm M R s an 4) := Lib.hid ⟨M2, R2, r1.2, HF1.out, HC.out, HM.out.1, HM.out.2, by have := H5.out; exact this, by have := H6.out; omega, by rw [H7.out, if_pos e0], d0, HD1'.out, d2, HN2.out.1, HN2.out.2.1, HN2.out.2.2⟩
        clear d0 d2 e0
        go_wp2_with fail
        exact ⟨⟨4, rfl, by omega, HH⟩, by simp [RowKit.intOf]⟩
      · have HE := Lib.hid (show an = (r1.1, (stepF r1.2 (removeK nm)).2) by rw [H7.out, if_neg e0])
        have E0 := Lib.hid e0
        have i0 : ¬ (r1.1 : Int) = 0 := by omega
        obtain ⟨cd, hcd⟩ : ∃ cd, cd = r1.1 := ⟨_, rfl⟩
        rw [← hcd] at i0 ⊢
        have HCD := Lib.hid hcd
        clear e0 hcd
        have hq1 := HQ.out
        have h56 := H6.out
        have HRm := Lib.hid (kremove Hsz.out HF1.out H5.out (by omega) (by omega) (by omega))
        clear hq1 h56
        go_wp2_with fail
        refine HRm.out.mono ?_
        rintro e V2 ⟨rfl, hm⟩
        have HM2 := Lib.hid (hm.after HC.out HM.out.1 HM.out.2)
        clear hm d0 d2 HRm
        generalize ((stepF r1.2 (removeK nm)).1 : Int) = rc at *
        go_wp2_with fail
        go_ret2
        exact .inr ⟨by rw [HE.out]; exact E0.out, by rw [HE.out, HCD.out]; rfl, by rw [HE.out]; exact HM2.out⟩
    · obtain ⟨M', R', t, h1, h2, h3, h4, h5, h6, h7, d0, d1, d2, n0, n1, n2⟩ := hh.out
      have h7 : an = (0, t) := h7
      have HA := Lib.hid h7
      have hc := SegC.new V A ⟨id, 16, 0, 0, 0, 0⟩ 88
      have hb9 : Below V.heap.size V (V.alloc (.cells #[.pointer (some ⟨A, 0, none⟩), .int .u32 (id : Int), .int .u32 ((16 : Nat) : Int), .int .u32 ((0 : Nat) : Int), .int .u64 ((0 : Nat) : Int), .int .u64 ((0 : Nat) : Int), .int .u64 ((0 : Nat) : Int)] 88)) := (Below.refl _ _).alloc (Nat.le_refl _) _
      have HS : Hid (SegMut w (V.alloc (.cells #[.pointer (some ⟨A, 0, none⟩), .int .u32 (id : Int), .int .u32 ((16 : Nat) : Int), .int .u32 ((0 : Nat) : Int), .int .u64 ((0 : Nat) : Int), .int .u64 ((0 : Nat) : Int), .int .u64 ((0 : Nat) : Int)] 88)) V.heap.size A M R t ⟨id, 16, 0, 0, 0, 0⟩) :=
        Lib.hid ⟨M', R', h1.on hb9, (h2.trans (Chg.of_below (M := M') hb9) h3).mono (fun _ => .inl), h3, h4, hc, (fun e => by have := h1.ml _ e; omega), (fun e => by have := h1.rl _ e; omega)⟩
      have HG := Lib.hid (show w.heap.size ≤ V.heap.size from h2.size)
      clear h1 h2 h3 h4 h5 h6 h7 n0 n1 n2 hc hb9 hh d2
      go_wp2_with fail
      go_ret2
      exact .inl ⟨by rw [HA.out], V.heap.size, rfl, HG.out, by rw [HA.out]; exact HS.out⟩
end
end Go.Proofs.YtaicibmaogiibaaGreatDoor.Sg

/- SgLaid -/

/-
  Layer 11: what the program's text lays for the listed variables (the tables, strconv's errors), as the walks want it.
-/
set_option linter.unusedVariables false
set_option linter.unusedSimpArgs false
namespace Go.Proofs.YtaicibmaogiibaaGreatDoor.Sg
open Go.ChangeShapes Go.WideShapes Go.ChangeAt Go.WideMaps Go.WideElems Go.RowKit

def laid1 : List (String × DataW Unit) := [("hourbook/crc.steps", Rows.laid_hourbook_crc_steps), ("math/bits.deBruijn32tab", Rows.laid_math_bits_deBruijn32tab), ("math/bits.deBruijn64tab", Rows.laid_math_bits_deBruijn64tab), ("internal/strconv.uint64pow10", Rows.laid_internal_strconv_uint64pow10), ("strconv.ErrRange", Rows.laid_strconv_ErrRange), ("strconv.ErrSyntax", Rows.laid_strconv_ErrSyntax), ("hourbook/record.widths", Rows.laid_hourbook_record_widths)]
theorem gSteps : Tryz.prog.globalNamed "hourbook/crc.steps" = some 4 := by kernel_rfl
theorem tSteps : (Tryz.prog.globals[4]?).map (·.type) = some 233 := by kernel_rfl
theorem gWidths : Tryz.prog.globalNamed "hourbook/record.widths" = some 0 := by kernel_rfl
theorem tWidths : (Tryz.prog.globals[0]?).map (·.type) = some 180 := by kernel_rfl
theorem gBru : Tryz.prog.globalNamed "math/bits.deBruijn64tab" = some 7 := by kernel_rfl
theorem tBru : (Tryz.prog.globals[7]?).map (·.type) = some 260 := by kernel_rfl
theorem gSyn : Tryz.prog.globalNamed "strconv.ErrSyntax" = some 2 := by kernel_rfl
theorem tSyn : (Tryz.prog.globals[2]?).map (·.type) = some 127 := by kernel_rfl
theorem gRng : Tryz.prog.globalNamed "strconv.ErrRange" = some 3 := by kernel_rfl
theorem tRng : (Tryz.prog.globals[3]?).map (·.type) = some 127 := by kernel_rfl
theorem starE : "*" ++ "errors.errorString" = "*errors.errorString" := by decide
theorem rowErr (u : TypeId) (h : Tryz.prog.typeName? 3 u = some "*errors.errorString") : u = 246 :=
  typeName_ptr_named (nm := "errors.errorString") (by rw [starE]; kernel_rfl) (by kernel_rfl) (by decide) u (by rw [starE]; exact h)
set_option maxRecDepth 100000 in
/-- The door's own heap meets the condition. -/
theorem door_met (os : Os) (args : Array Value) : laidMetH Tryz.prog laid1 ((World.doorLaid Tryz.prog 72 os).forCall (fun _ _ => 0) ⟨#[], args, []⟩).memory :=
  laidMetH_of_parts3 (fuel := 8) (laidMet_of_run' 8 (by kernel_rfl) (by kernel_rfl)) (by kernel_rfl) (by kernel_rfl)
/-- the listed tables -/
def tabZ : List Int := (List.range 16).map fun i => ((Cx.tab i).toNat : Int)
theorem laid_tabZ : Rows.laid_hourbook_crc_steps (H := Unit) = Lib.tabData .u32 tabZ := by
  have : tabZ = [0, 274646895, 549293790, 820201905, 1098587580, 1361435347, 1640403810, 1905808397, 2197175160, 2460548119, 2722870694, 2987750089, 3280807620, 3553878443, 3811616794, 4084100981] := by decide +kernel
  rw [this]
  rfl
theorem laid_wid : Rows.laid_hourbook_record_widths (H := Unit) = Lib.tabData .i64 [1, 1, 2, 6, 3, 4] := rfl
def bruZ : List Int := [0, 1, 56, 2, 57, 49, 28, 3, 61, 58, 42, 50, 38, 29, 17, 4, 62, 47, 59, 36, 45, 43, 51, 22, 53, 39, 33, 30, 24, 18, 12, 5, 63, 55, 48, 27, 60, 41, 37, 16, 46, 35, 44, 21, 52, 32, 23, 11, 54, 26, 40, 15, 34, 20, 31, 10, 25, 14, 19, 9, 13, 8, 7, 6]
theorem laid_bru : Rows.laid_math_bits_deBruijn64tab (H := Unit) = Lib.tabData .u8 bruZ := rfl
theorem tab_cell {P : Program} {W : World} {name : String} {k : IntKind} {zs : List Int} {g : Nat} (hg : P.globalNamed name = some g) (h : Lib.TabIs P W name k zs) (i : Nat) (z : Int) (hz : zs[i]? = some z) : W.cell? ⟨g, i, none⟩ = some (.int k z) := by
  have hv := World.var?_cell hg h i
  rw [hv]
  simp [hz]
/-- WHAT THE CONDITION GIVES THE WALKS -/
theorem tab_of_laid {W : World} (h : laidMetH Tryz.prog laid1 W) : Ctx W.heap.size W := by
  rw [MakeChecks.laidMetH_plain _ _ _ (by kernel_rfl)] at h
  unfold laid1 at h
  rw [laid_tabZ, laid_wid, laid_bru] at h
  have h1 := Lib.tabIs_of_head gSteps tSteps Tryz.underlying233 Tryz.underlying23 (by kernel_rfl) (by kernel_rfl) h
  have h3 := laidMet.tail (laidMet.tail h)
  have h4 := Lib.tabIs_of_head gBru tBru Tryz.underlying260 Tryz.underlying5 (by kernel_rfl) (by kernel_rfl) h3
  have h5 := laidMet.tail (laidMet.tail h3)
  obtain ⟨a0, s0, hv0, _, _, _⟩ := laid_sentinel h5 gRng tRng Tryz.underlying127 rowErr Tryz.underlying246 Tryz.underlying248 rfl rfl Tryz.underlying9 (by kernel_rfl) (by kernel_rfl)
  have h6 := laidMet.tail h5
  obtain ⟨a1, s1, hv1, _, _, _⟩ := laid_sentinel h6 gSyn tSyn Tryz.underlying127 rowErr Tryz.underlying246 Tryz.underlying248 rfl rfl Tryz.underlying9 (by kernel_rfl) (by kernel_rfl)
  have h2 := Lib.tabIs_of_head gWidths tWidths Tryz.underlying180 Tryz.underlying3 (by kernel_rfl) (by kernel_rfl) (laidMet.tail h6)
  have e1 : W.cell? ⟨2, 0, none⟩ = some (.iface 246 (.pointer (some a1))) := (World.var?_cell gSyn hv1 0).trans rfl
  have e0 : W.cell? ⟨3, 0, none⟩ = some (.iface 246 (.pointer (some a0))) := (World.var?_cell gRng hv0 0).trans rfl
  exact Ctx.of ⟨fun i hi => tab_cell gSteps h1 i _ (by simp [tabZ, hi]), tab_cell gWidths h2 0 _ rfl, tab_cell gWidths h2 1 _ rfl, tab_cell gWidths h2 2 _ rfl, tab_cell gWidths h2 3 _ rfl, tab_cell gWidths h2 4 _ rfl, tab_cell gWidths h2 5 _ rfl⟩ ⟨⟨⟨_, _, e1⟩, ⟨_, _, e0⟩⟩, tab_cell gBru h4 15 _ rfl⟩
end Go.Proofs.YtaicibmaogiibaaGreatDoor.Sg

/- SgDo -/

/-
  Layer 11: Sync.
-/
set_option linter.unusedVariables false
set_option linter.unusedSimpArgs false
namespace Go.Proofs.YtaicibmaogiibaaGreatDoor.Sg
open Go Go.RowKit

/-- a segment on its file system -/
def SegIn (w : World) (G A : Nat) (M R : Nat → Prop) (s : FsP) (x : S) : Prop := FsM w A s.used M R s ∧ SegC w G A x ∧ ¬ M G ∧ ¬ R G
theorem SegMut.of {w w' w'' : World} {G A : Nat} {M R : Nat → Prop} {s : FsP} {x y : S} (hb : Chg M w w') (hm : FsMut w' w'' A s.used M R s) (hc : SegC w'' G A y) (hl : G < w'.heap.size) (h1 : ¬ M G) (h2 : ¬ R G) : SegMut w w'' G A M R s y := by
  obtain ⟨M', R', k1, k2, k3, k4⟩ := hm
  refine ⟨M', R', k1, (hb.trans k2 (fun _ => .inl)).mono (fun _ => .inl), fun j hj => (k3 j hj).imp id (fun e => Nat.le_trans hb.size e), fun j hj => (k4 j hj).imp id (fun e => Nat.le_trans hb.size e), hc, fun e => ?_, fun e => ?_⟩
  · exact (k3 _ e).elim h1 (fun e => by omega)
  · exact (k4 _ e).elim h2 (fun e => by omega)
theorem SegMut.set {w w' w'' : World} {G A : Nat} {M R : Nat → Prop} {s : FsP} {x y : S} (h : SegMut w w' G A M R s x) (hg : Chg (fun i => i = G) w' w'') (hc : SegC w'' G A y) : SegMut w w'' G A M R s y := by
  obtain ⟨M', R', k1, k2, k3, k4, k5, k6, k7⟩ := h
  exact ⟨M', R', k1.chg hg (fun i e => by subst e; exact ⟨k6, k7⟩), k2.trans hg (fun i e => .inl (.inr e)), k3, k4, hc, k6, k7⟩
section
variable {w : World} {G A q T B : Nat} {M R : Nat → Prop} {s : FsP} {x : S}
end
end Go.Proofs.YtaicibmaogiibaaGreatDoor.Sg

/- SgApp -/

/-
  Layer 11: Append.
-/
set_option linter.unusedVariables false
set_option linter.unusedSimpArgs false
namespace Go.Proofs.YtaicibmaogiibaaGreatDoor.Sg
open Go Go.RowKit

/-- what Append does: its code, the loc, the file system, the segment -/
def appG (s : FsP) (x : S) (r : Rc.Rec) : Nat × (Nat × Nat) × FsP × S :=
  if Rc.mayB r = false ∨ r.seq ≤ (x.last : Int) then (1, (0, 0), s, x)
  else if 16777216 < x.size + Rc.sizeN r then (7, (0, 0), s, x)
  else if (stepF s (appendK (nameB x.id) (Rc.runL r))).1 = 0 then (0, (x.id, x.size), (stepF s (appendK (nameB x.id) (Rc.runL r))).2, x.more r.seq.toNat (Rc.sizeN r))
  else ((stepF s (appendK (nameB x.id) (Rc.runL r))).1, (0, 0), (stepF s (appendK (nameB x.id) (Rc.runL r))).2, x)
def locV (l : Nat × Nat) : Value := .agg #[.int .u32 (l.1 : Int), .int .u32 (l.2 : Int)]
theorem SegMut.refl {w w' : World} {G A : Nat} {M R : Nat → Prop} {s : FsP} {x : S} (h : SegIn w G A M R s x) (hb : Below w.heap.size w w') : SegMut w w' G A M R s x :=
  ⟨M, R, h.1.on hb, (Chg.of_below hb).mono (fun _ => .inl), fun _ => .inl, fun _ => .inl, h.2.1.on hb, h.2.2.1, h.2.2.2⟩
theorem SegMut.of_box {w w' w'' w3 : World} {G A : Nat} {M R N : Nat → Prop} {s : FsP} {y : S} (hb : Chg M w w') (hm : FsMut w' w'' A s.used M R s) (hg : Chg N w'' w3) (hN : ∀ i, N i → (i = G ∨ w.heap.size ≤ i) ∧ i < w'.heap.size ∧ ¬ M i ∧ ¬ R i) (hc : SegC w3 G A y) (hl : G < w'.heap.size) (h1 : ¬ M G) (h2 : ¬ R G) : SegMut w w3 G A M R s y := by
  obtain ⟨M', R', k1, k2, k3, k4⟩ := hm
  refine ⟨M', R', k1.chg hg (fun i hi => ⟨fun e => (k3 _ e).elim (hN i hi).2.2.1 (fun e => by have := (hN i hi).2.1; omega), fun e => (k4 _ e).elim (hN i hi).2.2.2 (fun e => by have := (hN i hi).2.1; omega)⟩), ?_, fun j hj => (k3 j hj).imp id (fun e => Nat.le_trans hb.size e), fun j hj => (k4 j hj).imp id (fun e => Nat.le_trans hb.size e), hc, fun e => ?_, fun e => ?_⟩
  · exact ((hb.trans k2 (fun _ => .inl)).mono (fun _ => .inl)).trans hg (fun i hi => (hN i hi).1.elim (fun e => .inl (.inr e)) .inr)
  · exact (k3 _ e).elim h1 (fun e => by omega)
  · exact (k4 _ e).elim h2 (fun e => by omega)
theorem get2 {W : World} {l : Nat} {u0 u1 : Value} (h0 : W.cell? ⟨l, 0, none⟩ = some u0) (h1 : W.cell? ⟨l, 1, none⟩ = some u1) (n : Nat) (a c : Value) :
    (((W.drewN n).setCell ⟨l, 0, none⟩ a).setCell ⟨l, 1, none⟩ c).cell? ⟨l, 0, none⟩ = some a ∧ (((W.drewN n).setCell ⟨l, 0, none⟩ a).setCell ⟨l, 1, none⟩ c).cell? ⟨l, 1, none⟩ = some c := by
  have e0 : (W.drewN n).cell? ⟨l, 0, none⟩ = some u0 := h0
  have e1 : (W.drewN n).cell? ⟨l, 1, none⟩ = some u1 := h1
  refine ⟨?_, ?_⟩
  · rw [World.cell?_setCell_other _ _ _ _ (by intro e; injection e with e1 e2; omega)]
    exact World.cell?_setCell_same _ _ _ e0
  · have e2 : ((W.drewN n).setCell ⟨l, 0, none⟩ a).cell? ⟨l, 1, none⟩ = some u1 := by
      rw [World.cell?_setCell_other _ _ _ _ (by intro e; injection e with e1 e2; omega)]
      exact e1
    exact World.cell?_setCell_same _ _ _ e2
theorem get2n {W : World} {l : Nat} {u0 u1 : Value} (h0 : W.cell? ⟨l, 0, none⟩ = some u0) (h1 : W.cell? ⟨l, 1, none⟩ = some u1) (a c : Value) :
    ((W.setCell ⟨l, 0, none⟩ a).setCell ⟨l, 1, none⟩ c).cell? ⟨l, 0, none⟩ = some a ∧ ((W.setCell ⟨l, 0, none⟩ a).setCell ⟨l, 1, none⟩ c).cell? ⟨l, 1, none⟩ = some c := by
  refine ⟨?_, ?_⟩
  · rw [World.cell?_setCell_other _ _ _ _ (by intro e; injection e with e1 e2; omega)]
    exact World.cell?_setCell_same _ _ _ h0
  · have e2 : (W.setCell ⟨l, 0, none⟩ a).cell? ⟨l, 1, none⟩ = some u1 := by
      rw [World.cell?_setCell_other _ _ _ _ (by intro e; injection e with e1 e2; omega)]
      exact h1
    exact World.cell?_setCell_same _ _ _ e2
theorem fin2 {w W1 : World} {B0 l : Nat} (h : Below B0 w W1) (n : Nat) (hl : B0 ≤ l) (a c : Value) : Below B0 w (((W1.drewN n).setCell ⟨l, 0, none⟩ a).setCell ⟨l, 1, none⟩ c) :=
  (Below.setCell (Below.setCell (p := ⟨l, 0, none⟩) (fbdrewN h n) hl a) (p := ⟨l, 1, none⟩) hl c)
section
variable {w : World} {G A q T B Br : Nat} {M R : Nat → Prop} {s : FsP} {x : S} {r : Rc.Rec} {v : Value}
set_option maxRecDepth 100000 in
set_option maxHeartbeats 16000000 in
theorem sappend (h : SegIn w G A M R s x) (hx : Ctx B w) (hB : B ≤ w.heap.size) (hMB : ∀ i, M i → B ≤ i) (hxf : x.Fit) (hmany : x.many < 1000000) (hv : RecV w Br v r) (hBr : Br ≤ w.heap.size) (hr : Rc.Fit r) (hf : FInv s q T) (hT : T ≤ 100000) (hst : s.steps + 1 ≤ 1000000) :
    Calls Tryz.prog 19 #[.pointer (some ⟨G, 0, none⟩), v] w fun e w' => e = .returned (.tuple #[locV (appG s x r).2.1, .int .i64 ((appG s x r).1 : Int)]) ∧ SegMut w w' G A M R (appG s x r).2.2.1 (appG s x r).2.2.2 := by
  have hm := h.1
  have hc := h.2.1
  have hG1 := h.2.2.1
  have hG2 := h.2.2.2
  obtain ⟨nm, hnm⟩ : ∃ nm, nm = nameB x.id := ⟨_, rfl⟩
  have hsz : nm.size ≤ maxLen := by rw [hnm]; have := nameB_size x.id; unfold maxLen; omega
  obtain ⟨R1, hR1⟩ : ∃ R1, R1 = appG s x r := ⟨_, rfl⟩
  rw [← hR1]
  obtain ⟨kv, vv, rfl, hk1, hk2⟩ := hv.mono hBr
  obtain ⟨W, hW⟩ : ∃ W, W = (w.alloc (.cells #[.int .u64 r.seq, .int .i64 r.kind, kv, vv, .int .u32 r.seg, .int .u32 r.off] 51)).alloc (.cells #[.int .u32 0, .int .u32 0] 49) := ⟨_, rfl⟩
  have hb : Below w.heap.size w W := by rw [hW]; exact ((Below.refl _ _).alloc (Nat.le_refl _) _).alloc (by simp) _
  have hWs : W.heap.size = w.heap.size + 2 := by rw [hW]; simp
  have hi1 : W.heap[w.heap.size]? = some (.cells #[.int .u64 r.seq, .int .i64 r.kind, kv, vv, .int .u32 r.seg, .int .u32 r.off] 51 (0, 0)) := by rw [hW]; exact ((((Below.refl _ _).alloc (Nat.le_refl _) _ : Below (w.alloc (.cells #[.int .u64 r.seq, .int .i64 r.kind, kv, vv, .int .u32 r.seg, .int .u32 r.off] 51)).heap.size _ _)).block w.heap.size (by simp)).trans (heap_alloc_new w _)
  have hi2 : W.heap[w.heap.size + 1]? = some (.cells #[.int .u32 0, .int .u32 0] 49 (0, 0)) := by rw [hW]; have := heap_alloc_new (w.alloc (.cells #[.int .u64 r.seq, .int .i64 r.kind, kv, vv, .int .u32 r.seg, .int .u32 r.off] 51)) (.cells #[.int .u32 0, .int .u32 0] 49); rw [World.size_alloc] at this; exact this
  have hRV : RecV W w.heap.size (recV r.seq r.kind kv vv r.seg r.off) r := (show RecV w w.heap.size _ r from ⟨_, _, rfl, hk1, hk2⟩).below hb (Nat.le_refl _)
  have HMD := Lib.hid (smade (hc.on hb))
  have hxW := hx.below (hb.mono hB)
  have HX0 := Lib.hid hx
  have HX := Lib.hid (And.intro hxW (And.intro hB hMB))
  obtain ⟨bx, hbx⟩ : ∃ bx, bx = w.heap.size := ⟨_, rfl⟩
  have HBX := Lib.hid hbx
  rw [← hbx] at hi1 hi2 hRV
  have HR0 : Hid (R1 = appG s x r) := Lib.hid hR1
  have HV := Lib.hid hRV
  have HW := Lib.hid (And.intro hi1 hi2)
  have HB := Lib.hid hb
  have HH := Lib.hid h
  have HF := Lib.hid hf
  have HQ := Lib.hid (And.intro hT (And.intro hst (And.intro hxf hmany)))
  have HNM := Lib.hid (And.intro hnm hsz)
  have HWS := Lib.hid hWs
  have Hr := Lib.hid hr
  have hbl : bx ≤ W.heap.size := by omega
  obtain ⟨c0, c1, c2, c3, c4, c5⟩ := box6h hi1
  clear hR1 hRV hi1 hi2 hb h hf hT hst hxf hmany hnm hsz hWs hm hc hG1 hG2 hk1 hk2 hB hMB hx hxW hr
  unfold recV at HV ⊢
  cases hmay : Rc.mayB r
  case false =>
    have HP := Lib.hid (rput_no _ r bx W HV.out hbl Hr.out hmay)
    have HE := Lib.hid (show R1 = (1, (0, 0), s, x) by rw [HR0.out]; unfold appG; rw [if_pos (.inl hmay)])
    clear hmay
    unfold recV at HP
    go_enter Tryz.func19, Tryz.ntmps19
    go_wp2_with fail
    rw [← hW, ← hbx]
    clear hW hbx
    refine HMD.out.mono ?_
    rintro e w1 ⟨rfl, rfl⟩
    go_wp2_with fail
    refine HP.out.mono ?_
    rintro e W1 ⟨rfl, hb1⟩
    have hl1 := (hb1.block (bx + 1) (by rw [HWS.out, HBX.out]; omega)).trans HW.out.2
    have l0 : W1.cell? ⟨bx + 1, 0, none⟩ = some (.int .u32 0) := cell_of_row W1 (bx + 1) 0 _ _ _ hl1
    have l1 : W1.cell? ⟨bx + 1, 1, none⟩ = some (.int .u32 0) := cell_of_row W1 (bx + 1) 1 _ _ _ hl1
    have m0 : W1.frozen? ⟨bx + 1, 0, none⟩ = false := by simp [World.frozen?, hl1]
    have m1 : W1.frozen? ⟨bx + 1, 1, none⟩ = false := by simp [World.frozen?, hl1]
    have HL := Lib.hid hl1
    have HB2 := Lib.hid (HB.out.trans (hb1.mono HB.out.size))
    clear hb1 hl1 c0 c1 c2 c3 c4 c5
    go_wp2_with fail
    go_quiet (fail)
    go_wp2_with fail
    exact bodyPost_ret (v := .tuple #[locV (0, 0), .int .i64 1]) (by simp [results, Tryz.results19, go_sem, locV, (get2 l0 l1 nq (.int .u32 0) (.int .u32 0)).1, (get2 l0 l1 nq (.int .u32 0) (.int .u32 0)).2]) rfl ⟨by rw [HE.out]; rfl, by rw [HE.out]; exact SegMut.refl HH.out (fin2 HB2.out nq (by rw [HBX.out]; omega) _ _)⟩
  case true =>
    have HP := Lib.hid (rput_ok _ r bx W HV.out hbl hmay HX.out.1.tab)
    have HMy := Lib.hid hmay
    have hsq : r.seq = ((r.seq.toNat : Nat) : Int) := by have := Hr.out.seq0; omega
    obtain ⟨sq, hsqd⟩ : ∃ sq, sq = r.seq.toNat := ⟨_, rfl⟩
    rw [← hsqd] at hsq
    have hsq2 : sq < 18446744073709551616 := by have := Hr.out.seq1; omega
    obtain ⟨L, hL⟩ : ∃ L, L = Rc.sizeN r := ⟨_, rfl⟩
    have hLb := Rc.may_size hmay
    rw [← hL] at HP hLb
    have HLd := Lib.hid hL
    have HSQ := Lib.hid hsqd
    have HSQ2 := Lib.hid hsq
    clear hmay hL hsqd
    rw [hsq] at HP
    rw [hsq] at c0 hW ⊢
    rw [hsq] at HW
    clear hsq
    by_cases hlast : sq ≤ x.last
    · have HE := Lib.hid (show R1 = (1, (0, 0), s, x) by rw [HR0.out]; unfold appG; rw [if_pos (.inr (by rw [HSQ2.out]; omega))])
      have i1 : (sq : Int) ≤ (x.last : Int) := by omega
      go_enter Tryz.func19, Tryz.ntmps19
      go_wp2_with fail
      rw [← hW, ← hbx]
      clear hW hbx
      refine HMD.out.mono ?_
      rintro e w1 ⟨rfl, rfl⟩
      go_wp2_with fail
      refine HP.out.mono ?_
      rintro e W1 ⟨v1, rfl, hv1, hb1⟩
      have hl1 := (hb1.block (bx + 1) (by rw [HWS.out, HBX.out]; omega)).trans HW.out.2
      have hx1 := (hb1.block bx (by rw [HWS.out, HBX.out]; omega)).trans HW.out.1
      have HB2 := Lib.hid (HB.out.trans (hb1.mono HB.out.size))
      have HC1 := Lib.hid (HH.out.2.1.on HB2.out)
      have a5 := HC1.out.c5
      have a2 := HC1.out.c2
      have d0 := (box6h hx1).1
      have l0 : W1.cell? ⟨bx + 1, 0, none⟩ = some (.int .u32 0) := cell_of_row W1 (bx + 1) 0 _ _ _ hl1
      have l1 : W1.cell? ⟨bx + 1, 1, none⟩ = some (.int .u32 0) := cell_of_row W1 (bx + 1) 1 _ _ _ hl1
      have m0 : W1.frozen? ⟨bx + 1, 0, none⟩ = false := by simp [World.frozen?, hl1]
      have m1 : W1.frozen? ⟨bx + 1, 1, none⟩ = false := by simp [World.frozen?, hl1]
      have HL := Lib.hid (And.intro hl1 hx1)
      have HV1 := Lib.hid hv1
      have HB1 := Lib.hid hb1
      obtain ⟨Av, cv, rfl, q1, q2, _⟩ := own_slice hv1
      clear hb1 hl1 hx1 hv1 c0 c1 c2 c3 c4 c5
      go_wp2_with fail
      go_quiet (fail)
      go_wp2_with fail
      exact bodyPost_ret (v := .tuple #[locV (0, 0), .int .i64 1]) (by simp [results, Tryz.results19, go_sem, locV, (get2 l0 l1 nq (.int .u32 0) (.int .u32 0)).1, (get2 l0 l1 nq (.int .u32 0) (.int .u32 0)).2]) rfl ⟨by rw [HE.out]; rfl, by rw [HE.out]; exact SegMut.refl HH.out (fin2 HB2.out nq (by rw [HBX.out]; omega) _ _)⟩
    · have HNL : Hid (¬ (Rc.mayB r = false ∨ r.seq ≤ (x.last : Int))) := Lib.hid (fun e => e.elim (fun e => by rw [HMy.out] at e; cases e) (fun e => by rw [HSQ2.out] at e; omega))
      have i1 : ¬ (sq : Int) ≤ (x.last : Int) := by omega
      have hfit := HQ.out.2.2.1
      have hz1 := hfit.size
      have hz2 := hfit.id
      have hadd : IntKind.i64.wrap ((x.size : Int) + (L : Int)) = ((x.size + L : Nat) : Int) := by rw [IntWalk.i64_in _ (by omega)]; push_cast; rfl
      by_cases hfull : 16777216 < x.size + L
      · have HE := Lib.hid (show R1 = (7, (0, 0), s, x) by rw [HR0.out]; unfold appG; rw [if_neg HNL.out, if_pos (by rw [← HLd.out]; exact hfull)])
        have i2 : (16777216 : Int) < ((x.size + L : Nat) : Int) := by omega
        clear hfit
        go_enter Tryz.func19, Tryz.ntmps19
        go_wp2_with fail
        rw [← hW, ← hbx]
        clear hW hbx
        refine HMD.out.mono ?_
        rintro e w1 ⟨rfl, rfl⟩
        go_wp2_with fail
        refine HP.out.mono ?_
        rintro e W1 ⟨v1, rfl, hv1, hb1⟩
        have hl1 := (hb1.block (bx + 1) (by rw [HWS.out, HBX.out]; omega)).trans HW.out.2
        have hx1 := (hb1.block bx (by rw [HWS.out, HBX.out]; omega)).trans HW.out.1
        have HB2 := Lib.hid (HB.out.trans (hb1.mono HB.out.size))
        have HC1 := Lib.hid (HH.out.2.1.on HB2.out)
        have a5 := HC1.out.c5
        have a2 := HC1.out.c2
        have d0 := (box6h hx1).1
        have l0 : W1.cell? ⟨bx + 1, 0, none⟩ = some (.int .u32 0) := cell_of_row W1 (bx + 1) 0 _ _ _ hl1
        have l1 : W1.cell? ⟨bx + 1, 1, none⟩ = some (.int .u32 0) := cell_of_row W1 (bx + 1) 1 _ _ _ hl1
        have m0 : W1.frozen? ⟨bx + 1, 0, none⟩ = false := by simp [World.frozen?, hl1]
        have m1 : W1.frozen? ⟨bx + 1, 1, none⟩ = false := by simp [World.frozen?, hl1]
        have HL := Lib.hid (And.intro hl1 hx1)
        have HV1 := Lib.hid hv1
        have HB1 := Lib.hid hb1
        obtain ⟨Av, cv, rfl, q1, q2, _⟩ := own_slice hv1
        clear hb1 hl1 hx1 hv1 c0 c1 c2 c3 c4 c5
        go_wp2_with fail
        go_quiet (fail)
        go_wp2_with fail
        exact bodyPost_ret (v := .tuple #[locV (0, 0), .int .i64 7]) (by simp [results, Tryz.results19, go_sem, locV, (get2 l0 l1 nq (.int .u32 0) (.int .u32 0)).1, (get2 l0 l1 nq (.int .u32 0) (.int .u32 0)).2]) rfl ⟨by rw [HE.out]; rfl, by rw [HE.out]; exact SegMut.refl HH.out (fin2 HB2.out nq (by rw [HBX.out]; omega) _ _)⟩
      · have HNF : Hid (¬ 16777216 < x.size + Rc.sizeN r) := Lib.hid (by rw [← HLd.out]; exact hfull)
        have i2 : ¬ (16777216 : Int) < ((x.size + L : Nat) : Int) := by omega
        obtain ⟨an, han⟩ : ∃ an, an = stepF s (appendK nm (Rc.runL r)) := ⟨_, rfl⟩
        have HRE : Hid (R1 = if an.1 = 0 then (0, (x.id, x.size), an.2, x.more sq L) else (an.1, (0, 0), an.2, x)) := Lib.hid (by rw [HR0.out]; unfold appG; rw [if_neg HNL.out, if_neg HNF.out, ← HNM.out.1, ← han, ← HSQ.out, ← HLd.out])
        have HNMc : Hid (∀ V, Below w.heap.size w V → Calls Tryz.prog 40 #[.pointer (some ⟨G, 0, none⟩)] V fun e w' => e = .returned (.string nm) ∧ Below V.heap.size V w') := Lib.hid fun V hb => by rw [HNM.out.1]; exact sname (HH.out.2.1.on hb) hz2 ((HX0.out.below (hb.mono HX.out.2.1)).std)
        have HAN := Lib.hid han
        clear hfit hfull han
        go_enter Tryz.func19, Tryz.ntmps19
        go_wp2_with fail
        rw [← hW, ← hbx]
        clear hW hbx
        refine HMD.out.mono ?_
        rintro e w1 ⟨rfl, rfl⟩
        go_wp2_with fail
        refine HP.out.mono ?_
        rintro e W1 ⟨v1, rfl, hv1, hb1⟩
        have hl1 := (hb1.block (bx + 1) (by rw [HWS.out, HBX.out]; omega)).trans HW.out.2
        have hx1 := (hb1.block bx (by rw [HWS.out, HBX.out]; omega)).trans HW.out.1
        have HB2 := Lib.hid (HB.out.trans (hb1.mono HB.out.size))
        have HC1 := Lib.hid (HH.out.2.1.on HB2.out)
        have a5 := HC1.out.c5
        have a2 := HC1.out.c2
        have d0 := (box6h hx1).1
        have l0 : W1.cell? ⟨bx + 1, 0, none⟩ = some (.int .u32 0) := cell_of_row W1 (bx + 1) 0 _ _ _ hl1
        have l1 : W1.cell? ⟨bx + 1, 1, none⟩ = some (.int .u32 0) := cell_of_row W1 (bx + 1) 1 _ _ _ hl1
        have m0 : W1.frozen? ⟨bx + 1, 0, none⟩ = false := by simp [World.frozen?, hl1]
        have m1 : W1.frozen? ⟨bx + 1, 1, none⟩ = false := by simp [World.frozen?, hl1]
        have HL := Lib.hid (And.intro hl1 hx1)
        have HV1 := Lib.hid hv1
        have HB1 := Lib.hid hb1
        obtain ⟨Av, cv, rfl, q1, q2, _⟩ := own_slice hv1
        clear hb1 hl1 hx1 hv1 c0 c1 c2 c3 c4 c5
        have a0 := HC1.out.c0
        have HBV : Hid (BsIn W1 (fun i => W.heap.size ≤ i ∧ i < W1.heap.size) (.slice Av L cv) (Rc.runL r)) := Lib.hid (own_bsin HV1.out (by rw [HLd.out, Rc.runL_length]))
        have HK : Hid (∀ V, Below W1.heap.size W1 V → Calls Tryz.prog 45 #[.pointer (some ⟨A, 0, none⟩), .string nm, .slice Av L cv] V fun e w' => e = .returned (.int .i64 (an.1 : Int)) ∧ FsMut V w' A an.2.used M R an.2) := Lib.hid fun V hb => by
          rw [HAN.out]
          exact kappend HNM.out.2 ((HH.out.1.on HB2.out).on hb) HF.out HQ.out.1 HQ.out.2.1 (HBV.out.chg (Chg.of_below (M := fun _ => False) hb) (fun i e => e.elim)) (fun i hi e => by have := HH.out.1.ml i hi; have := HB.out.size; omega) (by rw [Rc.runL_length, ← HLd.out]; omega)
        go_wp2_with fail
        go_quiet (fail)
        go_wp2_with fail
        have hHeld0 : (W1.drewN nq).cell? ⟨G, 0, none⟩ = some (.pointer (some ⟨A, 0, none⟩)) := a0
        have HBQ := Lib.hid (show Below W1.heap.size W1 (W1.drewN nq) from fbdrewN (Below.refl _ _) nq)
        generalize W1.drewN nq = W1q at *
        refine wp_region_noPanic ?_
        refine wp_region_held_drew (S := fun w' : World => w'.cell? ⟨G, 0, none⟩ = some (.pointer (some ⟨A, 0, none⟩))) (by kernel_rfl) hHeld0 (fun hHeld => ?_)
        have HB0 := Lib.hid (HBQ.out.drew)
        generalize World.drew W1q = W2 at *
        refine wpAnyH_take (i := 0) (v := ?_) opAt_0 (by kernel_rfl) (by kernel_rfl) (by kernel_rfl) (fun _ _ _ h => h) (Or.inl ⟨by rfl, ?_⟩) hHeld ?_
        rotate_left
        · (intro w' hSw; go_simp; try with_reducible rfl)
        try simp only [Act.put, List.setIfInBounds_toArray, List.set_cons_zero, List.set_cons_succ]
        refine wpAnyH_take (i := 1) (v := ?_) opAt_1 (by kernel_rfl) (by kernel_rfl) (by kernel_rfl) (fun _ _ _ h => h) (Or.inl ⟨by rfl, ?_⟩) hHeld ?_
        rotate_left
        · (intro w' hSw; go_simp; try with_reducible rfl)
        try simp only [Act.put, List.setIfInBounds_toArray, List.set_cons_zero, List.set_cons_succ]
        refine wpAnyH_take (i := 2) (v := ?_) opAt_2 (by kernel_rfl) (by kernel_rfl) (by kernel_rfl) (fun _ _ _ h => h) (Or.inl ⟨by rfl, ?_⟩) hHeld ?_
        rotate_left
        · (intro w' hSw; go_simp; try with_reducible rfl)
        try simp only [Act.put, List.setIfInBounds_toArray, List.set_cons_zero, List.set_cons_succ]
        refine wpAnyH_take (i := 3) (v := ?_) opAt_3 (by kernel_rfl) (by kernel_rfl) (by kernel_rfl) (fun _ _ _ h => h) (Or.inl ⟨by rfl, ?_⟩) hHeld ?_
        rotate_left
        · (intro w' hSw; go_simp; try with_reducible rfl)
        try simp only [Act.put, List.setIfInBounds_toArray, List.set_cons_zero, List.set_cons_succ]
        refine wpAnyH_take (i := 4) (v := ?_) opAt_4 (by kernel_rfl) (by kernel_rfl) (by kernel_rfl) (fun _ _ _ h => h) (Or.inl ⟨by rfl, ?_⟩) hHeld ?_
        rotate_left
        · (intro w' hSw; go_simp; try with_reducible rfl)
        try simp only [Act.put, List.setIfInBounds_toArray, List.set_cons_zero, List.set_cons_succ]
        refine wpAnyH_take (i := 6) (v := ?_) opAt_6 (by kernel_rfl) (by kernel_rfl) (by kernel_rfl) (fun _ _ _ h => h) (Or.inl ⟨by rfl, ?_⟩) hHeld ?_
        rotate_left
        · (intro w' hSw; go_simp; try with_reducible rfl)
        try simp only [Act.put, List.setIfInBounds_toArray, List.set_cons_zero, List.set_cons_succ]
        refine wpAnyH_ready (rs := [5]) (by kernel_rfl) (by simp) ?_
        refine AllReadyH.cons rfl (fun K hK => ?_) AllReadyH.nil
        go_simp
        refine (HNMc.out _ (HB2.out.trans (HB0.out.mono HB2.out.size))).mono ?_
        rintro e W3 ⟨rfl, hb⟩
        have HB3 := Lib.hid (HB0.out.trans (hb.mono HB0.out.size))
        have hHeld1 := (HC1.out.on HB3.out).c0
        clear hb
        go_wp2_with fail
        refine hK.out _ _ hHeld1 (fun hHeld => ?_)
        clear hK K
        try simp only [Act.put, List.setIfInBounds_toArray, List.set_cons_zero, List.set_cons_succ]
        refine wpAnyH_ready (rs := [7]) (by kernel_rfl) (by simp) ?_
        refine AllReadyH.cons rfl (fun K hK => ?_) AllReadyH.nil
        go_simp
        refine (HK.out _ HB3.out).mono ?_
        rintro e W4 ⟨rfl, hm⟩
        have HM4 := Lib.hid hm
        have hHeld1 := (cell_keep (hm.choose_spec.choose_spec.2.1) HH.out.2.2.1 (HC1.out.on HB3.out).c0)
        clear hm
        go_wp2_with fail
        refine hK.out _ _ hHeld1 (fun hHeld => ?_)
        clear hK K
        try simp only [Act.put, List.setIfInBounds_toArray, List.set_cons_zero, List.set_cons_succ]
        refine wpAnyH_take (i := 8) (v := ?_) opAt_8 (by kernel_rfl) (by kernel_rfl) (by kernel_rfl) (fun _ _ _ h => h) (Or.inl ⟨by rfl, ?_⟩) hHeld ?_
        rotate_left
        · (intro w' hSw; go_simp; try with_reducible rfl)
        try simp only [Act.put, List.setIfInBounds_toArray, List.set_cons_zero, List.set_cons_succ]
        refine wpAnyH_done (by kernel_rfl) ?_ _
        refine NoPanic.normal ?_
        have hgM := HM4.out.choose_spec.choose_spec.2.1
        have HC4 := Lib.hid ((HC1.out.on HB3.out).chg hgM HH.out.2.2.1)
        have hlG := (HC1.out.on HB3.out).lt
        have HS4 := Lib.hid (SegMut.of (x := x) (Chg.of_below (HB2.out.trans (HB3.out.mono HB2.out.size))) HM4.out HC4.out hlG HH.out.2.2.1 HH.out.2.2.2)
        have hnM : ∀ i, bx ≤ i → ¬ M i := fun i hi e => by have := HH.out.1.ml i e; rw [HBX.out] at hi; omega
        have hs3 : ∀ i, i < W1.heap.size → i < W3.heap.size := fun i hi => Nat.lt_of_lt_of_le hi HB3.out.size
        have hk1 : bx + 1 < W1.heap.size := (Array.getElem?_eq_some_iff.1 HL.out.1).1
        have hl4 := (hgM.block (bx + 1) (hs3 _ hk1) (hnM _ (by omega))).trans ((HB3.out.block (bx + 1) hk1).trans HL.out.1)
        have hx4 := (hgM.block bx (hs3 _ (by omega)) (hnM _ (Nat.le_refl _))).trans ((HB3.out.block bx (by omega)).trans HL.out.2)
        clear l0 l1 m0 m1 d0 a0 a2 a5 hHeld hHeld1 hHeld0 hgM hlG hnM hs3 hk1 q1 q2
        have l0 : W4.cell? ⟨bx + 1, 0, none⟩ = some (.int .u32 0) := cell_of_row W4 (bx + 1) 0 _ _ _ hl4
        have l1 : W4.cell? ⟨bx + 1, 1, none⟩ = some (.int .u32 0) := cell_of_row W4 (bx + 1) 1 _ _ _ hl4
        have m0 : W4.frozen? ⟨bx + 1, 0, none⟩ = false := by simp [World.frozen?, hl4]
        have m1 : W4.frozen? ⟨bx + 1, 1, none⟩ = false := by simp [World.frozen?, hl4]
        have HL4 := Lib.hid (And.intro hl4 hx4)
        clear hl4 hx4
        by_cases e0 : an.1 = 0
        · have HE := Lib.hid (show R1 = (0, (x.id, x.size), an.2, x.more sq L) by rw [HRE.out, if_pos e0])
          rw [e0]
          have a1 := HC4.out.c1
          have a2 := HC4.out.c2
          go_wp2_with fail
          refine wp_region_noPanic ?_
          refine wp_region_held_drew (S := fun w' : World => w'.cell? ⟨G, 1, none⟩ = some (.int .u32 (x.id : Int)) ∧ w'.cell? ⟨G, 2, none⟩ = some (.int .u32 (x.size : Int))) (by kernel_rfl) ⟨a1, a2⟩ (fun hHeld => ?_)
          have HB5 := Lib.hid ((Below.refl W4.heap.size W4).drew)
          generalize World.drew W4 = W5 at *
          refine wpAnyH_take (i := 0) (v := ?_) opAt_0 (by kernel_rfl) (by kernel_rfl) (by kernel_rfl) (fun _ _ _ h => h) (Or.inl ⟨by rfl, ?_⟩) hHeld ?_
          rotate_left
          · (intro w' hSw; obtain ⟨k1, k2⟩ := hSw; go_simp; try with_reducible rfl)
          try simp only [Act.put, List.setIfInBounds_toArray, List.set_cons_zero, List.set_cons_succ]
          refine wpAnyH_take (i := 1) (v := ?_) opAt_1 (by kernel_rfl) (by kernel_rfl) (by kernel_rfl) (fun _ _ _ h => h) (Or.inl ⟨by rfl, ?_⟩) hHeld ?_
          rotate_left
          · (intro w' hSw; obtain ⟨k1, k2⟩ := hSw; go_simp; try with_reducible rfl)
          try simp only [Act.put, List.setIfInBounds_toArray, List.set_cons_zero, List.set_cons_succ]
          refine wpAnyH_take (i := 2) (v := ?_) opAt_2 (by kernel_rfl) (by kernel_rfl) (by kernel_rfl) (fun _ _ _ h => h) (Or.inl ⟨by rfl, ?_⟩) hHeld ?_
          rotate_left
          · (intro w' hSw; obtain ⟨k1, k2⟩ := hSw; go_simp; try with_reducible rfl)
          try simp only [Act.put, List.setIfInBounds_toArray, List.set_cons_zero, List.set_cons_succ]
          refine wpAnyH_take (i := 3) (v := ?_) opAt_3 (by kernel_rfl) (by kernel_rfl) (by kernel_rfl) (fun _ _ _ h => h) (Or.inl ⟨by rfl, ?_⟩) hHeld ?_
          rotate_left
          · (intro w' hSw; obtain ⟨k1, k2⟩ := hSw; go_simp; try with_reducible rfl)
          try simp only [Act.put, List.setIfInBounds_toArray, List.set_cons_zero, List.set_cons_succ]
          refine wpAnyH_take (i := 4) (v := ?_) opAt_4 (by kernel_rfl) (by kernel_rfl) (by kernel_rfl) (fun _ _ _ h => h) (Or.inl ⟨by rfl, ?_⟩) hHeld ?_
          rotate_left
          · (intro w' hSw; obtain ⟨k1, k2⟩ := hSw; go_simp; try with_reducible rfl)
          try simp only [Act.put, List.setIfInBounds_toArray, List.set_cons_zero, List.set_cons_succ]
          refine wpAnyH_take (i := 5) (v := ?_) opAt_5 (by kernel_rfl) (by kernel_rfl) (by kernel_rfl) (fun _ _ _ h => h) (Or.inl ⟨by rfl, ?_⟩) hHeld ?_
          rotate_left
          · (intro w' hSw; obtain ⟨k1, k2⟩ := hSw; go_simp; try with_reducible rfl)
          try simp only [Act.put, List.setIfInBounds_toArray, List.set_cons_zero, List.set_cons_succ]
          refine wpAnyH_take (i := 6) (v := ?_) opAt_6 (by kernel_rfl) (by kernel_rfl) (by kernel_rfl) (fun _ _ _ h => h) (Or.inl ⟨by rfl, ?_⟩) hHeld ?_
          rotate_left
          · (intro w' hSw; obtain ⟨k1, k2⟩ := hSw; go_simp; try with_reducible rfl)
          try simp only [Act.put, List.setIfInBounds_toArray, List.set_cons_zero, List.set_cons_succ]
          refine wpAnyH_take (i := 7) (v := ?_) opAt_7 (by kernel_rfl) (by kernel_rfl) (by kernel_rfl) (fun _ _ _ h => h) (Or.inl ⟨by rfl, ?_⟩) hHeld ?_
          rotate_left
          · (intro w' hSw; obtain ⟨k1, k2⟩ := hSw; go_simp; try with_reducible rfl)
          try simp only [Act.put, List.setIfInBounds_toArray, List.set_cons_zero, List.set_cons_succ]
          refine wpAnyH_take (i := 8) (v := ?_) opAt_8 (by kernel_rfl) (by kernel_rfl) (by kernel_rfl) (fun _ _ _ h => h) (Or.inl ⟨by rfl, ?_⟩) hHeld ?_
          rotate_left
          · (intro w' hSw; obtain ⟨k1, k2⟩ := hSw; go_simp; try with_reducible rfl)
          try simp only [Act.put, List.setIfInBounds_toArray, List.set_cons_zero, List.set_cons_succ]
          refine wpAnyH_take (i := 9) (v := ?_) opAt_9 (by kernel_rfl) (by kernel_rfl) (by kernel_rfl) (fun _ _ _ h => h) (Or.inl ⟨by rfl, ?_⟩) hHeld ?_
          rotate_left
          · (intro w' hSw; obtain ⟨k1, k2⟩ := hSw; go_simp; try with_reducible rfl)
          try simp only [Act.put, List.setIfInBounds_toArray, List.set_cons_zero, List.set_cons_succ]
          refine wpAnyH_take (i := 10) (v := ?_) opAt_10 (by kernel_rfl) (by kernel_rfl) (by kernel_rfl) (fun _ _ _ h => h) (Or.inl ⟨by rfl, ?_⟩) hHeld ?_
          rotate_left
          · (intro w' hSw; obtain ⟨k1, k2⟩ := hSw; go_simp; try with_reducible rfl)
          try simp only [Act.put, List.setIfInBounds_toArray, List.set_cons_zero, List.set_cons_succ]
          have HG5 := Lib.hid hHeld
          refine wpAnyH_ready (rs := [11]) (by kernel_rfl) (by simp) ?_
          refine AllReadyH.cons rfl (fun K hK => ?_) AllReadyH.nil
          go_simp
          refine hK.out _ _ ⟨cell_al hHeld.1 _, cell_al hHeld.2 _⟩ (fun hHeld => ?_)
          clear hK K
          try simp only [Act.put, List.setIfInBounds_toArray, List.set_cons_zero, List.set_cons_succ]
          refine wpAnyH_ready (rs := [12]) (by kernel_rfl) (by simp) ?_
          refine AllReadyH.cons rfl (fun K hK => ?_) AllReadyH.nil
          go_simp
          refine hK.out _ _ ⟨cell_al HG5.out.1 _, cell_al HG5.out.2 _⟩ (fun hHeld => ?_)
          clear hK K
          try simp only [Act.put, List.setIfInBounds_toArray, List.set_cons_zero, List.set_cons_succ]
          refine wpAnyH_done (by kernel_rfl) ?_ _
          refine NoPanic.normal ?_
          obtain ⟨W6, hW6⟩ : ∃ W6, W6 = W5.alloc (.cells #[.int .u32 (x.id : Int), .int .u32 (x.size : Int)] 49) := ⟨_, rfl⟩
          have hb6 : Below W5.heap.size W5 W6 := by rw [hW6]; exact (Below.refl _ _).alloc (Nat.le_refl _) _
          have h46 : Below W4.heap.size W4 W6 := HB5.out.trans (hb6.mono HB5.out.size)
          have hnb : W6.heap[W5.heap.size]? = some (.cells #[.int .u32 (x.id : Int), .int .u32 (x.size : Int)] 49 (0, 0)) := by rw [hW6]; exact heap_alloc_new W5 _
          have hlt4 : bx + 1 < W4.heap.size := (Array.getElem?_eq_some_iff.1 HL4.out.1).1
          have hx6 := (h46.block bx (by omega)).trans HL4.out.2
          have hl6 := (h46.block (bx + 1) hlt4).trans HL4.out.1
          have d0 := (box6h hx6).1
          have hlt5 : W4.heap.size ≤ W5.heap.size := HB5.out.size
          have hG4 : G < W4.heap.size := HC4.out.lt
          have hbG : bx = w.heap.size := HBX.out
          have hGw : G < w.heap.size := HH.out.2.1.lt
          have hnf := HNF.out
          rw [← HLd.out] at hnf
          have HCnt := Lib.hid (scount (HC4.out.on h46) sq L (by omega) (by have := HQ.out.2.2.2; omega) hsq2)
          have H46 := Lib.hid h46
          have HNB := Lib.hid (And.intro hnb hl6)
          have HLT := Lib.hid (And.intro hlt4 (And.intro hlt5 (And.intro hG4 (And.intro hbG hGw))))
          rw [← hW6]
          clear hW6 hb6 h46 hnb hlt4 hx6 hl6 hlt5 hG4 hbG hGw hnf l0 l1 m0 m1 a1 a2 hHeld
          obtain ⟨nb, hnbd⟩ : ∃ nb, nb = W5.heap.size := ⟨_, rfl⟩
          rw [← hnbd] at HNB HLT ⊢
          clear hnbd
          go_wp2_with fail
          refine HCnt.out.mono ?_
          rintro e W7 ⟨rfl, hc7, hg7⟩
          have hlt7 := HLT.out
          have hlt6 : nb < W6.heap.size ∧ bx + 1 < W6.heap.size := ⟨(Array.getElem?_eq_some_iff.1 HNB.out.1).1, (Array.getElem?_eq_some_iff.1 HNB.out.2).1⟩
          have hn7 := (hg7.block nb hlt6.1 (fun e => by omega)).trans HNB.out.1
          have hl7 := (hg7.block (bx + 1) hlt6.2 (fun e => by omega)).trans HNB.out.2
          have e0' : W7.cell? ⟨nb, 0, none⟩ = some (.int .u32 (x.id : Int)) := cell_of_row W7 nb 0 _ _ _ hn7
          have e1' : W7.cell? ⟨nb, 1, none⟩ = some (.int .u32 (x.size : Int)) := cell_of_row W7 nb 1 _ _ _ hn7
          have l0 : W7.cell? ⟨bx + 1, 0, none⟩ = some (.int .u32 0) := cell_of_row W7 (bx + 1) 0 _ _ _ hl7
          have l1 : W7.cell? ⟨bx + 1, 1, none⟩ = some (.int .u32 0) := cell_of_row W7 (bx + 1) 1 _ _ _ hl7
          have m0 : W7.frozen? ⟨bx + 1, 0, none⟩ = false := by simp [World.frozen?, hl7]
          have m1 : W7.frozen? ⟨bx + 1, 1, none⟩ = false := by simp [World.frozen?, hl7]
          have g2 := get2n l0 l1 (.int .u32 (x.id : Int)) (.int .u32 (x.size : Int))
          have HC7 := Lib.hid (And.intro hc7 hg7)
          clear hc7 hg7 hn7 hl7 hlt6 hlt7 d0
          go_wp2_with fail
          have hlt7 := HLT.out
          have hk3 : bx + 1 < W3.heap.size := Nat.lt_of_lt_of_le ((Array.getElem?_eq_some_iff.1 HL.out.1).1) HB3.out.size
          exact bodyPost_ret (v := .tuple #[locV (x.id, x.size), .int .i64 0]) (by simp [results, Tryz.results19, go_sem, locV, g2.1, g2.2]) rfl ⟨by rw [HE.out]; rfl, by
            rw [HE.out]
            refine SegMut.of_box (N := fun i => i = bx + 1 ∨ i = G) (Chg.of_below (HB2.out.trans (HB3.out.mono HB2.out.size))) HM4.out ((((Chg.of_below H46.out).trans HC7.out.2 (fun i e => .inl (.inr e))).setCell (p := ⟨bx + 1, 0, none⟩) (.inl rfl) _).setCell (p := ⟨bx + 1, 1, none⟩) (.inl rfl) _) ?_ ((HC7.out.1.chg (chg_set W7 (bx + 1) 0 _) (fun e => by omega)).chg (chg_set _ (bx + 1) 1 _) (fun e => by omega)) ((HC1.out.on HB3.out).lt) HH.out.2.2.1 HH.out.2.2.2
            rintro i (e | e)
            · exact ⟨.inr (by omega), by omega, fun e2 => by have := HH.out.1.ml i e2; omega, fun e2 => by have := HH.out.1.rl i e2; omega⟩
            · exact ⟨.inl e, by rw [e]; exact (HC1.out.on HB3.out).lt, by rw [e]; exact HH.out.2.2.1, by rw [e]; exact HH.out.2.2.2⟩⟩
        · have HE := Lib.hid (show R1 = (an.1, (0, 0), an.2, x) by rw [HRE.out, if_neg e0])
          have i0 : ¬ (an.1 : Int) = 0 := by omega
          obtain ⟨cd, hcd⟩ : ∃ cd, cd = an.1 := ⟨_, rfl⟩
          have HCD := Lib.hid hcd
          rw [← hcd] at i0 ⊢
          clear e0 hcd
          have g2 := get2n l0 l1 (.int .u32 0) (.int .u32 0)
          go_wp2_with fail
          have hbx1 : bx = w.heap.size := HBX.out
          have hk3 : bx + 1 < W3.heap.size := Nat.lt_of_lt_of_le ((Array.getElem?_eq_some_iff.1 HL.out.1).1) HB3.out.size
          exact bodyPost_ret (v := .tuple #[locV (0, 0), .int .i64 (cd : Int)]) (by simp [results, Tryz.results19, go_sem, locV, g2.1, g2.2]) rfl ⟨by rw [HE.out, HCD.out], by
            rw [HE.out]
            exact SegMut.of_box (N := fun i => i = bx + 1) (Chg.of_below (HB2.out.trans (HB3.out.mono HB2.out.size))) HM4.out (((Chg.refl (M := fun i => i = bx + 1) (w := W4)).setCell (p := ⟨bx + 1, 0, none⟩) rfl _).setCell (p := ⟨bx + 1, 1, none⟩) rfl _) (fun i e => ⟨.inr (by omega), by omega, fun e2 => by have := HH.out.1.ml i e2; omega, fun e2 => by have := HH.out.1.rl i e2; omega⟩) ((HC4.out.chg (chg_set W4 (bx + 1) 0 _) (fun e => by have := HH.out.2.1.lt; omega)).chg (chg_set _ (bx + 1) 1 _) (fun e => by have := HH.out.2.1.lt; omega)) ((HC1.out.on HB3.out).lt) HH.out.2.2.1 HH.out.2.2.2⟩
end
end Go.Proofs.YtaicibmaogiibaaGreatDoor.Sg

