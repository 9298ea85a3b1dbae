
/-
  Layer 9: the walks of check and May.
-/
import Derived.Test.YtggijjknfcofoaaDoorEdCheck
import Derived.Deep.LoopGhost
set_option linter.unusedVariables false
set_option linter.unusedSimpArgs false
namespace Go.Proofs.YtggijjknfcofoaaDoor
open Go.RowKit

/-- what check finds behind the kind -/
def Ed.okE (e : Ed.E) : Bool := Ed.inB (Ed.seqB e.kind) e.seq && (Ed.nameOk e.kind e.name.size && (Ed.inB (Ed.idB e.kind) e.id && (Ed.inB (Ed.manyB e.kind) e.seals.length && Ed.upS 0 e.seals)))
theorem Ed.mayE_ok (e : Ed.E) : Ed.mayE e = (decide (1 ≤ e.kind ∧ e.kind ≤ 6) && Ed.okE e) := by simp only [Ed.mayE, Ed.okE, Bool.and_assoc]
theorem Ed.upS_drop {l : List Ed.Sl} {j : Nat} {s : Ed.Sl} (hs : l[j]? = some s) (a : Nat) : Ed.upS a (l.drop j) = (Ed.mayS s && decide (a < s.id) && Ed.upS s.id (l.drop (j + 1))) := by
  obtain ⟨hj, rfl⟩ := List.getElem?_eq_some_iff.1 hs
  rw [List.drop_eq_getElem_cons hj]
  rfl
theorem Bx.at5 {w : World} {g : Nat} {x0 x1 x2 x3 x4 : Value} (h : Bx w g [x0, x1, x2, x3, x4]) : w.cell? ⟨g, 0, none⟩ = some x0 ∧ w.cell? ⟨g, 1, none⟩ = some x1 ∧ w.cell? ⟨g, 2, none⟩ = some x2 ∧ w.cell? ⟨g, 3, none⟩ = some x3 ∧ w.cell? ⟨g, 4, none⟩ = some x4 :=
  ⟨h.cell 0 _ rfl, h.cell 1 _ rfl, h.cell 2 _ rfl, h.cell 3 _ rfl, h.cell 4 _ rfl⟩
theorem Bx.free5 {w : World} {g : Nat} {x0 x1 x2 x3 x4 : Value} (h : Bx w g [x0, x1, x2, x3, x4]) : w.frozen? ⟨g, 0, none⟩ = false ∧ w.frozen? ⟨g, 1, none⟩ = false ∧ w.frozen? ⟨g, 2, none⟩ = false ∧ w.frozen? ⟨g, 3, none⟩ = false ∧ w.frozen? ⟨g, 4, none⟩ = false :=
  ⟨h.free 0 _ rfl, h.free 1 _ rfl, h.free 2 _ rfl, h.free 3 _ rfl, h.free 4 _ rfl⟩
theorem Bx.at7 {w : World} {g : Nat} {x0 x1 x2 x3 x4 x5 x6 : Value} (h : Bx w g [x0, x1, x2, x3, x4, x5, x6]) : w.cell? ⟨g, 0, none⟩ = some x0 ∧ w.cell? ⟨g, 1, none⟩ = some x1 ∧ w.cell? ⟨g, 2, none⟩ = some x2 ∧ w.cell? ⟨g, 3, none⟩ = some x3 ∧ w.cell? ⟨g, 4, none⟩ = some x4 ∧ w.cell? ⟨g, 5, none⟩ = some x5 ∧ w.cell? ⟨g, 6, none⟩ = some x6 :=
  ⟨h.cell 0 _ rfl, h.cell 1 _ rfl, h.cell 2 _ rfl, h.cell 3 _ rfl, h.cell 4 _ rfl, h.cell 5 _ rfl, h.cell 6 _ rfl⟩

set_option maxRecDepth 100000 in
set_option maxHeartbeats 8000000 in
theorem check_any (v : Value) (e : Ed.E) (w : World) (h : EdV w w.heap.size v e) (f : Ed.Fit e) (ht : ETab w) :
    Calls Tryd.prog 36 #[v] w fun en w' => en = (if Ed.mayE e then .returned (.tuple #[]) else gone 5) ∧ Below w.heap.size w w' := by
  obtain ⟨sv, rfl, hs⟩ := h
  obtain ⟨A, cp, rfl, hcp, hrd⟩ := id hs
  unfold edV
  have hE := Ed.mayE_ok e
  have z1 : IntKind.u64.wrap (e.id : Int) = (e.id : Int) := IntWalk.u64_in _ (by have := f.id; omega)
  have z2 : IntKind.u64.wrap (e.seals.length : Int) = (e.seals.length : Int) := IntWalk.u64_in _ (by have := f.many; omega)
  clear hcp hrd
  have B0 := Bx.new w #[.int .i64 e.kind, .string e.name, .int .u64 e.seq, .int .u32 e.id, .slice A e.seals.length cp] 26 _ rfl
  have b0 := bnew w (.cells #[.int .i64 e.kind, .string e.name, .int .u64 e.seq, .int .u32 e.id, .slice A e.seals.length cp] 26)
  have Ht := Lib.hid (ht.on b0)
  have Hs := Lib.hid (hs.alloc (Nat.le_refl _) (.cells #[.int .i64 e.kind, .string e.name, .int .u64 e.seq, .int .u32 e.id, .slice A e.seals.length cp] 26))
  by_cases hk : 1 ≤ e.kind ∧ e.kind ≤ 6
  · rw [hE, decide_eq_true hk, Bool.true_and]
    have HB0 := Lib.hid B0
    have Hb0 := Lib.hid b0
    obtain ⟨q, hq⟩ : ∃ q : Ending, (if Ed.okE e = true then .returned (.tuple #[]) else gone 5) = q := ⟨_, rfl⟩
    rw [hq]
    have HQ := Lib.hid hq
    clear hE ht hs B0 b0 hq
    go_enter Tryd.func36, Tryd.ntmps36
    go_wp2_with fail
    refine (shapeOf_ok e.kind _ hk.1 hk.2 Ht.out).mono ?_
    rintro en w1 ⟨rfl, h1⟩
    unfold shV shCs
    have B1 := HB0.out.on h1
    obtain ⟨c0, c1, c2, c3, c4⟩ := B1.at5
    have hlt := B1.lt
    have HB := Lib.hid (B1.alloc (.cells (shCs e.kind).toArray 65))
    have HS := Lib.hid (Bx.new w1 (shCs e.kind).toArray 65 _ rfl)
    have Hb := Lib.hid (balloc (bstep Hb0.out h1) (.cells (shCs e.kind).toArray 65))
    have HX := Lib.hid ((Hs.out.below h1 (by simp)).alloc (Nat.le_of_lt hlt) (.cells (shCs e.kind).toArray 65))
    have Hl := Lib.hid HB.out.lt
    clear HB0 Hb0 Ht Hs B1 h1
    go_wp2_with fail
    unfold shCs at HB HS Hb HX Hl
    cases q1 : Ed.inB (Ed.seqB e.kind) e.seq
    · refine (hold_no _ _ _ q1).mono ?_
      rintro en w2 ⟨rfl, h2⟩
      go_wp2_with fail
      exact ⟨rfl, by rw [← HQ.out, if_neg (by simp [Ed.okE, q1])]; rfl, bstep Hb.out h2⟩
    refine (hold_yes _ _ _ q1).mono ?_
    have Q1 := Lib.hid q1
    clear q1
    rintro en w2 ⟨rfl, h2⟩
    clear c0 c1 c2 c3 c4
    obtain ⟨c0, c1, c2, c3, c4⟩ := (HB.out.on h2).at5
    obtain ⟨d0, d1, d2, d3, d4, d5, d6⟩ := (HS.out.on h2).at7
    have HB := Lib.hid (HB.out.on h2)
    have HS := Lib.hid (HS.out.on h2)
    have Hb := Lib.hid (bstep Hb.out h2)
    have HX := Lib.hid (HX.out.below h2 (Nat.le_of_lt Hl.out))
    have Hl := Lib.hid (Nat.lt_of_lt_of_le Hl.out h2.size)
    clear h2
    go_wp2_with fail
    cases q2 : Ed.nameOk e.kind e.name.size
    · refine (checkName_no _ _ _ q2 f.name).mono ?_
      rintro en w3 ⟨rfl, h2⟩
      go_wp2_with fail
      exact ⟨rfl, by rw [← HQ.out, if_neg (by simp [Ed.okE, Q1.out, q2])]; rfl, bstep Hb.out h2⟩
    refine (checkName_yes _ _ _ q2 f.name).mono ?_
    have Q2 := Lib.hid q2
    clear q2
    rintro en w3 ⟨rfl, h2⟩
    clear c0 c1 c2 c3 c4 d0 d1 d2 d3 d4 d5 d6
    obtain ⟨c0, c1, c2, c3, c4⟩ := (HB.out.on h2).at5
    obtain ⟨d0, d1, d2, d3, d4, d5, d6⟩ := (HS.out.on h2).at7
    have HB := Lib.hid (HB.out.on h2)
    have HS := Lib.hid (HS.out.on h2)
    have Hb := Lib.hid (bstep Hb.out h2)
    have HX := Lib.hid (HX.out.below h2 (Nat.le_of_lt Hl.out))
    have Hl := Lib.hid (Nat.lt_of_lt_of_le Hl.out h2.size)
    clear h2
    go_wp2_with fail
    cases q3 : Ed.inB (Ed.idB e.kind) e.id
    · refine (hold_no _ _ _ q3).mono ?_
      rintro en w4 ⟨rfl, h2⟩
      go_wp2_with fail
      exact ⟨rfl, by rw [← HQ.out, if_neg (by simp [Ed.okE, Q1.out, Q2.out, q3])]; rfl, bstep Hb.out h2⟩
    refine (hold_yes _ _ _ q3).mono ?_
    have Q3 := Lib.hid q3
    clear q3
    rintro en w4 ⟨rfl, h2⟩
    clear c0 c1 c2 c3 c4 d0 d1 d2 d3 d4 d5 d6
    obtain ⟨c0, c1, c2, c3, c4⟩ := (HB.out.on h2).at5
    obtain ⟨d0, d1, d2, d3, d4, d5, d6⟩ := (HS.out.on h2).at7
    have HB := Lib.hid (HB.out.on h2)
    have HS := Lib.hid (HS.out.on h2)
    have Hb := Lib.hid (bstep Hb.out h2)
    have HX := Lib.hid (HX.out.below h2 (Nat.le_of_lt Hl.out))
    have Hl := Lib.hid (Nat.lt_of_lt_of_le Hl.out h2.size)
    clear h2
    go_wp2_with fail
    cases q4 : Ed.inB (Ed.manyB e.kind) e.seals.length
    · refine (hold_no _ _ _ q4).mono ?_
      rintro en w5 ⟨rfl, h2⟩
      go_wp2_with fail
      exact ⟨rfl, by rw [← HQ.out, if_neg (by simp [Ed.okE, Q1.out, Q2.out, Q3.out, q4])]; rfl, bstep Hb.out h2⟩
    refine (hold_yes _ _ _ q4).mono ?_
    have Q4 := Lib.hid q4
    clear q4
    rintro en w5 ⟨rfl, h2⟩
    clear c0 c1 c2 c3 c4 d0 d1 d2 d3 d4 d5 d6
    obtain ⟨c0, c1, c2, c3, c4⟩ := (HB.out.on h2).at5
    obtain ⟨d0, d1, d2, d3, d4, d5, d6⟩ := (HS.out.on h2).at7
    have HB := Lib.hid (HB.out.on h2)
    have HS := Lib.hid (HS.out.on h2)
    have Hb := Lib.hid (bstep Hb.out h2)
    have HX := Lib.hid (HX.out.below h2 (Nat.le_of_lt Hl.out))
    have Hl := Lib.hid (Nat.lt_of_lt_of_le Hl.out h2.size)
    clear h2
    go_wp2_with fail
    have HQ2 : Hid ((if Ed.upS 0 e.seals = true then Ending.returned (.tuple #[]) else gone 5) = q) := Lib.hid (by rw [← HQ.out]; simp only [Ed.okE, Q1.out, Q2.out, Q3.out, Q4.out, Bool.true_and])
    have Hf := Lib.hid f.seals
    clear c0 c1 c2 c3 c4 d0 d1 d2 d3 d4 d5 d6 HB HS HQ Q1 Q2 Q3 Q4 z1 z2
    generalize hn : e.seals.length = n at *
    have hn63 : n ≤ 9223372036854775807 := by rw [← hn]; exact f.many
    have Hn := Lib.hid hn
    clear hn
    go_loopg [3, 34] n (fun k a i wr => ∃ j aN : Nat, j + k = n ∧ aN < 4294967296 ∧ a = .int .u32 aN ∧ i = .int .i64 j ∧ Ed.upS 0 e.seals = Ed.upS aN (e.seals.drop j) ∧ Below w5.heap.size w5 wr)
    case atStart => exact ⟨0, 0, by omega, by omega, rfl, rfl, by simp, Below.refl _ _⟩
    case round =>
      obtain ⟨j, aN, hj, ha, rfl, rfl, hup, hbr⟩ := hrel
      have Hup := Lib.hid hup
      have Hbr := Lib.hid hbr
      clear hup hbr
      by_cases hlt2 : j < n
      · obtain ⟨s, hs⟩ : ∃ s, e.seals[j]? = some s := ⟨_, List.getElem?_eq_getElem (by rw [Hn.out]; exact hlt2)⟩
        have hfs := Hf.out s (List.mem_of_getElem? hs)
        obtain ⟨gb, go, cc, hA, hgb, a0, a1, a2, a3, a4⟩ := (HX.out.below Hbr.out (Nat.le_of_lt Hl.out)).at hs
        injection hA with hA1 hA2 hA3
        subst hA1
        clear hA2 hA3
        have Hs := Lib.hid hs
        clear hs
        go_wp2_with fail
        have hbw := (Hb.out.trans (Hbr.out.mono Hb.out.size))
        cases m1 : Ed.mayS s
        · refine (maySeal_b s _ hfs _ m1).mono ?_
          rintro en w6 ⟨rfl, h6⟩
          go_wp2_with fail
          exact ⟨rfl, by rw [← HQ2.out, Hup.out, Ed.upS_drop Hs.out, m1]; rfl, bstep (balloc hbw _) h6⟩
        · refine (maySeal_b s _ hfs _ m1).mono ?_
          rintro en w6 ⟨rfl, h6⟩
          have M1 := Lib.hid m1
          obtain ⟨e0, e1, e2, e3, e4⟩ := ((Bx.new wr #[.int .u32 s.id, .int .u32 s.size, .int .u32 s.many, .int .u64 s.first, .int .u64 s.last] 28 _ rfl).on h6).at5
          have Hbr6 := Lib.hid (bstep (balloc Hbr.out _) h6)
          have Hb6 := Lib.hid (bstep (balloc hbw _) h6)
          have hid' := hfs.id
          clear a0 a1 a2 a3 a4 m1 h6 hbw
          by_cases hl : s.id ≤ aN
          · go_wp2_with fail
            exact ⟨rfl, by rw [← HQ2.out, Hup.out, Ed.upS_drop Hs.out, M1.out, decide_eq_false (by omega)]; rfl, Hb6.out⟩
          · go_wp2_with fail
            go_roundg (gk - 1)
            case measure => omega
            case rel => exact ⟨j + 1, s.id, by omega, hid', rfl, by go_num, by rw [Hup.out, Ed.upS_drop Hs.out, M1.out, decide_eq_true (by omega)]; rfl, Hbr6.out⟩
      · go_wp2_with fail
        go_end0
        exact ⟨by rw [← HQ2.out, Hup.out, List.drop_eq_nil_of_le (by rw [Hn.out]; omega)]; rfl, Hb.out.trans (Hbr.out.mono Hb.out.size)⟩
  · rw [hE, decide_eq_false hk, Bool.false_and]
    go_enter Tryd.func36, Tryd.ntmps36
    go_wp2_with fail
    refine (shapeOf_no e.kind _ (by omega)).mono ?_
    rintro en w1 ⟨rfl, h1⟩
    go_wp2_with fail
    exact ⟨rfl, rfl, bstep b0 h1⟩
theorem check_yes (v : Value) (e : Ed.E) (w : World) (h : EdV w w.heap.size v e) (f : Ed.Fit e) (ht : ETab w) (hm : Ed.mayE e = true) :
    Calls Tryd.prog 36 #[v] w fun en w' => en = .returned (.tuple #[]) ∧ Below w.heap.size w w' := by
  have := check_any v e w h f ht
  rw [if_pos hm] at this
  exact this
theorem check_no (v : Value) (e : Ed.E) (w : World) (h : EdV w w.heap.size v e) (f : Ed.Fit e) (ht : ETab w) (hm : Ed.mayE e = false) :
    Calls Tryd.prog 36 #[v] w fun en w' => en = gone 5 ∧ Below w.heap.size w w' := by
  have := check_any v e w h f ht
  rw [if_neg (by simp [hm])] at this
  exact this
set_option maxRecDepth 100000 in
set_option maxHeartbeats 8000000 in
theorem may_edit (v : Value) (e : Ed.E) (w : World) (h : EdV w w.heap.size v e) (f : Ed.Fit e) (ht : ETab w) :
    Calls Tryd.prog 12 #[v] w fun en w' => en = .returned (.bool (Ed.mayE e)) ∧ Below w.heap.size w w' := by
  have h0 := h
  obtain ⟨sv, rfl, hs⟩ := h
  have hmf : ∀ (fn : Fn) (first cap : Array Value) (w : World), (Instr.makeFunc fn first cap).run Tryd.prog w = .ok (.func fn first cap) w := fun _ _ _ _ => rfl
  have b1 := balloc (bnew w (.cells #[.int .i64 e.kind, .string e.name, .int .u64 e.seq, .int .u32 e.id, sv] 26)) (.cells #[.bool false] 4)
  have H1 := Lib.hid (h0.below b1 (Nat.le_refl _))
  have Ht := Lib.hid (ht.on b1)
  have Hb := Lib.hid b1
  have hC := Bx.new (w.alloc (.cells #[.int .i64 e.kind, .string e.name, .int .u64 e.seq, .int .u32 e.id, sv] 26)) #[.bool false] 4 _ rfl
  rw [show (w.alloc (.cells #[.int .i64 e.kind, .string e.name, .int .u64 e.seq, .int .u32 e.id, sv] 26)).heap.size = w.heap.size + 1 by simp] at hC
  have HC := Lib.hid hC
  cases q : Ed.mayE e
  · have Q := Lib.hid q
    clear q b1 h0 ht hC
    unfold edV
    go_enter_defers Tryd.func12, Tryd.ntmps12
    go_wp2_with fail
    refine (check_no (edV e.kind e.name e.seq e.id sv) e _ (H1.out.mono (by simp; omega)) f Ht.out Q.out).mono ?_
    rintro en w2 ⟨rfl, h2⟩
    have C2 := HC.out.on h2
    have Hb2 := Lib.hid (bstep Hb.out h2)
    clear h2
    go_wp2_with fail
    refine leaves_cons (f := 34) (args := #[.pointer (some ⟨w.heap.size + 1, 0, none⟩)]) (by simp) (by simp [go_sem]) ?_
    refine (catchM_gone ⟨w.heap.size + 1, 0, none⟩ false 5 [] _ (C2.cell 0 _ rfl) (C2.free 0 _ rfl) (by omega)).mono ?_
    rintro e u' w'' ⟨rfl, rfl, rfl⟩
    have c0 := World.cell?_setCell_same w2 ⟨w.heap.size + 1, 0, none⟩ (.bool false) (C2.cell 0 _ rfl)
    simp [Leaves, settle, results, Tryd.results12, go_sem, c0]
    exact Hb2.out.setCell (by simp) _
  · have Q := Lib.hid q
    clear q b1 h0 ht hC
    unfold edV
    go_enter_defers Tryd.func12, Tryd.ntmps12
    go_wp2_with fail
    refine (check_yes (edV e.kind e.name e.seq e.id sv) e _ (H1.out.mono (by simp; omega)) f Ht.out Q.out).mono ?_
    rintro en w2 ⟨rfl, h2⟩
    have C2 := HC.out.on h2
    have Hb2 := Lib.hid (bstep Hb.out h2)
    have c0 := C2.cell 0 _ rfl
    have z0 := C2.free 0 _ rfl
    clear h2
    go_wp2_with fail
    have c1 := World.cell?_setCell_same w2 ⟨w.heap.size + 1, 0, none⟩ (.bool true) (C2.cell 0 _ rfl)
    refine leaves_cons (f := 34) (args := #[.pointer (some ⟨w.heap.size + 1, 0, none⟩)]) (by simp) (by simp [go_sem]) ?_
    refine (catchM_idle ⟨w.heap.size + 1, 0, none⟩ true _ c1 (by rw [World.frozen?_setCell]; exact z0)).mono ?_
    rintro e u' w'' ⟨rfl, rfl, rfl⟩
    have c2 := World.cell?_setCell_same (w2.setCell ⟨w.heap.size + 1, 0, none⟩ (.bool true)) ⟨w.heap.size + 1, 0, none⟩ (.bool true) c1
    simp [Leaves, settle, results, Tryd.results12, go_sem, c2]
    exact (Hb2.out.setCell (by simp) _).setCell (by simp) _
end Go.Proofs.YtggijjknfcofoaaDoor
