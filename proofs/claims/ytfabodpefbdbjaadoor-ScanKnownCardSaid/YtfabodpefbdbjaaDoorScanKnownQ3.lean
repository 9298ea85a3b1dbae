/-
  ScanKnown, part 3 of what the law's proof leans on: HdPlain, RcRead, RcRow, RcIn.
-/
import Derived.Test.YtfabodpefbdbjaaDoorScanKnownQ2
import Derived.BigRegion
import Derived.RegionTactic
import Derived.Test.YtfabodpefbdbjaaDoorScanKnownQ1
import Derived.Deep.OwnRows
/- HdPlain -/

/-
  Layer 10, plain mathematics: heads of files as bytes, what bytes begin with, turned bits.
-/
set_option linter.unusedVariables false
set_option linter.unusedSimpArgs false
namespace Go.Proofs.YtfabodpefbdbjaaDoor.Hd
open Go.RowKit

/-- the seven letters -/
def letters : List UInt8 := [104, 111, 117, 114, 98, 107, 49]
theorem letters_length : letters.length = 7 := rfl
/-- what is covered -/
def bodyL (k n : Nat) : List UInt8 := letters ++ (Px.leL k 1 ++ Px.leL n 4)
theorem bodyL_length (k n : Nat) : (bodyL k n).length = 12 := by simp [bodyL, letters_length, Px.leL_length]
/-- a file's head -/
def headL (k n : Nat) : List UInt8 := Cx.cover (bodyL k n)
theorem headL_length (k n : Nat) : (headL k n).length = 16 := by rw [headL, Cx.cover_length, bodyL_length]
/-- whether there is a head of that kind and id -/
def mayB (k n : Int) : Bool := decide ((k = 1 ∧ 1 ≤ n ∧ n ≤ 16777215) ∨ (k = 2 ∧ n = 0))
def kindN (l : List UInt8) : Nat := Px.rdN (l.drop 7) 1
def idN (l : List UInt8) : Nat := Px.rdN (l.drop 8) 4
/-- what bytes begin with: kind, id, error -/
def getQ (l : List UInt8) : Nat × Nat × Nat :=
  if l.length < 16 then (0, 0, 22)
  else if mayB (kindN l) (idN l) = true ∧ l.take 16 = headL (kindN l) (idN l) then (kindN l, idN l, 0) else (0, 0, 23)
/-- whether they begin with that kind and id: the error -/
def checkN (l : List UInt8) (k n : Int) : Nat :=
  if (getQ l).2.2 = 0 then (if ((getQ l).1 : Int) = k ∧ ((getQ l).2.1 : Int) = n then 0 else 23) else (getQ l).2.2

theorem may_lt {k n : Int} (h : mayB k n = true) : 1 ≤ k ∧ k ≤ 2 ∧ 0 ≤ n ∧ n ≤ 16777215 := by
  simp [mayB] at h
  omega
theorem kind_head {k n : Nat} (h : mayB k n = true) (m : List UInt8) : kindN (headL k n ++ m) = k := by
  have := may_lt h
  unfold kindN headL Cx.cover bodyL
  simp only [List.append_assoc]
  rw [List.drop_left' letters_length, Px.rdN_fix _ _ _ (Nat.div_eq_of_lt (by simp; omega))]
theorem id_head {k n : Nat} (h : mayB k n = true) (m : List UInt8) : idN (headL k n ++ m) = n := by
  have := may_lt h
  unfold idN headL Cx.cover bodyL
  simp only [List.append_assoc]
  rw [show 8 = 7 + 1 by rfl, ← List.drop_drop, List.drop_left' letters_length, List.drop_left' (Px.leL_length _ _), Px.rdN_fix _ _ _ (Nat.div_eq_of_lt (by simp; omega))]
/-- a head, whatever stands behind -/
theorem get_head {k n : Nat} (h : mayB k n = true) (m : List UInt8) : getQ (headL k n ++ m) = (k, n, 0) := by
  unfold getQ
  rw [kind_head h, id_head h, if_neg (by rw [List.length_append, headL_length]; omega), if_pos ⟨h, List.take_left' (headL_length k n)⟩]
/-- a beginning of bytes -/
theorem get_short {l : List UInt8} (h : l.length < 16) : getQ l = (0, 0, 22) := by
  unfold getQ
  rw [if_pos h]
/-- bits within 32 in a row are turned -/
theorem get_turned {k n : Nat} {b : BitVec 32} {first t : Nat} {l : List UInt8} (ht : Cx.turned (headL k n) b first t l) (hk : t ≤ 32) (h0 : 0 < t) (hb : b.getLsbD 0 = true) (m : List UInt8) :
    getQ (l ++ m) = (0, 0, 23) := by
  have hw := Cx.turned_wrong ht (by rw [headL_length]; omega) (Cx.right_cover _) hk h0 hb
  have hl : l.length = 16 := by rw [ht.1, headL_length]
  unfold getQ
  rw [if_neg (by rw [List.length_append]; omega), if_neg ?_]
  rintro ⟨_, e⟩
  rw [List.take_left' hl] at e
  rw [e, headL, Cx.right_cover] at hw
  cases hw
theorem check_head {k n : Nat} (h : mayB k n = true) (m : List UInt8) (k' n' : Int) : checkN (headL k n ++ m) k' n' = if (k : Int) = k' ∧ (n : Int) = n' then 0 else 23 := by
  unfold checkN
  rw [get_head h m]
  simp
end Go.Proofs.YtfabodpefbdbjaaDoor.Hd

/- RcRead -/

/-
  Layer 8: the walks of read, blank, fill.
-/
set_option linter.unusedVariables false
set_option linter.unusedSimpArgs false
namespace Go.Proofs.YtfabodpefbdbjaaDoor
open Go.RowKit

/-- one field of a head -/
def Rc.fieldN (l : List UInt8) (o n : Nat) : Nat := Px.rdN (l.drop o) n
/-- what a head tells, the first j fields of it -/
def toldA (l : List UInt8) (j : Nat) : Array Value :=
  match j with
  | 0 => #[.int .u64 0, .int .u64 0, .int .u64 0, .int .u64 0, .int .u64 0, .int .u64 0]
  | 1 => #[.int .u64 ((Rc.fieldN l 0 1 : Nat) : Int), .int .u64 0, .int .u64 0, .int .u64 0, .int .u64 0, .int .u64 0]
  | 2 => #[.int .u64 ((Rc.fieldN l 0 1 : Nat) : Int), .int .u64 ((Rc.fieldN l 1 1 : Nat) : Int), .int .u64 0, .int .u64 0, .int .u64 0, .int .u64 0]
  | 3 => #[.int .u64 ((Rc.fieldN l 0 1 : Nat) : Int), .int .u64 ((Rc.fieldN l 1 1 : Nat) : Int), .int .u64 ((Rc.fieldN l 2 2 : Nat) : Int), .int .u64 0, .int .u64 0, .int .u64 0]
  | 4 => #[.int .u64 ((Rc.fieldN l 0 1 : Nat) : Int), .int .u64 ((Rc.fieldN l 1 1 : Nat) : Int), .int .u64 ((Rc.fieldN l 2 2 : Nat) : Int), .int .u64 ((Rc.fieldN l 4 6 : Nat) : Int), .int .u64 0, .int .u64 0]
  | 5 => #[.int .u64 ((Rc.fieldN l 0 1 : Nat) : Int), .int .u64 ((Rc.fieldN l 1 1 : Nat) : Int), .int .u64 ((Rc.fieldN l 2 2 : Nat) : Int), .int .u64 ((Rc.fieldN l 4 6 : Nat) : Int), .int .u64 ((Rc.fieldN l 10 3 : Nat) : Int), .int .u64 0]
  | _ => #[.int .u64 ((Rc.fieldN l 0 1 : Nat) : Int), .int .u64 ((Rc.fieldN l 1 1 : Nat) : Int), .int .u64 ((Rc.fieldN l 2 2 : Nat) : Int), .int .u64 ((Rc.fieldN l 4 6 : Nat) : Int), .int .u64 ((Rc.fieldN l 10 3 : Nat) : Int), .int .u64 ((Rc.fieldN l 13 4 : Nat) : Int)]
def toldV (l : List UInt8) : Value := .agg #[.int .u64 ((Rc.fieldN l 0 1 : Nat) : Int), .int .u64 ((Rc.fieldN l 1 1 : Nat) : Int), .int .u64 ((Rc.fieldN l 2 2 : Nat) : Int), .int .u64 ((Rc.fieldN l 4 6 : Nat) : Int), .int .u64 ((Rc.fieldN l 10 3 : Nat) : Int), .int .u64 ((Rc.fieldN l 13 4 : Nat) : Int)]
def offN (j : Nat) : Nat := match j with | 0 => 0 | 1 => 1 | 2 => 2 | 3 => 4 | 4 => 10 | 5 => 13 | _ => 17
theorem cut_m {A : Option Addr} {m c : Nat} {l : List UInt8} {B : Nat} {w : World} (h : Bs w B (.slice A m c) l) (k : Nat) (z : Int) (hz : z = k) (hk : k ≤ l.length) : ∃ A' m' c', (∀ w, (Instr.sliceAt 23 (.slice A m c) (some (.int .i64 z)) none none).run Tryd.prog w = .ok (.slice A' m' c') w) ∧ Bs w B (.slice A' m' c') (l.drop k) := by
  subst hz
  obtain ⟨A2, c2, e, hc, hr⟩ := h
  injection e with e1 e2 e3
  subst e1 e2 e3
  obtain ⟨A', c', h1, h2, h3⟩ := cut_l A l.length c k (l.length - k) (by omega) hc
  exact ⟨_, _, _, h1, A', c', by rw [List.length_drop], by rw [List.length_drop]; exact h2, h3 w B l hc hr⟩
set_option maxRecDepth 100000 in
set_option maxHeartbeats 4000000 in
theorem rread_b (v : Value) (l : List UInt8) (B : Nat) (w : World) (h : Bs w B v l) (hB : B ≤ w.heap.size) (hl : 21 ≤ l.length) (hm : l.length ≤ 140737488355328) (ht : WTab w) :
    Calls Tryd.prog 48 #[v] w fun e w' => e = .returned (toldV l) ∧ Below w.heap.size w w' := by
  obtain ⟨ht0, ht1, ht2, ht3, ht4, ht5⟩ := ht
  have hlt : 0 < w.heap.size := block_lt_of_cell ht0
  have H := Lib.hid h
  obtain ⟨A, c, rfl, _, _⟩ := h
  go_enter Tryd.func48, Tryd.ntmps48
  go_wp2_with fail
  clear ht0 ht1 ht2 ht3 ht4 ht5
  go_loopg [0, 7] 6 (fun k b i wr => ∃ j : Nat, j + k = 6 ∧ i = .int .i64 j ∧ (∃ A m c, b = .slice A m c ∧ Bs w B (.slice A m c) (l.drop (offN j))) ∧ wr = (w.alloc (.cells #[.int .u64 0, .int .u64 0, .int .u64 0, .int .u64 0, .int .u64 0, .int .u64 0] 111)).alloc (.cells (toldA l j) 111))
  case atStart => exact ⟨0, by omega, rfl, ⟨_, _, _, rfl, H.out⟩, rfl⟩
  case round =>
    obtain ⟨j, hj, rfl, ⟨A1, m1, c1, rfl, hbs⟩, rfl⟩ := hrel
    by_cases hlt : j < 6
    · have hjj : j = 0 ∨ j = 1 ∨ j = 2 ∨ j = 3 ∨ j = 4 ∨ j = 5 := by omega
      rcases hjj with rfl | rfl | rfl | rfl | rfl | rfl
      · have hx := width_at 0 0 1 rfl rfl
        have hbw : Below w.heap.size w ((w.alloc (.cells #[.int .u64 0, .int .u64 0, .int .u64 0, .int .u64 0, .int .u64 0, .int .u64 0] 111)).alloc (.cells (toldA l 0) 111)) := balloc (bnew w _) _
        have hrd : Calls Tryd.prog 44 #[.slice A1 m1 c1, .int .i64 1] _ fun e w' => e = .returned (.tuple #[.int .u64 ((Rc.fieldN l 0 1 : Nat) : Int), .int .i64 0]) ∧ _ = w' := read_b _ _ B 1 _ (hbs.below hbw hB) (by omega) (by omega) (by simp [offN]; omega) (by simp; omega)
        obtain ⟨A2, m2, c2, hcut, hbs'⟩ := cut_m hbs 1 1 rfl (by simp [offN]; omega)
        have Hbs := Lib.hid hbs'
        clear hbs hbw hbs'
        unfold toldA at hrd ⊢
        go_wp2_with fail
        refine hrd.mono ?_
        rintro e w1 ⟨rfl, rfl⟩
        go_wp2_with fail
        go_roundg (gk - 1)
        case measure => omega
        case rel => exact ⟨1, by omega, by go_num, ⟨_, _, _, rfl, by have := Hbs.out; rw [List.drop_drop] at this; exact this⟩, rfl⟩
      · have hx := width_at 1 1 1 rfl rfl
        have hbw : Below w.heap.size w ((w.alloc (.cells #[.int .u64 0, .int .u64 0, .int .u64 0, .int .u64 0, .int .u64 0, .int .u64 0] 111)).alloc (.cells (toldA l 1) 111)) := balloc (bnew w _) _
        have hrd : Calls Tryd.prog 44 #[.slice A1 m1 c1, .int .i64 1] _ fun e w' => e = .returned (.tuple #[.int .u64 ((Rc.fieldN l 1 1 : Nat) : Int), .int .i64 0]) ∧ _ = w' := read_b _ _ B 1 _ (hbs.below hbw hB) (by omega) (by omega) (by simp [offN]; omega) (by simp; omega)
        obtain ⟨A2, m2, c2, hcut, hbs'⟩ := cut_m hbs 1 1 rfl (by simp [offN]; omega)
        have Hbs := Lib.hid hbs'
        clear hbs hbw hbs'
        unfold toldA at hrd ⊢
        go_wp2_with fail
        refine hrd.mono ?_
        rintro e w1 ⟨rfl, rfl⟩
        go_wp2_with fail
        go_roundg (gk - 1)
        case measure => omega
        case rel => exact ⟨2, by omega, by go_num, ⟨_, _, _, rfl, by have := Hbs.out; rw [List.drop_drop] at this; exact this⟩, rfl⟩
      · have hx := width_at 2 2 2 rfl rfl
        have hbw : Below w.heap.size w ((w.alloc (.cells #[.int .u64 0, .int .u64 0, .int .u64 0, .int .u64 0, .int .u64 0, .int .u64 0] 111)).alloc (.cells (toldA l 2) 111)) := balloc (bnew w _) _
        have hrd : Calls Tryd.prog 44 #[.slice A1 m1 c1, .int .i64 2] _ fun e w' => e = .returned (.tuple #[.int .u64 ((Rc.fieldN l 2 2 : Nat) : Int), .int .i64 0]) ∧ _ = w' := read_b _ _ B 2 _ (hbs.below hbw hB) (by omega) (by omega) (by simp [offN]; omega) (by simp; omega)
        obtain ⟨A2, m2, c2, hcut, hbs'⟩ := cut_m hbs 2 2 rfl (by simp [offN]; omega)
        have Hbs := Lib.hid hbs'
        clear hbs hbw hbs'
        unfold toldA at hrd ⊢
        go_wp2_with fail
        refine hrd.mono ?_
        rintro e w1 ⟨rfl, rfl⟩
        go_wp2_with fail
        go_roundg (gk - 1)
        case measure => omega
        case rel => exact ⟨3, by omega, by go_num, ⟨_, _, _, rfl, by have := Hbs.out; rw [List.drop_drop] at this; exact this⟩, rfl⟩
      · have hx := width_at 3 3 6 rfl rfl
        have hbw : Below w.heap.size w ((w.alloc (.cells #[.int .u64 0, .int .u64 0, .int .u64 0, .int .u64 0, .int .u64 0, .int .u64 0] 111)).alloc (.cells (toldA l 3) 111)) := balloc (bnew w _) _
        have hrd : Calls Tryd.prog 44 #[.slice A1 m1 c1, .int .i64 6] _ fun e w' => e = .returned (.tuple #[.int .u64 ((Rc.fieldN l 4 6 : Nat) : Int), .int .i64 0]) ∧ _ = w' := read_b _ _ B 6 _ (hbs.below hbw hB) (by omega) (by omega) (by simp [offN]; omega) (by simp; omega)
        obtain ⟨A2, m2, c2, hcut, hbs'⟩ := cut_m hbs 6 6 rfl (by simp [offN]; omega)
        have Hbs := Lib.hid hbs'
        clear hbs hbw hbs'
        unfold toldA at hrd ⊢
        go_wp2_with fail
        refine hrd.mono ?_
        rintro e w1 ⟨rfl, rfl⟩
        go_wp2_with fail
        go_roundg (gk - 1)
        case measure => omega
        case rel => exact ⟨4, by omega, by go_num, ⟨_, _, _, rfl, by have := Hbs.out; rw [List.drop_drop] at this; exact this⟩, rfl⟩
      · have hx := width_at 4 4 3 rfl rfl
        have hbw : Below w.heap.size w ((w.alloc (.cells #[.int .u64 0, .int .u64 0, .int .u64 0, .int .u64 0, .int .u64 0, .int .u64 0] 111)).alloc (.cells (toldA l 4) 111)) := balloc (bnew w _) _
        have hrd : Calls Tryd.prog 44 #[.slice A1 m1 c1, .int .i64 3] _ fun e w' => e = .returned (.tuple #[.int .u64 ((Rc.fieldN l 10 3 : Nat) : Int), .int .i64 0]) ∧ _ = w' := read_b _ _ B 3 _ (hbs.below hbw hB) (by omega) (by omega) (by simp [offN]; omega) (by simp; omega)
        obtain ⟨A2, m2, c2, hcut, hbs'⟩ := cut_m hbs 3 3 rfl (by simp [offN]; omega)
        have Hbs := Lib.hid hbs'
        clear hbs hbw hbs'
        unfold toldA at hrd ⊢
        go_wp2_with fail
        refine hrd.mono ?_
        rintro e w1 ⟨rfl, rfl⟩
        go_wp2_with fail
        go_roundg (gk - 1)
        case measure => omega
        case rel => exact ⟨5, by omega, by go_num, ⟨_, _, _, rfl, by have := Hbs.out; rw [List.drop_drop] at this; exact this⟩, rfl⟩
      · have hx := width_at 5 5 4 rfl rfl
        have hbw : Below w.heap.size w ((w.alloc (.cells #[.int .u64 0, .int .u64 0, .int .u64 0, .int .u64 0, .int .u64 0, .int .u64 0] 111)).alloc (.cells (toldA l 5) 111)) := balloc (bnew w _) _
        have hrd : Calls Tryd.prog 44 #[.slice A1 m1 c1, .int .i64 4] _ fun e w' => e = .returned (.tuple #[.int .u64 ((Rc.fieldN l 13 4 : Nat) : Int), .int .i64 0]) ∧ _ = w' := read_b _ _ B 4 _ (hbs.below hbw hB) (by omega) (by omega) (by simp [offN]; omega) (by simp; omega)
        obtain ⟨A2, m2, c2, hcut, hbs'⟩ := cut_m hbs 4 4 rfl (by simp [offN]; omega)
        have Hbs := Lib.hid hbs'
        clear hbs hbw hbs'
        unfold toldA at hrd ⊢
        go_wp2_with fail
        refine hrd.mono ?_
        rintro e w1 ⟨rfl, rfl⟩
        go_wp2_with fail
        go_roundg (gk - 1)
        case measure => omega
        case rel => exact ⟨6, by omega, by go_num, ⟨_, _, _, rfl, by have := Hbs.out; rw [List.drop_drop] at this; exact this⟩, rfl⟩
    · obtain rfl : j = 6 := by omega
      unfold toldA
      go_wp2_with fail
      exact bodyPost_ret (v := toldV l) (by simp [results, Tryd.results48, go_sem, toldV]) rfl ⟨rfl, balloc (bnew w _) _⟩
end Go.Proofs.YtfabodpefbdbjaaDoor

/- RcRow -/

/-
  Layer 8: blocks of bytes.
-/
set_option linter.unusedVariables false
set_option linter.unusedSimpArgs false
namespace Go.Proofs.YtfabodpefbdbjaaDoor
open Go.RowKit

/-- a new row of zeros -/
def zer (n : Nat) : Array Value := (bvs (List.replicate n 0)).toArray
theorem run_make_b (k1 k2 : IntKind) (n : Nat) (hn : n ≤ 100000) (w : World) :
    (Instr.makeSlice 23 (.int k1 (n : Int)) (.int k2 (n : Int))).run Tryd.prog w = .ok (.slice (some ⟨w.heap.size, 0, none⟩) n n) (w.alloc (.cells (zer n) 5)) := by
  have h := run_make_row' (P := Tryd.prog) 23 5 (.int .u8 0) 1 Tryd.underlying23 byte_info rfl k1 k2 n (by omega) (by omega) w
  have e : madeCells #[Value.int .u8 0] n = zer n := by
    unfold zer
    have := toList_madeCells_one (.int .u8 0) n
    rw [← Array.toList_inj, this]
    simp [bvs, bv]
  rw [e] at h
  exact h
/-- a block of bytes -/
def RowAt (w : World) (g : Nat) (l : List UInt8) : Prop := w.heap[g]? = some (.cells (bvs l).toArray 5 (0, 0))
theorem RowAt.bs {w : World} {g B : Nat} {l : List UInt8} (h : RowAt w g l) (hg : g < B) : Bs w B (.slice (some ⟨g, 0, none⟩) l.length l.length) l :=
  ⟨_, _, rfl, Nat.le_refl _, fun _ => ⟨g, 0, rfl, hg, fun j u hu => by
    rw [Nat.zero_add, cell_of_row w g j _ _ _ h]
    simpa using hu⟩⟩
theorem RowAt.below {w w' : World} {g C : Nat} {l : List UInt8} (h : RowAt w g l) (hb : Below C w w') (hC : g < C) : RowAt w' g l := (hb.block g hC).trans h
theorem RowAt.lt {w : World} {g : Nat} {l : List UInt8} (h : RowAt w g l) : g < w.heap.size := (Array.getElem?_eq_some_iff.1 h).1
theorem RowAt.on {w w' : World} {g : Nat} {l : List UInt8} (h : RowAt w g l) (hb : Below w.heap.size w w') : RowAt w' g l := h.below hb h.lt
theorem RowAt.new (w : World) (n : Nat) : RowAt (w.alloc (.cells (zer n) 5)) w.heap.size (List.replicate n 0) := heap_alloc_new w _
end Go.Proofs.YtfabodpefbdbjaaDoor

/- RcIn -/

/-
  Layer 8: bytes, and a record, in memory from a place on, each row a block of its own.
-/
set_option linter.unusedVariables false
set_option linter.unusedSimpArgs false
namespace Go.Proofs.YtfabodpefbdbjaaDoor
open Go Go.RowKit

/-- a slice that reads as these bytes, in memory from `lo` on -/
def RowIn (w : World) (lo : Nat) (v : Value) (l : List UInt8) : Prop := (v = .slice none 0 0 ∧ l = []) ∨ ∃ g, v = .slice (some ⟨g, 0, none⟩) l.length l.length ∧ lo ≤ g ∧ RowAt w g l
section
variable {w w' : World} {lo lo' : Nat} {v : Value} {l : List UInt8}
theorem RowIn.bs (h : RowIn w lo v l) : Bs w w.heap.size v l := by
  rcases h with ⟨rfl, rfl⟩ | ⟨g, rfl, _, h⟩
  · exact ⟨none, 0, rfl, Nat.le_refl _, fun h => absurd rfl h⟩
  · exact h.bs h.lt
theorem RowIn.on (h : RowIn w lo v l) (hb : Below w.heap.size w w') : RowIn w' lo v l := by
  rcases h with ⟨rfl, rfl⟩ | ⟨g, rfl, h1, h⟩
  · exact .inl ⟨rfl, rfl⟩
  · exact .inr ⟨g, rfl, h1, h.on hb⟩
theorem RowIn.mono (h : RowIn w lo v l) (hl : lo' ≤ lo) : RowIn w lo' v l := by
  rcases h with ⟨rfl, rfl⟩ | ⟨g, rfl, h1, h⟩
  · exact .inl ⟨rfl, rfl⟩
  · exact .inr ⟨g, rfl, Nat.le_trans hl h1, h⟩
end
def RecIn (w : World) (lo : Nat) (rv : Value) (r : Rc.Rec) : Prop := ∃ kv vv, rv = recV r.seq r.kind kv vv r.seg r.off ∧ RowIn w lo kv r.key ∧ RowIn w lo vv r.val
theorem RecIn.none_ {w : World} {lo : Nat} : RecIn w lo (recV 0 0 (.slice none 0 0) (.slice none 0 0) 0 0) Rc.none := ⟨_, _, rfl, .inl ⟨rfl, rfl⟩, .inl ⟨rfl, rfl⟩⟩
end Go.Proofs.YtfabodpefbdbjaaDoor

