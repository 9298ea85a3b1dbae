
/-
  Layer 8: the walks of read, blank, fill.
-/
import Derived.Test.YtmiljicohnfejaaDoorRcPut
import Derived.Test.YtmiljicohnfejaaDoorCut
import Derived.BigRegion
import Derived.RegionTactic
set_option linter.unusedVariables false
set_option linter.unusedSimpArgs false
namespace Go.Proofs.YtmiljicohnfejaaDoor
open Go.RowKit

/-- one field of a head -/
def Rc.fieldN (l : List UInt8) (o n : Nat) : Nat := Px.rdN (l.drop o) n
/-- what a head tells, the first j fields of it -/
def toldA (l : List UInt8) (j : Nat) : Array Value :=
  match j with
  | 0 => #[.int .u64 0, .int .u64 0, .int .u64 0, .int .u64 0, .int .u64 0, .int .u64 0]
  | 1 => #[.int .u64 ((Rc.fieldN l 0 1 : Nat) : Int), .int .u64 0, .int .u64 0, .int .u64 0, .int .u64 0, .int .u64 0]
  | 2 => #[.int .u64 ((Rc.fieldN l 0 1 : Nat) : Int), .int .u64 ((Rc.fieldN l 1 1 : Nat) : Int), .int .u64 0, .int .u64 0, .int .u64 0, .int .u64 0]
  | 3 => #[.int .u64 ((Rc.fieldN l 0 1 : Nat) : Int), .int .u64 ((Rc.fieldN l 1 1 : Nat) : Int), .int .u64 ((Rc.fieldN l 2 2 : Nat) : Int), .int .u64 0, .int .u64 0, .int .u64 0]
  | 4 => #[.int .u64 ((Rc.fieldN l 0 1 : Nat) : Int), .int .u64 ((Rc.fieldN l 1 1 : Nat) : Int), .int .u64 ((Rc.fieldN l 2 2 : Nat) : Int), .int .u64 ((Rc.fieldN l 4 6 : Nat) : Int), .int .u64 0, .int .u64 0]
  | 5 => #[.int .u64 ((Rc.fieldN l 0 1 : Nat) : Int), .int .u64 ((Rc.fieldN l 1 1 : Nat) : Int), .int .u64 ((Rc.fieldN l 2 2 : Nat) : Int), .int .u64 ((Rc.fieldN l 4 6 : Nat) : Int), .int .u64 ((Rc.fieldN l 10 3 : Nat) : Int), .int .u64 0]
  | _ => #[.int .u64 ((Rc.fieldN l 0 1 : Nat) : Int), .int .u64 ((Rc.fieldN l 1 1 : Nat) : Int), .int .u64 ((Rc.fieldN l 2 2 : Nat) : Int), .int .u64 ((Rc.fieldN l 4 6 : Nat) : Int), .int .u64 ((Rc.fieldN l 10 3 : Nat) : Int), .int .u64 ((Rc.fieldN l 13 4 : Nat) : Int)]
def toldV (l : List UInt8) : Value := .agg #[.int .u64 ((Rc.fieldN l 0 1 : Nat) : Int), .int .u64 ((Rc.fieldN l 1 1 : Nat) : Int), .int .u64 ((Rc.fieldN l 2 2 : Nat) : Int), .int .u64 ((Rc.fieldN l 4 6 : Nat) : Int), .int .u64 ((Rc.fieldN l 10 3 : Nat) : Int), .int .u64 ((Rc.fieldN l 13 4 : Nat) : Int)]
def offN (j : Nat) : Nat := match j with | 0 => 0 | 1 => 1 | 2 => 2 | 3 => 4 | 4 => 10 | 5 => 13 | _ => 17
theorem cut_m {A : Option Addr} {m c : Nat} {l : List UInt8} {B : Nat} {w : World} (h : Bs w B (.slice A m c) l) (k : Nat) (z : Int) (hz : z = k) (hk : k ≤ l.length) : ∃ A' m' c', (∀ w, (Instr.sliceAt 23 (.slice A m c) (some (.int .i64 z)) none none).run Tryd.prog w = .ok (.slice A' m' c') w) ∧ Bs w B (.slice A' m' c') (l.drop k) := by
  subst hz
  obtain ⟨A2, c2, e, hc, hr⟩ := h
  injection e with e1 e2 e3
  subst e1 e2 e3
  obtain ⟨A', c', h1, h2, h3⟩ := cut_l A l.length c k (l.length - k) (by omega) hc
  exact ⟨_, _, _, h1, A', c', by rw [List.length_drop], by rw [List.length_drop]; exact h2, h3 w B l hc hr⟩
set_option maxRecDepth 100000 in
set_option maxHeartbeats 4000000 in
theorem rread_b (v : Value) (l : List UInt8) (B : Nat) (w : World) (h : Bs w B v l) (hB : B ≤ w.heap.size) (hl : 21 ≤ l.length) (hm : l.length ≤ 140737488355328) (ht : WTab w) :
    Calls Tryd.prog 46 #[v] w fun e w' => e = .returned (toldV l) ∧ Below w.heap.size w w' := by
  obtain ⟨ht0, ht1, ht2, ht3, ht4, ht5⟩ := ht
  have hlt : 0 < w.heap.size := block_lt_of_cell ht0
  have H := Lib.hid h
  obtain ⟨A, c, rfl, _, _⟩ := h
  go_enter Tryd.func46, Tryd.ntmps46
  go_wp2_with fail
  clear ht0 ht1 ht2 ht3 ht4 ht5
  go_loopg [0, 7] 6 (fun k b i wr => ∃ j : Nat, j + k = 6 ∧ i = .int .i64 j ∧ (∃ A m c, b = .slice A m c ∧ Bs w B (.slice A m c) (l.drop (offN j))) ∧ wr = (w.alloc (.cells #[.int .u64 0, .int .u64 0, .int .u64 0, .int .u64 0, .int .u64 0, .int .u64 0] 60)).alloc (.cells (toldA l j) 60))
  case atStart => exact ⟨0, by omega, rfl, ⟨_, _, _, rfl, H.out⟩, rfl⟩
  case round =>
    obtain ⟨j, hj, rfl, ⟨A1, m1, c1, rfl, hbs⟩, rfl⟩ := hrel
    by_cases hlt : j < 6
    · have hjj : j = 0 ∨ j = 1 ∨ j = 2 ∨ j = 3 ∨ j = 4 ∨ j = 5 := by omega
      rcases hjj with rfl | rfl | rfl | rfl | rfl | rfl
      · have hx := width_at 0 0 1 rfl rfl
        have hbw : Below w.heap.size w ((w.alloc (.cells #[.int .u64 0, .int .u64 0, .int .u64 0, .int .u64 0, .int .u64 0, .int .u64 0] 60)).alloc (.cells (toldA l 0) 60)) := balloc (bnew w _) _
        have hrd : Calls Tryd.prog 56 #[.slice A1 m1 c1, .int .i64 1] _ fun e w' => e = .returned (.tuple #[.int .u64 ((Rc.fieldN l 0 1 : Nat) : Int), .int .i64 0]) ∧ _ = w' := read_b _ _ B 1 _ (hbs.below hbw hB) (by omega) (by omega) (by simp [offN]; omega) (by simp; omega)
        obtain ⟨A2, m2, c2, hcut, hbs'⟩ := cut_m hbs 1 1 rfl (by simp [offN]; omega)
        have Hbs := Lib.hid hbs'
        clear hbs hbw hbs'
        unfold toldA at hrd ⊢
        go_wp2_with fail
        refine hrd.mono ?_
        rintro e w1 ⟨rfl, rfl⟩
        go_wp2_with fail
        go_roundg (gk - 1)
        case measure => omega
        case rel => exact ⟨1, by omega, by go_num, ⟨_, _, _, rfl, by have := Hbs.out; rw [List.drop_drop] at this; exact this⟩, rfl⟩
      · have hx := width_at 1 1 1 rfl rfl
        have hbw : Below w.heap.size w ((w.alloc (.cells #[.int .u64 0, .int .u64 0, .int .u64 0, .int .u64 0, .int .u64 0, .int .u64 0] 60)).alloc (.cells (toldA l 1) 60)) := balloc (bnew w _) _
        have hrd : Calls Tryd.prog 56 #[.slice A1 m1 c1, .int .i64 1] _ fun e w' => e = .returned (.tuple #[.int .u64 ((Rc.fieldN l 1 1 : Nat) : Int), .int .i64 0]) ∧ _ = w' := read_b _ _ B 1 _ (hbs.below hbw hB) (by omega) (by omega) (by simp [offN]; omega) (by simp; omega)
        obtain ⟨A2, m2, c2, hcut, hbs'⟩ := cut_m hbs 1 1 rfl (by simp [offN]; omega)
        have Hbs := Lib.hid hbs'
        clear hbs hbw hbs'
        unfold toldA at hrd ⊢
        go_wp2_with fail
        refine hrd.mono ?_
        rintro e w1 ⟨rfl, rfl⟩
        go_wp2_with fail
        go_roundg (gk - 1)
        case measure => omega
        case rel => exact ⟨2, by omega, by go_num, ⟨_, _, _, rfl, by have := Hbs.out; rw [List.drop_drop] at this; exact this⟩, rfl⟩
      · have hx := width_at 2 2 2 rfl rfl
        have hbw : Below w.heap.size w ((w.alloc (.cells #[.int .u64 0, .int .u64 0, .int .u64 0, .int .u64 0, .int .u64 0, .int .u64 0] 60)).alloc (.cells (toldA l 2) 60)) := balloc (bnew w _) _
        have hrd : Calls Tryd.prog 56 #[.slice A1 m1 c1, .int .i64 2] _ fun e w' => e = .returned (.tuple #[.int .u64 ((Rc.fieldN l 2 2 : Nat) : Int), .int .i64 0]) ∧ _ = w' := read_b _ _ B 2 _ (hbs.below hbw hB) (by omega) (by omega) (by simp [offN]; omega) (by simp; omega)
        obtain ⟨A2, m2, c2, hcut, hbs'⟩ := cut_m hbs 2 2 rfl (by simp [offN]; omega)
        have Hbs := Lib.hid hbs'
        clear hbs hbw hbs'
        unfold toldA at hrd ⊢
        go_wp2_with fail
        refine hrd.mono ?_
        rintro e w1 ⟨rfl, rfl⟩
        go_wp2_with fail
        go_roundg (gk - 1)
        case measure => omega
        case rel => exact ⟨3, by omega, by go_num, ⟨_, _, _, rfl, by have := Hbs.out; rw [List.drop_drop] at this; exact this⟩, rfl⟩
      · have hx := width_at 3 3 6 rfl rfl
        have hbw : Below w.heap.size w ((w.alloc (.cells #[.int .u64 0, .int .u64 0, .int .u64 0, .int .u64 0, .int .u64 0, .int .u64 0] 60)).alloc (.cells (toldA l 3) 60)) := balloc (bnew w _) _
        have hrd : Calls Tryd.prog 56 #[.slice A1 m1 c1, .int .i64 6] _ fun e w' => e = .returned (.tuple #[.int .u64 ((Rc.fieldN l 4 6 : Nat) : Int), .int .i64 0]) ∧ _ = w' := read_b _ _ B 6 _ (hbs.below hbw hB) (by omega) (by omega) (by simp [offN]; omega) (by simp; omega)
        obtain ⟨A2, m2, c2, hcut, hbs'⟩ := cut_m hbs 6 6 rfl (by simp [offN]; omega)
        have Hbs := Lib.hid hbs'
        clear hbs hbw hbs'
        unfold toldA at hrd ⊢
        go_wp2_with fail
        refine hrd.mono ?_
        rintro e w1 ⟨rfl, rfl⟩
        go_wp2_with fail
        go_roundg (gk - 1)
        case measure => omega
        case rel => exact ⟨4, by omega, by go_num, ⟨_, _, _, rfl, by have := Hbs.out; rw [List.drop_drop] at this; exact this⟩, rfl⟩
      · have hx := width_at 4 4 3 rfl rfl
        have hbw : Below w.heap.size w ((w.alloc (.cells #[.int .u64 0, .int .u64 0, .int .u64 0, .int .u64 0, .int .u64 0, .int .u64 0] 60)).alloc (.cells (toldA l 4) 60)) := balloc (bnew w _) _
        have hrd : Calls Tryd.prog 56 #[.slice A1 m1 c1, .int .i64 3] _ fun e w' => e = .returned (.tuple #[.int .u64 ((Rc.fieldN l 10 3 : Nat) : Int), .int .i64 0]) ∧ _ = w' := read_b _ _ B 3 _ (hbs.below hbw hB) (by omega) (by omega) (by simp [offN]; omega) (by simp; omega)
        obtain ⟨A2, m2, c2, hcut, hbs'⟩ := cut_m hbs 3 3 rfl (by simp [offN]; omega)
        have Hbs := Lib.hid hbs'
        clear hbs hbw hbs'
        unfold toldA at hrd ⊢
        go_wp2_with fail
        refine hrd.mono ?_
        rintro e w1 ⟨rfl, rfl⟩
        go_wp2_with fail
        go_roundg (gk - 1)
        case measure => omega
        case rel => exact ⟨5, by omega, by go_num, ⟨_, _, _, rfl, by have := Hbs.out; rw [List.drop_drop] at this; exact this⟩, rfl⟩
      · have hx := width_at 5 5 4 rfl rfl
        have hbw : Below w.heap.size w ((w.alloc (.cells #[.int .u64 0, .int .u64 0, .int .u64 0, .int .u64 0, .int .u64 0, .int .u64 0] 60)).alloc (.cells (toldA l 5) 60)) := balloc (bnew w _) _
        have hrd : Calls Tryd.prog 56 #[.slice A1 m1 c1, .int .i64 4] _ fun e w' => e = .returned (.tuple #[.int .u64 ((Rc.fieldN l 13 4 : Nat) : Int), .int .i64 0]) ∧ _ = w' := read_b _ _ B 4 _ (hbs.below hbw hB) (by omega) (by omega) (by simp [offN]; omega) (by simp; omega)
        obtain ⟨A2, m2, c2, hcut, hbs'⟩ := cut_m hbs 4 4 rfl (by simp [offN]; omega)
        have Hbs := Lib.hid hbs'
        clear hbs hbw hbs'
        unfold toldA at hrd ⊢
        go_wp2_with fail
        refine hrd.mono ?_
        rintro e w1 ⟨rfl, rfl⟩
        go_wp2_with fail
        go_roundg (gk - 1)
        case measure => omega
        case rel => exact ⟨6, by omega, by go_num, ⟨_, _, _, rfl, by have := Hbs.out; rw [List.drop_drop] at this; exact this⟩, rfl⟩
    · obtain rfl : j = 6 := by omega
      unfold toldA
      go_wp2_with fail
      exact bodyPost_ret (v := toldV l) (by simp [results, Tryd.results46, go_sem, toldV]) rfl ⟨rfl, balloc (bnew w _) _⟩
end Go.Proofs.YtmiljicohnfejaaDoor
