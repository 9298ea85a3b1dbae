
/-
  slices.Sort at uint64: order2Ordered, medianOrdered, medianAdjacentOrdered, choosePivotOrdered: which place comes out is left open; it lies in the part.
-/
import Derived.Test.YtpjmjcjikaekiaaSxLen
set_option linter.unusedVariables false
set_option linter.unusedSimpArgs false
namespace Go.Proofs.Ytpjmjcjikaekiaa
open Go.RowKit Go.Sort

/-- the row, and beside it a counter that alone has changed -/
structure PvSt (w0 w : World) (blk off m : Nat) (d : Array Int) (Y ty : Nat) : Prop where
  row : RowU w blk off m d
  cnt : ∃ s : Int, w.heap[Y]? = some (.cells #[.int .i64 s] ty (0, 0))
  chg : Chg (fun i => i = Y) w0 w
  ne : Y ≠ blk
section
variable {w0 w w' : World} {blk off m : Nat} {d : Array Int} {Y ty : Nat}
theorem PvSt.lt (h : PvSt w0 w blk off m d Y ty) : Y < w.heap.size := by obtain ⟨s, h⟩ := h.cnt; exact (Array.getElem?_eq_some_iff.1 h).1
theorem PvSt.on (h : PvSt w0 w blk off m d Y ty) (hb : Below w.heap.size w w') : PvSt w0 w' blk off m d Y ty := by
  obtain ⟨s, hs⟩ := h.cnt
  exact ⟨h.row.of_block (hb.block blk h.row.lt), ⟨s, (hb.block Y h.lt).trans hs⟩, h.chg.trans (Chg.of_below (M := fun _ => False) hb) (fun i e => e.elim), h.ne⟩
theorem PvSt.get (h : PvSt w0 w blk off m d Y ty) : ∃ s : Int, w.cell? ⟨Y, 0, none⟩ = some (.int .i64 s) ∧ w.frozen? ⟨Y, 0, none⟩ = false := by
  obtain ⟨s, hs⟩ := h.cnt
  exact ⟨s, by simp [World.cell?, hs], by simp [World.frozen?, hs]⟩
theorem PvSt.start (h : RowU w blk off m d) (ty : Nat) : PvSt (w.alloc (.cells #[.int .i64 0] ty (0, 0))) (w.alloc (.cells #[.int .i64 0] ty (0, 0))) blk off m d w.heap.size ty :=
  ⟨h.of_block (by show (w.heap.push _)[blk]? = _; rw [Array.getElem?_push, if_neg (by have := h.lt; omega)]), ⟨0, by show (w.heap.push _)[w.heap.size]? = _; simp⟩, Chg.refl, by have := h.lt; omega⟩
theorem PvSt.drewN (h : PvSt w0 w blk off m d Y ty) (q : Nat) : PvSt w0 (w.drewN q) blk off m d Y ty := h.on (below_drewN (Below.refl _ _) _)
theorem PvSt.set (h : PvSt w0 w blk off m d Y ty) (x : Int) : PvSt w0 (w.setCell ⟨Y, 0, none⟩ (.int .i64 x)) blk off m d Y ty := by
  obtain ⟨s, hs⟩ := h.cnt
  refine ⟨h.row.of_block ?_, ⟨x, ?_⟩, h.chg.setCell rfl _, h.ne⟩
  · rw [Go.Sort.setCell_eq]
    simp [Go.Sort.mapBlock, Array.getElem?_modify, h.ne]
  · rw [Go.Sort.setCell_eq]
    simp [Go.Sort.mapBlock, Array.getElem?_modify, hs, Go.Sort.onCells]
end
set_option maxRecDepth 100000 in
set_option maxHeartbeats 4000000 in
theorem horder2 (blk off m cap a b Y ty : Nat) (d : Array Int) (w0 w : World) (h : PvSt w0 w blk off m d Y ty) (ha : a < d.size) (hb : b < d.size) (hsz : d.size ≤ 1000000) :
    Calls Try.prog 91 #[slU blk off d.size cap, .int .i64 (a : Int), .int .i64 (b : Int), .pointer (some ⟨Y, 0, none⟩)] w fun e w' => ∃ p q : Nat, e = .returned (.tuple #[.int .i64 (p : Int), .int .i64 (q : Int)]) ∧ ((p = a ∧ q = b) ∨ (p = b ∧ q = a)) ∧ PvSt w0 w' blk off m d Y ty := by
  have HS := Lib.hid h
  obtain ⟨n, hn⟩ : ∃ n, n = d.size := ⟨_, rfl⟩
  have Hn := Lib.hid hn
  rw [← hn] at ha hb hsz
  clear h
  unfold slU
  rw [← hn]
  clear hn
  obtain ⟨G, hG⟩ : ∃ G : Nat → Int, ∀ t, G t = d[t]! := ⟨fun t => d[t]!, fun _ => rfl⟩
  have hcw : ∀ t, t < n → w.cell? ⟨blk, off + t, none⟩ = some (.int .u64 (G t)) := fun t ht => by rw [hG]; exact HS.out.row.cell (by have := Hn.out; omega)
  have hfw : ∀ t, t < n → w.frozen? ⟨blk, off + t, none⟩ = false := fun t _ => HS.out.row.frozen t
  clear hG
  go_enter Try.func91, Try.ntmps91
  go_wp2_with fail
  go_quiet (first | (go_at_call 77; refine Calls.quiet_of_same (hless _ _ _)))
  obtain ⟨W1, hW1⟩ : ∃ W1, W1 = w.drewN nq := ⟨_, rfl⟩
  have hs1 : PvSt w0 W1 blk off m d Y ty := by rw [hW1]; exact HS.out.drewN _
  rw [← hW1]
  clear hW1 hcw hfw
  have HS1 := Lib.hid hs1
  obtain ⟨s, hs⟩ := hs1.cnt
  have hcY : W1.cell? ⟨Y, 0, none⟩ = some (.int .i64 s) := by simp [World.cell?, hs]
  have hfY : W1.frozen? ⟨Y, 0, none⟩ = false := by simp [World.frozen?, hs]
  clear hs hs1
  cases hl : ltInt (G b) (G a)
  · go_wp2_with fail
    go_ret2
    exact ⟨a, b, rfl, .inl ⟨rfl, rfl⟩, HS1.out⟩
  · go_wp2_with fail
    go_ret2
    exact ⟨b, a, rfl, .inr ⟨rfl, rfl⟩, HS1.out.set _⟩
set_option maxRecDepth 100000 in
set_option maxHeartbeats 4000000 in
theorem hmedian (blk off m cap a b c Y ty : Nat) (d : Array Int) (w0 w : World) (h : PvSt w0 w blk off m d Y ty) (ha : a < d.size) (hb : b < d.size) (hc : c < d.size) (hsz : d.size ≤ 1000000) :
    Calls Try.prog 88 #[slU blk off d.size cap, .int .i64 (a : Int), .int .i64 (b : Int), .int .i64 (c : Int), .pointer (some ⟨Y, 0, none⟩)] w fun e w' => ∃ r : Nat, e = .returned (.int .i64 (r : Int)) ∧ (r = a ∨ r = b ∨ r = c) ∧ PvSt w0 w' blk off m d Y ty := by
  have H : ∀ (x y : Nat) (w1 : World), PvSt w0 w1 blk off m d Y ty → x < d.size → y < d.size → Calls Try.prog 91 #[slU blk off d.size cap, .int .i64 (x : Int), .int .i64 (y : Int), .pointer (some ⟨Y, 0, none⟩)] w1 fun e w' => ∃ p q : Nat, e = .returned (.tuple #[.int .i64 (p : Int), .int .i64 (q : Int)]) ∧ ((p = x ∧ q = y) ∨ (p = y ∧ q = x)) ∧ PvSt w0 w' blk off m d Y ty :=
    fun x y w1 h hx hy => horder2 blk off m cap x y Y ty d w0 w1 h hx hy hsz
  unfold slU at H ⊢
  go_enter Try.func88, Try.ntmps88
  go_wp2_with (go_at_call 91; refine (H _ _ _ (by assumption) (by omega) (by omega)).mono ?_; rintro e w1 ⟨p1, q1, rfl, hpq1, hs1⟩)
  go_ret
  rename_i hs1
  exact ⟨_, rfl, by omega, by assumption⟩
set_option maxRecDepth 100000 in
theorem hmedianA (blk off m cap a Y ty : Nat) (d : Array Int) (w0 w : World) (h : PvSt w0 w blk off m d Y ty) (h1 : 1 ≤ a) (ha : a + 1 < d.size) (hsz : d.size ≤ 1000000) :
    Calls Try.prog 87 #[slU blk off d.size cap, .int .i64 (a : Int), .pointer (some ⟨Y, 0, none⟩)] w fun e w' => ∃ r : Nat, e = .returned (.int .i64 (r : Int)) ∧ (r = a - 1 ∨ r = a ∨ r = a + 1) ∧ PvSt w0 w' blk off m d Y ty := by
  have H := hmedian blk off m cap (a - 1) a (a + 1) Y ty d w0 w h (by omega) (by omega) (by omega) hsz
  have e1 : ((a - 1 : Nat) : Int) = (a : Int) - 1 := by omega
  have e2 : ((a + 1 : Nat) : Int) = (a : Int) + 1 := by omega
  rw [e1, e2] at H
  have HH := Lib.hid H
  clear e1 e2 H
  unfold slU at HH ⊢
  go_enter Try.func87, Try.ntmps87
  go_wp2_with (go_at_call 88; refine (HH.out).mono ?_; rintro e w1 ⟨r, rfl, hr, hs1⟩)
  go_ret
  exact ⟨r, rfl, hr, hs1⟩
set_option maxRecDepth 100000 in
set_option maxHeartbeats 8000000 in
/-- choosePivot, of a part of more than twelve: a place in it, and one of three hints -/
theorem hpivot (blk off m cap a b : Nat) (d : Array Int) (w : World) (h : RowU w blk off m d) (hab : a + 12 < b) (hb : b ≤ d.size) (hsz : d.size ≤ 1000000) :
    Calls Try.prog 74 #[slU blk off d.size cap, .int .i64 (a : Int), .int .i64 (b : Int)] w fun e w' => ∃ (p k : Nat), e = .returned (.tuple #[.int .i64 (p : Int), .int .i64 (k : Int)]) ∧ a ≤ p ∧ p < b ∧ k ≤ 2 ∧ StU w w' blk off m d := by
  have H := Lib.hid h
  obtain ⟨n, hn⟩ : ∃ n, n = d.size := ⟨_, rfl⟩
  have Hn := Lib.hid hn
  rw [← hn] at hb hsz
  have hlt := h.lt
  have hm : ∀ (ty : Nat) (w1 : World) (x y z : Nat), PvSt (w.alloc (.cells #[.int .i64 0] ty (0, 0))) w1 blk off m d w.heap.size ty → x < n → y < n → z < n → Calls Try.prog 88 #[.slice (some ⟨blk, off, none⟩) n cap, .int .i64 (x : Int), .int .i64 (y : Int), .int .i64 (z : Int), .pointer (some ⟨w.heap.size, 0, none⟩)] w1 fun e w' => ∃ r : Nat, e = .returned (.int .i64 (r : Int)) ∧ (r = x ∨ r = y ∨ r = z) ∧ PvSt (w.alloc (.cells #[.int .i64 0] ty (0, 0))) w' blk off m d w.heap.size ty :=
    fun ty w1 x y z h hx hy hz => by rw [hn]; exact hmedian blk off m cap x y z _ ty d _ w1 h (by omega) (by omega) (by omega) (by omega)
  have hma : ∀ (ty : Nat) (w1 : World) (x : Nat), PvSt (w.alloc (.cells #[.int .i64 0] ty (0, 0))) w1 blk off m d w.heap.size ty → 1 ≤ x → x + 1 < n → Calls Try.prog 87 #[.slice (some ⟨blk, off, none⟩) n cap, .int .i64 (x : Int), .pointer (some ⟨w.heap.size, 0, none⟩)] w1 fun e w' => ∃ r : Nat, e = .returned (.int .i64 (r : Int)) ∧ (r = x - 1 ∨ r = x ∨ r = x + 1) ∧ PvSt (w.alloc (.cells #[.int .i64 0] ty (0, 0))) w' blk off m d w.heap.size ty :=
    fun ty w1 x h hx hy => by rw [hn]; exact hmedianA blk off m cap x _ ty d _ w1 h (by omega) (by omega) (by omega)
  have HM := Lib.hid hm
  have HMA := Lib.hid hma
  clear hm hma h
  unfold slU
  rw [← hn]
  clear hn
  obtain ⟨l, hl⟩ : ∃ l, l = b - a := ⟨_, rfl⟩
  obtain ⟨q, hq⟩ : ∃ q, q = l / 4 := ⟨_, rfl⟩
  obtain ⟨i, hi⟩ : ∃ i, i = a + q := ⟨_, rfl⟩
  obtain ⟨j, hj⟩ : ∃ j, j = a + q * 2 := ⟨_, rfl⟩
  obtain ⟨k, hk⟩ : ∃ k, k = a + q * 3 := ⟨_, rfl⟩
  have el : (b : Int) - (a : Int) = (l : Int) := by omega
  have eq : (l : Int) / 4 = (q : Int) := by omega
  have ei : (a : Int) + (q : Int) = (i : Int) := by omega
  have ej : (a : Int) + (q : Int) * 2 = (j : Int) := by omega
  have ek : (a : Int) + (q : Int) * 3 = (k : Int) := by omega
  have r1 : a + 3 ≤ i := by omega
  have r2 : i + 3 ≤ j := by omega
  have r3 : j + 3 ≤ k := by omega
  have r4 : k + 3 ≤ b := by omega
  have r5 : k < b := by omega
  have r6 : l ≤ 1000000 := by omega
  have r7 : q ≤ 1000000 := by omega
  have r8 : 8 ≤ (l : Int) := by omega
  clear hl hq hi hj hk
  have HP0 : Hid (∀ ty : Nat, PvSt (w.alloc (.cells #[.int .i64 0] ty (0, 0))) (w.alloc (.cells #[.int .i64 0] ty (0, 0))) blk off m d w.heap.size ty) := Lib.hid fun ty => PvSt.start H.out ty
  have HFIN : Hid (∀ (ty : Nat) (w1 : World), PvSt (w.alloc (.cells #[.int .i64 0] ty (0, 0))) w1 blk off m d w.heap.size ty → StU w w1 blk off m d) := Lib.hid fun ty w1 h =>
    ⟨h.row, (Chg.refl.alloc _).trans h.chg (fun i e => .inr (by omega))⟩
  go_enter Try.func74, Try.ntmps74
  by_cases h50 : 50 ≤ (l : Int)
  all_goals
    go_wp2_with (first
      | (go_at_call 87; refine (HMA.out _ _ _ (by first | exact HP0.out _ | assumption) (by omega) (by omega)).mono ?_; rintro e w1 ⟨r, rfl, hr, hs1⟩; obtain ⟨s, hcY, hfY⟩ := hs1.get)
      | (go_at_call 88; refine (HM.out _ _ _ _ _ (by first | exact HP0.out _ | assumption) (by omega) (by omega) (by omega)).mono ?_; rintro e w1 ⟨r, rfl, hr, hs1⟩; obtain ⟨s, hcY, hfY⟩ := hs1.get))
    all_goals
      go_ret2
      first
        | exact ⟨_, 1, rfl, by omega, by omega, by omega, HFIN.out _ _ (by assumption)⟩
        | exact ⟨_, 2, rfl, by omega, by omega, by omega, HFIN.out _ _ (by assumption)⟩
        | exact ⟨_, 0, rfl, by omega, by omega, by omega, HFIN.out _ _ (by assumption)⟩
end Go.Proofs.Ytpjmjcjikaekiaa
