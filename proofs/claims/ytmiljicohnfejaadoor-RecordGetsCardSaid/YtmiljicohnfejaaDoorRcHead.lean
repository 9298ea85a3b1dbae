
/-
  Layer 8: the walk of head.
-/
import Derived.Test.YtmiljicohnfejaaDoorRcMem
import Derived.Test.YtmiljicohnfejaaDoorPxCon
import Derived.Deep.LoopGhost
set_option linter.unusedVariables false
set_option linter.unusedSimpArgs false
namespace Go.Proofs.YtmiljicohnfejaaDoor
open Go.RowKit

/-- the table, read as a whole -/
theorem width_at (i : Nat) (z n : Int) (hz : z = i) (h : [(1 : Int), 1, 2, 6, 3, 4][i]? = some n) (w : World) : (Instr.index 65 (.agg #[.int .i64 1, .int .i64 1, .int .i64 2, .int .i64 6, .int .i64 3, .int .i64 4]) (.int .i64 z)).run Tryd.prog w = .ok (.int .i64 n) w := by
  subst hz
  rcases i with _ | _ | _ | _ | _ | _ | i
  · cases h; kernel_rfl
  · cases h; kernel_rfl
  · cases h; kernel_rfl
  · cases h; kernel_rfl
  · cases h; kernel_rfl
  · cases h; kernel_rfl
  · simp at h
/-- the table of the fields' widths -/
def WTab (w : World) : Prop := w.cell? ⟨0, 0, none⟩ = some (.int .i64 1) ∧ w.cell? ⟨0, 1, none⟩ = some (.int .i64 1) ∧ w.cell? ⟨0, 2, none⟩ = some (.int .i64 2) ∧
  w.cell? ⟨0, 3, none⟩ = some (.int .i64 6) ∧ w.cell? ⟨0, 4, none⟩ = some (.int .i64 3) ∧ w.cell? ⟨0, 5, none⟩ = some (.int .i64 4)
theorem WTab.lt {w : World} (h : WTab w) : 0 < w.heap.size := block_lt_of_cell h.1
theorem WTab.on {w w' : World} (h : WTab w) (hb : Below w.heap.size w w') : WTab w' := by
  have hl := h.lt
  obtain ⟨h0, h1, h2, h3, h4, h5⟩ := h
  exact ⟨(hb.cell (p := ⟨_, 0, none⟩) hl).trans h0, (hb.cell (p := ⟨_, 1, none⟩) hl).trans h1, (hb.cell (p := ⟨_, 2, none⟩) hl).trans h2, (hb.cell (p := ⟨_, 3, none⟩) hl).trans h3, (hb.cell (p := ⟨_, 4, none⟩) hl).trans h4, (hb.cell (p := ⟨_, 5, none⟩) hl).trans h5⟩

theorem row_step {base n : Nat} {w w' : World} {v : Value} {l : List (Nat × Nat)} {p : Nat × Nat} {m : Nat} (hb : base ≤ w.heap.size) (hm : m = n + p.2)
    (h : w'.ownsRow w.heap.size 5 1 v (n + p.2) (bvs (Rc.rowL l ++ Px.leL p.1 p.2))) : w'.ownsRow base 5 1 v m (bvs (Rc.rowL (l ++ [p]))) := by
  subst hm
  rw [Rc.rowL_snoc]
  exact own_base h hb

set_option maxRecDepth 100000 in
set_option maxHeartbeats 4000000 in
theorem rhead_b (v : Value) (r : Rc.Rec) (B : Nat) (w : World) (h : RecV w B v r) (hm : Rc.mayB r = true) (ht : WTab w) :
    Calls Tryd.prog 34 #[v] w fun e w' => ∃ v', e = .returned v' ∧ w'.ownsRow w.heap.size 5 1 v' 17 (bvs (Rc.headL r)) ∧ Below w.heap.size w w' := by
  obtain ⟨kv, vv, rfl, ⟨A, c, rfl, _, _⟩, ⟨A', c', rfl, _, _⟩⟩ := h
  obtain ⟨h1, h2, h3, h4, h5, h6, h7, h8, h9, h10, h11⟩ := Rc.may_bounds hm
  obtain ⟨ht0, ht1, ht2, ht3, ht4, ht5⟩ := ht
  have hlt : 0 < w.heap.size := block_lt_of_cell ht0
  obtain ⟨seq, hseq⟩ := Int.eq_ofNat_of_zero_le (show 0 ≤ r.seq by omega)
  obtain ⟨kind, hkind⟩ := Int.eq_ofNat_of_zero_le (show 0 ≤ r.kind by omega)
  obtain ⟨seg, hseg⟩ := Int.eq_ofNat_of_zero_le (show 0 ≤ r.seg by omega)
  obtain ⟨off, hoff⟩ := Int.eq_ofNat_of_zero_le (show 0 ≤ r.off by omega)
  have hT : Hid (Rc.headL r = Rc.rowL [(kind, 1), (r.key.length, 1), (r.val.length, 2), (seq, 6), (seg, 3), (off, 4)]) := Lib.hid (by
    unfold Rc.headL Rc.told
    rw [hseq, hkind, hseg, hoff]
    rfl)
  unfold recV
  rw [hseq, hkind, hseg, hoff]
  rw [hseq] at h1 h2
  rw [hkind] at h9 h10
  rw [hseg] at h5 h6
  rw [hoff] at h7 h8
  clear hseq hkind hseg hoff hm
  generalize r.key.length = kl at *
  generalize r.val.length = vl at *
  go_enter Tryd.func34, Tryd.ntmps34
  go_wp2_with fail
  have b0 := balloc (bnew w (.cells #[.int .u64 (seq : Int), .int .i64 (kind : Int), .slice A kl c, .slice A' vl c', .int .u32 (seg : Int), .int .u32 (off : Int)] 28)) (.cells #[.int .u64 (kind : Int), .int .u64 (kl : Int), .int .u64 (vl : Int), .int .u64 (seq : Int), .int .u64 (seg : Int), .int .u64 (off : Int)] 60)
  clear ht0 ht1 ht2 ht3 ht4 ht5
  go_loopg [4, 30] 6 (fun k o i wr => ∃ j : Nat, j + k = 6 ∧ i = .int .i64 j ∧ wr.ownsRow w.heap.size 5 1 o (Rc.rowL ([(kind, 1), (kl, 1), (vl, 2), (seq, 6), (seg, 3), (off, 4)].take j)).length (bvs (Rc.rowL ([(kind, 1), (kl, 1), (vl, 2), (seq, 6), (seg, 3), (off, 4)].take j))) ∧ Below w.heap.size w wr ∧
    Below (w.heap.size + 1 + 1) ((w.alloc (.cells #[.int .u64 (seq : Int), .int .i64 (kind : Int), .slice A kl c, .slice A' vl c', .int .u32 (seg : Int), .int .u32 (off : Int)] 28)).alloc (.cells #[.int .u64 (kind : Int), .int .u64 (kl : Int), .int .u64 (vl : Int), .int .u64 (seq : Int), .int .u64 (seg : Int), .int .u64 (off : Int)] 60)) wr)
  case atStart => exact ⟨0, by omega, rfl, World.ownsRow_nil _ _ _ _, b0, Below.refl _ _⟩
  case round =>
    obtain ⟨j, hj, rfl, hown, hb, hb2⟩ := hrel
    by_cases hlt : j < 6
    · obtain ⟨c0, c1, c2, c3, c4, c5⟩ := box6 hb2 (by simp)
      simp only [World.size_alloc] at c0 c1 c2 c3 c4 c5
      have hsz := hb.size
      have hsz2 := hb2.size
      simp only [World.size_alloc] at hsz2
      have Hown := Lib.hid hown
      have Hb := Lib.hid hb
      have Hb2 := Lib.hid hb2
      clear hown hb hb2 b0
      have hjj : j = 0 ∨ j = 1 ∨ j = 2 ∨ j = 3 ∨ j = 4 ∨ j = 5 := by omega
      rcases hjj with rfl | rfl | rfl | rfl | rfl | rfl
      · have hx := width_at 0 0 1 rfl rfl
        go_wp2_with fail
        refine (fixed_b _ (Rc.rowL ([(kind, 1), (kl, 1), (vl, 2), (seq, 6), (seg, 3), (off, 4)].take 0)) kind 1 _ (Bs.of_own Hown.out) (by omega) (by omega) (by omega) (by omega) (Int.ediv_eq_zero_of_lt (by omega) (by simp; omega)) (by simp [Rc.rowL, Px.leL_length])).mono ?_
        rintro e w1 ⟨v2, rfl, hown2, b2⟩
        go_wp2_with fail
        go_roundg (gk - 1)
        case measure => omega
        case rel => exact ⟨1, by omega, by go_num, row_step (p := (kind, 1)) (l := [(kind, 1), (kl, 1), (vl, 2), (seq, 6), (seg, 3), (off, 4)].take 0) hsz (by simp [Rc.rowL, Px.leL_length]) hown2, bstep Hb.out b2, Hb2.out.trans (b2.mono hsz2)⟩
      · have hx := width_at 1 1 1 rfl rfl
        go_wp2_with fail
        refine (fixed_b _ (Rc.rowL ([(kind, 1), (kl, 1), (vl, 2), (seq, 6), (seg, 3), (off, 4)].take 1)) kl 1 _ (Bs.of_own Hown.out) (by omega) (by omega) (by omega) (by omega) (Int.ediv_eq_zero_of_lt (by omega) (by simp; omega)) (by simp [Rc.rowL, Px.leL_length])).mono ?_
        rintro e w1 ⟨v2, rfl, hown2, b2⟩
        go_wp2_with fail
        go_roundg (gk - 1)
        case measure => omega
        case rel => exact ⟨2, by omega, by go_num, row_step (p := (kl, 1)) (l := [(kind, 1), (kl, 1), (vl, 2), (seq, 6), (seg, 3), (off, 4)].take 1) hsz (by simp [Rc.rowL, Px.leL_length]) hown2, bstep Hb.out b2, Hb2.out.trans (b2.mono hsz2)⟩
      · have hx := width_at 2 2 2 rfl rfl
        go_wp2_with fail
        refine (fixed_b _ (Rc.rowL ([(kind, 1), (kl, 1), (vl, 2), (seq, 6), (seg, 3), (off, 4)].take 2)) vl 2 _ (Bs.of_own Hown.out) (by omega) (by omega) (by omega) (by omega) (Int.ediv_eq_zero_of_lt (by omega) (by simp; omega)) (by simp [Rc.rowL, Px.leL_length])).mono ?_
        rintro e w1 ⟨v2, rfl, hown2, b2⟩
        go_wp2_with fail
        go_roundg (gk - 1)
        case measure => omega
        case rel => exact ⟨3, by omega, by go_num, row_step (p := (vl, 2)) (l := [(kind, 1), (kl, 1), (vl, 2), (seq, 6), (seg, 3), (off, 4)].take 2) hsz (by simp [Rc.rowL, Px.leL_length]) hown2, bstep Hb.out b2, Hb2.out.trans (b2.mono hsz2)⟩
      · have hx := width_at 3 3 6 rfl rfl
        go_wp2_with fail
        refine (fixed_b _ (Rc.rowL ([(kind, 1), (kl, 1), (vl, 2), (seq, 6), (seg, 3), (off, 4)].take 3)) seq 6 _ (Bs.of_own Hown.out) (by omega) (by omega) (by omega) (by omega) (Int.ediv_eq_zero_of_lt (by omega) (by simp; omega)) (by simp [Rc.rowL, Px.leL_length])).mono ?_
        rintro e w1 ⟨v2, rfl, hown2, b2⟩
        go_wp2_with fail
        go_roundg (gk - 1)
        case measure => omega
        case rel => exact ⟨4, by omega, by go_num, row_step (p := (seq, 6)) (l := [(kind, 1), (kl, 1), (vl, 2), (seq, 6), (seg, 3), (off, 4)].take 3) hsz (by simp [Rc.rowL, Px.leL_length]) hown2, bstep Hb.out b2, Hb2.out.trans (b2.mono hsz2)⟩
      · have hx := width_at 4 4 3 rfl rfl
        go_wp2_with fail
        refine (fixed_b _ (Rc.rowL ([(kind, 1), (kl, 1), (vl, 2), (seq, 6), (seg, 3), (off, 4)].take 4)) seg 3 _ (Bs.of_own Hown.out) (by omega) (by omega) (by omega) (by omega) (Int.ediv_eq_zero_of_lt (by omega) (by simp; omega)) (by simp [Rc.rowL, Px.leL_length])).mono ?_
        rintro e w1 ⟨v2, rfl, hown2, b2⟩
        go_wp2_with fail
        go_roundg (gk - 1)
        case measure => omega
        case rel => exact ⟨5, by omega, by go_num, row_step (p := (seg, 3)) (l := [(kind, 1), (kl, 1), (vl, 2), (seq, 6), (seg, 3), (off, 4)].take 4) hsz (by simp [Rc.rowL, Px.leL_length]) hown2, bstep Hb.out b2, Hb2.out.trans (b2.mono hsz2)⟩
      · have hx := width_at 5 5 4 rfl rfl
        go_wp2_with fail
        refine (fixed_b _ (Rc.rowL ([(kind, 1), (kl, 1), (vl, 2), (seq, 6), (seg, 3), (off, 4)].take 5)) off 4 _ (Bs.of_own Hown.out) (by omega) (by omega) (by omega) (by omega) (Int.ediv_eq_zero_of_lt (by omega) (by simp; omega)) (by simp [Rc.rowL, Px.leL_length])).mono ?_
        rintro e w1 ⟨v2, rfl, hown2, b2⟩
        go_wp2_with fail
        go_roundg (gk - 1)
        case measure => omega
        case rel => exact ⟨6, by omega, by go_num, row_step (p := (off, 4)) (l := [(kind, 1), (kl, 1), (vl, 2), (seq, 6), (seg, 3), (off, 4)].take 5) hsz (by simp [Rc.rowL, Px.leL_length]) hown2, bstep Hb.out b2, Hb2.out.trans (b2.mono hsz2)⟩
    · obtain rfl : j = 6 := by omega
      go_wp2_with fail
      go_ret
      refine ⟨_, rfl, ?_, hb⟩
      rw [hT.out]
      have e : (Rc.rowL [(kind, 1), (kl, 1), (vl, 2), (seq, 6), (seg, 3), (off, 4)]).length = 17 := by simp [Rc.rowL, Px.leL_length]
      have h6 : [(kind, 1), (kl, 1), (vl, 2), (seq, 6), (seg, 3), (off, 4)].take 6 = [(kind, 1), (kl, 1), (vl, 2), (seq, 6), (seg, 3), (off, 4)] := rfl
      rw [h6, e] at hown
      exact hown
end Go.Proofs.YtmiljicohnfejaaDoor
