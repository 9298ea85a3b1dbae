
/-
  Layer 4: bytes.Repeat of one byte, by the walk over the library's own text.
-/
import Derived.Test.YtaekndhchdpobaaKyMem
import Derived.Lib.MakeNoZero
import Derived.Laws.CopyOwn
import Derived.Laws.Externs
import Derived.Deep.RegionLaw
import Derived.Deep.RegionHeld3
import Derived.Test.YtaekndhchdpobaaRegion
import Derived.Deep.LoopGhost
set_option linter.unusedVariables false
set_option linter.unusedSimpArgs false
namespace Go.Proofs.Ytaekndhchdpobaa
open Go.RowKit

theorem and_low (c : Nat) (h : c < 4294967296) : bits .and .u64 (c : Int) 4294967295 = (c : Int) := by
  rw [show (4294967295 : Int) = ((2 ^ 32 - 1 : Nat) : Int) by rfl, u64_and_nat _ _ (by omega) (by decide), Nat.and_two_pow_sub_one_eq_mod, Nat.mod_eq_of_lt h]
theorem mul64_small (a b : Nat) (w : World) (ha : a < 65536) (hb : b < 65536) :
    Calls Try.prog 77 #[.int .u64 (a : Int), .int .u64 (b : Int)] w fun e w' => e = .returned (.tuple #[.int .u64 0, .int .u64 ((a * b : Nat) : Int)]) ∧ w = w' := by
  have e1 := and_low a (by omega)
  have e2 := and_low b (by omega)
  have e3 : (a : Int) / 4294967296 = 0 := by omega
  have e4 : (b : Int) / 4294967296 = 0 := by omega
  have hm : a * b < 65536 * 65536 := Nat.mul_lt_mul'' ha hb
  obtain ⟨p, hp⟩ : ∃ p, a * b = p := ⟨_, rfl⟩
  rw [hp] at hm ⊢
  have e5 : (a : Int) * (b : Int) = (p : Int) := by rw [← hp]; simp
  have e6 : (p : Int) / 4294967296 = 0 := by omega
  have e7 : bits .and .u64 0 4294967295 = 0 := by decide
  clear hp
  go_enter Try.func77, Try.ntmps77
  go_wp2_with fail
  go_ret2
  exact ⟨rfl, rfl⟩
theorem mul_small (a b : Nat) (w : World) (ha : a < 65536) (hb : b < 65536) :
    Calls Try.prog 58 #[.int .u64 (a : Int), .int .u64 (b : Int)] w fun e w' => e = .returned (.tuple #[.int .u64 0, .int .u64 ((a * b : Nat) : Int)]) ∧ w = w' := by
  go_enter Try.func58, Try.ntmps58
  go_wp2_with fail
  refine (mul64_small a b _ ha hb).mono ?_
  rintro e w1 ⟨rfl, rfl⟩
  go_wp2_with fail
  go_ret2
  exact ⟨rfl, rfl⟩

theorem heap_new (w : World) (cs : Array Value) (t : TypeId) : (w.alloc (.cells cs t)).heap[w.heap.size]? = some (.cells cs.toList.toArray t (0, 0)) := by show (w.heap.push _)[w.heap.size]? = _; simp
/-- the row that is being filled -/
def RepRel (w : World) (g : Nat) (x : UInt8) (m p : Nat) : Prop := ∃ rest : List Value, w.heap[g]? = some (.cells (bvs (List.replicate p x) ++ rest).toArray 5 (0, 0)) ∧ rest.length = m - p
theorem RepRel.start {w : World} {g : Nat} {x : UInt8} {cs : Array Value} (h : w.heap[g]? = some (.cells (splice cs.toList 0 [bv x]).toArray 5 (0, 0))) (h1 : 1 ≤ cs.size) : RepRel w g x cs.size 1 :=
  ⟨cs.toList.drop 1, by rw [h]; simp [splice, bvs], by simp⟩
theorem RepRel.rd {w : World} {g : Nat} {x : UInt8} {m p : Nat} (h : RepRel w g x m p) (h1 : 1 ≤ p) : Rd w w.heap.size (some ⟨g, 0, none⟩) (bvs (List.replicate p x)) := fun _ => by
  obtain ⟨rest, h, _⟩ := h
  have hl : g < w.heap.size := by
    rcases Nat.lt_or_ge g w.heap.size with h2 | h2
    · exact h2
    · rw [Array.getElem?_eq_none h2] at h; cases h
  refine ⟨g, 0, rfl, hl, fun j u hu => ?_⟩
  have hj : j < p := by
    rcases Nat.lt_or_ge j p with h2 | h2
    · exact h2
    · rw [List.getElem?_eq_none (by simp [bvs]; exact h2)] at hu; cases hu
  simp only [World.cell?, h]
  simp
  rw [List.getElem?_append_left (by simp [bvs]; exact hj)]
  exact hu
theorem RepRel.next {w : World} {g : Nat} {x : UInt8} {m p q : Nat} {rest : List Value} (h : w.heap[g]? = some (.cells (splice (bvs (List.replicate p x) ++ rest) p (bvs (List.replicate q x))).toArray 5 (0, 0))) (hr : rest.length = m - p) (hq : p + q ≤ m) : RepRel w g x m (p + q) := by
  refine ⟨rest.drop q, ?_, by rw [List.length_drop]; omega⟩
  rw [h]
  unfold splice
  rw [List.take_left' (by simp [bvs]), List.drop_append]
  simp [bvs, ← List.replicate_append_replicate]

set_option maxRecDepth 100000 in
set_option maxHeartbeats 4000000 in
theorem rep_any (x : UInt8) (c : Nat) (v : Value) (B : Nat) (w : World) (h : Bs w B v [x]) (h0 : 1 ≤ c) (h1 : c ≤ 64) (hB : B ≤ w.heap.size) :
    Calls Try.prog 46 #[v, .int .i64 (c : Int)] w fun e w' => ∃ A, e = .returned (.slice A c c) ∧ Rd w' w'.heap.size A (bvs (List.replicate c x)) ∧ Below w.heap.size w w' := by
  obtain ⟨A, cp, rfl, hcp, hr⟩ := h
  simp only [List.length_cons, List.length_nil, Nat.zero_add] at *
  obtain ⟨b, o, rfl, hb, hcell⟩ := hr (by simp [bvs])
  have hc0 : w.cell? ⟨b, o, none⟩ = some (.int .u8 (x.toNat : Int)) := hcell 0 _ rfl
  obtain ⟨cs, hrunM, hle, _⟩ := Lib.run_makeNoZero (P := Try.prog) w #[3] 53 5 Try.underlying53 c (by omega)
  have HM := Lib.hid hrunM
  clear hcell hr hrunM
  go_enter Try.func46, Try.ntmps46
  go_wp2_with fail
  refine (mul_small 1 c _ (by omega) (by omega)).mono ?_
  rintro e w1 ⟨rfl, rfl⟩
  rw [Nat.one_mul]
  go_wp2_with fail
  rw [run_callFunc_extern Try.func59 (by kernel_rfl) (by kernel_rfl) (by kernel_rfl) (e := Extern.BytealgMakeNoZero.makeNoZero #[3] #[53]) (by kernel_rfl), HM.out]
  simp only [Result.andThen]
  rw [Oper.upon_value]
  have hmin : ([bv x] : List Value).length = Nat.min 1 c := by show 1 = min 1 c; omega
  have Hmin := Lib.hid hmin
  clear hmin
  go_wp2_with ((refine wpList_copy_splice rfl (.tmp 58) (.tmp 59) 53 53 rfl 5 Try.underlying53 (by kernel_rfl) (some ⟨w.heap.size, 0, none⟩) (some ⟨b, o, none⟩) c c 1 cp rfl rfl w.heap.size 0 cs.toList 5 (show (w.alloc _).heap[w.heap.size]? = _ from heap_new w _ _) [bv x] Hmin.out (fun _ => ⟨rfl, _, rfl, fun j v hj => by rcases j with _ | j; (simp at hj; subst hj; rw [add_none]; exact (World.cell?_alloc_lt _ _ _ (show b < w.heap.size by omega)).trans hc0); simp at hj⟩) (by simp; omega) (by intro v hv; simp at hv; subst hv; rfl) w.heap.size w (((Below.refl _ _).drew.drew).alloc (by simp) _) (Nat.le_refl _) ?_); intro w2 HG2 hB2)
  have HR : Hid (RepRel w2 w.heap.size x cs.size 1) := Lib.hid (RepRel.start HG2.out (by omega))
  have HB := Lib.hid hB2
  clear HG2 hB2
  go_loopw [10] (fun i wr => ∃ p : Nat, 1 ≤ p ∧ p ≤ c ∧ i = .int .i64 p ∧ RepRel wr w.heap.size x cs.size p ∧ Below w.heap.size w wr) (fun i _ => c - (intOf i).toNat)
  case atStart => exact ⟨1, by omega, by omega, rfl, HR.out, HB.out⟩
  case round =>
    obtain ⟨p, hp1, hpc, rfl, hrel, hb1⟩ := hrel
    have HR1 := Lib.hid hrel
    have HB1 := Lib.hid hb1
    clear HR HB hrel hb1
    by_cases hlt : p < c
    · have hmin : min (p : Int) (c : Int) = (p : Int) := by omega
      have hs1 : ∀ w', (Instr.sliceAt 53 (.slice (some ⟨w.heap.size, 0, none⟩) c c) (some (.int .i64 (p : Int))) none none).run Try.prog w' = .ok (.slice (some ⟨w.heap.size, p, none⟩) (c - p) (c - p)) w' := fun w' => by
        rw [run_cut_l _ c c p (by omega), if_neg (by omega)]
        simp [add_none]
      have hs2 : ∀ w', (Instr.sliceAt 53 (.slice (some ⟨w.heap.size, 0, none⟩) c c) none (some (.int .i64 (p : Int))) none).run Try.prog w' = .ok (.slice (some ⟨w.heap.size, 0, none⟩) p c) w' := fun w' => by
        rw [run_sliceAt_slice _ 53 _ _ _ _ elBytes, run_slice_h _ 53 _ c c elBytes .i64 p (by omega) (by omega)]
        have : (sizeOf (Try.prog.elem 53)).run Try.prog w' = .ok 1 w' := by kernel_rfl
        rw [this]
        simp [Result.andThen, sliced, add_none]
      obtain ⟨q, hq⟩ : ∃ q, q = min p (c - p) := ⟨_, rfl⟩
      have hq1 : 1 ≤ q := by omega
      have hq2 : p + q ≤ c := by omega
      have hq3 : q ≤ p := by omega
      obtain ⟨X, hX⟩ : ∃ X, X = bvs (List.replicate q x) := ⟨_, rfl⟩
      have hXl : X.length = q := by rw [hX]; simp [bvs]
      have hsum : IntKind.i64.wrap ((p : Int) + (X.length : Int)) = ((p + q : Nat) : Int) := by rw [IntWalk.i64_in _ (by omega)]; omega
      have HQ := Lib.hid (show X.length = Nat.min p (c - p) by rw [hXl, hq])
      have HX := Lib.hid hX
      have hXq : X.length ≤ q := by omega
      have hX1 : ∀ u ∈ X, u.oneCell' = true := by rw [hX]; exact bvs_one _
      have HX1 := Lib.hid hX1
      have hrd := HR1.out.rd hp1
      obtain ⟨rest, hrow, hrest⟩ := HR1.out
      have HRow := Lib.hid hrow
      have HRest := Lib.hid hrest
      have HRd := Lib.hid hrd
      have HPos : Hid (0 < X.length → ∃ ad, some (⟨w.heap.size, 0, none⟩ : Addr) = some ad ∧ ∀ j v, X[j]? = some v → wr.cell? (ad.add j) = some v) := Lib.hid (fun _ => ⟨_, rfl, fun j v hj => by
        obtain ⟨_, _, e1, _, hcell⟩ := hrd (by intro e; have := congrArg List.length e; rw [bvs_length, List.length_replicate, List.length_nil] at this; omega)
        injection e1 with e1
        injection e1 with e1 e2
        subst e1
        subst e2
        rw [add_none]
        refine hcell j v ?_
        have hjq : j < q := by
          rcases Nat.lt_or_ge j q with h2 | h2
          · exact h2
          · rw [List.getElem?_eq_none (by omega)] at hj; cases hj
        rw [← hj, hX]
        simp [bvs, List.getElem?_replicate, hjq, show j < p by omega]⟩)
      have HFit : Hid (p + X.length ≤ (bvs (List.replicate p x) ++ rest).length) := Lib.hid (by rw [List.length_append, hrest]; simp [bvs]; omega)
      clear hq hX hXl hX1 hrow hrest hrd
      go_wp2_with fail
      refine wp_region_noPanic ?_
      refine wp_region_held_drew (S := fun _ => True) (by kernel_rfl) trivial (fun hHeld => ?_)
      refine wpAnyH_take (i := 0) (v := ?_) opAt_0 (by kernel_rfl) (by kernel_rfl) (by kernel_rfl) (fun _ _ _ h => h) (Or.inl ⟨by rfl, ?_⟩) trivial ?_
      rotate_left
      · (intro w hSw; go_simp; try with_reducible rfl)
      try simp only [Act.put, List.setIfInBounds_toArray, List.set_cons_zero, List.set_cons_succ]
      refine wpAnyH_take (i := 1) (v := ?_) opAt_1 (by kernel_rfl) (by kernel_rfl) (by kernel_rfl) (fun _ _ _ h => h) (Or.inl ⟨by rfl, ?_⟩) trivial ?_
      rotate_left
      · (intro w hSw; go_simp; try with_reducible rfl)
      try simp only [Act.put, List.setIfInBounds_toArray, List.set_cons_zero, List.set_cons_succ]
      refine wpAnyH_take (i := 2) (v := ?_) opAt_2 (by kernel_rfl) (by kernel_rfl) (by kernel_rfl) (fun _ _ _ h => h) (Or.inl ⟨by rfl, ?_⟩) trivial ?_
      rotate_left
      · (intro w hSw; go_simp; try with_reducible rfl)
      try simp only [Act.put, List.setIfInBounds_toArray, List.set_cons_zero, List.set_cons_succ]
      refine wpAnyH_take (i := 3) (v := ?_) opAt_3 (by kernel_rfl) (by kernel_rfl) (by kernel_rfl) (fun _ _ _ h => h) (Or.inl ⟨by rfl, ?_⟩) trivial ?_
      rotate_left
      · (intro w hSw; go_simp; try with_reducible rfl)
      try simp only [Act.put, List.setIfInBounds_toArray, List.set_cons_zero, List.set_cons_succ]
      refine wpAnyH_take (i := 4) (v := ?_) opAt_4 (by kernel_rfl) (by kernel_rfl) (by kernel_rfl) (fun _ _ _ h => h) (Or.inl ⟨by rfl, ?_⟩) trivial ?_
      rotate_left
      · (intro w hSw; go_simp; try with_reducible rfl)
      try simp only [Act.put, List.setIfInBounds_toArray, List.set_cons_zero, List.set_cons_succ]
      refine wpAnyH_take (i := 5) (v := ?_) opAt_5 (by kernel_rfl) (by kernel_rfl) (by kernel_rfl) (fun _ _ _ h => h) (Or.inl ⟨by rfl, ?_⟩) trivial ?_
      rotate_left
      · (intro w hSw; go_simp; try with_reducible rfl)
      try simp only [Act.put, List.setIfInBounds_toArray, List.set_cons_zero, List.set_cons_succ]
      refine wpAnyH_take (i := 6) (v := ?_) opAt_6 (by kernel_rfl) (by kernel_rfl) (by kernel_rfl) (fun _ _ _ h => h) (Or.inl ⟨by rfl, ?_⟩) trivial ?_
      rotate_left
      · (intro w hSw; go_simp; try with_reducible rfl)
      try simp only [Act.put, List.setIfInBounds_toArray, List.set_cons_zero, List.set_cons_succ]
      refine wpAnyH_ready (rs := [7]) (by kernel_rfl) (by simp) ?_
      refine AllReadyH.cons rfl (fun K hK => ?_) AllReadyH.nil
      refine step_copy_splice (o := (⟨some 74, _, _, _, _, _⟩ : Oper)) rfl (.tmp 70) (.tmp 73) 53 53 rfl 5 Try.underlying53 (by kernel_rfl) (some ⟨w.heap.size, p, none⟩) (some ⟨w.heap.size, 0, none⟩) (c - p) (c - p) p c rfl rfl w.heap.size p (bvs (List.replicate p x) ++ rest) 5 HRow.out X HQ.out (fun h => ⟨rfl, HPos.out h⟩) HFit.out HX1.out w.heap.size w HB1.out.drew (Nat.le_refl _) ?_
      intro w4 HG4 hB4
      dsimp only [Act.put, Array.getElem_toList, List.getElem_toArray, List.getElem_cons_succ, List.getElem_cons_zero]
      refine hK.out _ _ trivial (fun _ => ?_)
      try simp only [Act.put, List.setIfInBounds_toArray, List.set_cons_zero, List.set_cons_succ]
      clear hK K
      refine wpAnyH_take (i := 8) (v := ?_) opAt_8 (by kernel_rfl) (by kernel_rfl) (by kernel_rfl) (fun _ _ _ h => h) (Or.inl ⟨by rfl, ?_⟩) trivial ?_
      rotate_left
      · (intro w hSw; go_simp; try with_reducible rfl)
      try simp only [Act.put, List.setIfInBounds_toArray, List.set_cons_zero, List.set_cons_succ]
      refine wpAnyH_take (i := 9) (v := ?_) opAt_9 (by kernel_rfl) (by kernel_rfl) (by kernel_rfl) (fun _ _ _ h => h) (Or.inl ⟨by rfl, ?_⟩) trivial ?_
      rotate_left
      · (intro w hSw; go_simp; try with_reducible rfl)
      try simp only [Act.put, List.setIfInBounds_toArray, List.set_cons_zero, List.set_cons_succ]
      refine wpAnyH_done (by kernel_rfl) ?_ _
      refine NoPanic.normal ?_
      have HN := Lib.hid (RepRel.next (x := x) (q := q) (by rw [← HX.out]; exact HG4.out) HRest.out (by omega))
      go_roundw
      case rel => exact ⟨_, _, _, _, _, _, _, _, _, _, _, _, _, _, _, _, _, ⟨p + q, by omega, by omega, by rw [Int.natCast_add], HN.out, hB4⟩, rfl⟩
      case measure => simp [intOf]; omega
    · obtain rfl : p = c := by omega
      go_wp2_with fail
      go_ret
      exact ⟨_, rfl, HR1.out.rd (by omega), HB1.out⟩
end Go.Proofs.Ytaekndhchdpobaa
