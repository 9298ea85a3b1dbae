
/-
  Layer 5: Read.
-/
import Derived.Test.YtmlbhconbabdhaaFxCopy
import Derived.Lib.AppendZerosOnto
set_option linter.unusedVariables false
set_option linter.unusedSimpArgs false
namespace Go.Proofs.Ytmlbhconbabdhaa
open Go.RowKit

/-- a place, brought within a row -/
def clampN (x : Int) (l : Nat) : Nat := min x.toNat l
theorem clampN_eq (x : Int) (l : Nat) : min (max x 0) (l : Int) = (clampN x l : Int) := by unfold clampN; omega
theorem clampN_le (x : Int) (l : Nat) : clampN x l ≤ l := Nat.min_le_right _ _
theorem clampN_mono {x y : Int} (h : x ≤ y) (l : Nat) : clampN x l ≤ clampN y l := by unfold clampN; omega
theorem read_parts (a b : List UInt8) (at_ n : Nat) (h : at_ + n ≤ a.length + b.length) :
    (a.drop (clampN (at_ : Int) a.length)).take (clampN ((at_ + n : Nat) : Int) a.length - clampN (at_ : Int) a.length) ++
    (b.drop (clampN ((at_ : Int) - (a.length : Int)) b.length)).take (clampN (((at_ + n : Nat) : Int) - (a.length : Int)) b.length - clampN ((at_ : Int) - (a.length : Int)) b.length) = ((a ++ b).drop at_).take n := by
  rw [List.drop_append, List.take_append]
  have e1 : clampN (at_ : Int) a.length = min at_ a.length := by unfold clampN; omega
  have e2 : clampN ((at_ + n : Nat) : Int) a.length = min (at_ + n) a.length := by unfold clampN; omega
  have e3 : clampN ((at_ : Int) - (a.length : Int)) b.length = at_ - a.length := by unfold clampN; omega
  have e4 : clampN (((at_ + n : Nat) : Int) - (a.length : Int)) b.length = at_ + n - a.length := by unfold clampN; omega
  rw [e1, e2, e3, e4]
  congr 1
  · by_cases hk : at_ ≤ a.length
    · rw [show min at_ a.length = at_ by omega, List.take_eq_take_iff, List.length_drop]
      omega
    · rw [List.drop_eq_nil_of_le (by omega), List.drop_eq_nil_of_le (by omega)]
      simp
  · congr 1
    rw [List.length_drop]
    omega

theorem fwithin1 {w : World} {X n c i : Nat} {A : Option Addr} {x : Int} (hX : w.cell? ⟨X, 0, none⟩ = some (.slice A n c)) (hi : min (max x 0) (n : Int) = (i : Int)) :
    Calls Try.prog 29 #[.int .i64 x, .pointer (some ⟨X, 0, none⟩)] w fun e w' => e = .returned (.int .i64 (i : Int)) ∧ w = w' := by
  go_enter Try.func29, Try.ntmps29
  go_wp2
  go_ret
  exact ⟨rfl, rfl⟩

set_option maxRecDepth 100000 in
set_option maxHeartbeats 4000000 in
theorem fwithin {w : World} {B : Nat} {v : Value} {l : List UInt8} (hv : Bs w B v l) (hB : B ≤ w.heap.size) (x y : Int) (hxy : x ≤ y) (hl : l.length ≤ 10000000) :
    Calls Try.prog 27 #[v, .int .i64 x, .int .i64 y] w fun e w' => ∃ v', e = .returned v' ∧ Bs w' w'.heap.size v' ((l.drop (clampN x l.length)).take (clampN y l.length - clampN x l.length)) ∧ Below w.heap.size w w' := by
  have hmf : ∀ (fn : Fn) (first cap : Array Value) (w : World), (Instr.makeFunc fn first cap).run Try.prog w = .ok (.func fn first cap) w := fun _ _ _ _ => rfl
  obtain ⟨A, c, rfl, hc, hr⟩ := hv
  obtain ⟨n, hn⟩ : ∃ n, n = l.length := ⟨_, rfl⟩
  obtain ⟨i, hi⟩ : ∃ i, i = clampN x n := ⟨_, rfl⟩
  obtain ⟨k, hk⟩ : ∃ k, k = clampN y n := ⟨_, rfl⟩
  have hix := clampN_eq x n
  have hky := clampN_eq y n
  have hkn := clampN_le y n
  have hik := clampN_mono hxy n
  rw [← hi] at hix hik
  rw [← hk] at hky hkn hik
  rw [← hn]
  rw [← hi, ← hk]
  rw [← hn] at hc hl
  obtain ⟨m, hm⟩ : ∃ m, k = i + m := ⟨k - i, by omega⟩
  obtain ⟨A', c', hrun, hmc, hrd⟩ := cut_lh A n c i k m hm (by omega)
  have Hn := Lib.hid hn
  have Hm := Lib.hid hm
  have HRd := Lib.hid hrd
  have Hix := Lib.hid hix
  have Hky := Lib.hid hky
  have HB := Lib.hid hB
  have Hc : Hid (l.length ≤ c) := by rw [← hn]; exact hc
  have HR := Lib.hid (hr.mono hB)
  clear hr hn hi hk hm hrd hix hky hB
  go_enter Try.func27, Try.ntmps27
  go_wp2_with fail
  have hnew : Below w.heap.size w (w.alloc (.cells #[.slice A n c] 22)).drew := ((Below.refl _ _).alloc (Nat.le_refl _) _).drew
  have hS0 : (w.alloc (.cells #[.slice A n c] 22)).drew.cell? ⟨w.heap.size, 0, none⟩ = some (.slice A n c) := by
    show (w.alloc _).cell? _ = _
    simp
  refine wp_region_noPanic ?_
  refine wp_region_held_drew (S := fun w' => w'.cell? ⟨w.heap.size, 0, none⟩ = some (.slice A n c)) (by kernel_rfl) hS0 (fun hHeld => ?_)
  have HW := Lib.hid hnew
  clear hnew
  generalize hX : w.heap.size = X at *
  have HX := Lib.hid hX
  clear hX
  generalize World.drew _ = W at *
  refine wpAnyH_take (i := 0) (v := ?_) opAt_0 (by kernel_rfl) (by kernel_rfl) (by kernel_rfl) (fun _ _ _ h => h) (Or.inl ⟨by rfl, ?_⟩) hHeld ?_
  rotate_left
  · (intro w' hSw; go_simp; try with_reducible rfl)
  try simp only [Act.put, List.setIfInBounds_toArray, List.set_cons_zero, List.set_cons_succ]
  refine wpAnyH_take (i := 1) (v := ?_) opAt_1 (by kernel_rfl) (by kernel_rfl) (by kernel_rfl) (fun _ _ _ h => h) (Or.inl ⟨by rfl, ?_⟩) hHeld ?_
  rotate_left
  · (intro w' hSw; go_simp; try with_reducible rfl)
  try simp only [Act.put, List.setIfInBounds_toArray, List.set_cons_zero, List.set_cons_succ]
  refine wpAnyH_take (i := 2) (v := ?_) opAt_2 (by kernel_rfl) (by kernel_rfl) (by kernel_rfl) (fun _ _ _ h => h) (Or.inl ⟨by rfl, ?_⟩) hHeld ?_
  rotate_left
  · (intro w' hSw; go_simp; try with_reducible rfl)
  try simp only [Act.put, List.setIfInBounds_toArray, List.set_cons_zero, List.set_cons_succ]
  refine wpAnyH_take (i := 4) (v := ?_) opAt_4 (by kernel_rfl) (by kernel_rfl) (by kernel_rfl) (fun _ _ _ h => h) (Or.inl ⟨by rfl, ?_⟩) hHeld ?_
  rotate_left
  · (intro w' hSw; go_simp; try with_reducible rfl)
  try simp only [Act.put, List.setIfInBounds_toArray, List.set_cons_zero, List.set_cons_succ]
  refine wpAnyH_take (i := 5) (v := ?_) opAt_5 (by kernel_rfl) (by kernel_rfl) (by kernel_rfl) (fun _ _ _ h => h) (Or.inl ⟨by rfl, ?_⟩) hHeld ?_
  rotate_left
  · (intro w' hSw; go_simp; try with_reducible rfl)
  try simp only [Act.put, List.setIfInBounds_toArray, List.set_cons_zero, List.set_cons_succ]
  refine wpAnyH_ready (rs := [3]) (by kernel_rfl) (by simp) ?_
  refine AllReadyH.cons rfl (fun K hK => ?_) AllReadyH.nil
  go_simp
  refine (fwithin1 hHeld Hix.out).mono ?_
  rintro e w1 ⟨rfl, rfl⟩
  go_wp2_with fail
  refine hK.out _ _ hHeld (fun hHeld => ?_)
  clear hK K
  try simp only [Act.put, List.setIfInBounds_toArray, List.set_cons_zero, List.set_cons_succ]
  refine wpAnyH_ready (rs := [6]) (by kernel_rfl) (by simp) ?_
  refine AllReadyH.cons rfl (fun K hK => ?_) AllReadyH.nil
  go_simp
  refine (fwithin1 hHeld Hky.out).mono ?_
  rintro e w1 ⟨rfl, rfl⟩
  go_wp2_with fail
  refine hK.out _ _ hHeld (fun hHeld => ?_)
  clear hK K
  try simp only [Act.put, List.setIfInBounds_toArray, List.set_cons_zero, List.set_cons_succ]
  refine wpAnyH_take (i := 7) (v := ?_) opAt_7 (by kernel_rfl) (by kernel_rfl) (by kernel_rfl) (fun _ _ _ h => h) (Or.inl ⟨by rfl, ?_⟩) hHeld ?_
  rotate_left
  · (intro w' hSw; go_simp; try with_reducible rfl)
  try simp only [Act.put, List.setIfInBounds_toArray, List.set_cons_zero, List.set_cons_succ]
  refine wpAnyH_ready (rs := [8]) (by kernel_rfl) (by simp) ?_
  refine AllReadyH.cons rfl (fun K hK => ?_) AllReadyH.nil
  go_simp
  refine hK.out _ _ hHeld (fun hHeld => ?_)
  refine wpAnyH_done (by kernel_rfl) ?_ _
  refine NoPanic.normal ?_
  clear hK K hHeld
  go_wp2_with fail
  go_ret
  have hXe := HX.out
  subst hXe
  have hrd1 := HRd.out W w.heap.size l Hc.out (HR.out.below HW.out (Nat.le_refl _))
  have hlen : ((l.drop i).take m).length = m := by rw [List.length_take, List.length_drop]; have := Hn.out; have := Hm.out; omega
  rw [show k - i = m by have := Hm.out; omega]
  refine ⟨_, rfl, ⟨A', c', by rw [hlen]; rfl, by rw [hlen]; exact hmc, hrd1.mono (by have := HW.out.size; omega)⟩, ?_⟩
  exact HW.out

/-- slices.Grow of nil -/
theorem fgrow (k : Nat) (w : World) (hk : k ≤ 10000000) :
    Calls Try.prog 30 #[.slice none 0 0, .int .i64 (k : Int)] w fun e w' => ∃ v, e = .returned v ∧ w'.ownsRow w.heap.size 5 1 v 0 [] ∧ Below w.heap.size w w' := by
  obtain ⟨i0, hi0, hz0, hz1, hz2⟩ := info_parts fbyte_info
  rcases Nat.eq_zero_or_pos k with rfl | h0
  · go_enter Try.func30, Try.ntmps30
    go_wp2
    go_ret
    exact ⟨_, rfl, World.ownsRow_nil _ _ _ _, Below.refl _ _⟩
  · have hold : (Builtin.firstCells i0.size 0 (.slice none 0 0)).run Try.prog w.drew = .ok ([] : List Value).toArray w.drew := run_firstCells_none w.drew i0.size 0 0 0
    have hfit := growslice_fits (need := 0 + k) (old := 0) (bytes := i0.bytes) (by omega) (by rw [hz2]; omega)
    have hrz := fun ty => Lib.run_append_grow_zeros w 22 3 ty 5 i0 (.int .u8 0) .i64 .i64 Try.underlying22 Try.underlying3 hi0 hz0 none 0 0 [] hold k h0 (by omega) (by omega) (by omega) (by rw [hz2]; omega) hfit
    have hG : 0 + k ≤ grownCap w (0 + k) 0 5 := grownCap_ge w _ _ _
    have hGm := grownCap_le_maxLen w (0 + k) 0 5 (by unfold maxLen; omega)
    generalize grownCap w (0 + k) 0 5 = G at *
    have hc0 := cut_h (some ⟨w.heap.size, 0, none⟩) (0 + k) G 0 (by omega)
    have hc1 := cut_h none 0 0 0 (by omega)
    have hz : ((k : Int) - 0) = (k : Int) := by omega
    have hd : decide ((k : Int) > 0) = true := by simp; omega
    go_enter Try.func30, Try.ntmps30
    go_wp2_with (at_builtin; refine Lib.wpList_append_run _ rfl _ _ _ _ rfl _ _ rfl rfl _ _ (hrz _) ?_)
    go_ret
    refine ⟨_, rfl, ⟨by simp, .inr ⟨w.heap.size, G, _, rfl, Nat.le_refl _, heap_alloc_new _ _, Nat.zero_le _, hGm, ?_, by simp⟩⟩, ((Below.refl _ _).drew).alloc (Nat.le_refl _) _⟩
    simp [Builtin.zeroCells, Value.cells]
    omega
end Go.Proofs.Ytmlbhconbabdhaa
