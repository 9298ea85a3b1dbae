
/-
  Layer 5: New, Crash, Sync, Flip.
-/
import Derived.Test.YtmlbhconbabdhaaFxSettle
set_option linter.unusedVariables false
set_option linter.unusedSimpArgs false
namespace Go.Proofs.Ytmlbhconbabdhaa
open Go.RowKit

theorem fcrash_nil (n : Int) (w : World) : Calls Try.prog 12 #[.pointer none, .int .i64 n] w fun e w' => e = .returned (.tuple #[.int .i64 0, .int .i64 2]) ∧ Below w.heap.size w w' := by
  go_enter Try.func12, Try.ntmps12
  go_wp2
  go_ret2
  exact ⟨rfl, Below.refl _ _⟩
theorem fsync_nil (w : World) : Calls Try.prog 13 #[.pointer none] w fun e w' => e = .returned (.int .i64 2) ∧ Below w.heap.size w w' := by
  go_enter Try.func13, Try.ntmps13
  go_wp2
  go_ret
  exact ⟨rfl, Below.refl _ _⟩
theorem fflip_nil (n b : Int) (w : World) : Calls Try.prog 22 #[.pointer none, .int .i64 n, .int .u8 b] w fun e w' => e = .returned (.int .i64 2) ∧ Below w.heap.size w w' := by
  go_enter Try.func22, Try.ntmps22
  go_wp2
  go_ret
  exact ⟨rfl, Below.refl _ _⟩
theorem fcrash_neg (F : Nat) (n : Int) (hn : n < 0) (w : World) : Calls Try.prog 12 #[.pointer (some ⟨F, 0, none⟩), .int .i64 n] w fun e w' => e = .returned (.tuple #[.int .i64 0, .int .i64 1]) ∧ Below w.heap.size w w' := by
  go_enter Try.func12, Try.ntmps12
  go_wp2
  go_ret2
  exact ⟨rfl, Below.refl _ _⟩
section
variable {w : World} {F : Nat} {M R : Nat → Prop} {s : FSt}
theorem fcrash_m (h : FileM w F M R s) (hb : s.big ≤ 1000000) (n m : Nat) (hm : m = min n s.loose) :
    Calls Try.prog 12 #[.pointer (some ⟨F, 0, none⟩), .int .i64 (n : Int)] w fun e w' => e = .returned (.tuple #[.int .i64 (m : Int), .int .i64 0]) ∧ Mut w w' F M R (s.settled m) := by
  have HM := Lib.hid h
  have HB := Lib.hid hb
  obtain ⟨ho, _, _, _, vs, vt, vd, dvs, h, _⟩ := h
  obtain ⟨lo, hlo⟩ : ∃ lo, lo = s.loose := ⟨_, rfl⟩
  obtain ⟨c0, c1, c2, c3, c4, f0, f1, f2, f3, f4⟩ := h.cells
  rw [← hlo] at c4 hm
  have hmin : min (n : Int) (lo : Int) = (m : Int) := by omega
  have Hm : Hid (m ≤ s.loose) := by rw [← hlo]; exact (by omega : m ≤ lo)
  clear hlo hm hb ho h
  go_enter Try.func12, Try.ntmps12
  go_wp2_with fail
  refine (fsettle_m HM.out m Hm.out HB.out).mono ?_
  rintro e w1 ⟨rfl, hmut⟩
  have HX := Lib.hid hmut
  clear hmut
  go_wp2_with fail
  go_ret2
  exact ⟨rfl, HX.out⟩
theorem fsync_m (h : FileM w F M R s) (hb : s.big ≤ 1000000) :
    Calls Try.prog 13 #[.pointer (some ⟨F, 0, none⟩)] w fun e w' => e = .returned (.int .i64 0) ∧ Mut w w' F M R (s.settled s.loose) := by
  have HM := Lib.hid h
  have HB := Lib.hid hb
  obtain ⟨ho, _, _, _, vs, vt, vd, dvs, h, _⟩ := h
  obtain ⟨c0, c1, c2, c3, c4, f0, f1, f2, f3, f4⟩ := h.cells
  clear hb ho h
  go_enter Try.func13, Try.ntmps13
  go_wp2_with fail
  refine (fsettle_m HM.out _ (Nat.le_refl _) HB.out).mono ?_
  rintro e w1 ⟨rfl, hmut⟩
  have HX := Lib.hid hmut
  clear hmut
  go_wp2_with fail
  go_ret
  exact ⟨rfl, HX.out⟩
theorem fnew_b {B : Nat} {v : Value} {b : List UInt8} (hv : Bs w B v b) (hB : B ≤ w.heap.size) (hl : b.length ≤ 1000000) :
    Calls Try.prog 7 #[v] w fun e w' => ∃ F M, e = .returned (.pointer (some ⟨F, 0, none⟩)) ∧ FileM w' F M (fun _ => False) (FSt.new b) ∧ Below w.heap.size w w' ∧ ∀ i, M i → w.heap.size ≤ i := by
  have HV := Lib.hid hv
  obtain ⟨A, c, rfl, hc, hr⟩ := hv
  clear hr
  obtain ⟨n, hn⟩ : ∃ n, n = b.length := ⟨_, rfl⟩
  rw [← hn] at HV
  rw [← hn]
  have Hn := Lib.hid hn
  have Hl := Lib.hid hl
  clear hn hl hc
  go_enter Try.func7, Try.ntmps7
  go_wp2_with fail
  refine (fclone _ b B w HV.out hB (by have := Hl.out; omega)).mono ?_
  rintro e w1 ⟨v1, rfl, hown1, hb1⟩
  obtain ⟨A1, c1, rfl, _, _, _⟩ := own_slice hown1
  have HO := Lib.hid hown1
  have HB1 := Lib.hid hb1
  clear hown1 hb1
  go_wp2_with fail
  go_ret
  have hw2 : Below w1.heap.size w1 (w1.alloc (.cells #[.slice A1 b.length c1, .int .i64 (n : Int), .slice none 0 0, .slice none 0 0, .int .i64 0] 51)) := (Below.refl _ _).alloc (Nat.le_refl _) _
  have hF : FileAt (w1.alloc (.cells #[.slice A1 b.length c1, .int .i64 (n : Int), .slice none 0 0, .slice none 0 0, .int .i64 0] 51)) w1.heap.size (fun _ => False) (.slice A1 b.length c1) (.slice none 0 0) (.slice none 0 0) [] (FSt.new b) := by
    refine ⟨?_, own_base (HO.out.alloc _) (Nat.zero_le _), World.ownsRow_nil _ _ _ _, World.ownsRow_nil _ _ _ _, DeedsAt.nil_, ⟨?_, by simp [Value.ownBlock], by simp [Value.ownBlock], by simp [Value.ownBlock], by simp [Value.ownBlock], by simp [Value.ownBlock]⟩, fun i _ h => h⟩
    · have := FCells.new w1 (.slice A1 b.length c1) (.slice none 0 0) (.slice none 0 0) n 0 51
      rw [Hn.out] at this
      rw [Hn.out]
      exact this
    · intro e
      have := (HO.out.lt _ e).2
      omega
  refine ⟨_, fun i => FOwn w1.heap.size (.slice A1 b.length c1) (.slice none 0 0) (.slice none 0 0) i, rfl, ⟨FSt.new_ok _, hF.rows, hF.lt, fun i h => h.elim, _, _, _, _, hF, fun i h => h⟩, HB1.out.trans (hw2.mono HB1.out.size), ?_⟩
  rintro i (rfl | hi | hi | hi)
  · exact HB1.out.size
  · exact (HO.out.lt _ hi).1
  · simp [Value.ownBlock] at hi
  · simp [Value.ownBlock] at hi
end
section
variable {w : World} {F : Nat} {M R : Nat → Prop} {s : FSt}
theorem fflip_deeds (h : FileM w F M R s) (hd : s.deeds ≠ []) (hb : s.big ≤ 10000000) (n b : Int) :
    Calls Try.prog 22 #[.pointer (some ⟨F, 0, none⟩), .int .i64 n, .int .u8 b] w fun e w' => e = .returned (.int .i64 1) ∧ Below w.heap.size w w' := by
  obtain ⟨ho, _, _, _, vs, vt, vd, dvs, h, _⟩ := h
  obtain ⟨c0, c1, c2, c3, c4, f0, f1, f2, f3, f4⟩ := h.cells
  obtain ⟨Ad, cd, hvd, hlc, hcm, _⟩ := own_slice h.deeds
  have hl : 0 < s.deeds.length := List.length_pos_iff.2 hd
  have hdl : s.deeds.length ≤ s.loose := length_le_units _ _ ho.valid
  have hbig : s.big = s.safe.length + s.loose := rfl
  obtain ⟨nd, hnd⟩ : ∃ nd, nd = s.deeds.length := ⟨_, rfl⟩
  rw [← hnd] at hvd hl hdl
  subst hvd
  have hg : decide ((nd : Int) > 0) = true := by simp; omega
  clear ho hnd h hlc hdl hb hbig
  go_enter Try.func22, Try.ntmps22
  go_wp2
  go_ret
  exact ⟨rfl, Below.refl _ _⟩
theorem fflip_out (h : FileM w F M R s) (hd : s.deeds = []) (n b : Int) (hn : n < 0 ∨ (s.safe.length : Int) ≤ n) :
    Calls Try.prog 22 #[.pointer (some ⟨F, 0, none⟩), .int .i64 n, .int .u8 b] w fun e w' => e = .returned (.int .i64 1) ∧ Below w.heap.size w w' := by
  obtain ⟨ho, _, _, _, vs, vt, vd, dvs, h, _⟩ := h
  obtain ⟨c0, c1, c2, c3, c4, f0, f1, f2, f3, f4⟩ := h.cells
  obtain ⟨Ad, cd, hvd, hlc, hcm, _⟩ := own_slice h.deeds
  obtain ⟨As, cs, hvs, _, _, _⟩ := own_slice h.safe
  rw [hd] at hvd
  simp only [List.length_nil] at hvd
  obtain ⟨ns, hns⟩ : ∃ ns, ns = s.safe.length := ⟨_, rfl⟩
  rw [← hns] at hvs hn
  subst hvd hvs
  clear ho hns h hlc hd
  by_cases hn0 : n < 0
  · go_enter Try.func22, Try.ntmps22
    go_wp2
    go_ret
    exact ⟨rfl, Below.refl _ _⟩
  · have hn1 : (ns : Int) ≤ n := by omega
    have h0 : decide (n < 0) = false := by simp; omega
    clear hn0 hn
    go_enter Try.func22, Try.ntmps22
    go_wp2
    go_ret
    exact ⟨rfl, Below.refl _ _⟩
end
end Go.Proofs.Ytmlbhconbabdhaa
