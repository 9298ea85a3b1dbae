/-
  ScanLost, part 4 of what the law's proof leans on: RcBlank.
-/
import Derived.Test.YtkpkfgcbccaibaaDoorScanLostQ3
/- RcBlank -/

/-
  Layer 8: the walk of blank.
-/
set_option linter.unusedVariables false
set_option linter.unusedSimpArgs false
namespace Go.Proofs.YtkpkfgcbccaibaaDoor
open Go.RowKit

theorem two_rows (w W1 : World) (n m s : Nat) (hW : Below w.heap.size w W1) (hs : W1.heap.size = s) :
    RowAt (((W1.alloc (.cells (zer n) 5)).alloc (.cells (zer m) 5)).drew) s (List.replicate n 0) ∧
    RowAt (((W1.alloc (.cells (zer n) 5)).alloc (.cells (zer m) 5)).drew) (s + 1) (List.replicate m 0) ∧
    Below w.heap.size w (((W1.alloc (.cells (zer n) 5)).alloc (.cells (zer m) 5)).drew) := by
  subst hs
  have h1 := RowAt.new W1 n
  have h2 := RowAt.new (W1.alloc (.cells (zer n) 5)) m
  have e : (W1.alloc (.cells (zer n) 5)).heap.size = W1.heap.size + 1 := by simp
  have b2 := (bnew (W1.alloc (.cells (zer n) 5)) (.cells (zer m) 5)).drew
  rw [e] at h2
  exact ⟨h1.on b2, h2, (balloc (balloc hW _) _).drew⟩
set_option maxRecDepth 100000 in
set_option maxHeartbeats 4000000 in
theorem blank_any (a0 a1 a2 a3 a4 a5 : Nat) (w : World) (h1 : a1 ≤ 255) (h2 : a2 ≤ 65535) (h0 : a0 ≤ 255) (h4 : a4 < 16777216) (h5 : a5 < 4294967296) (h3 : a3 < 18446744073709551616) :
    Calls Tryd.prog 45 #[.agg #[.int .u64 (a0 : Int), .int .u64 (a1 : Int), .int .u64 (a2 : Int), .int .u64 (a3 : Int), .int .u64 (a4 : Int), .int .u64 (a5 : Int)]] w fun e w' =>
      ∃ g1 g2, e = .returned (recV a3 a0 (.slice (some ⟨g1, 0, none⟩) a1 a1) (.slice (some ⟨g2, 0, none⟩) a2 a2) a4 a5) ∧ g1 ≠ g2 ∧ w.heap.size ≤ g1 ∧ w.heap.size ≤ g2 ∧
        RowAt w' g1 (List.replicate a1 0) ∧ RowAt w' g2 (List.replicate a2 0) ∧ Below w.heap.size w w' := by
  have m1 := run_make_b .u64 .u64 a1 (by omega)
  have m2 := run_make_b .u64 .u64 a2 (by omega)
  go_enter Tryd.func45, Tryd.ntmps45
  go_wp2_with fail
  go_region
  all_goals go_wp2_with fail
  · obtain ⟨o1, o2, ob⟩ := two_rows w _ a1 a2 (w.heap.size + 1 + 1) (balloc (bnew w _) _) (by simp)
    exact bodyPost_ret (v := recV a3 a0 (.slice (some ⟨w.heap.size + 1 + 1, 0, none⟩) a1 a1) (.slice (some ⟨w.heap.size + 1 + 1 + 1, 0, none⟩) a2 a2) a4 a5) (by simp [results, Tryd.results45, go_sem, recV]) rfl ⟨_, _, rfl, by omega, by omega, by omega, o1, o2, ob⟩
  · obtain ⟨o1, o2, ob⟩ := two_rows w _ a2 a1 (w.heap.size + 1 + 1) (balloc (bnew w _) _) (by simp)
    exact bodyPost_ret (v := recV a3 a0 (.slice (some ⟨w.heap.size + 1 + 1 + 1, 0, none⟩) a1 a1) (.slice (some ⟨w.heap.size + 1 + 1, 0, none⟩) a2 a2) a4 a5) (by simp [results, Tryd.results45, go_sem, recV]) rfl ⟨_, _, rfl, by omega, by omega, by omega, o2, o1, ob⟩
end Go.Proofs.YtkpkfgcbccaibaaDoor

