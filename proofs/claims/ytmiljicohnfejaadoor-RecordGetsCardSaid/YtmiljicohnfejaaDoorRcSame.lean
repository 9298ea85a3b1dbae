
/-
  Layer 8: the walk of Same.
-/
import Derived.Test.YtmiljicohnfejaaDoorRcMem
import Derived.Test.YtmiljicohnfejaaDoorPxCon
set_option linter.unusedVariables false
set_option linter.unusedSimpArgs false
namespace Go.Proofs.YtmiljicohnfejaaDoor
open Go.RowKit

theorem rsame_b (v v' : Value) (r q : Rc.Rec) (B : Nat) (w : World) (h : RecV w B v r) (h' : RecV w B v' q) (hB : B ≤ w.heap.size) :
    Calls Tryd.prog 14 #[v, v'] w fun e w' => e = .returned (.bool (Rc.sameB r q)) ∧ Below w.heap.size w w' := by
  obtain ⟨kv, vv, rfl, h1, h2⟩ := h.mono hB
  obtain ⟨kv', vv', rfl, h1', h2'⟩ := h'.mono hB
  have b0 := balloc (bnew w (.cells #[.int .u64 r.seq, .int .i64 r.kind, kv, vv, .int .u32 r.seg, .int .u32 r.off] 28)) (.cells #[.int .u64 q.seq, .int .i64 q.kind, kv', vv', .int .u32 q.seg, .int .u32 q.off] 28)
  have k1 := h1.below b0 (Nat.le_refl _)
  have k1' := h1'.below b0 (Nat.le_refl _)
  have k2 := h2.below b0 (Nat.le_refl _)
  have k2' := h2'.below b0 (Nat.le_refl _)
  have Hk := Lib.hid (equal_b _ _ _ _ _ _ _ k1 k1')
  have Hv := Lib.hid (equal_b _ _ _ _ _ _ _ k2 k2')
  clear k1 k1' k2 k2' h1 h1' h2 h2'
  have he := run_eql_loc r.seg r.off q.seg q.off
  have hg := guard_loc
  have hs : Rc.sameB r q = (((((r.seq == q.seq) && (r.kind == q.kind)) && decide (r.seg = q.seg ∧ r.off = q.off)) && (r.key == q.key)) && (r.val == q.val)) := by
    unfold Rc.sameB
    rw [Bool.eq_iff_iff]
    simp
    omega
  rw [hs]
  clear hs
  unfold recV
  cases e1 : (r.seq == q.seq)
  · go_enter Tryd.func14, Tryd.ntmps14
    go_wp2_with fail
    go_ret
    exact ⟨rfl, b0⟩
  · cases e2 : (r.kind == q.kind)
    · go_enter Tryd.func14, Tryd.ntmps14
      go_wp2_with fail
      go_ret
      exact ⟨rfl, b0⟩
    · cases e3 : decide (r.seg = q.seg ∧ r.off = q.off)
      · go_enter Tryd.func14, Tryd.ntmps14
        go_wp2_with fail
        go_ret
        exact ⟨rfl, b0⟩
      · cases e4 : (r.key == q.key)
        · go_enter Tryd.func14, Tryd.ntmps14
          go_wp2_with fail
          refine Hk.out.mono ?_
          rintro e w1 ⟨rfl, rfl⟩
          rw [e4]
          go_wp2_with fail
          go_ret
          exact ⟨rfl, b0⟩
        · go_enter Tryd.func14, Tryd.ntmps14
          go_wp2_with fail
          refine Hk.out.mono ?_
          rintro e w1 ⟨rfl, rfl⟩
          rw [e4]
          go_wp2_with fail
          refine Hv.out.mono ?_
          rintro e w1 ⟨rfl, rfl⟩
          go_wp2_with fail
          go_ret
          exact ⟨ret_bool (by simp), b0⟩
end Go.Proofs.YtmiljicohnfejaaDoor
