
/-
  Layer 8, the document's answer: the walk of Same.
-/
import Derived.Test.YtmiljicohnfejaaDoorRcRefPut
set_option linter.unusedVariables false
set_option linter.unusedSimpArgs false
namespace Go.Proofs.YtmiljicohnfejaaDoor
open Go.RowKit

theorem conv_bs {w w' : World} {B m c : Nat} {A : Option Addr} {l : List UInt8} (h : Bs w B (.slice A m c) l) (hb : Below w.heap.size w w') (hB : B ≤ w.heap.size) : (convert 23 9 (.slice A m c)).run Tryd.prog w' = .ok (.string ⟨l.toArray⟩) w' := by
  obtain ⟨hr, rfl⟩ := bs_rd (h.below hb hB)
  exact convert_rd (P := Tryd.prog) hr c 23 5 9 Tryd.underlying23 Tryd.underlying5 Tryd.underlying9
theorem rsame8 (v v' : Value) (r q : Rc.Rec) (B : Nat) (w : World) (h : RecV w B v r) (h' : RecV w B v' q) (hB : B ≤ w.heap.size) :
    Calls Tryd.prog 15 #[v, v'] w fun e w' => e = .returned (.bool (Rc.sameB r q)) ∧ Below w.heap.size w w' := by
  obtain ⟨A, c, A', c', rfl, h1, h2⟩ := h.form
  obtain ⟨X, d, X', d', rfl, h1', h2'⟩ := h'.form
  have b0 := balloc (bnew w (.cells #[.int .u64 r.seq, .int .i64 r.kind, .slice A r.key.length c, .slice A' r.val.length c', .int .u32 r.seg, .int .u32 r.off] 28)) (.cells #[.int .u64 q.seq, .int .i64 q.kind, .slice X q.key.length d, .slice X' q.val.length d', .int .u32 q.seg, .int .u32 q.off] 28)
  have k1 := conv_bs h1 b0 hB
  have k2 := conv_bs h2 b0 hB
  have k3 := conv_bs h1' b0 hB
  have k4 := conv_bs h2' b0 hB
  have hs : Rc.sameB r q = ((((((r.seq == q.seq) && (r.kind == q.kind)) && (r.seg == q.seg)) && (r.off == q.off)) && (r.key == q.key)) && (r.val == q.val)) := by
    unfold Rc.sameB
    rw [Bool.eq_iff_iff]
    simp
    omega
  rw [hs]
  clear hs h1 h2 h1' h2'
  cases e1 : (r.seq == q.seq)
  · go_enter Tryd.func15, Tryd.ntmps15
    go_wp2_with fail
    go_ret
    exact ⟨rfl, b0⟩
  · cases e2 : (r.kind == q.kind)
    · go_enter Tryd.func15, Tryd.ntmps15
      go_wp2_with fail
      go_ret
      exact ⟨rfl, b0⟩
    · cases e3 : (r.seg == q.seg)
      · go_enter Tryd.func15, Tryd.ntmps15
        go_wp2_with fail
        go_ret
        exact ⟨rfl, b0⟩
      · cases e4 : (r.off == q.off)
        · go_enter Tryd.func15, Tryd.ntmps15
          go_wp2_with fail
          go_ret
          exact ⟨rfl, b0⟩
        · cases e5 : (r.key == q.key)
          · go_enter Tryd.func15, Tryd.ntmps15
            go_wp2_with fail
            go_ret
            exact ⟨ret_bool (by simp [e5]), b0⟩
          · go_enter Tryd.func15, Tryd.ntmps15
            go_wp2_with fail
            go_ret
            exact ⟨ret_bool (by simp [e5]), b0⟩
end Go.Proofs.YtmiljicohnfejaaDoor
