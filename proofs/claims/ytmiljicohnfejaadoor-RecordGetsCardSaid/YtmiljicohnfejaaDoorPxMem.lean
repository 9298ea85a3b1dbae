
/-
  Layer 1: the walks of the functions that read and make bytes.
-/
import Derived.Test.YtmiljicohnfejaaDoorWords
import Derived.Test.YtmiljicohnfejaaDoorPxPure
import Derived.Deep.QuietTactic
import Derived.BigQuiet
import Derived.StillTailTactics
import Derived.Deep.DeepFit
import Derived.Deep.RegionHeld3
import Derived.Deep.RegionWith
set_option linter.unusedVariables false
set_option linter.unusedSimpArgs false
namespace Go.Proofs.YtmiljicohnfejaaDoor
open Go.RowKit

theorem byte_info : (Tryd.prog.info? 5).map (fun i => (i.zero, i.size, i.bytes)) = some (some (.int .u8 0), 1, 1) := by kernel_rfl

/-- bytes.Equal -/
theorem equal_any (A A' : Option Addr) (l l' : List UInt8) (c c' B B' : Nat) (w : World) (h : Rd w B A (bvs l)) (h' : Rd w B' A' (bvs l')) :
    Calls Tryd.prog 43 #[.slice A l.length c, .slice A' l'.length c'] w fun e w' => e = .returned (.bool (l == l')) ∧ w = w' := by
  have c1 := convert_rd (P := Tryd.prog) h c 23 5 9 Tryd.underlying23 Tryd.underlying5 Tryd.underlying9
  have c2 := convert_rd (P := Tryd.prog) h' c' 23 5 9 Tryd.underlying23 Tryd.underlying5 Tryd.underlying9
  go_enter Tryd.func43, Tryd.ntmps43
  go_wp2
  go_ret
  exact ⟨rfl, rfl⟩

theorem room_any (A : Option Addr) (l : List UInt8) (c : Nat) (m : Int) (w : World) (h : Rd w w.heap.size A (bvs l)) (hm0 : 0 ≤ m) (hm : l.length + m.toNat ≤ 140737488355328) :
    Calls Tryd.prog 58 #[.slice A l.length c, .int .i64 m] w fun e w' => ∃ v, e = .returned v ∧ w'.ownsRow w.heap.size 5 1 v l.length (bvs l) ∧ Below w.heap.size w w' := by
  obtain ⟨i0, hi0, hz0, hz1, hz2⟩ := info_parts byte_info
  go_enter Tryd.func58, Tryd.ntmps58
  go_wp2_with (first
    | (at_make
       refine wpList_make_own _ rfl _ _ 23 rfl w.heap.size 5 i0 (.int .u8 0) 1 Tryd.underlying23 hi0 hz0 hz1 .i64 .i64 _ (l.length + m.toNat) rfl rfl (by omega) (by rw [hz2]; omega) (by unfold maxLen; omega) (Nat.le_refl _) ?_
       intro w0 hown0 hgrow0)
    | (at_builtin
       refine wpList_append_rd _ rfl _ _ 23 rfl w.heap.size 5 i0 (.int .u8 0) 1 1 Tryd.underlying23 hi0 hz0 hz1 hz2 rfl (by omega) (Value.slice (some { block := w.heap.size, off := 0 }) 0 (l.length + m.toNat)) 0 [] rfl hown0 w.heap.size A l.length c (bvs l) rfl (by simp [bvs]) (h.grown hgrow0 (Nat.le_refl _) (by simp)) (bvs_one l) (by unfold maxLen; omega) (by omega) hgrow0.size ?_
       intro v1 w1 hown1 hbw1 _ _))
  go_ret
  exact ⟨v1, rfl, by simpa using hown1, ((Below.refl _ _).grown hgrow0 (Nat.le_refl _) (by simp)).trans hbw1⟩

end Go.Proofs.YtmiljicohnfejaaDoor
