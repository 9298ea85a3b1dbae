
/-
  Layer 1: the walks of the functions that read and make bytes.
-/
import Derived.Test.YtffcbekogpgciaaWords
import Derived.Test.YtffcbekogpgciaaPxPure
import Derived.Deep.QuietTactic
import Derived.BigQuiet
import Derived.StillTailTactics
import Derived.Deep.DeepFit
import Derived.Deep.RegionHeld3
import Derived.Deep.RegionWith
set_option linter.unusedVariables false
set_option linter.unusedSimpArgs false
namespace Go.Proofs.Ytffcbekogpgciaa
open Go.RowKit

theorem byte_info : (Try.prog.info? 5).map (fun i => (i.zero, i.size, i.bytes)) = some (some (.int .u8 0), 1, 1) := by kernel_rfl

/-- bytes.Equal -/
theorem equal_any (A A' : Option Addr) (l l' : List UInt8) (c c' B B' : Nat) (w : World) (h : Rd w B A (bvs l)) (h' : Rd w B' A' (bvs l')) :
    Calls Try.prog 44 #[.slice A l.length c, .slice A' l'.length c'] w fun e w' => e = .returned (.bool (l == l')) ∧ w = w' := by
  have c1 := convert_rd (P := Try.prog) h c 30 5 9 Try.underlying30 Try.underlying5 Try.underlying9
  have c2 := convert_rd (P := Try.prog) h' c' 30 5 9 Try.underlying30 Try.underlying5 Try.underlying9
  go_enter Try.func44, Try.ntmps44
  go_wp2
  go_ret
  exact ⟨rfl, rfl⟩

end Go.Proofs.Ytffcbekogpgciaa
