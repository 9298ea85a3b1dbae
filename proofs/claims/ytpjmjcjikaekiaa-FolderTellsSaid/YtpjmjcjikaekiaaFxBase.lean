
/-
  Layer 5: bytes.Clone, bytes.Equal, bytes.HasPrefix; what a deed's calls do.
-/
import Derived.Test.YtpjmjcjikaekiaaFxPlain
import Derived.Test.YtpjmjcjikaekiaaCut
import Derived.Deep.QuietTactic
import Derived.BigQuiet
import Derived.StillTailTactics
import Derived.Deep.DeepFit
import Derived.Deep.RegionHeld3
import Derived.Deep.RegionWith
import Derived.Lib.SliceRun
import Derived.Lib.Hide
import Derived.WalkSpells
set_option linter.unusedVariables false
set_option linter.unusedSimpArgs false
namespace Go.Proofs.Ytpjmjcjikaekiaa
open Go.RowKit

theorem fbyte_info : (Try.prog.info? 5).map (fun i => (i.zero, i.size, i.bytes)) = some (some (.int .u8 0), 1, 1) := by kernel_rfl

/-- 's[:k]' -/
theorem cut_h (A : Option Addr) (n c k : Nat) (hkc : k ≤ c) (w : World) :
    (Instr.sliceAt 84 (.slice A n c) none (some (.int .i64 (k : Int))) none).run Try.prog w = .ok (.slice A k c) w := by
  rw [run_sliceAt_slice _ 84 _ _ _ _ elBytes, run_slice_h _ 84 A n c elBytes .i64 k (by omega) (by omega)]
  have : (sizeOf (Try.prog.elem 84)).run Try.prog w = .ok 1 w := by kernel_rfl
  rw [this]
  have e : (if c = 0 then A else A.map (·.add 0)) = A := by
    split
    · rfl
    · cases A with
      | none => rfl
      | some a => simp [Addr.add]
  simp [Result.andThen, sliced, e]

theorem own_take {w : World} {v : Value} {A : Option Addr} {l : List UInt8} {c s : Nat} (h : w.ownsRow 0 5 1 (.slice A l.length c) l.length (bvs l)) (hs : s ≤ l.length) : w.ownsRow 0 5 1 (.slice A s c) (l.take s).length (bvs (l.take s)) := by
  have hl : (l.take s).length = s := by rw [List.length_take]; omega
  rw [hl]
  refine ⟨by rw [bvs_length]; omega, ?_⟩
  rcases h.2 with ⟨e, hn⟩ | ⟨g, cap, cur, e, hg, hc, h1, h2, h3, h4⟩
  · injection e with e1 e2 e3
    subst e1 e3
    exact .inl ⟨by rw [show s = 0 by omega], by omega⟩
  · injection e with e1 e2 e3
    subst e1 e3
    refine .inr ⟨g, _, cur, rfl, hg, hc, by omega, h2, h3, ?_⟩
    rw [bvs_take, ← h4, List.take_take]
    congr 1
    omega
end Go.Proofs.Ytpjmjcjikaekiaa
