/-
  No cell of these rows narrows 'for every input' (looked for: loops, veiled, ifaces, maps, wideKeys, modest, calm, conditions, laid).
  DERIVED. THE GIVEN ROWS OF THIS SEAT. 3 by the template 'for every input the law returns true; each argument reads behind the call as it read before'; 0 by the template 'total and deterministic' (their statements: YtboeiadfmknidaaGreatTotals.lean).
  GIVEN WITH THE SEED: the statements are not yours to turn. If you find one false, say at which input.
  Laid BY PROGRAM, IN A SANDBOX (cutbox-rows.mjs): the forced cells as the released guide's own fill.sh prints them over the translation 3ab1996e1b9425fa… (all of the seat's roots in one cut). By AI agents, Wed Nov 11 2026. No macro, syntax, notation, axiom, sorry.
-/
import Derived.Test.YtboeiadfmknidaaGreatChecked
import GoSem.Claim
import GoSem.ClaimJoined
import GoSem.ClaimMapViews
import Derived.JoinedTies
import Derived.KernelRfl
namespace Go.Proofs.YtboeiadfmknidaaGreat
/- THE CELL 'sum', in the pinned program and in every row, IS THE sha256 OF THE DUMP (.gsa) THAT YtboeiadfmknidaaGreatProg.lean LOADS. Nothing in Lean hashes anything: it is a label: what it is worth is what the hold of that sum in a sandbox is worth. -/
noncomputable def Tryz.pinned : Pinned := { name := "ytboeiadfmknidaagreat", sum := "3ab1996e1b9425fa04e25b38c36e0104d0d855b41cb2866e49ac2221ba44f833", checked := Tryz.checked }
namespace Rows
def none {H : Type} : Left H := { results := [], args := [] }

/-- 'hourbooklaw07.FsSafe': WHATEVER THE INPUT: true; the input reads as it did. -/
def fsSafeSpec : ChangeSpec := { name := "fsSafe", fn := fun _ => fun
  | [d1, d2, d3] => { results := [.lit (.bool true)], args := [d1, d2, d3] }
  | _ => none }
def fsSafeRow : OpenClaim := { program := "ytboeiadfmknidaagreat", sum := "3ab1996e1b9425fa04e25b38c36e0104d0d855b41cb2866e49ac2221ba44f833", func := "hourbook/hourbooklaw07.FsSafe", spec := "fsSafe", inPlace := ["maps.clone"], unfollowed := true, recurses := true, apart := false }
def FsSafeSaid : Prop := fsSafeRow.holds Tryz.pinned (OpenSpec.ofChange fsSafeSpec)

/-- ITS FALSE NEIGHBOUR: 'it returns false'. Refute it at one input. -/
def fsSafeWrong : ChangeSpec := { name := "fsSafe", fn := fun _ => fun
  | [d1, d2, d3] => { results := [.lit (.bool false)], args := [d1, d2, d3] }
  | _ => none }
def FsSafeWrongFalsely : Prop := fsSafeRow.holds Tryz.pinned (OpenSpec.ofChange fsSafeWrong)

/-- 'hourbooklaw07.FsCrashes': WHATEVER THE INPUT: true; the input reads as it did. -/
def fsCrashesSpec : ChangeSpec := { name := "fsCrashes", fn := fun _ => fun
  | [d1, d2, d3] => { results := [.lit (.bool true)], args := [d1, d2, d3] }
  | _ => none }
def fsCrashesRow : OpenClaim := { program := "ytboeiadfmknidaagreat", sum := "3ab1996e1b9425fa04e25b38c36e0104d0d855b41cb2866e49ac2221ba44f833", func := "hourbook/hourbooklaw07.FsCrashes", spec := "fsCrashes", inPlace := ["maps.clone"], unfollowed := true, recurses := true, apart := false }
def FsCrashesSaid : Prop := fsCrashesRow.holds Tryz.pinned (OpenSpec.ofChange fsCrashesSpec)

/-- ITS FALSE NEIGHBOUR: 'it returns false'. Refute it at one input. -/
def fsCrashesWrong : ChangeSpec := { name := "fsCrashes", fn := fun _ => fun
  | [d1, d2, d3] => { results := [.lit (.bool false)], args := [d1, d2, d3] }
  | _ => none }
def FsCrashesWrongFalsely : Prop := fsCrashesRow.holds Tryz.pinned (OpenSpec.ofChange fsCrashesWrong)

/-- 'hourbooklaw07.FsRefused': WHATEVER THE INPUT: true; the input reads as it did. -/
def fsRefusedSpec : ChangeSpec := { name := "fsRefused", fn := fun _ => fun
  | [d1, d2] => { results := [.lit (.bool true)], args := [d1, d2] }
  | _ => none }
def fsRefusedRow : OpenClaim := { program := "ytboeiadfmknidaagreat", sum := "3ab1996e1b9425fa04e25b38c36e0104d0d855b41cb2866e49ac2221ba44f833", func := "hourbook/hourbooklaw07.FsRefused", spec := "fsRefused", inPlace := ["maps.clone"], unfollowed := true, recurses := true, apart := false }
def FsRefusedSaid : Prop := fsRefusedRow.holds Tryz.pinned (OpenSpec.ofChange fsRefusedSpec)

/-- ITS FALSE NEIGHBOUR: 'it returns false'. Refute it at one input. -/
def fsRefusedWrong : ChangeSpec := { name := "fsRefused", fn := fun _ => fun
  | [d1, d2] => { results := [.lit (.bool false)], args := [d1, d2] }
  | _ => none }
def FsRefusedWrongFalsely : Prop := fsRefusedRow.holds Tryz.pinned (OpenSpec.ofChange fsRefusedWrong)

/- THE SECOND FORM. 'bulk': how many values and letters a reading holds, each counted each time it is reached (what is shared counts as often as it is met; a slice's spare places count too). A statement '..UptoSaid' is the law's where the arguments, and the package variables that the reading takes, are together of bulk at most 1048576: NARROWER than '..Said'. Prove '..Said' where nothing that the law and all that it calls make is longer than what came in: it says more and counts as full. Else prove '..UptoSaid'. A law counts once. -/
mutual
def uptoBulk {H : Type} : DataW H → Nat
  | .lit (.string bytes) => bytes.length + 1
  | .lit _ => 1
  | .nil => 1
  | .ptr d => uptoBulk d + 1
  | .slice elems spare => uptoBulkAll elems + uptoBulkAll spare + 1
  | .agg parts => uptoBulkAll parts + 1
  | .iface _ d => uptoBulk d + 1
  | .map entries => uptoBulkEntries entries + 1
  | .held _ => 1
def uptoBulkAll {H : Type} : List (DataW H) → Nat
  | [] => 0
  | d :: r => uptoBulk d + uptoBulkAll r
def uptoBulkEntries {H : Type} : List (Lit × DataW H) → Nat
  | [] => 0
  | x :: r => uptoBulkEntry x + uptoBulkEntries r
def uptoBulkEntry {H : Type} : Lit × DataW H → Nat
  | (.string bytes, d) => bytes.length + uptoBulk d + 1
  | (_, d) => uptoBulk d + 1
 end
def uptoSmall : (H : Type) → List (DataW H) → Bool := fun _ ds => decide (uptoBulkAll ds ≤ 1048576)
def OpenSpec.upto (s : _root_.Go.ChangeSpec) : _root_.Go.OpenSpec := { _root_.Go.OpenSpec.ofChange s with cond := some uptoSmall }

/-- 'hourbooklaw07.FsSafe', WHERE WHAT IT READS IS OF BULK AT MOST 1048576: true; the input reads as it did. -/
def fsSafeUptoRow : OpenClaim := { program := "ytboeiadfmknidaagreat", sum := "3ab1996e1b9425fa04e25b38c36e0104d0d855b41cb2866e49ac2221ba44f833", func := "hourbook/hourbooklaw07.FsSafe", spec := "fsSafe", inPlace := ["maps.clone"], unfollowed := true, recurses := true, apart := false, narrowed := true }
def FsSafeUptoSaid : Prop := fsSafeUptoRow.holds Tryz.pinned (OpenSpec.upto fsSafeSpec)

/-- 'hourbooklaw07.FsCrashes', WHERE WHAT IT READS IS OF BULK AT MOST 1048576: true; the input reads as it did. -/
def fsCrashesUptoRow : OpenClaim := { program := "ytboeiadfmknidaagreat", sum := "3ab1996e1b9425fa04e25b38c36e0104d0d855b41cb2866e49ac2221ba44f833", func := "hourbook/hourbooklaw07.FsCrashes", spec := "fsCrashes", inPlace := ["maps.clone"], unfollowed := true, recurses := true, apart := false, narrowed := true }
def FsCrashesUptoSaid : Prop := fsCrashesUptoRow.holds Tryz.pinned (OpenSpec.upto fsCrashesSpec)

/-- 'hourbooklaw07.FsRefused', WHERE WHAT IT READS IS OF BULK AT MOST 1048576: true; the input reads as it did. -/
def fsRefusedUptoRow : OpenClaim := { program := "ytboeiadfmknidaagreat", sum := "3ab1996e1b9425fa04e25b38c36e0104d0d855b41cb2866e49ac2221ba44f833", func := "hourbook/hourbooklaw07.FsRefused", spec := "fsRefused", inPlace := ["maps.clone"], unfollowed := true, recurses := true, apart := false, narrowed := true }
def FsRefusedUptoSaid : Prop := fsRefusedUptoRow.holds Tryz.pinned (OpenSpec.upto fsRefusedSpec)

end Rows
end Go.Proofs.YtboeiadfmknidaaGreat
