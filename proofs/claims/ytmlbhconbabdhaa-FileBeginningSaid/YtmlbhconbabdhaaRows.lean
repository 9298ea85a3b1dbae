/-
  No cell of these rows narrows 'for every input' (looked for: loops, veiled, ifaces, maps, wideKeys, modest, calm, conditions, laid).
  DERIVED. THE GIVEN ROWS OF THIS SEAT. 4 by the template 'for every input the law returns true; each argument reads behind the call as it read before'; 0 by the template 'total and deterministic' (their statements: YtmlbhconbabdhaaTotals.lean).
  GIVEN WITH THE SEED: the statements are not yours to turn. If you find one false, say at which input.
  Laid BY PROGRAM, IN A SANDBOX (cutbox-rows.mjs): the forced cells as the released guide's own fill.sh prints them over the translation 8154b4f371b811d6… (all of the seat's roots in one cut). By AI agents, Wed Nov 11 2026. No macro, syntax, notation, axiom, sorry.
-/
import Derived.Test.YtmlbhconbabdhaaChecked
import GoSem.Claim
import GoSem.ClaimJoined
import GoSem.ClaimMapViews
import Derived.JoinedTies
import Derived.KernelRfl
namespace Go.Proofs.Ytmlbhconbabdhaa
/- THE CELL 'sum', in the pinned program and in every row, IS THE sha256 OF THE DUMP (.gsa) THAT YtmlbhconbabdhaaProg.lean LOADS. Nothing in Lean hashes anything: it is a label: what it is worth is what the hold of that sum in a sandbox is worth. -/
noncomputable def Try.pinned : Pinned := { name := "ytmlbhconbabdhaa", sum := "8154b4f371b811d6c4c364ca80c4e9eccd4eef9814b2a981b0b407fd0156adea", checked := Try.checked }
namespace Rows
def none {H : Type} : Left H := { results := [], args := [] }

/-- 'hourbooklaw05.FileBeginning': WHATEVER THE INPUT: true; the input reads as it did. -/
def fileBeginningSpec : ChangeSpec := { name := "fileBeginning", fn := fun _ => fun
  | [d1, d2, d3] => { results := [.lit (.bool true)], args := [d1, d2, d3] }
  | _ => none }
def fileBeginningRow : OpenClaim := { program := "ytmlbhconbabdhaa", sum := "8154b4f371b811d6c4c364ca80c4e9eccd4eef9814b2a981b0b407fd0156adea", func := "hourbook/hourbooklaw05.FileBeginning", spec := "fileBeginning", unfollowed := true, recurses := true, apart := false }
def FileBeginningSaid : Prop := fileBeginningRow.holds Try.pinned (OpenSpec.ofChange fileBeginningSpec)

/-- ITS FALSE NEIGHBOUR: 'it returns false'. Refute it at one input. -/
def fileBeginningWrong : ChangeSpec := { name := "fileBeginning", fn := fun _ => fun
  | [d1, d2, d3] => { results := [.lit (.bool false)], args := [d1, d2, d3] }
  | _ => none }
def FileBeginningWrongFalsely : Prop := fileBeginningRow.holds Try.pinned (OpenSpec.ofChange fileBeginningWrong)

/-- 'hourbooklaw05.FileAppends': WHATEVER THE INPUT: true; the input reads as it did. -/
def fileAppendsSpec : ChangeSpec := { name := "fileAppends", fn := fun _ => fun
  | [d1, d2, d3] => { results := [.lit (.bool true)], args := [d1, d2, d3] }
  | _ => none }
def fileAppendsRow : OpenClaim := { program := "ytmlbhconbabdhaa", sum := "8154b4f371b811d6c4c364ca80c4e9eccd4eef9814b2a981b0b407fd0156adea", func := "hourbook/hourbooklaw05.FileAppends", spec := "fileAppends", unfollowed := true, recurses := true, apart := false }
def FileAppendsSaid : Prop := fileAppendsRow.holds Try.pinned (OpenSpec.ofChange fileAppendsSpec)

/-- ITS FALSE NEIGHBOUR: 'it returns false'. Refute it at one input. -/
def fileAppendsWrong : ChangeSpec := { name := "fileAppends", fn := fun _ => fun
  | [d1, d2, d3] => { results := [.lit (.bool false)], args := [d1, d2, d3] }
  | _ => none }
def FileAppendsWrongFalsely : Prop := fileAppendsRow.holds Try.pinned (OpenSpec.ofChange fileAppendsWrong)

/-- 'hourbooklaw05.FileTwice': WHATEVER THE INPUT: true; the input reads as it did. -/
def fileTwiceSpec : ChangeSpec := { name := "fileTwice", fn := fun _ => fun
  | [d1, d2, d3] => { results := [.lit (.bool true)], args := [d1, d2, d3] }
  | _ => none }
def fileTwiceRow : OpenClaim := { program := "ytmlbhconbabdhaa", sum := "8154b4f371b811d6c4c364ca80c4e9eccd4eef9814b2a981b0b407fd0156adea", func := "hourbook/hourbooklaw05.FileTwice", spec := "fileTwice", unfollowed := true, recurses := true, apart := false }
def FileTwiceSaid : Prop := fileTwiceRow.holds Try.pinned (OpenSpec.ofChange fileTwiceSpec)

/-- ITS FALSE NEIGHBOUR: 'it returns false'. Refute it at one input. -/
def fileTwiceWrong : ChangeSpec := { name := "fileTwice", fn := fun _ => fun
  | [d1, d2, d3] => { results := [.lit (.bool false)], args := [d1, d2, d3] }
  | _ => none }
def FileTwiceWrongFalsely : Prop := fileTwiceRow.holds Try.pinned (OpenSpec.ofChange fileTwiceWrong)

/-- 'hourbooklaw05.FileKnown': WHATEVER THE INPUT: true; the input reads as it did. -/
def fileKnownSpec : ChangeSpec := { name := "fileKnown", fn := fun _ => fun
  | [] => { results := [.lit (.bool true)], args := [] }
  | _ => none }
def fileKnownRow : OpenClaim := { program := "ytmlbhconbabdhaa", sum := "8154b4f371b811d6c4c364ca80c4e9eccd4eef9814b2a981b0b407fd0156adea", func := "hourbook/hourbooklaw05.FileKnown", spec := "fileKnown", unfollowed := true, recurses := true, apart := false }
def FileKnownSaid : Prop := fileKnownRow.holds Try.pinned (OpenSpec.ofChange fileKnownSpec)

/-- ITS FALSE NEIGHBOUR: 'it returns false'. Refute it at one input. -/
def fileKnownWrong : ChangeSpec := { name := "fileKnown", fn := fun _ => fun
  | [] => { results := [.lit (.bool false)], args := [] }
  | _ => none }
def FileKnownWrongFalsely : Prop := fileKnownRow.holds Try.pinned (OpenSpec.ofChange fileKnownWrong)

/- THE SECOND FORM. 'bulk': how many values and letters a reading holds, each counted each time it is reached (what is shared counts as often as it is met; a slice's spare places count too). A statement '..UptoSaid' is the law's where the arguments, and the package variables that the reading takes, are together of bulk at most 1048576: NARROWER than '..Said'. Prove '..Said' where nothing that the law and all that it calls make is longer than what came in: it says more and counts as full. Else prove '..UptoSaid'. A law counts once. -/
mutual
def uptoBulk {H : Type} : DataW H → Nat
  | .lit (.string bytes) => bytes.length + 1
  | .lit _ => 1
  | .nil => 1
  | .ptr d => uptoBulk d + 1
  | .slice elems spare => uptoBulkAll elems + uptoBulkAll spare + 1
  | .agg parts => uptoBulkAll parts + 1
  | .iface _ d => uptoBulk d + 1
  | .map entries => uptoBulkEntries entries + 1
  | .held _ => 1
def uptoBulkAll {H : Type} : List (DataW H) → Nat
  | [] => 0
  | d :: r => uptoBulk d + uptoBulkAll r
def uptoBulkEntries {H : Type} : List (Lit × DataW H) → Nat
  | [] => 0
  | x :: r => uptoBulkEntry x + uptoBulkEntries r
def uptoBulkEntry {H : Type} : Lit × DataW H → Nat
  | (.string bytes, d) => bytes.length + uptoBulk d + 1
  | (_, d) => uptoBulk d + 1
 end
def uptoSmall : (H : Type) → List (DataW H) → Bool := fun _ ds => decide (uptoBulkAll ds ≤ 1048576)
def OpenSpec.upto (s : _root_.Go.ChangeSpec) : _root_.Go.OpenSpec := { _root_.Go.OpenSpec.ofChange s with cond := some uptoSmall }

/-- 'hourbooklaw05.FileBeginning', WHERE WHAT IT READS IS OF BULK AT MOST 1048576: true; the input reads as it did. -/
def fileBeginningUptoRow : OpenClaim := { program := "ytmlbhconbabdhaa", sum := "8154b4f371b811d6c4c364ca80c4e9eccd4eef9814b2a981b0b407fd0156adea", func := "hourbook/hourbooklaw05.FileBeginning", spec := "fileBeginning", unfollowed := true, recurses := true, apart := false, narrowed := true }
def FileBeginningUptoSaid : Prop := fileBeginningUptoRow.holds Try.pinned (OpenSpec.upto fileBeginningSpec)

/-- 'hourbooklaw05.FileAppends', WHERE WHAT IT READS IS OF BULK AT MOST 1048576: true; the input reads as it did. -/
def fileAppendsUptoRow : OpenClaim := { program := "ytmlbhconbabdhaa", sum := "8154b4f371b811d6c4c364ca80c4e9eccd4eef9814b2a981b0b407fd0156adea", func := "hourbook/hourbooklaw05.FileAppends", spec := "fileAppends", unfollowed := true, recurses := true, apart := false, narrowed := true }
def FileAppendsUptoSaid : Prop := fileAppendsUptoRow.holds Try.pinned (OpenSpec.upto fileAppendsSpec)

/-- 'hourbooklaw05.FileTwice', WHERE WHAT IT READS IS OF BULK AT MOST 1048576: true; the input reads as it did. -/
def fileTwiceUptoRow : OpenClaim := { program := "ytmlbhconbabdhaa", sum := "8154b4f371b811d6c4c364ca80c4e9eccd4eef9814b2a981b0b407fd0156adea", func := "hourbook/hourbooklaw05.FileTwice", spec := "fileTwice", unfollowed := true, recurses := true, apart := false, narrowed := true }
def FileTwiceUptoSaid : Prop := fileTwiceUptoRow.holds Try.pinned (OpenSpec.upto fileTwiceSpec)

/-- 'hourbooklaw05.FileKnown', WHERE WHAT IT READS IS OF BULK AT MOST 1048576: true; the input reads as it did. -/
def fileKnownUptoRow : OpenClaim := { program := "ytmlbhconbabdhaa", sum := "8154b4f371b811d6c4c364ca80c4e9eccd4eef9814b2a981b0b407fd0156adea", func := "hourbook/hourbooklaw05.FileKnown", spec := "fileKnown", unfollowed := true, recurses := true, apart := false, narrowed := true }
def FileKnownUptoSaid : Prop := fileKnownUptoRow.holds Try.pinned (OpenSpec.upto fileKnownSpec)

end Rows
end Go.Proofs.Ytmlbhconbabdhaa
