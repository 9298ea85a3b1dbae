/-
  No cell of these rows narrows 'for every input' (looked for: loops, veiled, ifaces, maps, wideKeys, modest, calm, conditions, laid).
  DERIVED. THE GIVEN ROWS OF THIS SEAT. 5 by the template 'for every input the law returns true; each argument reads behind the call as it read before'; 0 by the template 'total and deterministic' (their statements: YtffcbekogpgciaaTotals.lean).
  GIVEN WITH THE SEED: the statements are not yours to turn. If you find one false, say at which input.
  Laid BY PROGRAM, IN A SANDBOX (cutbox-rows.mjs): the forced cells as the released guide's own fill.sh prints them over the translation e9c87bdbd301ef4f… (all of the seat's roots in one cut). By AI agents, Wed Nov 11 2026. No macro, syntax, notation, axiom, sorry.
-/
import Derived.Test.YtffcbekogpgciaaChecked
import GoSem.Claim
import GoSem.ClaimJoined
import GoSem.ClaimMapViews
import Derived.JoinedTies
import Derived.KernelRfl
namespace Go.Proofs.Ytffcbekogpgciaa
/- THE CELL 'sum', in the pinned program and in every row, IS THE sha256 OF THE DUMP (.gsa) THAT YtffcbekogpgciaaProg.lean LOADS. Nothing in Lean hashes anything: it is a label: what it is worth is what the hold of that sum in a sandbox is worth. -/
noncomputable def Try.pinned : Pinned := { name := "ytffcbekogpgciaa", sum := "e9c87bdbd301ef4f9f4eafc58ff0092af73d5a49a2d7bf2435485811f4cf8a9a", checked := Try.checked }
namespace Rows
def none {H : Type} : Left H := { results := [], args := [] }

/-- 'hourbooklaw14.ProbeTells': WHATEVER THE INPUT: true; the input reads as it did. -/
def probeTellsSpec : ChangeSpec := { name := "probeTells", fn := fun _ => fun
  | [d1, d2] => { results := [.lit (.bool true)], args := [d1, d2] }
  | _ => none }
def probeTellsRow : OpenClaim := { program := "ytffcbekogpgciaa", sum := "e9c87bdbd301ef4f9f4eafc58ff0092af73d5a49a2d7bf2435485811f4cf8a9a", func := "hourbook/hourbooklaw14.ProbeTells", spec := "probeTells", inPlace := ["internal/bytealg.Compare"], unfollowed := true, recurses := true, apart := false }
def ProbeTellsSaid : Prop := probeTellsRow.holds Try.pinned (OpenSpec.ofChange probeTellsSpec)

/-- ITS FALSE NEIGHBOUR: 'it returns false'. Refute it at one input. -/
def probeTellsWrong : ChangeSpec := { name := "probeTells", fn := fun _ => fun
  | [d1, d2] => { results := [.lit (.bool false)], args := [d1, d2] }
  | _ => none }
def ProbeTellsWrongFalsely : Prop := probeTellsRow.holds Try.pinned (OpenSpec.ofChange probeTellsWrong)

/-- 'hourbooklaw14.ProbeAlone': WHATEVER THE INPUT: true; the input reads as it did. -/
def probeAloneSpec : ChangeSpec := { name := "probeAlone", fn := fun _ => fun
  | [d1, d2] => { results := [.lit (.bool true)], args := [d1, d2] }
  | _ => none }
def probeAloneRow : OpenClaim := { program := "ytffcbekogpgciaa", sum := "e9c87bdbd301ef4f9f4eafc58ff0092af73d5a49a2d7bf2435485811f4cf8a9a", func := "hourbook/hourbooklaw14.ProbeAlone", spec := "probeAlone", inPlace := ["internal/bytealg.Compare"], unfollowed := true, recurses := true, apart := false }
def ProbeAloneSaid : Prop := probeAloneRow.holds Try.pinned (OpenSpec.ofChange probeAloneSpec)

/-- ITS FALSE NEIGHBOUR: 'it returns false'. Refute it at one input. -/
def probeAloneWrong : ChangeSpec := { name := "probeAlone", fn := fun _ => fun
  | [d1, d2] => { results := [.lit (.bool false)], args := [d1, d2] }
  | _ => none }
def ProbeAloneWrongFalsely : Prop := probeAloneRow.holds Try.pinned (OpenSpec.ofChange probeAloneWrong)

/-- 'hourbooklaw14.ProbeLay': WHATEVER THE INPUT: true; the input reads as it did. -/
def probeLaySpec : ChangeSpec := { name := "probeLay", fn := fun _ => fun
  | [d1, d2, d3] => { results := [.lit (.bool true)], args := [d1, d2, d3] }
  | _ => none }
def probeLayRow : OpenClaim := { program := "ytffcbekogpgciaa", sum := "e9c87bdbd301ef4f9f4eafc58ff0092af73d5a49a2d7bf2435485811f4cf8a9a", func := "hourbook/hourbooklaw14.ProbeLay", spec := "probeLay", inPlace := ["internal/bytealg.Compare"], unfollowed := true, recurses := true, apart := false }
def ProbeLaySaid : Prop := probeLayRow.holds Try.pinned (OpenSpec.ofChange probeLaySpec)

/-- ITS FALSE NEIGHBOUR: 'it returns false'. Refute it at one input. -/
def probeLayWrong : ChangeSpec := { name := "probeLay", fn := fun _ => fun
  | [d1, d2, d3] => { results := [.lit (.bool false)], args := [d1, d2, d3] }
  | _ => none }
def ProbeLayWrongFalsely : Prop := probeLayRow.holds Try.pinned (OpenSpec.ofChange probeLayWrong)

/-- 'hourbooklaw14.ProbeSeeds': WHATEVER THE INPUT: true; the input reads as it did. -/
def probeSeedsSpec : ChangeSpec := { name := "probeSeeds", fn := fun _ => fun
  | [d1, d2] => { results := [.lit (.bool true)], args := [d1, d2] }
  | _ => none }
def probeSeedsRow : OpenClaim := { program := "ytffcbekogpgciaa", sum := "e9c87bdbd301ef4f9f4eafc58ff0092af73d5a49a2d7bf2435485811f4cf8a9a", func := "hourbook/hourbooklaw14.ProbeSeeds", spec := "probeSeeds", inPlace := ["internal/bytealg.Compare"], unfollowed := true, recurses := true, apart := false }
def ProbeSeedsSaid : Prop := probeSeedsRow.holds Try.pinned (OpenSpec.ofChange probeSeedsSpec)

/-- ITS FALSE NEIGHBOUR: 'it returns false'. Refute it at one input. -/
def probeSeedsWrong : ChangeSpec := { name := "probeSeeds", fn := fun _ => fun
  | [d1, d2] => { results := [.lit (.bool false)], args := [d1, d2] }
  | _ => none }
def ProbeSeedsWrongFalsely : Prop := probeSeedsRow.holds Try.pinned (OpenSpec.ofChange probeSeedsWrong)

/-- 'hourbooklaw14.ProbeKnown': WHATEVER THE INPUT: true; the input reads as it did. -/
def probeKnownSpec : ChangeSpec := { name := "probeKnown", fn := fun _ => fun
  | [] => { results := [.lit (.bool true)], args := [] }
  | _ => none }
def probeKnownRow : OpenClaim := { program := "ytffcbekogpgciaa", sum := "e9c87bdbd301ef4f9f4eafc58ff0092af73d5a49a2d7bf2435485811f4cf8a9a", func := "hourbook/hourbooklaw14.ProbeKnown", spec := "probeKnown", inPlace := ["internal/bytealg.Compare"], unfollowed := true, recurses := true, apart := false }
def ProbeKnownSaid : Prop := probeKnownRow.holds Try.pinned (OpenSpec.ofChange probeKnownSpec)

/-- ITS FALSE NEIGHBOUR: 'it returns false'. Refute it at one input. -/
def probeKnownWrong : ChangeSpec := { name := "probeKnown", fn := fun _ => fun
  | [] => { results := [.lit (.bool false)], args := [] }
  | _ => none }
def ProbeKnownWrongFalsely : Prop := probeKnownRow.holds Try.pinned (OpenSpec.ofChange probeKnownWrong)

/- THE SECOND FORM. 'bulk': how many values and letters a reading holds, each counted each time it is reached (what is shared counts as often as it is met; a slice's spare places count too). A statement '..UptoSaid' is the law's where the arguments, and the package variables that the reading takes, are together of bulk at most 1048576: NARROWER than '..Said'. Prove '..Said' where nothing that the law and all that it calls make is longer than what came in: it says more and counts as full. Else prove '..UptoSaid'. A law counts once. -/
mutual
def uptoBulk {H : Type} : DataW H → Nat
  | .lit (.string bytes) => bytes.length + 1
  | .lit _ => 1
  | .nil => 1
  | .ptr d => uptoBulk d + 1
  | .slice elems spare => uptoBulkAll elems + uptoBulkAll spare + 1
  | .agg parts => uptoBulkAll parts + 1
  | .iface _ d => uptoBulk d + 1
  | .map entries => uptoBulkEntries entries + 1
  | .held _ => 1
def uptoBulkAll {H : Type} : List (DataW H) → Nat
  | [] => 0
  | d :: r => uptoBulk d + uptoBulkAll r
def uptoBulkEntries {H : Type} : List (Lit × DataW H) → Nat
  | [] => 0
  | x :: r => uptoBulkEntry x + uptoBulkEntries r
def uptoBulkEntry {H : Type} : Lit × DataW H → Nat
  | (.string bytes, d) => bytes.length + uptoBulk d + 1
  | (_, d) => uptoBulk d + 1
 end
def uptoSmall : (H : Type) → List (DataW H) → Bool := fun _ ds => decide (uptoBulkAll ds ≤ 1048576)
def OpenSpec.upto (s : _root_.Go.ChangeSpec) : _root_.Go.OpenSpec := { _root_.Go.OpenSpec.ofChange s with cond := some uptoSmall }

/-- 'hourbooklaw14.ProbeTells', WHERE WHAT IT READS IS OF BULK AT MOST 1048576: true; the input reads as it did. -/
def probeTellsUptoRow : OpenClaim := { program := "ytffcbekogpgciaa", sum := "e9c87bdbd301ef4f9f4eafc58ff0092af73d5a49a2d7bf2435485811f4cf8a9a", func := "hourbook/hourbooklaw14.ProbeTells", spec := "probeTells", inPlace := ["internal/bytealg.Compare"], unfollowed := true, recurses := true, apart := false, narrowed := true }
def ProbeTellsUptoSaid : Prop := probeTellsUptoRow.holds Try.pinned (OpenSpec.upto probeTellsSpec)

/-- 'hourbooklaw14.ProbeAlone', WHERE WHAT IT READS IS OF BULK AT MOST 1048576: true; the input reads as it did. -/
def probeAloneUptoRow : OpenClaim := { program := "ytffcbekogpgciaa", sum := "e9c87bdbd301ef4f9f4eafc58ff0092af73d5a49a2d7bf2435485811f4cf8a9a", func := "hourbook/hourbooklaw14.ProbeAlone", spec := "probeAlone", inPlace := ["internal/bytealg.Compare"], unfollowed := true, recurses := true, apart := false, narrowed := true }
def ProbeAloneUptoSaid : Prop := probeAloneUptoRow.holds Try.pinned (OpenSpec.upto probeAloneSpec)

/-- 'hourbooklaw14.ProbeLay', WHERE WHAT IT READS IS OF BULK AT MOST 1048576: true; the input reads as it did. -/
def probeLayUptoRow : OpenClaim := { program := "ytffcbekogpgciaa", sum := "e9c87bdbd301ef4f9f4eafc58ff0092af73d5a49a2d7bf2435485811f4cf8a9a", func := "hourbook/hourbooklaw14.ProbeLay", spec := "probeLay", inPlace := ["internal/bytealg.Compare"], unfollowed := true, recurses := true, apart := false, narrowed := true }
def ProbeLayUptoSaid : Prop := probeLayUptoRow.holds Try.pinned (OpenSpec.upto probeLaySpec)

/-- 'hourbooklaw14.ProbeSeeds', WHERE WHAT IT READS IS OF BULK AT MOST 1048576: true; the input reads as it did. -/
def probeSeedsUptoRow : OpenClaim := { program := "ytffcbekogpgciaa", sum := "e9c87bdbd301ef4f9f4eafc58ff0092af73d5a49a2d7bf2435485811f4cf8a9a", func := "hourbook/hourbooklaw14.ProbeSeeds", spec := "probeSeeds", inPlace := ["internal/bytealg.Compare"], unfollowed := true, recurses := true, apart := false, narrowed := true }
def ProbeSeedsUptoSaid : Prop := probeSeedsUptoRow.holds Try.pinned (OpenSpec.upto probeSeedsSpec)

/-- 'hourbooklaw14.ProbeKnown', WHERE WHAT IT READS IS OF BULK AT MOST 1048576: true; the input reads as it did. -/
def probeKnownUptoRow : OpenClaim := { program := "ytffcbekogpgciaa", sum := "e9c87bdbd301ef4f9f4eafc58ff0092af73d5a49a2d7bf2435485811f4cf8a9a", func := "hourbook/hourbooklaw14.ProbeKnown", spec := "probeKnown", inPlace := ["internal/bytealg.Compare"], unfollowed := true, recurses := true, apart := false, narrowed := true }
def ProbeKnownUptoSaid : Prop := probeKnownUptoRow.holds Try.pinned (OpenSpec.upto probeKnownSpec)

end Rows
end Go.Proofs.Ytffcbekogpgciaa
