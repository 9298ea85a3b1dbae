/-
  NARROWER THAN 'FOR EVERY INPUT', by the rows' own cells (each row's printed sentence says how): EditCalls: laid · EditReads: laid · HeadTells: laid · HeadIs: laid · HeadKnown: laid.
  DERIVED. THE GIVEN ROWS OF THIS SEAT. 5 by the template 'for every input the law returns true; each argument reads behind the call as it read before'; 0 by the template 'total and deterministic' (their statements: YtggijjknfcofoaaDoorTotals.lean).
  GIVEN WITH THE SEED: the statements are not yours to turn. If you find one false, say at which input.
  Laid BY PROGRAM, IN A SANDBOX (cutbox-rows.mjs): the forced cells as the released guide's own fill.sh prints them over the translation 99ddefcd4005ff2f… (all of the seat's roots in one cut). By AI agents, Wed Nov 11 2026. No macro, syntax, notation, axiom, sorry.
-/
import Derived.Test.YtggijjknfcofoaaDoorChecked
import GoSem.Claim
import GoSem.ClaimJoined
import GoSem.ClaimMapViews
import Derived.JoinedTies
import Derived.KernelRfl
namespace Go.Proofs.YtggijjknfcofoaaDoor
/- THE CELL 'sum', in the pinned program and in every row, IS THE sha256 OF THE DUMP (.gsa) THAT YtggijjknfcofoaaDoorProg.lean LOADS. Nothing in Lean hashes anything: it is a label: what it is worth is what the hold of that sum in a sandbox is worth. -/
noncomputable def Tryd.pinned : Pinned := { name := "ytggijjknfcofoaadoor", sum := "99ddefcd4005ff2f0f30fb6849701910fb4440099c98bd65973a3d7927e74a0a", checked := Tryd.checked }
namespace Rows
def none {H : Type} : Left H := { results := [], args := [] }

/- WHAT THE LISTED PACKAGE-LEVEL VARIABLES READ AS WHEN THE CALL BEGINS. Each datum BY PROGRAM (the guide's laid-datum.mjs) off the statement by which the dump's own 'gosem.cut.vars' lays the variable. In a bare row this is a premise. The card (YtggijjknfcofoaaDoorCards.lean) ties it to the program's text. -/
def laid_hourbook_edit_shapes {H : Type} : DataW H := .agg [.agg [.agg [.lit (.int .u64 0), .lit (.int .u64 0)], .lit (.bool false), .agg [.lit (.int .u64 0), .lit (.int .u64 0)], .agg [.lit (.int .u64 0), .lit (.int .u64 0)]], .agg [.agg [.lit (.int .u64 0), .lit (.int .u64 1099511627776)], .lit (.bool false), .agg [.lit (.int .u64 0), .lit (.int .u64 0)], .agg [.lit (.int .u64 0), .lit (.int .u64 0)]], .agg [.agg [.lit (.int .u64 0), .lit (.int .u64 1099511627776)], .lit (.bool true), .agg [.lit (.int .u64 0), .lit (.int .u64 0)], .agg [.lit (.int .u64 0), .lit (.int .u64 0)]], .agg [.agg [.lit (.int .u64 0), .lit (.int .u64 0)], .lit (.bool true), .agg [.lit (.int .u64 0), .lit (.int .u64 0)], .agg [.lit (.int .u64 0), .lit (.int .u64 0)]], .agg [.agg [.lit (.int .u64 0), .lit (.int .u64 0)], .lit (.bool false), .agg [.lit (.int .u64 1), .lit (.int .u64 16777215)], .agg [.lit (.int .u64 0), .lit (.int .u64 0)]], .agg [.agg [.lit (.int .u64 0), .lit (.int .u64 0)], .lit (.bool false), .agg [.lit (.int .u64 0), .lit (.int .u64 0)], .agg [.lit (.int .u64 1), .lit (.int .u64 1)]], .agg [.agg [.lit (.int .u64 0), .lit (.int .u64 1099511627776)], .lit (.bool false), .agg [.lit (.int .u64 0), .lit (.int .u64 0)], .agg [.lit (.int .u64 0), .lit (.int .u64 200)]]]
def laid_hourbook_crc_steps {H : Type} : DataW H := .agg [.lit (.int .u32 0), .lit (.int .u32 274646895), .lit (.int .u32 549293790), .lit (.int .u32 820201905), .lit (.int .u32 1098587580), .lit (.int .u32 1361435347), .lit (.int .u32 1640403810), .lit (.int .u32 1905808397), .lit (.int .u32 2197175160), .lit (.int .u32 2460548119), .lit (.int .u32 2722870694), .lit (.int .u32 2987750089), .lit (.int .u32 3280807620), .lit (.int .u32 3553878443), .lit (.int .u32 3811616794), .lit (.int .u32 4084100981)]

/-- 'hourbooklaw09.EditCalls': WHATEVER THE INPUT: true; the input reads as it did. -/
def editCallsSpec : ChangeSpec := { name := "editCalls", fn := fun _ => fun
  | [d1, d2, d3] => { results := [.lit (.bool true)], args := [d1, d2, d3] }
  | _ => none }
def editCallsRow : OpenClaim := { program := "ytggijjknfcofoaadoor", sum := "99ddefcd4005ff2f0f30fb6849701910fb4440099c98bd65973a3d7927e74a0a", func := "hourbook/hourbooklaw09.EditCalls", spec := "editCalls", unfollowed := true, recurses := true, named := ["hourbook/edit.shapes"], apart := false, laid := [("hourbook/edit.shapes", laid_hourbook_edit_shapes)] }
def EditCallsSaid : Prop := editCallsRow.holds Tryd.pinned (OpenSpec.ofChange editCallsSpec)

/-- ITS FALSE NEIGHBOUR: 'it returns false'. Refute it at one input. -/
def editCallsWrong : ChangeSpec := { name := "editCalls", fn := fun _ => fun
  | [d1, d2, d3] => { results := [.lit (.bool false)], args := [d1, d2, d3] }
  | _ => none }
def EditCallsWrongFalsely : Prop := editCallsRow.holds Tryd.pinned (OpenSpec.ofChange editCallsWrong)

/-- 'hourbooklaw09.EditReads': WHATEVER THE INPUT: true; the input reads as it did. -/
def editReadsSpec : ChangeSpec := { name := "editReads", fn := fun _ => fun
  | [d] => { results := [.lit (.bool true)], args := [d] }
  | _ => none }
def editReadsRow : OpenClaim := { program := "ytggijjknfcofoaadoor", sum := "99ddefcd4005ff2f0f30fb6849701910fb4440099c98bd65973a3d7927e74a0a", func := "hourbook/hourbooklaw09.EditReads", spec := "editReads", unfollowed := true, recurses := true, named := ["hourbook/edit.shapes"], apart := false, laid := [("hourbook/edit.shapes", laid_hourbook_edit_shapes)] }
def EditReadsSaid : Prop := editReadsRow.holds Tryd.pinned (OpenSpec.ofChange editReadsSpec)

/-- ITS FALSE NEIGHBOUR: 'it returns false'. Refute it at one input. -/
def editReadsWrong : ChangeSpec := { name := "editReads", fn := fun _ => fun
  | [d] => { results := [.lit (.bool false)], args := [d] }
  | _ => none }
def EditReadsWrongFalsely : Prop := editReadsRow.holds Tryd.pinned (OpenSpec.ofChange editReadsWrong)

/-- 'hourbooklaw10.HeadTells': WHATEVER THE INPUT: true; the input reads as it did. -/
def headTellsSpec : ChangeSpec := { name := "headTells", fn := fun _ => fun
  | [d1, d2, d3] => { results := [.lit (.bool true)], args := [d1, d2, d3] }
  | _ => none }
def headTellsRow : OpenClaim := { program := "ytggijjknfcofoaadoor", sum := "99ddefcd4005ff2f0f30fb6849701910fb4440099c98bd65973a3d7927e74a0a", func := "hourbook/hourbooklaw10.HeadTells", spec := "headTells", unfollowed := true, recurses := true, named := ["hourbook/crc.steps"], apart := false, laid := [("hourbook/crc.steps", laid_hourbook_crc_steps)] }
def HeadTellsSaid : Prop := headTellsRow.holds Tryd.pinned (OpenSpec.ofChange headTellsSpec)

/-- ITS FALSE NEIGHBOUR: 'it returns false'. Refute it at one input. -/
def headTellsWrong : ChangeSpec := { name := "headTells", fn := fun _ => fun
  | [d1, d2, d3] => { results := [.lit (.bool false)], args := [d1, d2, d3] }
  | _ => none }
def HeadTellsWrongFalsely : Prop := headTellsRow.holds Tryd.pinned (OpenSpec.ofChange headTellsWrong)

/-- 'hourbooklaw10.HeadIs': WHATEVER THE INPUT: true; the input reads as it did. -/
def headIsSpec : ChangeSpec := { name := "headIs", fn := fun _ => fun
  | [d1, d2, d3, d4, d5] => { results := [.lit (.bool true)], args := [d1, d2, d3, d4, d5] }
  | _ => none }
def headIsRow : OpenClaim := { program := "ytggijjknfcofoaadoor", sum := "99ddefcd4005ff2f0f30fb6849701910fb4440099c98bd65973a3d7927e74a0a", func := "hourbook/hourbooklaw10.HeadIs", spec := "headIs", unfollowed := true, recurses := true, named := ["hourbook/crc.steps"], apart := false, laid := [("hourbook/crc.steps", laid_hourbook_crc_steps)] }
def HeadIsSaid : Prop := headIsRow.holds Tryd.pinned (OpenSpec.ofChange headIsSpec)

/-- ITS FALSE NEIGHBOUR: 'it returns false'. Refute it at one input. -/
def headIsWrong : ChangeSpec := { name := "headIs", fn := fun _ => fun
  | [d1, d2, d3, d4, d5] => { results := [.lit (.bool false)], args := [d1, d2, d3, d4, d5] }
  | _ => none }
def HeadIsWrongFalsely : Prop := headIsRow.holds Tryd.pinned (OpenSpec.ofChange headIsWrong)

/-- 'hourbooklaw10.HeadKnown': WHATEVER THE INPUT: true; the input reads as it did. -/
def headKnownSpec : ChangeSpec := { name := "headKnown", fn := fun _ => fun
  | [] => { results := [.lit (.bool true)], args := [] }
  | _ => none }
def headKnownRow : OpenClaim := { program := "ytggijjknfcofoaadoor", sum := "99ddefcd4005ff2f0f30fb6849701910fb4440099c98bd65973a3d7927e74a0a", func := "hourbook/hourbooklaw10.HeadKnown", spec := "headKnown", unfollowed := true, recurses := true, named := ["hourbook/crc.steps"], apart := false, laid := [("hourbook/crc.steps", laid_hourbook_crc_steps)] }
def HeadKnownSaid : Prop := headKnownRow.holds Tryd.pinned (OpenSpec.ofChange headKnownSpec)

/-- ITS FALSE NEIGHBOUR: 'it returns false'. Refute it at one input. -/
def headKnownWrong : ChangeSpec := { name := "headKnown", fn := fun _ => fun
  | [] => { results := [.lit (.bool false)], args := [] }
  | _ => none }
def HeadKnownWrongFalsely : Prop := headKnownRow.holds Tryd.pinned (OpenSpec.ofChange headKnownWrong)

/- THE SECOND FORM. 'bulk': how many values and letters a reading holds, each counted each time it is reached (what is shared counts as often as it is met; a slice's spare places count too). A statement '..UptoSaid' is the law's where the arguments, and the package variables that the reading takes, are together of bulk at most 1048576: NARROWER than '..Said'. Prove '..Said' where nothing that the law and all that it calls make is longer than what came in: it says more and counts as full. Else prove '..UptoSaid'. A law counts once. -/
mutual
def uptoBulk {H : Type} : DataW H → Nat
  | .lit (.string bytes) => bytes.length + 1
  | .lit _ => 1
  | .nil => 1
  | .ptr d => uptoBulk d + 1
  | .slice elems spare => uptoBulkAll elems + uptoBulkAll spare + 1
  | .agg parts => uptoBulkAll parts + 1
  | .iface _ d => uptoBulk d + 1
  | .map entries => uptoBulkEntries entries + 1
  | .held _ => 1
def uptoBulkAll {H : Type} : List (DataW H) → Nat
  | [] => 0
  | d :: r => uptoBulk d + uptoBulkAll r
def uptoBulkEntries {H : Type} : List (Lit × DataW H) → Nat
  | [] => 0
  | x :: r => uptoBulkEntry x + uptoBulkEntries r
def uptoBulkEntry {H : Type} : Lit × DataW H → Nat
  | (.string bytes, d) => bytes.length + uptoBulk d + 1
  | (_, d) => uptoBulk d + 1
 end
def uptoSmall : (H : Type) → List (DataW H) → Bool := fun _ ds => decide (uptoBulkAll ds ≤ 1048576)
def OpenSpec.upto (s : _root_.Go.ChangeSpec) : _root_.Go.OpenSpec := { _root_.Go.OpenSpec.ofChange s with cond := some uptoSmall }

/-- 'hourbooklaw09.EditCalls', WHERE WHAT IT READS IS OF BULK AT MOST 1048576: true; the input reads as it did. -/
def editCallsUptoRow : OpenClaim := { program := "ytggijjknfcofoaadoor", sum := "99ddefcd4005ff2f0f30fb6849701910fb4440099c98bd65973a3d7927e74a0a", func := "hourbook/hourbooklaw09.EditCalls", spec := "editCalls", unfollowed := true, recurses := true, named := ["hourbook/edit.shapes"], apart := false, laid := [("hourbook/edit.shapes", laid_hourbook_edit_shapes)], narrowed := true }
def EditCallsUptoSaid : Prop := editCallsUptoRow.holds Tryd.pinned (OpenSpec.upto editCallsSpec)

/-- 'hourbooklaw09.EditReads', WHERE WHAT IT READS IS OF BULK AT MOST 1048576: true; the input reads as it did. -/
def editReadsUptoRow : OpenClaim := { program := "ytggijjknfcofoaadoor", sum := "99ddefcd4005ff2f0f30fb6849701910fb4440099c98bd65973a3d7927e74a0a", func := "hourbook/hourbooklaw09.EditReads", spec := "editReads", unfollowed := true, recurses := true, named := ["hourbook/edit.shapes"], apart := false, laid := [("hourbook/edit.shapes", laid_hourbook_edit_shapes)], narrowed := true }
def EditReadsUptoSaid : Prop := editReadsUptoRow.holds Tryd.pinned (OpenSpec.upto editReadsSpec)

/-- 'hourbooklaw10.HeadTells', WHERE WHAT IT READS IS OF BULK AT MOST 1048576: true; the input reads as it did. -/
def headTellsUptoRow : OpenClaim := { program := "ytggijjknfcofoaadoor", sum := "99ddefcd4005ff2f0f30fb6849701910fb4440099c98bd65973a3d7927e74a0a", func := "hourbook/hourbooklaw10.HeadTells", spec := "headTells", unfollowed := true, recurses := true, named := ["hourbook/crc.steps"], apart := false, laid := [("hourbook/crc.steps", laid_hourbook_crc_steps)], narrowed := true }
def HeadTellsUptoSaid : Prop := headTellsUptoRow.holds Tryd.pinned (OpenSpec.upto headTellsSpec)

/-- 'hourbooklaw10.HeadIs', WHERE WHAT IT READS IS OF BULK AT MOST 1048576: true; the input reads as it did. -/
def headIsUptoRow : OpenClaim := { program := "ytggijjknfcofoaadoor", sum := "99ddefcd4005ff2f0f30fb6849701910fb4440099c98bd65973a3d7927e74a0a", func := "hourbook/hourbooklaw10.HeadIs", spec := "headIs", unfollowed := true, recurses := true, named := ["hourbook/crc.steps"], apart := false, laid := [("hourbook/crc.steps", laid_hourbook_crc_steps)], narrowed := true }
def HeadIsUptoSaid : Prop := headIsUptoRow.holds Tryd.pinned (OpenSpec.upto headIsSpec)

/-- 'hourbooklaw10.HeadKnown', WHERE WHAT IT READS IS OF BULK AT MOST 1048576: true; the input reads as it did. -/
def headKnownUptoRow : OpenClaim := { program := "ytggijjknfcofoaadoor", sum := "99ddefcd4005ff2f0f30fb6849701910fb4440099c98bd65973a3d7927e74a0a", func := "hourbook/hourbooklaw10.HeadKnown", spec := "headKnown", unfollowed := true, recurses := true, named := ["hourbook/crc.steps"], apart := false, laid := [("hourbook/crc.steps", laid_hourbook_crc_steps)], narrowed := true }
def HeadKnownUptoSaid : Prop := headKnownUptoRow.holds Tryd.pinned (OpenSpec.upto headKnownSpec)

end Rows
end Go.Proofs.YtggijjknfcofoaaDoor
