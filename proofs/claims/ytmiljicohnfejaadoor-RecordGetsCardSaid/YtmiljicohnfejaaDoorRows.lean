/-
  NARROWER THAN 'FOR EVERY INPUT', by the rows' own cells (each row's printed sentence says how): RecordPuts: laid · RecordGets: laid · RecordTorn: laid · RecordTurned: laid · RecordRows: laid · RecordKnown: laid.
  DERIVED. THE GIVEN ROWS OF THIS SEAT. 6 by the template 'for every input the law returns true; each argument reads behind the call as it read before'; 0 by the template 'total and deterministic' (their statements: YtmiljicohnfejaaDoorTotals.lean).
  GIVEN WITH THE SEED: the statements are not yours to turn. If you find one false, say at which input.
  Laid BY PROGRAM, IN A SANDBOX (cutbox-rows.mjs): the forced cells as the released guide's own fill.sh prints them over the translation fb3d147080b45a29… (all of the seat's roots in one cut). By AI agents, Wed Nov 11 2026. No macro, syntax, notation, axiom, sorry.
-/
import Derived.Test.YtmiljicohnfejaaDoorChecked
import GoSem.Claim
import GoSem.ClaimJoined
import GoSem.ClaimMapViews
import Derived.JoinedTies
import Derived.KernelRfl
namespace Go.Proofs.YtmiljicohnfejaaDoor
/- THE CELL 'sum', in the pinned program and in every row, IS THE sha256 OF THE DUMP (.gsa) THAT YtmiljicohnfejaaDoorProg.lean LOADS. Nothing in Lean hashes anything: it is a label: what it is worth is what the hold of that sum in a sandbox is worth. -/
noncomputable def Tryd.pinned : Pinned := { name := "ytmiljicohnfejaadoor", sum := "fb3d147080b45a290909d903bcb1fd0d5beed977dfefb70aa5c808abeaea946e", checked := Tryd.checked }
namespace Rows
def none {H : Type} : Left H := { results := [], args := [] }

/- WHAT THE LISTED PACKAGE-LEVEL VARIABLES READ AS WHEN THE CALL BEGINS. Each datum BY PROGRAM (the guide's laid-datum.mjs) off the statement by which the dump's own 'gosem.cut.vars' lays the variable. In a bare row this is a premise. The card (YtmiljicohnfejaaDoorCards.lean) ties it to the program's text. -/
def laid_hourbook_crc_steps {H : Type} : DataW H := .agg [.lit (.int .u32 0), .lit (.int .u32 274646895), .lit (.int .u32 549293790), .lit (.int .u32 820201905), .lit (.int .u32 1098587580), .lit (.int .u32 1361435347), .lit (.int .u32 1640403810), .lit (.int .u32 1905808397), .lit (.int .u32 2197175160), .lit (.int .u32 2460548119), .lit (.int .u32 2722870694), .lit (.int .u32 2987750089), .lit (.int .u32 3280807620), .lit (.int .u32 3553878443), .lit (.int .u32 3811616794), .lit (.int .u32 4084100981)]
def laid_hourbook_record_widths {H : Type} : DataW H := .agg [.lit (.int .i64 1), .lit (.int .i64 1), .lit (.int .i64 2), .lit (.int .i64 6), .lit (.int .i64 3), .lit (.int .i64 4)]

/-- 'hourbooklaw08.RecordPuts': WHATEVER THE INPUT: true; the input reads as it did. -/
def recordPutsSpec : ChangeSpec := { name := "recordPuts", fn := fun _ => fun
  | [d1, d2] => { results := [.lit (.bool true)], args := [d1, d2] }
  | _ => none }
def recordPutsRow : OpenClaim := { program := "ytmiljicohnfejaadoor", sum := "fb3d147080b45a290909d903bcb1fd0d5beed977dfefb70aa5c808abeaea946e", func := "hourbook/hourbooklaw08.RecordPuts", spec := "recordPuts", unfollowed := true, recurses := true, named := ["hourbook/record.widths", "hourbook/crc.steps"], apart := false, laid := [("hourbook/crc.steps", laid_hourbook_crc_steps), ("hourbook/record.widths", laid_hourbook_record_widths)] }
def RecordPutsSaid : Prop := recordPutsRow.holds Tryd.pinned (OpenSpec.ofChange recordPutsSpec)

/-- ITS FALSE NEIGHBOUR: 'it returns false'. Refute it at one input. -/
def recordPutsWrong : ChangeSpec := { name := "recordPuts", fn := fun _ => fun
  | [d1, d2] => { results := [.lit (.bool false)], args := [d1, d2] }
  | _ => none }
def RecordPutsWrongFalsely : Prop := recordPutsRow.holds Tryd.pinned (OpenSpec.ofChange recordPutsWrong)

/-- 'hourbooklaw08.RecordGets': WHATEVER THE INPUT: true; the input reads as it did. -/
def recordGetsSpec : ChangeSpec := { name := "recordGets", fn := fun _ => fun
  | [d] => { results := [.lit (.bool true)], args := [d] }
  | _ => none }
def recordGetsRow : OpenClaim := { program := "ytmiljicohnfejaadoor", sum := "fb3d147080b45a290909d903bcb1fd0d5beed977dfefb70aa5c808abeaea946e", func := "hourbook/hourbooklaw08.RecordGets", spec := "recordGets", unfollowed := true, recurses := true, named := ["hourbook/crc.steps", "hourbook/record.widths"], apart := false, laid := [("hourbook/crc.steps", laid_hourbook_crc_steps), ("hourbook/record.widths", laid_hourbook_record_widths)] }
def RecordGetsSaid : Prop := recordGetsRow.holds Tryd.pinned (OpenSpec.ofChange recordGetsSpec)

/-- ITS FALSE NEIGHBOUR: 'it returns false'. Refute it at one input. -/
def recordGetsWrong : ChangeSpec := { name := "recordGets", fn := fun _ => fun
  | [d] => { results := [.lit (.bool false)], args := [d] }
  | _ => none }
def RecordGetsWrongFalsely : Prop := recordGetsRow.holds Tryd.pinned (OpenSpec.ofChange recordGetsWrong)

/-- 'hourbooklaw08.RecordTorn': WHATEVER THE INPUT: true; the input reads as it did. -/
def recordTornSpec : ChangeSpec := { name := "recordTorn", fn := fun _ => fun
  | [d1, d2, d3] => { results := [.lit (.bool true)], args := [d1, d2, d3] }
  | _ => none }
def recordTornRow : OpenClaim := { program := "ytmiljicohnfejaadoor", sum := "fb3d147080b45a290909d903bcb1fd0d5beed977dfefb70aa5c808abeaea946e", func := "hourbook/hourbooklaw08.RecordTorn", spec := "recordTorn", unfollowed := true, recurses := true, named := ["hourbook/record.widths", "hourbook/crc.steps"], apart := false, laid := [("hourbook/crc.steps", laid_hourbook_crc_steps), ("hourbook/record.widths", laid_hourbook_record_widths)] }
def RecordTornSaid : Prop := recordTornRow.holds Tryd.pinned (OpenSpec.ofChange recordTornSpec)

/-- ITS FALSE NEIGHBOUR: 'it returns false'. Refute it at one input. -/
def recordTornWrong : ChangeSpec := { name := "recordTorn", fn := fun _ => fun
  | [d1, d2, d3] => { results := [.lit (.bool false)], args := [d1, d2, d3] }
  | _ => none }
def RecordTornWrongFalsely : Prop := recordTornRow.holds Tryd.pinned (OpenSpec.ofChange recordTornWrong)

/-- 'hourbooklaw08.RecordTurned': WHATEVER THE INPUT: true; the input reads as it did. -/
def recordTurnedSpec : ChangeSpec := { name := "recordTurned", fn := fun _ => fun
  | [d1, d2, d3, d4] => { results := [.lit (.bool true)], args := [d1, d2, d3, d4] }
  | _ => none }
def recordTurnedRow : OpenClaim := { program := "ytmiljicohnfejaadoor", sum := "fb3d147080b45a290909d903bcb1fd0d5beed977dfefb70aa5c808abeaea946e", func := "hourbook/hourbooklaw08.RecordTurned", spec := "recordTurned", unfollowed := true, recurses := true, named := ["hourbook/record.widths", "hourbook/crc.steps"], apart := false, laid := [("hourbook/crc.steps", laid_hourbook_crc_steps), ("hourbook/record.widths", laid_hourbook_record_widths)] }
def RecordTurnedSaid : Prop := recordTurnedRow.holds Tryd.pinned (OpenSpec.ofChange recordTurnedSpec)

/-- ITS FALSE NEIGHBOUR: 'it returns false'. Refute it at one input. -/
def recordTurnedWrong : ChangeSpec := { name := "recordTurned", fn := fun _ => fun
  | [d1, d2, d3, d4] => { results := [.lit (.bool false)], args := [d1, d2, d3, d4] }
  | _ => none }
def RecordTurnedWrongFalsely : Prop := recordTurnedRow.holds Tryd.pinned (OpenSpec.ofChange recordTurnedWrong)

/-- 'hourbooklaw08.RecordRows': WHATEVER THE INPUT: true; the input reads as it did. -/
def recordRowsSpec : ChangeSpec := { name := "recordRows", fn := fun _ => fun
  | [d1, d2] => { results := [.lit (.bool true)], args := [d1, d2] }
  | _ => none }
def recordRowsRow : OpenClaim := { program := "ytmiljicohnfejaadoor", sum := "fb3d147080b45a290909d903bcb1fd0d5beed977dfefb70aa5c808abeaea946e", func := "hourbook/hourbooklaw08.RecordRows", spec := "recordRows", unfollowed := true, recurses := true, named := ["hourbook/record.widths", "hourbook/crc.steps"], apart := false, laid := [("hourbook/crc.steps", laid_hourbook_crc_steps), ("hourbook/record.widths", laid_hourbook_record_widths)] }
def RecordRowsSaid : Prop := recordRowsRow.holds Tryd.pinned (OpenSpec.ofChange recordRowsSpec)

/-- ITS FALSE NEIGHBOUR: 'it returns false'. Refute it at one input. -/
def recordRowsWrong : ChangeSpec := { name := "recordRows", fn := fun _ => fun
  | [d1, d2] => { results := [.lit (.bool false)], args := [d1, d2] }
  | _ => none }
def RecordRowsWrongFalsely : Prop := recordRowsRow.holds Tryd.pinned (OpenSpec.ofChange recordRowsWrong)

/-- 'hourbooklaw08.RecordKnown': WHATEVER THE INPUT: true; the input reads as it did. -/
def recordKnownSpec : ChangeSpec := { name := "recordKnown", fn := fun _ => fun
  | [] => { results := [.lit (.bool true)], args := [] }
  | _ => none }
def recordKnownRow : OpenClaim := { program := "ytmiljicohnfejaadoor", sum := "fb3d147080b45a290909d903bcb1fd0d5beed977dfefb70aa5c808abeaea946e", func := "hourbook/hourbooklaw08.RecordKnown", spec := "recordKnown", unfollowed := true, recurses := true, named := ["hourbook/record.widths", "hourbook/crc.steps"], apart := false, laid := [("hourbook/crc.steps", laid_hourbook_crc_steps), ("hourbook/record.widths", laid_hourbook_record_widths)] }
def RecordKnownSaid : Prop := recordKnownRow.holds Tryd.pinned (OpenSpec.ofChange recordKnownSpec)

/-- ITS FALSE NEIGHBOUR: 'it returns false'. Refute it at one input. -/
def recordKnownWrong : ChangeSpec := { name := "recordKnown", fn := fun _ => fun
  | [] => { results := [.lit (.bool false)], args := [] }
  | _ => none }
def RecordKnownWrongFalsely : Prop := recordKnownRow.holds Tryd.pinned (OpenSpec.ofChange recordKnownWrong)

/- THE SECOND FORM. 'bulk': how many values and letters a reading holds, each counted each time it is reached (what is shared counts as often as it is met; a slice's spare places count too). A statement '..UptoSaid' is the law's where the arguments, and the package variables that the reading takes, are together of bulk at most 1048576: NARROWER than '..Said'. Prove '..Said' where nothing that the law and all that it calls make is longer than what came in: it says more and counts as full. Else prove '..UptoSaid'. A law counts once. -/
mutual
def uptoBulk {H : Type} : DataW H → Nat
  | .lit (.string bytes) => bytes.length + 1
  | .lit _ => 1
  | .nil => 1
  | .ptr d => uptoBulk d + 1
  | .slice elems spare => uptoBulkAll elems + uptoBulkAll spare + 1
  | .agg parts => uptoBulkAll parts + 1
  | .iface _ d => uptoBulk d + 1
  | .map entries => uptoBulkEntries entries + 1
  | .held _ => 1
def uptoBulkAll {H : Type} : List (DataW H) → Nat
  | [] => 0
  | d :: r => uptoBulk d + uptoBulkAll r
def uptoBulkEntries {H : Type} : List (Lit × DataW H) → Nat
  | [] => 0
  | x :: r => uptoBulkEntry x + uptoBulkEntries r
def uptoBulkEntry {H : Type} : Lit × DataW H → Nat
  | (.string bytes, d) => bytes.length + uptoBulk d + 1
  | (_, d) => uptoBulk d + 1
 end
def uptoSmall : (H : Type) → List (DataW H) → Bool := fun _ ds => decide (uptoBulkAll ds ≤ 1048576)
def OpenSpec.upto (s : _root_.Go.ChangeSpec) : _root_.Go.OpenSpec := { _root_.Go.OpenSpec.ofChange s with cond := some uptoSmall }

/-- 'hourbooklaw08.RecordPuts', WHERE WHAT IT READS IS OF BULK AT MOST 1048576: true; the input reads as it did. -/
def recordPutsUptoRow : OpenClaim := { program := "ytmiljicohnfejaadoor", sum := "fb3d147080b45a290909d903bcb1fd0d5beed977dfefb70aa5c808abeaea946e", func := "hourbook/hourbooklaw08.RecordPuts", spec := "recordPuts", unfollowed := true, recurses := true, named := ["hourbook/record.widths", "hourbook/crc.steps"], apart := false, laid := [("hourbook/crc.steps", laid_hourbook_crc_steps), ("hourbook/record.widths", laid_hourbook_record_widths)], narrowed := true }
def RecordPutsUptoSaid : Prop := recordPutsUptoRow.holds Tryd.pinned (OpenSpec.upto recordPutsSpec)

/-- 'hourbooklaw08.RecordGets', WHERE WHAT IT READS IS OF BULK AT MOST 1048576: true; the input reads as it did. -/
def recordGetsUptoRow : OpenClaim := { program := "ytmiljicohnfejaadoor", sum := "fb3d147080b45a290909d903bcb1fd0d5beed977dfefb70aa5c808abeaea946e", func := "hourbook/hourbooklaw08.RecordGets", spec := "recordGets", unfollowed := true, recurses := true, named := ["hourbook/crc.steps", "hourbook/record.widths"], apart := false, laid := [("hourbook/crc.steps", laid_hourbook_crc_steps), ("hourbook/record.widths", laid_hourbook_record_widths)], narrowed := true }
def RecordGetsUptoSaid : Prop := recordGetsUptoRow.holds Tryd.pinned (OpenSpec.upto recordGetsSpec)

/-- 'hourbooklaw08.RecordTorn', WHERE WHAT IT READS IS OF BULK AT MOST 1048576: true; the input reads as it did. -/
def recordTornUptoRow : OpenClaim := { program := "ytmiljicohnfejaadoor", sum := "fb3d147080b45a290909d903bcb1fd0d5beed977dfefb70aa5c808abeaea946e", func := "hourbook/hourbooklaw08.RecordTorn", spec := "recordTorn", unfollowed := true, recurses := true, named := ["hourbook/record.widths", "hourbook/crc.steps"], apart := false, laid := [("hourbook/crc.steps", laid_hourbook_crc_steps), ("hourbook/record.widths", laid_hourbook_record_widths)], narrowed := true }
def RecordTornUptoSaid : Prop := recordTornUptoRow.holds Tryd.pinned (OpenSpec.upto recordTornSpec)

/-- 'hourbooklaw08.RecordTurned', WHERE WHAT IT READS IS OF BULK AT MOST 1048576: true; the input reads as it did. -/
def recordTurnedUptoRow : OpenClaim := { program := "ytmiljicohnfejaadoor", sum := "fb3d147080b45a290909d903bcb1fd0d5beed977dfefb70aa5c808abeaea946e", func := "hourbook/hourbooklaw08.RecordTurned", spec := "recordTurned", unfollowed := true, recurses := true, named := ["hourbook/record.widths", "hourbook/crc.steps"], apart := false, laid := [("hourbook/crc.steps", laid_hourbook_crc_steps), ("hourbook/record.widths", laid_hourbook_record_widths)], narrowed := true }
def RecordTurnedUptoSaid : Prop := recordTurnedUptoRow.holds Tryd.pinned (OpenSpec.upto recordTurnedSpec)

/-- 'hourbooklaw08.RecordRows', WHERE WHAT IT READS IS OF BULK AT MOST 1048576: true; the input reads as it did. -/
def recordRowsUptoRow : OpenClaim := { program := "ytmiljicohnfejaadoor", sum := "fb3d147080b45a290909d903bcb1fd0d5beed977dfefb70aa5c808abeaea946e", func := "hourbook/hourbooklaw08.RecordRows", spec := "recordRows", unfollowed := true, recurses := true, named := ["hourbook/record.widths", "hourbook/crc.steps"], apart := false, laid := [("hourbook/crc.steps", laid_hourbook_crc_steps), ("hourbook/record.widths", laid_hourbook_record_widths)], narrowed := true }
def RecordRowsUptoSaid : Prop := recordRowsUptoRow.holds Tryd.pinned (OpenSpec.upto recordRowsSpec)

/-- 'hourbooklaw08.RecordKnown', WHERE WHAT IT READS IS OF BULK AT MOST 1048576: true; the input reads as it did. -/
def recordKnownUptoRow : OpenClaim := { program := "ytmiljicohnfejaadoor", sum := "fb3d147080b45a290909d903bcb1fd0d5beed977dfefb70aa5c808abeaea946e", func := "hourbook/hourbooklaw08.RecordKnown", spec := "recordKnown", unfollowed := true, recurses := true, named := ["hourbook/record.widths", "hourbook/crc.steps"], apart := false, laid := [("hourbook/crc.steps", laid_hourbook_crc_steps), ("hourbook/record.widths", laid_hourbook_record_widths)], narrowed := true }
def RecordKnownUptoSaid : Prop := recordKnownUptoRow.holds Tryd.pinned (OpenSpec.upto recordKnownSpec)

end Rows
end Go.Proofs.YtmiljicohnfejaaDoor
