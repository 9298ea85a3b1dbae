/-
  NARROWER THAN 'FOR EVERY INPUT', by the rows' own cells (each row's printed sentence says how): ScanTells: laid · ScanAll: laid · ScanLost: laid · ScanMore: laid.
  DERIVED. THE GIVEN ROWS OF THIS SEAT. 4 by the template 'for every input the law returns true; each argument reads behind the call as it read before'; 0 by the template 'total and deterministic' (their statements: YtkpkfgcbccaibaaDoorTotals.lean).
  GIVEN WITH THE SEED: the statements are not yours to turn. If you find one false, say at which input.
  Laid BY PROGRAM, IN A SANDBOX (cutbox-rows.mjs): the forced cells as the released guide's own fill.sh prints them over the translation 7a582b1bf332c89d… (all of the seat's roots in one cut). By AI agents, Wed Nov 11 2026. No macro, syntax, notation, axiom, sorry.
-/
import Derived.Test.YtkpkfgcbccaibaaDoorChecked
import GoSem.Claim
import GoSem.ClaimJoined
import GoSem.ClaimMapViews
import Derived.JoinedTies
import Derived.KernelRfl
namespace Go.Proofs.YtkpkfgcbccaibaaDoor
/- THE CELL 'sum', in the pinned program and in every row, IS THE sha256 OF THE DUMP (.gsa) THAT YtkpkfgcbccaibaaDoorProg.lean LOADS. Nothing in Lean hashes anything: it is a label: what it is worth is what the hold of that sum in a sandbox is worth. -/
noncomputable def Tryd.pinned : Pinned := { name := "ytkpkfgcbccaibaadoor", sum := "7a582b1bf332c89daa71e7fd484053cbeefb4b3542d9fb8805468f1606d7ebc7", checked := Tryd.checked }
namespace Rows
def none {H : Type} : Left H := { results := [], args := [] }

/- WHAT THE LISTED PACKAGE-LEVEL VARIABLES READ AS WHEN THE CALL BEGINS. Each datum BY PROGRAM (the guide's laid-datum.mjs) off the statement by which the dump's own 'gosem.cut.vars' lays the variable. In a bare row this is a premise. The card (YtkpkfgcbccaibaaDoorCards.lean) ties it to the program's text. -/
def laid_hourbook_crc_steps {H : Type} : DataW H := .agg [.lit (.int .u32 0), .lit (.int .u32 274646895), .lit (.int .u32 549293790), .lit (.int .u32 820201905), .lit (.int .u32 1098587580), .lit (.int .u32 1361435347), .lit (.int .u32 1640403810), .lit (.int .u32 1905808397), .lit (.int .u32 2197175160), .lit (.int .u32 2460548119), .lit (.int .u32 2722870694), .lit (.int .u32 2987750089), .lit (.int .u32 3280807620), .lit (.int .u32 3553878443), .lit (.int .u32 3811616794), .lit (.int .u32 4084100981)]
def laid_hourbook_record_widths {H : Type} : DataW H := .agg [.lit (.int .i64 1), .lit (.int .i64 1), .lit (.int .i64 2), .lit (.int .i64 6), .lit (.int .i64 3), .lit (.int .i64 4)]

/-- 'hourbooklaw12.ScanTells': WHATEVER THE INPUT: true; the input reads as it did. -/
def scanTellsSpec : ChangeSpec := { name := "scanTells", fn := fun _ => fun
  | [d1, d2, d3, d4] => { results := [.lit (.bool true)], args := [d1, d2, d3, d4] }
  | _ => none }
def scanTellsRow : OpenClaim := { program := "ytkpkfgcbccaibaadoor", sum := "7a582b1bf332c89daa71e7fd484053cbeefb4b3542d9fb8805468f1606d7ebc7", func := "hourbook/hourbooklaw12.ScanTells", spec := "scanTells", unfollowed := true, recurses := true, named := ["hourbook/crc.steps", "hourbook/record.widths"], apart := false, laid := [("hourbook/crc.steps", laid_hourbook_crc_steps), ("hourbook/record.widths", laid_hourbook_record_widths)] }
def ScanTellsSaid : Prop := scanTellsRow.holds Tryd.pinned (OpenSpec.ofChange scanTellsSpec)

/-- ITS FALSE NEIGHBOUR: 'it returns false'. Refute it at one input. -/
def scanTellsWrong : ChangeSpec := { name := "scanTells", fn := fun _ => fun
  | [d1, d2, d3, d4] => { results := [.lit (.bool false)], args := [d1, d2, d3, d4] }
  | _ => none }
def ScanTellsWrongFalsely : Prop := scanTellsRow.holds Tryd.pinned (OpenSpec.ofChange scanTellsWrong)

/-- 'hourbooklaw12.ScanAll': WHATEVER THE INPUT: true; the input reads as it did. -/
def scanAllSpec : ChangeSpec := { name := "scanAll", fn := fun _ => fun
  | [d1, d2, d3] => { results := [.lit (.bool true)], args := [d1, d2, d3] }
  | _ => none }
def scanAllRow : OpenClaim := { program := "ytkpkfgcbccaibaadoor", sum := "7a582b1bf332c89daa71e7fd484053cbeefb4b3542d9fb8805468f1606d7ebc7", func := "hourbook/hourbooklaw12.ScanAll", spec := "scanAll", unfollowed := true, recurses := true, named := ["hourbook/crc.steps", "hourbook/record.widths"], apart := false, laid := [("hourbook/crc.steps", laid_hourbook_crc_steps), ("hourbook/record.widths", laid_hourbook_record_widths)] }
def ScanAllSaid : Prop := scanAllRow.holds Tryd.pinned (OpenSpec.ofChange scanAllSpec)

/-- ITS FALSE NEIGHBOUR: 'it returns false'. Refute it at one input. -/
def scanAllWrong : ChangeSpec := { name := "scanAll", fn := fun _ => fun
  | [d1, d2, d3] => { results := [.lit (.bool false)], args := [d1, d2, d3] }
  | _ => none }
def ScanAllWrongFalsely : Prop := scanAllRow.holds Tryd.pinned (OpenSpec.ofChange scanAllWrong)

/-- 'hourbooklaw12.ScanLost': WHATEVER THE INPUT: true; the input reads as it did. -/
def scanLostSpec : ChangeSpec := { name := "scanLost", fn := fun _ => fun
  | [d1, d2, d3] => { results := [.lit (.bool true)], args := [d1, d2, d3] }
  | _ => none }
def scanLostRow : OpenClaim := { program := "ytkpkfgcbccaibaadoor", sum := "7a582b1bf332c89daa71e7fd484053cbeefb4b3542d9fb8805468f1606d7ebc7", func := "hourbook/hourbooklaw12.ScanLost", spec := "scanLost", unfollowed := true, recurses := true, named := ["hourbook/crc.steps", "hourbook/record.widths"], apart := false, laid := [("hourbook/crc.steps", laid_hourbook_crc_steps), ("hourbook/record.widths", laid_hourbook_record_widths)] }
def ScanLostSaid : Prop := scanLostRow.holds Tryd.pinned (OpenSpec.ofChange scanLostSpec)

/-- ITS FALSE NEIGHBOUR: 'it returns false'. Refute it at one input. -/
def scanLostWrong : ChangeSpec := { name := "scanLost", fn := fun _ => fun
  | [d1, d2, d3] => { results := [.lit (.bool false)], args := [d1, d2, d3] }
  | _ => none }
def ScanLostWrongFalsely : Prop := scanLostRow.holds Tryd.pinned (OpenSpec.ofChange scanLostWrong)

/-- 'hourbooklaw12.ScanMore': WHATEVER THE INPUT: true; the input reads as it did. -/
def scanMoreSpec : ChangeSpec := { name := "scanMore", fn := fun _ => fun
  | [d1, d2] => { results := [.lit (.bool true)], args := [d1, d2] }
  | _ => none }
def scanMoreRow : OpenClaim := { program := "ytkpkfgcbccaibaadoor", sum := "7a582b1bf332c89daa71e7fd484053cbeefb4b3542d9fb8805468f1606d7ebc7", func := "hourbook/hourbooklaw12.ScanMore", spec := "scanMore", unfollowed := true, recurses := true, named := ["hourbook/crc.steps", "hourbook/record.widths"], apart := false, laid := [("hourbook/crc.steps", laid_hourbook_crc_steps), ("hourbook/record.widths", laid_hourbook_record_widths)] }
def ScanMoreSaid : Prop := scanMoreRow.holds Tryd.pinned (OpenSpec.ofChange scanMoreSpec)

/-- ITS FALSE NEIGHBOUR: 'it returns false'. Refute it at one input. -/
def scanMoreWrong : ChangeSpec := { name := "scanMore", fn := fun _ => fun
  | [d1, d2] => { results := [.lit (.bool false)], args := [d1, d2] }
  | _ => none }
def ScanMoreWrongFalsely : Prop := scanMoreRow.holds Tryd.pinned (OpenSpec.ofChange scanMoreWrong)

/- THE SECOND FORM. 'bulk': how many values and letters a reading holds, each counted each time it is reached (what is shared counts as often as it is met; a slice's spare places count too). A statement '..UptoSaid' is the law's where the arguments, and the package variables that the reading takes, are together of bulk at most 1048576: NARROWER than '..Said'. Prove '..Said' where nothing that the law and all that it calls make is longer than what came in: it says more and counts as full. Else prove '..UptoSaid'. A law counts once. -/
mutual
def uptoBulk {H : Type} : DataW H → Nat
  | .lit (.string bytes) => bytes.length + 1
  | .lit _ => 1
  | .nil => 1
  | .ptr d => uptoBulk d + 1
  | .slice elems spare => uptoBulkAll elems + uptoBulkAll spare + 1
  | .agg parts => uptoBulkAll parts + 1
  | .iface _ d => uptoBulk d + 1
  | .map entries => uptoBulkEntries entries + 1
  | .held _ => 1
def uptoBulkAll {H : Type} : List (DataW H) → Nat
  | [] => 0
  | d :: r => uptoBulk d + uptoBulkAll r
def uptoBulkEntries {H : Type} : List (Lit × DataW H) → Nat
  | [] => 0
  | x :: r => uptoBulkEntry x + uptoBulkEntries r
def uptoBulkEntry {H : Type} : Lit × DataW H → Nat
  | (.string bytes, d) => bytes.length + uptoBulk d + 1
  | (_, d) => uptoBulk d + 1
 end
def uptoSmall : (H : Type) → List (DataW H) → Bool := fun _ ds => decide (uptoBulkAll ds ≤ 1048576)
def OpenSpec.upto (s : _root_.Go.ChangeSpec) : _root_.Go.OpenSpec := { _root_.Go.OpenSpec.ofChange s with cond := some uptoSmall }

/-- 'hourbooklaw12.ScanTells', WHERE WHAT IT READS IS OF BULK AT MOST 1048576: true; the input reads as it did. -/
def scanTellsUptoRow : OpenClaim := { program := "ytkpkfgcbccaibaadoor", sum := "7a582b1bf332c89daa71e7fd484053cbeefb4b3542d9fb8805468f1606d7ebc7", func := "hourbook/hourbooklaw12.ScanTells", spec := "scanTells", unfollowed := true, recurses := true, named := ["hourbook/crc.steps", "hourbook/record.widths"], apart := false, laid := [("hourbook/crc.steps", laid_hourbook_crc_steps), ("hourbook/record.widths", laid_hourbook_record_widths)], narrowed := true }
def ScanTellsUptoSaid : Prop := scanTellsUptoRow.holds Tryd.pinned (OpenSpec.upto scanTellsSpec)

/-- 'hourbooklaw12.ScanAll', WHERE WHAT IT READS IS OF BULK AT MOST 1048576: true; the input reads as it did. -/
def scanAllUptoRow : OpenClaim := { program := "ytkpkfgcbccaibaadoor", sum := "7a582b1bf332c89daa71e7fd484053cbeefb4b3542d9fb8805468f1606d7ebc7", func := "hourbook/hourbooklaw12.ScanAll", spec := "scanAll", unfollowed := true, recurses := true, named := ["hourbook/crc.steps", "hourbook/record.widths"], apart := false, laid := [("hourbook/crc.steps", laid_hourbook_crc_steps), ("hourbook/record.widths", laid_hourbook_record_widths)], narrowed := true }
def ScanAllUptoSaid : Prop := scanAllUptoRow.holds Tryd.pinned (OpenSpec.upto scanAllSpec)

/-- 'hourbooklaw12.ScanLost', WHERE WHAT IT READS IS OF BULK AT MOST 1048576: true; the input reads as it did. -/
def scanLostUptoRow : OpenClaim := { program := "ytkpkfgcbccaibaadoor", sum := "7a582b1bf332c89daa71e7fd484053cbeefb4b3542d9fb8805468f1606d7ebc7", func := "hourbook/hourbooklaw12.ScanLost", spec := "scanLost", unfollowed := true, recurses := true, named := ["hourbook/crc.steps", "hourbook/record.widths"], apart := false, laid := [("hourbook/crc.steps", laid_hourbook_crc_steps), ("hourbook/record.widths", laid_hourbook_record_widths)], narrowed := true }
def ScanLostUptoSaid : Prop := scanLostUptoRow.holds Tryd.pinned (OpenSpec.upto scanLostSpec)

/-- 'hourbooklaw12.ScanMore', WHERE WHAT IT READS IS OF BULK AT MOST 1048576: true; the input reads as it did. -/
def scanMoreUptoRow : OpenClaim := { program := "ytkpkfgcbccaibaadoor", sum := "7a582b1bf332c89daa71e7fd484053cbeefb4b3542d9fb8805468f1606d7ebc7", func := "hourbook/hourbooklaw12.ScanMore", spec := "scanMore", unfollowed := true, recurses := true, named := ["hourbook/crc.steps", "hourbook/record.widths"], apart := false, laid := [("hourbook/crc.steps", laid_hourbook_crc_steps), ("hourbook/record.widths", laid_hourbook_record_widths)], narrowed := true }
def ScanMoreUptoSaid : Prop := scanMoreUptoRow.holds Tryd.pinned (OpenSpec.upto scanMoreSpec)

end Rows
end Go.Proofs.YtkpkfgcbccaibaaDoor
