/-
  DERIVED. GIVEN WITH THE SEED: THE CARDS: each row of YthcmjgkdljgcbaaDoorRows.lean that lists a variable, with what it lists TIED to the program's text (the seventh form; the later family's looks); each row that meets fmt, with fmt's text TOLD by the authors' own Lean function (tested against real Go, not proved from fmt's source: count such statements apart). THE CARD IS WHAT COUNTS. Prove the row's statement (the work); the ties are given (YthcmjgkdljgcbaaDoorTie.lean); close each card by the builder's one call (the guide's Derived/Test/ToyasCard.lean, 'card_holds'). Laid BY PROGRAM, IN A SANDBOX (cutbox-door.mjs). By AI agents, Wed Nov 11 2026. No macro, syntax, notation, axiom, sorry.
-/
import Derived.Test.YthcmjgkdljgcbaaDoorRows
import GoSem.ClaimSeven
namespace Go.Proofs.YthcmjgkdljgcbaaDoor
namespace Rows

/-- THE TIED CARD OF 'hourbooklaw09.EditCalls'. -/
def editCallsCard : Claim7 := { stood := { row := editCallsRow, standIns := [], harness := (true, "1b046f982775f331ebf0182c52997190a44b215329a3b405e0aa739767de9e2d"), looks := true }, kinds := [], alts := [], laidByText := true, laidKinds := [.data], laidTests := true, laidLooks := .later }
def EditCallsCardSaid : Prop := Claim7.holds Tryd.pinned (.plain (OpenSpec.ofChange editCallsSpec)) editCallsCard

/-- THE TIED CARD OF 'hourbooklaw09.EditReads'. -/
def editReadsCard : Claim7 := { stood := { row := editReadsRow, standIns := [], harness := (true, "1b046f982775f331ebf0182c52997190a44b215329a3b405e0aa739767de9e2d"), looks := true }, kinds := [], alts := [], laidByText := true, laidKinds := [.data], laidTests := true, laidLooks := .later }
def EditReadsCardSaid : Prop := Claim7.holds Tryd.pinned (.plain (OpenSpec.ofChange editReadsSpec)) editReadsCard

/-- THE TIED CARD OF 'hourbooklaw09.EditForm'. -/
def editFormCard : Claim7 := { stood := { row := editFormRow, standIns := [], harness := (true, "1b046f982775f331ebf0182c52997190a44b215329a3b405e0aa739767de9e2d"), looks := true }, kinds := [], alts := [], laidByText := true, laidKinds := [.data], laidTests := true, laidLooks := .later }
def EditFormCardSaid : Prop := Claim7.holds Tryd.pinned (.plain (OpenSpec.ofChange editFormSpec)) editFormCard

/-- THE TIED CARD OF 'hourbooklaw09.EditApart'. -/
def editApartCard : Claim7 := { stood := { row := editApartRow, standIns := [], harness := (true, "1b046f982775f331ebf0182c52997190a44b215329a3b405e0aa739767de9e2d"), looks := true }, kinds := [], alts := [], laidByText := true, laidKinds := [.data], laidTests := true, laidLooks := .later }
def EditApartCardSaid : Prop := Claim7.holds Tryd.pinned (.plain (OpenSpec.ofChange editApartSpec)) editApartCard

/-- THE TIED CARD OF 'hourbooklaw09.EditSeals'. -/
def editSealsCard : Claim7 := { stood := { row := editSealsRow, standIns := [], harness := (true, "1b046f982775f331ebf0182c52997190a44b215329a3b405e0aa739767de9e2d"), looks := true }, kinds := [], alts := [], laidByText := true, laidKinds := [.data], laidTests := true, laidLooks := .later }
def EditSealsCardSaid : Prop := Claim7.holds Tryd.pinned (.plain (OpenSpec.ofChange editSealsSpec)) editSealsCard

/-- THE TIED CARD OF 'hourbooklaw09.EditKnown'. -/
def editKnownCard : Claim7 := { stood := { row := editKnownRow, standIns := [], harness := (true, "1b046f982775f331ebf0182c52997190a44b215329a3b405e0aa739767de9e2d"), looks := true }, kinds := [], alts := [], laidByText := true, laidKinds := [.data], laidTests := true, laidLooks := .later }
def EditKnownCardSaid : Prop := Claim7.holds Tryd.pinned (.plain (OpenSpec.ofChange editKnownSpec)) editKnownCard

/-- THE SECOND FORM's CARD OF 'hourbooklaw09.EditCalls'. -/
def editCallsUptoCard : Claim7 := { stood := { row := editCallsUptoRow, standIns := [], harness := (true, "1b046f982775f331ebf0182c52997190a44b215329a3b405e0aa739767de9e2d"), looks := true }, kinds := [], alts := [], laidByText := true, laidKinds := [.data], laidTests := true, laidLooks := .later }
def EditCallsUptoCardSaid : Prop := Claim7.holds Tryd.pinned (.plain (OpenSpec.upto editCallsSpec)) editCallsUptoCard

/-- THE SECOND FORM's CARD OF 'hourbooklaw09.EditReads'. -/
def editReadsUptoCard : Claim7 := { stood := { row := editReadsUptoRow, standIns := [], harness := (true, "1b046f982775f331ebf0182c52997190a44b215329a3b405e0aa739767de9e2d"), looks := true }, kinds := [], alts := [], laidByText := true, laidKinds := [.data], laidTests := true, laidLooks := .later }
def EditReadsUptoCardSaid : Prop := Claim7.holds Tryd.pinned (.plain (OpenSpec.upto editReadsSpec)) editReadsUptoCard

/-- THE SECOND FORM's CARD OF 'hourbooklaw09.EditForm'. -/
def editFormUptoCard : Claim7 := { stood := { row := editFormUptoRow, standIns := [], harness := (true, "1b046f982775f331ebf0182c52997190a44b215329a3b405e0aa739767de9e2d"), looks := true }, kinds := [], alts := [], laidByText := true, laidKinds := [.data], laidTests := true, laidLooks := .later }
def EditFormUptoCardSaid : Prop := Claim7.holds Tryd.pinned (.plain (OpenSpec.upto editFormSpec)) editFormUptoCard

/-- THE SECOND FORM's CARD OF 'hourbooklaw09.EditApart'. -/
def editApartUptoCard : Claim7 := { stood := { row := editApartUptoRow, standIns := [], harness := (true, "1b046f982775f331ebf0182c52997190a44b215329a3b405e0aa739767de9e2d"), looks := true }, kinds := [], alts := [], laidByText := true, laidKinds := [.data], laidTests := true, laidLooks := .later }
def EditApartUptoCardSaid : Prop := Claim7.holds Tryd.pinned (.plain (OpenSpec.upto editApartSpec)) editApartUptoCard

/-- THE SECOND FORM's CARD OF 'hourbooklaw09.EditSeals'. -/
def editSealsUptoCard : Claim7 := { stood := { row := editSealsUptoRow, standIns := [], harness := (true, "1b046f982775f331ebf0182c52997190a44b215329a3b405e0aa739767de9e2d"), looks := true }, kinds := [], alts := [], laidByText := true, laidKinds := [.data], laidTests := true, laidLooks := .later }
def EditSealsUptoCardSaid : Prop := Claim7.holds Tryd.pinned (.plain (OpenSpec.upto editSealsSpec)) editSealsUptoCard

/-- THE SECOND FORM's CARD OF 'hourbooklaw09.EditKnown'. -/
def editKnownUptoCard : Claim7 := { stood := { row := editKnownUptoRow, standIns := [], harness := (true, "1b046f982775f331ebf0182c52997190a44b215329a3b405e0aa739767de9e2d"), looks := true }, kinds := [], alts := [], laidByText := true, laidKinds := [.data], laidTests := true, laidLooks := .later }
def EditKnownUptoCardSaid : Prop := Claim7.holds Tryd.pinned (.plain (OpenSpec.upto editKnownSpec)) editKnownUptoCard
end Rows
end Go.Proofs.YthcmjgkdljgcbaaDoor
