/-
  DERIVED. GIVEN WITH THE SEED: THE CARDS: each row of YtggijjknfcofoaaDoorRows.lean that lists a variable, with what it lists TIED to the program's text (the seventh form; the later family's looks); each row that meets fmt, with fmt's text TOLD by the authors' own Lean function (tested against real Go, not proved from fmt's source: count such statements apart). THE CARD IS WHAT COUNTS. Prove the row's statement (the work); the ties are given (YtggijjknfcofoaaDoorTie.lean); close each card by the builder's one call (the guide's Derived/Test/ToyasCard.lean, 'card_holds'). Laid BY PROGRAM, IN A SANDBOX (cutbox-door.mjs). By AI agents, Wed Nov 11 2026. No macro, syntax, notation, axiom, sorry.
-/
import Derived.Test.YtggijjknfcofoaaDoorRows
import GoSem.ClaimSeven
namespace Go.Proofs.YtggijjknfcofoaaDoor
namespace Rows

/-- THE TIED CARD OF 'hourbooklaw09.EditCalls'. -/
def editCallsCard : Claim7 := { stood := { row := editCallsRow, standIns := [], harness := (true, "2ad515a46749e67f9c73e19caddfbbb20d1da184068f88e39e6a6b68d5bcf2e3"), looks := true }, kinds := [], alts := [], laidByText := true, laidKinds := [.data], laidTests := true, laidLooks := .later }
def EditCallsCardSaid : Prop := Claim7.holds Tryd.pinned (.plain (OpenSpec.ofChange editCallsSpec)) editCallsCard

/-- THE TIED CARD OF 'hourbooklaw09.EditReads'. -/
def editReadsCard : Claim7 := { stood := { row := editReadsRow, standIns := [], harness := (true, "2ad515a46749e67f9c73e19caddfbbb20d1da184068f88e39e6a6b68d5bcf2e3"), looks := true }, kinds := [], alts := [], laidByText := true, laidKinds := [.data], laidTests := true, laidLooks := .later }
def EditReadsCardSaid : Prop := Claim7.holds Tryd.pinned (.plain (OpenSpec.ofChange editReadsSpec)) editReadsCard

/-- THE TIED CARD OF 'hourbooklaw10.HeadTells'. -/
def headTellsCard : Claim7 := { stood := { row := headTellsRow, standIns := [], harness := (true, "2ad515a46749e67f9c73e19caddfbbb20d1da184068f88e39e6a6b68d5bcf2e3"), looks := true }, kinds := [], alts := [], laidByText := true, laidKinds := [.data], laidTests := true, laidLooks := .later }
def HeadTellsCardSaid : Prop := Claim7.holds Tryd.pinned (.plain (OpenSpec.ofChange headTellsSpec)) headTellsCard

/-- THE TIED CARD OF 'hourbooklaw10.HeadIs'. -/
def headIsCard : Claim7 := { stood := { row := headIsRow, standIns := [], harness := (true, "2ad515a46749e67f9c73e19caddfbbb20d1da184068f88e39e6a6b68d5bcf2e3"), looks := true }, kinds := [], alts := [], laidByText := true, laidKinds := [.data], laidTests := true, laidLooks := .later }
def HeadIsCardSaid : Prop := Claim7.holds Tryd.pinned (.plain (OpenSpec.ofChange headIsSpec)) headIsCard

/-- THE TIED CARD OF 'hourbooklaw10.HeadKnown'. -/
def headKnownCard : Claim7 := { stood := { row := headKnownRow, standIns := [], harness := (true, "2ad515a46749e67f9c73e19caddfbbb20d1da184068f88e39e6a6b68d5bcf2e3"), looks := true }, kinds := [], alts := [], laidByText := true, laidKinds := [.data], laidTests := true, laidLooks := .later }
def HeadKnownCardSaid : Prop := Claim7.holds Tryd.pinned (.plain (OpenSpec.ofChange headKnownSpec)) headKnownCard

/-- THE SECOND FORM's CARD OF 'hourbooklaw09.EditCalls'. -/
def editCallsUptoCard : Claim7 := { stood := { row := editCallsUptoRow, standIns := [], harness := (true, "2ad515a46749e67f9c73e19caddfbbb20d1da184068f88e39e6a6b68d5bcf2e3"), looks := true }, kinds := [], alts := [], laidByText := true, laidKinds := [.data], laidTests := true, laidLooks := .later }
def EditCallsUptoCardSaid : Prop := Claim7.holds Tryd.pinned (.plain (OpenSpec.upto editCallsSpec)) editCallsUptoCard

/-- THE SECOND FORM's CARD OF 'hourbooklaw09.EditReads'. -/
def editReadsUptoCard : Claim7 := { stood := { row := editReadsUptoRow, standIns := [], harness := (true, "2ad515a46749e67f9c73e19caddfbbb20d1da184068f88e39e6a6b68d5bcf2e3"), looks := true }, kinds := [], alts := [], laidByText := true, laidKinds := [.data], laidTests := true, laidLooks := .later }
def EditReadsUptoCardSaid : Prop := Claim7.holds Tryd.pinned (.plain (OpenSpec.upto editReadsSpec)) editReadsUptoCard

/-- THE SECOND FORM's CARD OF 'hourbooklaw10.HeadTells'. -/
def headTellsUptoCard : Claim7 := { stood := { row := headTellsUptoRow, standIns := [], harness := (true, "2ad515a46749e67f9c73e19caddfbbb20d1da184068f88e39e6a6b68d5bcf2e3"), looks := true }, kinds := [], alts := [], laidByText := true, laidKinds := [.data], laidTests := true, laidLooks := .later }
def HeadTellsUptoCardSaid : Prop := Claim7.holds Tryd.pinned (.plain (OpenSpec.upto headTellsSpec)) headTellsUptoCard

/-- THE SECOND FORM's CARD OF 'hourbooklaw10.HeadIs'. -/
def headIsUptoCard : Claim7 := { stood := { row := headIsUptoRow, standIns := [], harness := (true, "2ad515a46749e67f9c73e19caddfbbb20d1da184068f88e39e6a6b68d5bcf2e3"), looks := true }, kinds := [], alts := [], laidByText := true, laidKinds := [.data], laidTests := true, laidLooks := .later }
def HeadIsUptoCardSaid : Prop := Claim7.holds Tryd.pinned (.plain (OpenSpec.upto headIsSpec)) headIsUptoCard

/-- THE SECOND FORM's CARD OF 'hourbooklaw10.HeadKnown'. -/
def headKnownUptoCard : Claim7 := { stood := { row := headKnownUptoRow, standIns := [], harness := (true, "2ad515a46749e67f9c73e19caddfbbb20d1da184068f88e39e6a6b68d5bcf2e3"), looks := true }, kinds := [], alts := [], laidByText := true, laidKinds := [.data], laidTests := true, laidLooks := .later }
def HeadKnownUptoCardSaid : Prop := Claim7.holds Tryd.pinned (.plain (OpenSpec.upto headKnownSpec)) headKnownUptoCard
end Rows
end Go.Proofs.YtggijjknfcofoaaDoor
