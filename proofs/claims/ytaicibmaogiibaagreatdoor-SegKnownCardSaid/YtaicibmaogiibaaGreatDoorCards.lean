/-
  DERIVED. GIVEN WITH THE SEED: THE CARDS: each row of YtaicibmaogiibaaGreatDoorRows.lean that lists a variable, with what it lists TIED to the program's text (the seventh form; the later family's looks); each row that meets fmt, with fmt's text TOLD by the authors' own Lean function (tested against real Go, not proved from fmt's source: count such statements apart). THE CARD IS WHAT COUNTS. Prove the row's statement (the work); the ties are given (YtaicibmaogiibaaGreatDoorTie.lean); close each card by the builder's one call (the guide's Derived/Test/ToyasCard.lean, 'card_holds'). Laid BY PROGRAM, IN A SANDBOX (cutbox-door.mjs). By AI agents, Wed Nov 11 2026. No macro, syntax, notation, axiom, sorry.
-/
import Derived.Test.YtaicibmaogiibaaGreatDoorRows
import GoSem.ClaimSeven
namespace Go.Proofs.YtaicibmaogiibaaGreatDoor
namespace Rows

/-- THE TIED CARD OF 'hourbooklaw11.SegBack'. -/
def segBackCard : Claim7 := { stood := { row := segBackRow, standIns := [], harness := (true, "c6d17aef62959fb20c693afe1d7bcc1eb960c8d4df05a01b5ca3f8788b17bb6b"), looks := true }, kinds := [], alts := [], laidByText := true, laidKinds := [.data, .data, .data, .data, .sentinel, .sentinel, .data], laidTests := true, laidLooks := .later }
def SegBackCardSaid : Prop := Claim7.holds Tryz.pinned (.plain (OpenSpec.ofChange segBackSpec)) segBackCard

/-- THE TIED CARD OF 'hourbooklaw11.SegCrash'. -/
def segCrashCard : Claim7 := { stood := { row := segCrashRow, standIns := [], harness := (true, "c6d17aef62959fb20c693afe1d7bcc1eb960c8d4df05a01b5ca3f8788b17bb6b"), looks := true }, kinds := [], alts := [], laidByText := true, laidKinds := [.data, .data, .data, .data, .sentinel, .sentinel, .data], laidTests := true, laidLooks := .later }
def SegCrashCardSaid : Prop := Claim7.holds Tryz.pinned (.plain (OpenSpec.ofChange segCrashSpec)) segCrashCard

/-- THE TIED CARD OF 'hourbooklaw11.SegFlip'. -/
def segFlipCard : Claim7 := { stood := { row := segFlipRow, standIns := [], harness := (true, "c6d17aef62959fb20c693afe1d7bcc1eb960c8d4df05a01b5ca3f8788b17bb6b"), looks := true }, kinds := [], alts := [], laidByText := true, laidKinds := [.data, .data, .data, .data, .sentinel, .sentinel, .data], laidTests := true, laidLooks := .later }
def SegFlipCardSaid : Prop := Claim7.holds Tryz.pinned (.plain (OpenSpec.ofChange segFlipSpec)) segFlipCard

/-- THE TIED CARD OF 'hourbooklaw11.SegKnown'. -/
def segKnownCard : Claim7 := { stood := { row := segKnownRow, standIns := [], harness := (true, "c6d17aef62959fb20c693afe1d7bcc1eb960c8d4df05a01b5ca3f8788b17bb6b"), looks := true }, kinds := [], alts := [], laidByText := true, laidKinds := [.data, .data, .data, .data, .sentinel, .sentinel, .data], laidTests := true, laidLooks := .later }
def SegKnownCardSaid : Prop := Claim7.holds Tryz.pinned (.plain (OpenSpec.ofChange segKnownSpec)) segKnownCard

/-- THE SECOND FORM's CARD OF 'hourbooklaw11.SegBack'. -/
def segBackUptoCard : Claim7 := { stood := { row := segBackUptoRow, standIns := [], harness := (true, "c6d17aef62959fb20c693afe1d7bcc1eb960c8d4df05a01b5ca3f8788b17bb6b"), looks := true }, kinds := [], alts := [], laidByText := true, laidKinds := [.data, .data, .data, .data, .sentinel, .sentinel, .data], laidTests := true, laidLooks := .later }
def SegBackUptoCardSaid : Prop := Claim7.holds Tryz.pinned (.plain (OpenSpec.upto segBackSpec)) segBackUptoCard

/-- THE SECOND FORM's CARD OF 'hourbooklaw11.SegCrash'. -/
def segCrashUptoCard : Claim7 := { stood := { row := segCrashUptoRow, standIns := [], harness := (true, "c6d17aef62959fb20c693afe1d7bcc1eb960c8d4df05a01b5ca3f8788b17bb6b"), looks := true }, kinds := [], alts := [], laidByText := true, laidKinds := [.data, .data, .data, .data, .sentinel, .sentinel, .data], laidTests := true, laidLooks := .later }
def SegCrashUptoCardSaid : Prop := Claim7.holds Tryz.pinned (.plain (OpenSpec.upto segCrashSpec)) segCrashUptoCard

/-- THE SECOND FORM's CARD OF 'hourbooklaw11.SegFlip'. -/
def segFlipUptoCard : Claim7 := { stood := { row := segFlipUptoRow, standIns := [], harness := (true, "c6d17aef62959fb20c693afe1d7bcc1eb960c8d4df05a01b5ca3f8788b17bb6b"), looks := true }, kinds := [], alts := [], laidByText := true, laidKinds := [.data, .data, .data, .data, .sentinel, .sentinel, .data], laidTests := true, laidLooks := .later }
def SegFlipUptoCardSaid : Prop := Claim7.holds Tryz.pinned (.plain (OpenSpec.upto segFlipSpec)) segFlipUptoCard

/-- THE SECOND FORM's CARD OF 'hourbooklaw11.SegKnown'. -/
def segKnownUptoCard : Claim7 := { stood := { row := segKnownUptoRow, standIns := [], harness := (true, "c6d17aef62959fb20c693afe1d7bcc1eb960c8d4df05a01b5ca3f8788b17bb6b"), looks := true }, kinds := [], alts := [], laidByText := true, laidKinds := [.data, .data, .data, .data, .sentinel, .sentinel, .data], laidTests := true, laidLooks := .later }
def SegKnownUptoCardSaid : Prop := Claim7.holds Tryz.pinned (.plain (OpenSpec.upto segKnownSpec)) segKnownUptoCard
end Rows
end Go.Proofs.YtaicibmaogiibaaGreatDoor
