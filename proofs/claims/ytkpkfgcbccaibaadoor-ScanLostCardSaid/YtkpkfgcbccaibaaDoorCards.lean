/-
  DERIVED. GIVEN WITH THE SEED: THE CARDS: each row of YtkpkfgcbccaibaaDoorRows.lean that lists a variable, with what it lists TIED to the program's text (the seventh form; the later family's looks); each row that meets fmt, with fmt's text TOLD by the authors' own Lean function (tested against real Go, not proved from fmt's source: count such statements apart). THE CARD IS WHAT COUNTS. Prove the row's statement (the work); the ties are given (YtkpkfgcbccaibaaDoorTie.lean); close each card by the builder's one call (the guide's Derived/Test/ToyasCard.lean, 'card_holds'). Laid BY PROGRAM, IN A SANDBOX (cutbox-door.mjs). By AI agents, Wed Nov 11 2026. No macro, syntax, notation, axiom, sorry.
-/
import Derived.Test.YtkpkfgcbccaibaaDoorRows
import GoSem.ClaimSeven
namespace Go.Proofs.YtkpkfgcbccaibaaDoor
namespace Rows

/-- THE TIED CARD OF 'hourbooklaw12.ScanTells'. -/
def scanTellsCard : Claim7 := { stood := { row := scanTellsRow, standIns := [], harness := (true, "7c2858e155570d495ce7c14d47b413e2dd3ec29ae083ee04d2399e0b11c01d58"), looks := false }, kinds := [], alts := [], laidByText := true, laidKinds := [.data, .data], laidTests := true, laidLooks := .later }
def ScanTellsCardSaid : Prop := Claim7.holds Tryd.pinned (.plain (OpenSpec.ofChange scanTellsSpec)) scanTellsCard

/-- THE TIED CARD OF 'hourbooklaw12.ScanAll'. -/
def scanAllCard : Claim7 := { stood := { row := scanAllRow, standIns := [], harness := (true, "7c2858e155570d495ce7c14d47b413e2dd3ec29ae083ee04d2399e0b11c01d58"), looks := false }, kinds := [], alts := [], laidByText := true, laidKinds := [.data, .data], laidTests := true, laidLooks := .later }
def ScanAllCardSaid : Prop := Claim7.holds Tryd.pinned (.plain (OpenSpec.ofChange scanAllSpec)) scanAllCard

/-- THE TIED CARD OF 'hourbooklaw12.ScanLost'. -/
def scanLostCard : Claim7 := { stood := { row := scanLostRow, standIns := [], harness := (true, "7c2858e155570d495ce7c14d47b413e2dd3ec29ae083ee04d2399e0b11c01d58"), looks := false }, kinds := [], alts := [], laidByText := true, laidKinds := [.data, .data], laidTests := true, laidLooks := .later }
def ScanLostCardSaid : Prop := Claim7.holds Tryd.pinned (.plain (OpenSpec.ofChange scanLostSpec)) scanLostCard

/-- THE TIED CARD OF 'hourbooklaw12.ScanMore'. -/
def scanMoreCard : Claim7 := { stood := { row := scanMoreRow, standIns := [], harness := (true, "7c2858e155570d495ce7c14d47b413e2dd3ec29ae083ee04d2399e0b11c01d58"), looks := false }, kinds := [], alts := [], laidByText := true, laidKinds := [.data, .data], laidTests := true, laidLooks := .later }
def ScanMoreCardSaid : Prop := Claim7.holds Tryd.pinned (.plain (OpenSpec.ofChange scanMoreSpec)) scanMoreCard

/-- THE SECOND FORM's CARD OF 'hourbooklaw12.ScanTells'. -/
def scanTellsUptoCard : Claim7 := { stood := { row := scanTellsUptoRow, standIns := [], harness := (true, "7c2858e155570d495ce7c14d47b413e2dd3ec29ae083ee04d2399e0b11c01d58"), looks := false }, kinds := [], alts := [], laidByText := true, laidKinds := [.data, .data], laidTests := true, laidLooks := .later }
def ScanTellsUptoCardSaid : Prop := Claim7.holds Tryd.pinned (.plain (OpenSpec.upto scanTellsSpec)) scanTellsUptoCard

/-- THE SECOND FORM's CARD OF 'hourbooklaw12.ScanAll'. -/
def scanAllUptoCard : Claim7 := { stood := { row := scanAllUptoRow, standIns := [], harness := (true, "7c2858e155570d495ce7c14d47b413e2dd3ec29ae083ee04d2399e0b11c01d58"), looks := false }, kinds := [], alts := [], laidByText := true, laidKinds := [.data, .data], laidTests := true, laidLooks := .later }
def ScanAllUptoCardSaid : Prop := Claim7.holds Tryd.pinned (.plain (OpenSpec.upto scanAllSpec)) scanAllUptoCard

/-- THE SECOND FORM's CARD OF 'hourbooklaw12.ScanLost'. -/
def scanLostUptoCard : Claim7 := { stood := { row := scanLostUptoRow, standIns := [], harness := (true, "7c2858e155570d495ce7c14d47b413e2dd3ec29ae083ee04d2399e0b11c01d58"), looks := false }, kinds := [], alts := [], laidByText := true, laidKinds := [.data, .data], laidTests := true, laidLooks := .later }
def ScanLostUptoCardSaid : Prop := Claim7.holds Tryd.pinned (.plain (OpenSpec.upto scanLostSpec)) scanLostUptoCard

/-- THE SECOND FORM's CARD OF 'hourbooklaw12.ScanMore'. -/
def scanMoreUptoCard : Claim7 := { stood := { row := scanMoreUptoRow, standIns := [], harness := (true, "7c2858e155570d495ce7c14d47b413e2dd3ec29ae083ee04d2399e0b11c01d58"), looks := false }, kinds := [], alts := [], laidByText := true, laidKinds := [.data, .data], laidTests := true, laidLooks := .later }
def ScanMoreUptoCardSaid : Prop := Claim7.holds Tryd.pinned (.plain (OpenSpec.upto scanMoreSpec)) scanMoreUptoCard
end Rows
end Go.Proofs.YtkpkfgcbccaibaaDoor
