/-
  DERIVED. GIVEN WITH THE SEED: THE CARDS: each row of YtbnldpcbdeeflaaGreatDoorRows.lean that lists a variable, with what it lists TIED to the program's text (the seventh form; the later family's looks); each row that meets fmt, with fmt's text TOLD by the authors' own Lean function (tested against real Go, not proved from fmt's source: count such statements apart). THE CARD IS WHAT COUNTS. Prove the row's statement (the work); the ties are given (YtbnldpcbdeeflaaGreatDoorTie.lean); close each card by the builder's one call (the guide's Derived/Test/ToyasCard.lean, 'card_holds'). Laid BY PROGRAM, IN A SANDBOX (cutbox-door.mjs). By AI agents, Wed Nov 11 2026. No macro, syntax, notation, axiom, sorry.
-/
import Derived.Test.YtbnldpcbdeeflaaGreatDoorRows
import GoSem.ClaimSeven
namespace Go.Proofs.YtbnldpcbdeeflaaGreatDoor
namespace Rows

/-- THE TIED CARD OF 'environlaw04.StropReads'. -/
def stropReadsCard : Claim7 := { stood := { row := stropReadsRow, standIns := [], harness := (true, "afd9940ace06f06c32d309e7f1cec621031bcd58a39393a9d2e90b6afb708b33"), looks := false }, kinds := [], alts := [], laidByText := true, laidKinds := [.data, .data, .pinned, .pinned], laidTests := true, laidLooks := .later }
def StropReadsCardSaid : Prop := Claim7.holds Tryz.pinned (.plain (OpenSpec.ofChange stropReadsSpec)) stropReadsCard

/-- THE TIED CARD OF 'environlaw04.StropWrites'. -/
def stropWritesCard : Claim7 := { stood := { row := stropWritesRow, standIns := [], harness := (true, "afd9940ace06f06c32d309e7f1cec621031bcd58a39393a9d2e90b6afb708b33"), looks := false }, kinds := [], alts := [], laidByText := true, laidKinds := [.data, .data, .pinned, .pinned], laidTests := true, laidLooks := .later }
def StropWritesCardSaid : Prop := Claim7.holds Tryz.pinned (.plain (OpenSpec.ofChange stropWritesSpec)) stropWritesCard

/-- THE TIED CARD OF 'environlaw04.StropBack'. -/
def stropBackCard : Claim7 := { stood := { row := stropBackRow, standIns := [], harness := (true, "afd9940ace06f06c32d309e7f1cec621031bcd58a39393a9d2e90b6afb708b33"), looks := false }, kinds := [], alts := [], laidByText := true, laidKinds := [.data, .data, .pinned, .pinned], laidTests := true, laidLooks := .later }
def StropBackCardSaid : Prop := Claim7.holds Tryz.pinned (.plain (OpenSpec.ofChange stropBackSpec)) stropBackCard

/-- THE TIED CARD OF 'environlaw04.StropAscends'. -/
def stropAscendsCard : Claim7 := { stood := { row := stropAscendsRow, standIns := [], harness := (true, "afd9940ace06f06c32d309e7f1cec621031bcd58a39393a9d2e90b6afb708b33"), looks := false }, kinds := [], alts := [], laidByText := true, laidKinds := [.data, .data, .pinned, .pinned], laidTests := true, laidLooks := .later }
def StropAscendsCardSaid : Prop := Claim7.holds Tryz.pinned (.plain (OpenSpec.ofChange stropAscendsSpec)) stropAscendsCard

/-- THE TIED CARD OF 'environlaw04.StropBlanks'. -/
def stropBlanksCard : Claim7 := { stood := { row := stropBlanksRow, standIns := [], harness := (true, "afd9940ace06f06c32d309e7f1cec621031bcd58a39393a9d2e90b6afb708b33"), looks := false }, kinds := [], alts := [], laidByText := true, laidKinds := [.data, .data, .pinned, .pinned], laidTests := true, laidLooks := .later }
def StropBlanksCardSaid : Prop := Claim7.holds Tryz.pinned (.plain (OpenSpec.ofChange stropBlanksSpec)) stropBlanksCard

/-- THE TIED CARD OF 'environlaw04.StropRegimes'. -/
def stropRegimesCard : Claim7 := { stood := { row := stropRegimesRow, standIns := [], harness := (true, "afd9940ace06f06c32d309e7f1cec621031bcd58a39393a9d2e90b6afb708b33"), looks := false }, kinds := [], alts := [], laidByText := true, laidKinds := [.data, .data, .pinned, .pinned], laidTests := true, laidLooks := .later }
def StropRegimesCardSaid : Prop := Claim7.holds Tryz.pinned (.plain (OpenSpec.ofChange stropRegimesSpec)) stropRegimesCard

/-- THE SECOND FORM's CARD OF 'environlaw04.StropReads'. -/
def stropReadsUptoCard : Claim7 := { stood := { row := stropReadsUptoRow, standIns := [], harness := (true, "afd9940ace06f06c32d309e7f1cec621031bcd58a39393a9d2e90b6afb708b33"), looks := false }, kinds := [], alts := [], laidByText := true, laidKinds := [.data, .data, .pinned, .pinned], laidTests := true, laidLooks := .later }
def StropReadsUptoCardSaid : Prop := Claim7.holds Tryz.pinned (.plain (OpenSpec.upto stropReadsSpec)) stropReadsUptoCard

/-- THE SECOND FORM's CARD OF 'environlaw04.StropWrites'. -/
def stropWritesUptoCard : Claim7 := { stood := { row := stropWritesUptoRow, standIns := [], harness := (true, "afd9940ace06f06c32d309e7f1cec621031bcd58a39393a9d2e90b6afb708b33"), looks := false }, kinds := [], alts := [], laidByText := true, laidKinds := [.data, .data, .pinned, .pinned], laidTests := true, laidLooks := .later }
def StropWritesUptoCardSaid : Prop := Claim7.holds Tryz.pinned (.plain (OpenSpec.upto stropWritesSpec)) stropWritesUptoCard

/-- THE SECOND FORM's CARD OF 'environlaw04.StropBack'. -/
def stropBackUptoCard : Claim7 := { stood := { row := stropBackUptoRow, standIns := [], harness := (true, "afd9940ace06f06c32d309e7f1cec621031bcd58a39393a9d2e90b6afb708b33"), looks := false }, kinds := [], alts := [], laidByText := true, laidKinds := [.data, .data, .pinned, .pinned], laidTests := true, laidLooks := .later }
def StropBackUptoCardSaid : Prop := Claim7.holds Tryz.pinned (.plain (OpenSpec.upto stropBackSpec)) stropBackUptoCard

/-- THE SECOND FORM's CARD OF 'environlaw04.StropAscends'. -/
def stropAscendsUptoCard : Claim7 := { stood := { row := stropAscendsUptoRow, standIns := [], harness := (true, "afd9940ace06f06c32d309e7f1cec621031bcd58a39393a9d2e90b6afb708b33"), looks := false }, kinds := [], alts := [], laidByText := true, laidKinds := [.data, .data, .pinned, .pinned], laidTests := true, laidLooks := .later }
def StropAscendsUptoCardSaid : Prop := Claim7.holds Tryz.pinned (.plain (OpenSpec.upto stropAscendsSpec)) stropAscendsUptoCard

/-- THE SECOND FORM's CARD OF 'environlaw04.StropBlanks'. -/
def stropBlanksUptoCard : Claim7 := { stood := { row := stropBlanksUptoRow, standIns := [], harness := (true, "afd9940ace06f06c32d309e7f1cec621031bcd58a39393a9d2e90b6afb708b33"), looks := false }, kinds := [], alts := [], laidByText := true, laidKinds := [.data, .data, .pinned, .pinned], laidTests := true, laidLooks := .later }
def StropBlanksUptoCardSaid : Prop := Claim7.holds Tryz.pinned (.plain (OpenSpec.upto stropBlanksSpec)) stropBlanksUptoCard

/-- THE SECOND FORM's CARD OF 'environlaw04.StropRegimes'. -/
def stropRegimesUptoCard : Claim7 := { stood := { row := stropRegimesUptoRow, standIns := [], harness := (true, "afd9940ace06f06c32d309e7f1cec621031bcd58a39393a9d2e90b6afb708b33"), looks := false }, kinds := [], alts := [], laidByText := true, laidKinds := [.data, .data, .pinned, .pinned], laidTests := true, laidLooks := .later }
def StropRegimesUptoCardSaid : Prop := Claim7.holds Tryz.pinned (.plain (OpenSpec.upto stropRegimesSpec)) stropRegimesUptoCard
end Rows
end Go.Proofs.YtbnldpcbdeeflaaGreatDoor
