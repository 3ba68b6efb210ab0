/-
  DERIVED. GIVEN WITH THE SEED: THE CARDS: each row of YtkehmdocjjadnaaDoorRows.lean that lists a variable, with what it lists TIED to the program's text (the seventh form; the later family's looks); each row that meets fmt, with fmt's text TOLD by the authors' own Lean function (tested against real Go, not proved from fmt's source: count such statements apart). THE CARD IS WHAT COUNTS. Prove the row's statement (the work); the ties are given (YtkehmdocjjadnaaDoorTie.lean); close each card by the builder's one call (the guide's Derived/Test/ToyasCard.lean, 'card_holds'). Laid BY PROGRAM, IN A SANDBOX (cutbox-door.mjs). By AI agents, Wed Nov 11 2026. No macro, syntax, notation, axiom, sorry.
-/
import Derived.Test.YtkehmdocjjadnaaDoorRows
import GoSem.ClaimSeven
namespace Go.Proofs.YtkehmdocjjadnaaDoor
namespace Rows

/-- THE TIED CARD OF 'environlaw01.IntsTells'. -/
def intsTellsCard : Claim7 := { stood := { row := intsTellsRow, standIns := [], harness := (true, "0a858256135348e3f9f3f793d64d7ea2cd52a58a7e281e556557614d6d5146f9"), looks := false }, kinds := [], alts := [], laidByText := true, laidKinds := [.data], laidTests := true, laidLooks := .later }
def IntsTellsCardSaid : Prop := Claim7.holds Tryd.pinned (.plain (OpenSpec.ofChange intsTellsSpec)) intsTellsCard

/-- THE TIED CARD OF 'environlaw01.IntsOps'. -/
def intsOpsCard : Claim7 := { stood := { row := intsOpsRow, standIns := [], harness := (true, "0a858256135348e3f9f3f793d64d7ea2cd52a58a7e281e556557614d6d5146f9"), looks := false }, kinds := [], alts := [], laidByText := true, laidKinds := [.data], laidTests := true, laidLooks := .later }
def IntsOpsCardSaid : Prop := Claim7.holds Tryd.pinned (.plain (OpenSpec.ofChange intsOpsSpec)) intsOpsCard

/-- THE TIED CARD OF 'environlaw01.IntsWords'. -/
def intsWordsCard : Claim7 := { stood := { row := intsWordsRow, standIns := [], harness := (true, "0a858256135348e3f9f3f793d64d7ea2cd52a58a7e281e556557614d6d5146f9"), looks := false }, kinds := [], alts := [], laidByText := true, laidKinds := [.data], laidTests := true, laidLooks := .later }
def IntsWordsCardSaid : Prop := Claim7.holds Tryd.pinned (.plain (OpenSpec.ofChange intsWordsSpec)) intsWordsCard

/-- THE TIED CARD OF 'environlaw01.IntsDivides'. -/
def intsDividesCard : Claim7 := { stood := { row := intsDividesRow, standIns := [], harness := (true, "0a858256135348e3f9f3f793d64d7ea2cd52a58a7e281e556557614d6d5146f9"), looks := false }, kinds := [], alts := [], laidByText := true, laidKinds := [.data], laidTests := true, laidLooks := .later }
def IntsDividesCardSaid : Prop := Claim7.holds Tryd.pinned (.plain (OpenSpec.ofChange intsDividesSpec)) intsDividesCard

/-- THE TIED CARD OF 'environlaw01.IntsSums'. -/
def intsSumsCard : Claim7 := { stood := { row := intsSumsRow, standIns := [], harness := (true, "0a858256135348e3f9f3f793d64d7ea2cd52a58a7e281e556557614d6d5146f9"), looks := false }, kinds := [], alts := [], laidByText := true, laidKinds := [.data], laidTests := true, laidLooks := .later }
def IntsSumsCardSaid : Prop := Claim7.holds Tryd.pinned (.plain (OpenSpec.ofChange intsSumsSpec)) intsSumsCard

/-- THE TIED CARD OF 'environlaw01.IntsBits'. -/
def intsBitsCard : Claim7 := { stood := { row := intsBitsRow, standIns := [], harness := (true, "0a858256135348e3f9f3f793d64d7ea2cd52a58a7e281e556557614d6d5146f9"), looks := false }, kinds := [], alts := [], laidByText := true, laidKinds := [.data], laidTests := true, laidLooks := .later }
def IntsBitsCardSaid : Prop := Claim7.holds Tryd.pinned (.plain (OpenSpec.ofChange intsBitsSpec)) intsBitsCard

/-- THE SECOND FORM's CARD OF 'environlaw01.IntsTells'. -/
def intsTellsUptoCard : Claim7 := { stood := { row := intsTellsUptoRow, standIns := [], harness := (true, "0a858256135348e3f9f3f793d64d7ea2cd52a58a7e281e556557614d6d5146f9"), looks := false }, kinds := [], alts := [], laidByText := true, laidKinds := [.data], laidTests := true, laidLooks := .later }
def IntsTellsUptoCardSaid : Prop := Claim7.holds Tryd.pinned (.plain (OpenSpec.upto intsTellsSpec)) intsTellsUptoCard

/-- THE SECOND FORM's CARD OF 'environlaw01.IntsOps'. -/
def intsOpsUptoCard : Claim7 := { stood := { row := intsOpsUptoRow, standIns := [], harness := (true, "0a858256135348e3f9f3f793d64d7ea2cd52a58a7e281e556557614d6d5146f9"), looks := false }, kinds := [], alts := [], laidByText := true, laidKinds := [.data], laidTests := true, laidLooks := .later }
def IntsOpsUptoCardSaid : Prop := Claim7.holds Tryd.pinned (.plain (OpenSpec.upto intsOpsSpec)) intsOpsUptoCard

/-- THE SECOND FORM's CARD OF 'environlaw01.IntsWords'. -/
def intsWordsUptoCard : Claim7 := { stood := { row := intsWordsUptoRow, standIns := [], harness := (true, "0a858256135348e3f9f3f793d64d7ea2cd52a58a7e281e556557614d6d5146f9"), looks := false }, kinds := [], alts := [], laidByText := true, laidKinds := [.data], laidTests := true, laidLooks := .later }
def IntsWordsUptoCardSaid : Prop := Claim7.holds Tryd.pinned (.plain (OpenSpec.upto intsWordsSpec)) intsWordsUptoCard

/-- THE SECOND FORM's CARD OF 'environlaw01.IntsDivides'. -/
def intsDividesUptoCard : Claim7 := { stood := { row := intsDividesUptoRow, standIns := [], harness := (true, "0a858256135348e3f9f3f793d64d7ea2cd52a58a7e281e556557614d6d5146f9"), looks := false }, kinds := [], alts := [], laidByText := true, laidKinds := [.data], laidTests := true, laidLooks := .later }
def IntsDividesUptoCardSaid : Prop := Claim7.holds Tryd.pinned (.plain (OpenSpec.upto intsDividesSpec)) intsDividesUptoCard

/-- THE SECOND FORM's CARD OF 'environlaw01.IntsSums'. -/
def intsSumsUptoCard : Claim7 := { stood := { row := intsSumsUptoRow, standIns := [], harness := (true, "0a858256135348e3f9f3f793d64d7ea2cd52a58a7e281e556557614d6d5146f9"), looks := false }, kinds := [], alts := [], laidByText := true, laidKinds := [.data], laidTests := true, laidLooks := .later }
def IntsSumsUptoCardSaid : Prop := Claim7.holds Tryd.pinned (.plain (OpenSpec.upto intsSumsSpec)) intsSumsUptoCard

/-- THE SECOND FORM's CARD OF 'environlaw01.IntsBits'. -/
def intsBitsUptoCard : Claim7 := { stood := { row := intsBitsUptoRow, standIns := [], harness := (true, "0a858256135348e3f9f3f793d64d7ea2cd52a58a7e281e556557614d6d5146f9"), looks := false }, kinds := [], alts := [], laidByText := true, laidKinds := [.data], laidTests := true, laidLooks := .later }
def IntsBitsUptoCardSaid : Prop := Claim7.holds Tryd.pinned (.plain (OpenSpec.upto intsBitsSpec)) intsBitsUptoCard
end Rows
end Go.Proofs.YtkehmdocjjadnaaDoor
