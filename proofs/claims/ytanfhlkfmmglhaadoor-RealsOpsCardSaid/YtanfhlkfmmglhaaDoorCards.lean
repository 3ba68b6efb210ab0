/-
  DERIVED. GIVEN WITH THE SEED: THE CARDS: each row of YtanfhlkfmmglhaaDoorRows.lean that lists a variable, with what it lists TIED to the program's text (the seventh form; the later family's looks); each row that meets fmt, with fmt's text TOLD by the authors' own Lean function (tested against real Go, not proved from fmt's source: count such statements apart). THE CARD IS WHAT COUNTS. Prove the row's statement (the work); the ties are given (YtanfhlkfmmglhaaDoorTie.lean); close each card by the builder's one call (the guide's Derived/Test/ToyasCard.lean, 'card_holds'). Laid BY PROGRAM, IN A SANDBOX (cutbox-door.mjs). By AI agents, Wed Nov 11 2026. No macro, syntax, notation, axiom, sorry.
-/
import Derived.Test.YtanfhlkfmmglhaaDoorRows
import GoSem.ClaimSeven
namespace Go.Proofs.YtanfhlkfmmglhaaDoor
namespace Rows

/-- THE TIED CARD OF 'environlaw02.RealsOps'. -/
def realsOpsCard : Claim7 := { stood := { row := realsOpsRow, standIns := [], harness := (true, "acb9b7441c5692ac429031b9c1697d325af19c3b3500e68c2c5252c930797f5b"), looks := false }, kinds := [], alts := [], laidByText := true, laidKinds := [.data, .data], laidTests := true, laidLooks := .later }
def RealsOpsCardSaid : Prop := Claim7.holds Tryd.pinned (.plain (OpenSpec.ofChange realsOpsSpec)) realsOpsCard

/-- THE TIED CARD OF 'environlaw02.RealsIntegers'. -/
def realsIntegersCard : Claim7 := { stood := { row := realsIntegersRow, standIns := [], harness := (true, "acb9b7441c5692ac429031b9c1697d325af19c3b3500e68c2c5252c930797f5b"), looks := false }, kinds := [], alts := [], laidByText := true, laidKinds := [.data, .data, .data], laidTests := true, laidLooks := .later }
def RealsIntegersCardSaid : Prop := Claim7.holds Tryd.pinned (.plain (OpenSpec.ofChange realsIntegersSpec)) realsIntegersCard

/-- THE SECOND FORM's CARD OF 'environlaw02.RealsOps'. -/
def realsOpsUptoCard : Claim7 := { stood := { row := realsOpsUptoRow, standIns := [], harness := (true, "acb9b7441c5692ac429031b9c1697d325af19c3b3500e68c2c5252c930797f5b"), looks := false }, kinds := [], alts := [], laidByText := true, laidKinds := [.data, .data], laidTests := true, laidLooks := .later }
def RealsOpsUptoCardSaid : Prop := Claim7.holds Tryd.pinned (.plain (OpenSpec.upto realsOpsSpec)) realsOpsUptoCard

/-- THE SECOND FORM's CARD OF 'environlaw02.RealsIntegers'. -/
def realsIntegersUptoCard : Claim7 := { stood := { row := realsIntegersUptoRow, standIns := [], harness := (true, "acb9b7441c5692ac429031b9c1697d325af19c3b3500e68c2c5252c930797f5b"), looks := false }, kinds := [], alts := [], laidByText := true, laidKinds := [.data, .data, .data], laidTests := true, laidLooks := .later }
def RealsIntegersUptoCardSaid : Prop := Claim7.holds Tryd.pinned (.plain (OpenSpec.upto realsIntegersSpec)) realsIntegersUptoCard
end Rows
end Go.Proofs.YtanfhlkfmmglhaaDoor
