/-
  NARROWER THAN 'FOR EVERY INPUT', by the rows' own cells (each row's printed sentence says how): StropReads: laid · StropWrites: laid · StropBack: laid · StropAscends: laid · StropBlanks: laid · StropRegimes: laid.
  DERIVED. THE GIVEN ROWS OF THIS SEAT. 6 by the template 'for every input the law returns true; each argument reads behind the call as it read before'; 0 by the template 'total and deterministic' (their statements: YtbnldpcbdeeflaaGreatDoorTotals.lean).
  GIVEN WITH THE SEED: the statements are not yours to turn. If you find one false, say at which input.
  Laid BY PROGRAM, IN A SANDBOX (cutbox-rows.mjs): the forced cells as the released guide's own fill.sh prints them over the translation 6b987bc3013cadcb… (all of the seat's roots in one cut). By AI agents, Wed Nov 11 2026. No macro, syntax, notation, axiom, sorry.
-/
import Derived.Test.YtbnldpcbdeeflaaGreatDoorChecked
import GoSem.PinnedTables
import GoSem.Claim
import GoSem.ClaimJoined
import GoSem.ClaimMapViews
import Derived.JoinedTies
import Derived.KernelRfl
namespace Go.Proofs.YtbnldpcbdeeflaaGreatDoor
/- THE CELL 'sum', in the pinned program and in every row, IS THE sha256 OF THE DUMP (.gsa) THAT YtbnldpcbdeeflaaGreatDoorProg.lean LOADS. Nothing in Lean hashes anything: it is a label: what it is worth is what the hold of that sum in a sandbox is worth. -/
noncomputable def Tryz.pinned : Pinned := { name := "ytbnldpcbdeeflaagreatdoor", sum := "6b987bc3013cadcbefd7045bc13de10050b6842d6ee9a222edb094745ff9e6a8", checked := Tryz.checked }
namespace Rows
def none {H : Type} : Left H := { results := [], args := [] }

/- WHAT THE LISTED PACKAGE-LEVEL VARIABLES READ AS WHEN THE CALL BEGINS. Each datum BY PROGRAM (the guide's laid-datum.mjs) off the statement by which the dump's own 'gosem.cut.vars' lays the variable. In a bare row this is a premise. The card (YtbnldpcbdeeflaaGreatDoorCards.lean) ties it to the program's text. -/
def laid_unicode_utf8_acceptRanges {H : Type} : DataW H := .agg [.agg [.lit (.int .u8 128), .lit (.int .u8 191)], .agg [.lit (.int .u8 160), .lit (.int .u8 191)], .agg [.lit (.int .u8 128), .lit (.int .u8 159)], .agg [.lit (.int .u8 144), .lit (.int .u8 191)], .agg [.lit (.int .u8 128), .lit (.int .u8 143)], .agg [.lit (.int .u8 0), .lit (.int .u8 0)], .agg [.lit (.int .u8 0), .lit (.int .u8 0)], .agg [.lit (.int .u8 0), .lit (.int .u8 0)], .agg [.lit (.int .u8 0), .lit (.int .u8 0)], .agg [.lit (.int .u8 0), .lit (.int .u8 0)], .agg [.lit (.int .u8 0), .lit (.int .u8 0)], .agg [.lit (.int .u8 0), .lit (.int .u8 0)], .agg [.lit (.int .u8 0), .lit (.int .u8 0)], .agg [.lit (.int .u8 0), .lit (.int .u8 0)], .agg [.lit (.int .u8 0), .lit (.int .u8 0)], .agg [.lit (.int .u8 0), .lit (.int .u8 0)]]
def laid_environ_strop_signs {H : Type} : DataW H := .agg [.lit (.string [58, 47, 61, 58]), .lit (.string [37, 42, 58, 61]), .lit (.string [58, 61, 58]), .lit (.string [43, 58, 61]), .lit (.string [45, 58, 61]), .lit (.string [42, 58, 61]), .lit (.string [47, 58, 61]), .lit (.string [37, 58, 61]), .lit (.string [43, 61, 58]), .lit (.string [124, 58]), .lit (.string [58, 61]), .lit (.string [47, 61]), .lit (.string [60, 61]), .lit (.string [62, 61]), .lit (.string [42, 42]), .lit (.string [47, 47]), .lit (.string [37, 42]), .lit (.string [43, 42]), .lit (.string [40]), .lit (.string [41]), .lit (.string [91]), .lit (.string [93]), .lit (.string [44]), .lit (.string [59]), .lit (.string [58]), .lit (.string [64]), .lit (.string [124]), .lit (.string [61]), .lit (.string [60]), .lit (.string [62]), .lit (.string [43]), .lit (.string [45]), .lit (.string [42]), .lit (.string [47]), .lit (.string [37]), .lit (.string [94]), .lit (.string [38]), .lit (.string [126])]
/-- One of Go's own tables, pinned by name: the form's constant. -/
def laid_unicode_CaseRanges : DataW Unit := Go.Pinned.caseRanges
/-- One of Go's own tables, pinned by name: the form's constant. -/
def laid_unicode_utf8_first : DataW Unit := Go.Pinned.utf8First

/-- 'environlaw04.StropReads': WHATEVER THE INPUT: true; the input reads as it did. -/
def stropReadsSpec : ChangeSpec := { name := "stropReads", fn := fun _ => fun
  | [d1, d2] => { results := [.lit (.bool true)], args := [d1, d2] }
  | _ => none }
def stropReadsRow : OpenClaim := { program := "ytbnldpcbdeeflaagreatdoor", sum := "6b987bc3013cadcbefd7045bc13de10050b6842d6ee9a222edb094745ff9e6a8", func := "environ/environlaw04.StropReads", spec := "stropReads", inPlace := ["internal/bytealg.CountString", "internal/bytealg.IndexByteString", "internal/bytealg.IndexString", "internal/abi.NoEscape", "internal/bytealg.MakeNoZero"], unfollowed := true, recurses := true, named := ["internal/bytealg.MaxLen", "unicode/utf8.first", "unicode/utf8.acceptRanges", "unicode.CaseRanges", "environ/strop.signs"], apart := false, laid := [("unicode/utf8.acceptRanges", laid_unicode_utf8_acceptRanges), ("environ/strop.signs", laid_environ_strop_signs), ("unicode.CaseRanges", laid_unicode_CaseRanges), ("unicode/utf8.first", laid_unicode_utf8_first)] }
def StropReadsSaid : Prop := stropReadsRow.holds Tryz.pinned (OpenSpec.ofChange stropReadsSpec)

/-- ITS FALSE NEIGHBOUR: 'it returns false'. Refute it at one input. -/
def stropReadsWrong : ChangeSpec := { name := "stropReads", fn := fun _ => fun
  | [d1, d2] => { results := [.lit (.bool false)], args := [d1, d2] }
  | _ => none }
def StropReadsWrongFalsely : Prop := stropReadsRow.holds Tryz.pinned (OpenSpec.ofChange stropReadsWrong)

/-- 'environlaw04.StropWrites': WHATEVER THE INPUT: true; the input reads as it did. -/
def stropWritesSpec : ChangeSpec := { name := "stropWrites", fn := fun _ => fun
  | [d1, d2] => { results := [.lit (.bool true)], args := [d1, d2] }
  | _ => none }
def stropWritesRow : OpenClaim := { program := "ytbnldpcbdeeflaagreatdoor", sum := "6b987bc3013cadcbefd7045bc13de10050b6842d6ee9a222edb094745ff9e6a8", func := "environ/environlaw04.StropWrites", spec := "stropWrites", inPlace := ["internal/bytealg.CountString", "internal/bytealg.IndexByteString", "internal/bytealg.IndexString", "internal/abi.NoEscape", "internal/bytealg.MakeNoZero"], unfollowed := true, recurses := true, named := ["internal/bytealg.MaxLen", "unicode/utf8.first", "unicode/utf8.acceptRanges", "unicode.CaseRanges", "environ/strop.signs"], apart := false, laid := [("unicode/utf8.acceptRanges", laid_unicode_utf8_acceptRanges), ("environ/strop.signs", laid_environ_strop_signs), ("unicode.CaseRanges", laid_unicode_CaseRanges), ("unicode/utf8.first", laid_unicode_utf8_first)] }
def StropWritesSaid : Prop := stropWritesRow.holds Tryz.pinned (OpenSpec.ofChange stropWritesSpec)

/-- ITS FALSE NEIGHBOUR: 'it returns false'. Refute it at one input. -/
def stropWritesWrong : ChangeSpec := { name := "stropWrites", fn := fun _ => fun
  | [d1, d2] => { results := [.lit (.bool false)], args := [d1, d2] }
  | _ => none }
def StropWritesWrongFalsely : Prop := stropWritesRow.holds Tryz.pinned (OpenSpec.ofChange stropWritesWrong)

/-- 'environlaw04.StropBack': WHATEVER THE INPUT: true; the input reads as it did. -/
def stropBackSpec : ChangeSpec := { name := "stropBack", fn := fun _ => fun
  | [d1, d2, d3] => { results := [.lit (.bool true)], args := [d1, d2, d3] }
  | _ => none }
def stropBackRow : OpenClaim := { program := "ytbnldpcbdeeflaagreatdoor", sum := "6b987bc3013cadcbefd7045bc13de10050b6842d6ee9a222edb094745ff9e6a8", func := "environ/environlaw04.StropBack", spec := "stropBack", inPlace := ["internal/bytealg.CountString", "internal/bytealg.IndexByteString", "internal/bytealg.IndexString", "internal/abi.NoEscape", "internal/bytealg.MakeNoZero"], unfollowed := true, recurses := true, named := ["internal/bytealg.MaxLen", "unicode/utf8.first", "unicode/utf8.acceptRanges", "unicode.CaseRanges", "environ/strop.signs"], apart := false, laid := [("unicode/utf8.acceptRanges", laid_unicode_utf8_acceptRanges), ("environ/strop.signs", laid_environ_strop_signs), ("unicode.CaseRanges", laid_unicode_CaseRanges), ("unicode/utf8.first", laid_unicode_utf8_first)] }
def StropBackSaid : Prop := stropBackRow.holds Tryz.pinned (OpenSpec.ofChange stropBackSpec)

/-- ITS FALSE NEIGHBOUR: 'it returns false'. Refute it at one input. -/
def stropBackWrong : ChangeSpec := { name := "stropBack", fn := fun _ => fun
  | [d1, d2, d3] => { results := [.lit (.bool false)], args := [d1, d2, d3] }
  | _ => none }
def StropBackWrongFalsely : Prop := stropBackRow.holds Tryz.pinned (OpenSpec.ofChange stropBackWrong)

/-- 'environlaw04.StropAscends': WHATEVER THE INPUT: true; the input reads as it did. -/
def stropAscendsSpec : ChangeSpec := { name := "stropAscends", fn := fun _ => fun
  | [d1, d2] => { results := [.lit (.bool true)], args := [d1, d2] }
  | _ => none }
def stropAscendsRow : OpenClaim := { program := "ytbnldpcbdeeflaagreatdoor", sum := "6b987bc3013cadcbefd7045bc13de10050b6842d6ee9a222edb094745ff9e6a8", func := "environ/environlaw04.StropAscends", spec := "stropAscends", inPlace := ["internal/bytealg.CountString", "internal/bytealg.IndexByteString", "internal/bytealg.IndexString", "internal/abi.NoEscape", "internal/bytealg.MakeNoZero"], unfollowed := true, recurses := true, named := ["internal/bytealg.MaxLen", "unicode/utf8.first", "unicode/utf8.acceptRanges", "unicode.CaseRanges", "environ/strop.signs"], apart := false, laid := [("unicode/utf8.acceptRanges", laid_unicode_utf8_acceptRanges), ("environ/strop.signs", laid_environ_strop_signs), ("unicode.CaseRanges", laid_unicode_CaseRanges), ("unicode/utf8.first", laid_unicode_utf8_first)] }
def StropAscendsSaid : Prop := stropAscendsRow.holds Tryz.pinned (OpenSpec.ofChange stropAscendsSpec)

/-- ITS FALSE NEIGHBOUR: 'it returns false'. Refute it at one input. -/
def stropAscendsWrong : ChangeSpec := { name := "stropAscends", fn := fun _ => fun
  | [d1, d2] => { results := [.lit (.bool false)], args := [d1, d2] }
  | _ => none }
def StropAscendsWrongFalsely : Prop := stropAscendsRow.holds Tryz.pinned (OpenSpec.ofChange stropAscendsWrong)

/-- 'environlaw04.StropBlanks': WHATEVER THE INPUT: true; the input reads as it did. -/
def stropBlanksSpec : ChangeSpec := { name := "stropBlanks", fn := fun _ => fun
  | [d1, d2, d3] => { results := [.lit (.bool true)], args := [d1, d2, d3] }
  | _ => none }
def stropBlanksRow : OpenClaim := { program := "ytbnldpcbdeeflaagreatdoor", sum := "6b987bc3013cadcbefd7045bc13de10050b6842d6ee9a222edb094745ff9e6a8", func := "environ/environlaw04.StropBlanks", spec := "stropBlanks", inPlace := ["internal/bytealg.CountString", "internal/bytealg.IndexByteString", "internal/bytealg.IndexString", "internal/abi.NoEscape", "internal/bytealg.MakeNoZero"], unfollowed := true, recurses := true, named := ["internal/bytealg.MaxLen", "unicode/utf8.first", "unicode/utf8.acceptRanges", "unicode.CaseRanges", "environ/strop.signs"], apart := false, laid := [("unicode/utf8.acceptRanges", laid_unicode_utf8_acceptRanges), ("environ/strop.signs", laid_environ_strop_signs), ("unicode.CaseRanges", laid_unicode_CaseRanges), ("unicode/utf8.first", laid_unicode_utf8_first)] }
def StropBlanksSaid : Prop := stropBlanksRow.holds Tryz.pinned (OpenSpec.ofChange stropBlanksSpec)

/-- ITS FALSE NEIGHBOUR: 'it returns false'. Refute it at one input. -/
def stropBlanksWrong : ChangeSpec := { name := "stropBlanks", fn := fun _ => fun
  | [d1, d2, d3] => { results := [.lit (.bool false)], args := [d1, d2, d3] }
  | _ => none }
def StropBlanksWrongFalsely : Prop := stropBlanksRow.holds Tryz.pinned (OpenSpec.ofChange stropBlanksWrong)

/-- 'environlaw04.StropRegimes': WHATEVER THE INPUT: true; the input reads as it did. -/
def stropRegimesSpec : ChangeSpec := { name := "stropRegimes", fn := fun _ => fun
  | [d1, d2, d3] => { results := [.lit (.bool true)], args := [d1, d2, d3] }
  | _ => none }
def stropRegimesRow : OpenClaim := { program := "ytbnldpcbdeeflaagreatdoor", sum := "6b987bc3013cadcbefd7045bc13de10050b6842d6ee9a222edb094745ff9e6a8", func := "environ/environlaw04.StropRegimes", spec := "stropRegimes", inPlace := ["internal/bytealg.CountString", "internal/bytealg.IndexByteString", "internal/bytealg.IndexString", "internal/abi.NoEscape", "internal/bytealg.MakeNoZero"], unfollowed := true, recurses := true, named := ["internal/bytealg.MaxLen", "unicode/utf8.first", "unicode/utf8.acceptRanges", "unicode.CaseRanges", "environ/strop.signs"], apart := false, laid := [("unicode/utf8.acceptRanges", laid_unicode_utf8_acceptRanges), ("environ/strop.signs", laid_environ_strop_signs), ("unicode.CaseRanges", laid_unicode_CaseRanges), ("unicode/utf8.first", laid_unicode_utf8_first)] }
def StropRegimesSaid : Prop := stropRegimesRow.holds Tryz.pinned (OpenSpec.ofChange stropRegimesSpec)

/-- ITS FALSE NEIGHBOUR: 'it returns false'. Refute it at one input. -/
def stropRegimesWrong : ChangeSpec := { name := "stropRegimes", fn := fun _ => fun
  | [d1, d2, d3] => { results := [.lit (.bool false)], args := [d1, d2, d3] }
  | _ => none }
def StropRegimesWrongFalsely : Prop := stropRegimesRow.holds Tryz.pinned (OpenSpec.ofChange stropRegimesWrong)

/- THE SECOND FORM. 'bulk': how many values and letters a reading holds, each counted each time it is reached (what is shared counts as often as it is met; a slice's spare places count too). A statement '..UptoSaid' is the law's where the arguments, and the package variables that the reading takes, are together of bulk at most 1048576: NARROWER than '..Said'. Prove '..Said' where nothing that the law and all that it calls make is longer than what came in: it says more and counts as full. Else prove '..UptoSaid'. A law counts once. -/
mutual
def uptoBulk {H : Type} : DataW H → Nat
  | .lit (.string bytes) => bytes.length + 1
  | .lit _ => 1
  | .nil => 1
  | .ptr d => uptoBulk d + 1
  | .slice elems spare => uptoBulkAll elems + uptoBulkAll spare + 1
  | .agg parts => uptoBulkAll parts + 1
  | .iface _ d => uptoBulk d + 1
  | .map entries => uptoBulkEntries entries + 1
  | .held _ => 1
def uptoBulkAll {H : Type} : List (DataW H) → Nat
  | [] => 0
  | d :: r => uptoBulk d + uptoBulkAll r
def uptoBulkEntries {H : Type} : List (Lit × DataW H) → Nat
  | [] => 0
  | x :: r => uptoBulkEntry x + uptoBulkEntries r
def uptoBulkEntry {H : Type} : Lit × DataW H → Nat
  | (.string bytes, d) => bytes.length + uptoBulk d + 1
  | (_, d) => uptoBulk d + 1
 end
def uptoSmall : (H : Type) → List (DataW H) → Bool := fun _ ds => decide (uptoBulkAll ds ≤ 1048576)
def OpenSpec.upto (s : _root_.Go.ChangeSpec) : _root_.Go.OpenSpec := { _root_.Go.OpenSpec.ofChange s with cond := some uptoSmall }

/-- 'environlaw04.StropReads', WHERE WHAT IT READS IS OF BULK AT MOST 1048576: true; the input reads as it did. -/
def stropReadsUptoRow : OpenClaim := { program := "ytbnldpcbdeeflaagreatdoor", sum := "6b987bc3013cadcbefd7045bc13de10050b6842d6ee9a222edb094745ff9e6a8", func := "environ/environlaw04.StropReads", spec := "stropReads", inPlace := ["internal/bytealg.CountString", "internal/bytealg.IndexByteString", "internal/bytealg.IndexString", "internal/abi.NoEscape", "internal/bytealg.MakeNoZero"], unfollowed := true, recurses := true, named := ["internal/bytealg.MaxLen", "unicode/utf8.first", "unicode/utf8.acceptRanges", "unicode.CaseRanges", "environ/strop.signs"], apart := false, laid := [("unicode/utf8.acceptRanges", laid_unicode_utf8_acceptRanges), ("environ/strop.signs", laid_environ_strop_signs), ("unicode.CaseRanges", laid_unicode_CaseRanges), ("unicode/utf8.first", laid_unicode_utf8_first)], narrowed := true }
def StropReadsUptoSaid : Prop := stropReadsUptoRow.holds Tryz.pinned (OpenSpec.upto stropReadsSpec)

/-- 'environlaw04.StropWrites', WHERE WHAT IT READS IS OF BULK AT MOST 1048576: true; the input reads as it did. -/
def stropWritesUptoRow : OpenClaim := { program := "ytbnldpcbdeeflaagreatdoor", sum := "6b987bc3013cadcbefd7045bc13de10050b6842d6ee9a222edb094745ff9e6a8", func := "environ/environlaw04.StropWrites", spec := "stropWrites", inPlace := ["internal/bytealg.CountString", "internal/bytealg.IndexByteString", "internal/bytealg.IndexString", "internal/abi.NoEscape", "internal/bytealg.MakeNoZero"], unfollowed := true, recurses := true, named := ["internal/bytealg.MaxLen", "unicode/utf8.first", "unicode/utf8.acceptRanges", "unicode.CaseRanges", "environ/strop.signs"], apart := false, laid := [("unicode/utf8.acceptRanges", laid_unicode_utf8_acceptRanges), ("environ/strop.signs", laid_environ_strop_signs), ("unicode.CaseRanges", laid_unicode_CaseRanges), ("unicode/utf8.first", laid_unicode_utf8_first)], narrowed := true }
def StropWritesUptoSaid : Prop := stropWritesUptoRow.holds Tryz.pinned (OpenSpec.upto stropWritesSpec)

/-- 'environlaw04.StropBack', WHERE WHAT IT READS IS OF BULK AT MOST 1048576: true; the input reads as it did. -/
def stropBackUptoRow : OpenClaim := { program := "ytbnldpcbdeeflaagreatdoor", sum := "6b987bc3013cadcbefd7045bc13de10050b6842d6ee9a222edb094745ff9e6a8", func := "environ/environlaw04.StropBack", spec := "stropBack", inPlace := ["internal/bytealg.CountString", "internal/bytealg.IndexByteString", "internal/bytealg.IndexString", "internal/abi.NoEscape", "internal/bytealg.MakeNoZero"], unfollowed := true, recurses := true, named := ["internal/bytealg.MaxLen", "unicode/utf8.first", "unicode/utf8.acceptRanges", "unicode.CaseRanges", "environ/strop.signs"], apart := false, laid := [("unicode/utf8.acceptRanges", laid_unicode_utf8_acceptRanges), ("environ/strop.signs", laid_environ_strop_signs), ("unicode.CaseRanges", laid_unicode_CaseRanges), ("unicode/utf8.first", laid_unicode_utf8_first)], narrowed := true }
def StropBackUptoSaid : Prop := stropBackUptoRow.holds Tryz.pinned (OpenSpec.upto stropBackSpec)

/-- 'environlaw04.StropAscends', WHERE WHAT IT READS IS OF BULK AT MOST 1048576: true; the input reads as it did. -/
def stropAscendsUptoRow : OpenClaim := { program := "ytbnldpcbdeeflaagreatdoor", sum := "6b987bc3013cadcbefd7045bc13de10050b6842d6ee9a222edb094745ff9e6a8", func := "environ/environlaw04.StropAscends", spec := "stropAscends", inPlace := ["internal/bytealg.CountString", "internal/bytealg.IndexByteString", "internal/bytealg.IndexString", "internal/abi.NoEscape", "internal/bytealg.MakeNoZero"], unfollowed := true, recurses := true, named := ["internal/bytealg.MaxLen", "unicode/utf8.first", "unicode/utf8.acceptRanges", "unicode.CaseRanges", "environ/strop.signs"], apart := false, laid := [("unicode/utf8.acceptRanges", laid_unicode_utf8_acceptRanges), ("environ/strop.signs", laid_environ_strop_signs), ("unicode.CaseRanges", laid_unicode_CaseRanges), ("unicode/utf8.first", laid_unicode_utf8_first)], narrowed := true }
def StropAscendsUptoSaid : Prop := stropAscendsUptoRow.holds Tryz.pinned (OpenSpec.upto stropAscendsSpec)

/-- 'environlaw04.StropBlanks', WHERE WHAT IT READS IS OF BULK AT MOST 1048576: true; the input reads as it did. -/
def stropBlanksUptoRow : OpenClaim := { program := "ytbnldpcbdeeflaagreatdoor", sum := "6b987bc3013cadcbefd7045bc13de10050b6842d6ee9a222edb094745ff9e6a8", func := "environ/environlaw04.StropBlanks", spec := "stropBlanks", inPlace := ["internal/bytealg.CountString", "internal/bytealg.IndexByteString", "internal/bytealg.IndexString", "internal/abi.NoEscape", "internal/bytealg.MakeNoZero"], unfollowed := true, recurses := true, named := ["internal/bytealg.MaxLen", "unicode/utf8.first", "unicode/utf8.acceptRanges", "unicode.CaseRanges", "environ/strop.signs"], apart := false, laid := [("unicode/utf8.acceptRanges", laid_unicode_utf8_acceptRanges), ("environ/strop.signs", laid_environ_strop_signs), ("unicode.CaseRanges", laid_unicode_CaseRanges), ("unicode/utf8.first", laid_unicode_utf8_first)], narrowed := true }
def StropBlanksUptoSaid : Prop := stropBlanksUptoRow.holds Tryz.pinned (OpenSpec.upto stropBlanksSpec)

/-- 'environlaw04.StropRegimes', WHERE WHAT IT READS IS OF BULK AT MOST 1048576: true; the input reads as it did. -/
def stropRegimesUptoRow : OpenClaim := { program := "ytbnldpcbdeeflaagreatdoor", sum := "6b987bc3013cadcbefd7045bc13de10050b6842d6ee9a222edb094745ff9e6a8", func := "environ/environlaw04.StropRegimes", spec := "stropRegimes", inPlace := ["internal/bytealg.CountString", "internal/bytealg.IndexByteString", "internal/bytealg.IndexString", "internal/abi.NoEscape", "internal/bytealg.MakeNoZero"], unfollowed := true, recurses := true, named := ["internal/bytealg.MaxLen", "unicode/utf8.first", "unicode/utf8.acceptRanges", "unicode.CaseRanges", "environ/strop.signs"], apart := false, laid := [("unicode/utf8.acceptRanges", laid_unicode_utf8_acceptRanges), ("environ/strop.signs", laid_environ_strop_signs), ("unicode.CaseRanges", laid_unicode_CaseRanges), ("unicode/utf8.first", laid_unicode_utf8_first)], narrowed := true }
def StropRegimesUptoSaid : Prop := stropRegimesUptoRow.holds Tryz.pinned (OpenSpec.upto stropRegimesSpec)

end Rows
end Go.Proofs.YtbnldpcbdeeflaaGreatDoor
