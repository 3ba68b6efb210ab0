/-
  NARROWER THAN 'FOR EVERY INPUT', by the rows' own cells (each row's printed sentence says how): RealsOps: laid · RealsIntegers: laid.
  DERIVED. THE GIVEN ROWS OF THIS SEAT. 2 by the template 'for every input the law returns true; each argument reads behind the call as it read before'; 0 by the template 'total and deterministic' (their statements: YtanfhlkfmmglhaaDoorTotals.lean).
  GIVEN WITH THE SEED: the statements are not yours to turn. If you find one false, say at which input.
  Laid BY PROGRAM, IN A SANDBOX (cutbox-rows.mjs): the forced cells as the released guide's own fill.sh prints them over the translation c9b40e81b8f835b7… (all of the seat's roots in one cut). By AI agents, Wed Nov 11 2026. No macro, syntax, notation, axiom, sorry.
-/
import Derived.Test.YtanfhlkfmmglhaaDoorChecked
import GoSem.Claim
import GoSem.ClaimJoined
import GoSem.ClaimMapViews
import Derived.JoinedTies
import Derived.KernelRfl
namespace Go.Proofs.YtanfhlkfmmglhaaDoor
/- THE CELL 'sum', in the pinned program and in every row, IS THE sha256 OF THE DUMP (.gsa) THAT YtanfhlkfmmglhaaDoorProg.lean LOADS. Nothing in Lean hashes anything: it is a label: what it is worth is what the hold of that sum in a sandbox is worth. -/
noncomputable def Tryd.pinned : Pinned := { name := "ytanfhlkfmmglhaadoor", sum := "c9b40e81b8f835b7fd116124ec82c1ffb2ab0228ab1c1edcee9547de63961205", checked := Tryd.checked }
namespace Rows
def none {H : Type} : Left H := { results := [], args := [] }

/- WHAT THE LISTED PACKAGE-LEVEL VARIABLES READ AS WHEN THE CALL BEGINS. Each datum BY PROGRAM (the guide's laid-datum.mjs) off the statement by which the dump's own 'gosem.cut.vars' lays the variable. In a bare row this is a premise. The card (YtanfhlkfmmglhaaDoorCards.lean) ties it to the program's text. -/
def laid_environ_reals_tens {H : Type} : DataW H := .agg [.lit (.int .u64 1), .lit (.int .u64 10), .lit (.int .u64 100), .lit (.int .u64 1000), .lit (.int .u64 10000), .lit (.int .u64 100000), .lit (.int .u64 1000000), .lit (.int .u64 10000000), .lit (.int .u64 100000000), .lit (.int .u64 1000000000), .lit (.int .u64 10000000000), .lit (.int .u64 100000000000), .lit (.int .u64 1000000000000), .lit (.int .u64 10000000000000), .lit (.int .u64 100000000000000), .lit (.int .u64 1000000000000000), .lit (.int .u64 10000000000000000), .lit (.int .u64 100000000000000000), .lit (.int .u64 1000000000000000000), .lit (.int .u64 10000000000000000000)]
def laid_environ_reals_precisions {H : Type} : DataW H := .agg [.lit (.int .i64 7), .lit (.int .i64 15), .lit (.int .i64 18)]
def laid_environ_ints_sizes {H : Type} : DataW H := .agg [.agg [.lit (.int .i64 32767), .lit (.int .i64 16)], .agg [.lit (.int .i64 2147483647), .lit (.int .i64 32)], .agg [.lit (.int .i64 999999999999999999), .lit (.int .i64 60)]]

/-- 'environlaw02.RealsOps': WHATEVER THE INPUT: true; the input reads as it did. -/
def realsOpsSpec : ChangeSpec := { name := "realsOps", fn := fun _ => fun
  | [d1, d2, d3] => { results := [.lit (.bool true)], args := [d1, d2, d3] }
  | _ => none }
def realsOpsRow : OpenClaim := { program := "ytanfhlkfmmglhaadoor", sum := "c9b40e81b8f835b7fd116124ec82c1ffb2ab0228ab1c1edcee9547de63961205", func := "environ/environlaw02.RealsOps", spec := "realsOps", inPlace := ["math/bits.Add64", "math/bits.Sub64"], unfollowed := true, recurses := true, named := ["environ/reals.precisions", "environ/reals.tens", "math/bits.divideError", "math/bits.overflowError"], apart := false, laid := [("environ/reals.tens", laid_environ_reals_tens), ("environ/reals.precisions", laid_environ_reals_precisions)] }
def RealsOpsSaid : Prop := realsOpsRow.holds Tryd.pinned (OpenSpec.ofChange realsOpsSpec)

/-- ITS FALSE NEIGHBOUR: 'it returns false'. Refute it at one input. -/
def realsOpsWrong : ChangeSpec := { name := "realsOps", fn := fun _ => fun
  | [d1, d2, d3] => { results := [.lit (.bool false)], args := [d1, d2, d3] }
  | _ => none }
def RealsOpsWrongFalsely : Prop := realsOpsRow.holds Tryd.pinned (OpenSpec.ofChange realsOpsWrong)

/-- 'environlaw02.RealsIntegers': WHATEVER THE INPUT: true; the input reads as it did. -/
def realsIntegersSpec : ChangeSpec := { name := "realsIntegers", fn := fun _ => fun
  | [d1, d2, d3] => { results := [.lit (.bool true)], args := [d1, d2, d3] }
  | _ => none }
def realsIntegersRow : OpenClaim := { program := "ytanfhlkfmmglhaadoor", sum := "c9b40e81b8f835b7fd116124ec82c1ffb2ab0228ab1c1edcee9547de63961205", func := "environ/environlaw02.RealsIntegers", spec := "realsIntegers", inPlace := ["math/bits.Add64", "math/bits.Sub64"], unfollowed := true, recurses := true, named := ["environ/reals.precisions", "environ/reals.tens", "math/bits.divideError", "math/bits.overflowError", "environ/ints.sizes"], apart := false, laid := [("environ/ints.sizes", laid_environ_ints_sizes), ("environ/reals.tens", laid_environ_reals_tens), ("environ/reals.precisions", laid_environ_reals_precisions)] }
def RealsIntegersSaid : Prop := realsIntegersRow.holds Tryd.pinned (OpenSpec.ofChange realsIntegersSpec)

/-- ITS FALSE NEIGHBOUR: 'it returns false'. Refute it at one input. -/
def realsIntegersWrong : ChangeSpec := { name := "realsIntegers", fn := fun _ => fun
  | [d1, d2, d3] => { results := [.lit (.bool false)], args := [d1, d2, d3] }
  | _ => none }
def RealsIntegersWrongFalsely : Prop := realsIntegersRow.holds Tryd.pinned (OpenSpec.ofChange realsIntegersWrong)

/- THE SECOND FORM. 'bulk': how many values and letters a reading holds, each counted each time it is reached (what is shared counts as often as it is met; a slice's spare places count too). A statement '..UptoSaid' is the law's where the arguments, and the package variables that the reading takes, are together of bulk at most 1048576: NARROWER than '..Said'. Prove '..Said' where nothing that the law and all that it calls make is longer than what came in: it says more and counts as full. Else prove '..UptoSaid'. A law counts once. -/
mutual
def uptoBulk {H : Type} : DataW H → Nat
  | .lit (.string bytes) => bytes.length + 1
  | .lit _ => 1
  | .nil => 1
  | .ptr d => uptoBulk d + 1
  | .slice elems spare => uptoBulkAll elems + uptoBulkAll spare + 1
  | .agg parts => uptoBulkAll parts + 1
  | .iface _ d => uptoBulk d + 1
  | .map entries => uptoBulkEntries entries + 1
  | .held _ => 1
def uptoBulkAll {H : Type} : List (DataW H) → Nat
  | [] => 0
  | d :: r => uptoBulk d + uptoBulkAll r
def uptoBulkEntries {H : Type} : List (Lit × DataW H) → Nat
  | [] => 0
  | x :: r => uptoBulkEntry x + uptoBulkEntries r
def uptoBulkEntry {H : Type} : Lit × DataW H → Nat
  | (.string bytes, d) => bytes.length + uptoBulk d + 1
  | (_, d) => uptoBulk d + 1
 end
def uptoSmall : (H : Type) → List (DataW H) → Bool := fun _ ds => decide (uptoBulkAll ds ≤ 1048576)
def OpenSpec.upto (s : _root_.Go.ChangeSpec) : _root_.Go.OpenSpec := { _root_.Go.OpenSpec.ofChange s with cond := some uptoSmall }

/-- 'environlaw02.RealsOps', WHERE WHAT IT READS IS OF BULK AT MOST 1048576: true; the input reads as it did. -/
def realsOpsUptoRow : OpenClaim := { program := "ytanfhlkfmmglhaadoor", sum := "c9b40e81b8f835b7fd116124ec82c1ffb2ab0228ab1c1edcee9547de63961205", func := "environ/environlaw02.RealsOps", spec := "realsOps", inPlace := ["math/bits.Add64", "math/bits.Sub64"], unfollowed := true, recurses := true, named := ["environ/reals.precisions", "environ/reals.tens", "math/bits.divideError", "math/bits.overflowError"], apart := false, laid := [("environ/reals.tens", laid_environ_reals_tens), ("environ/reals.precisions", laid_environ_reals_precisions)], narrowed := true }
def RealsOpsUptoSaid : Prop := realsOpsUptoRow.holds Tryd.pinned (OpenSpec.upto realsOpsSpec)

/-- 'environlaw02.RealsIntegers', WHERE WHAT IT READS IS OF BULK AT MOST 1048576: true; the input reads as it did. -/
def realsIntegersUptoRow : OpenClaim := { program := "ytanfhlkfmmglhaadoor", sum := "c9b40e81b8f835b7fd116124ec82c1ffb2ab0228ab1c1edcee9547de63961205", func := "environ/environlaw02.RealsIntegers", spec := "realsIntegers", inPlace := ["math/bits.Add64", "math/bits.Sub64"], unfollowed := true, recurses := true, named := ["environ/reals.precisions", "environ/reals.tens", "math/bits.divideError", "math/bits.overflowError", "environ/ints.sizes"], apart := false, laid := [("environ/ints.sizes", laid_environ_ints_sizes), ("environ/reals.tens", laid_environ_reals_tens), ("environ/reals.precisions", laid_environ_reals_precisions)], narrowed := true }
def RealsIntegersUptoSaid : Prop := realsIntegersUptoRow.holds Tryd.pinned (OpenSpec.upto realsIntegersSpec)

end Rows
end Go.Proofs.YtanfhlkfmmglhaaDoor
