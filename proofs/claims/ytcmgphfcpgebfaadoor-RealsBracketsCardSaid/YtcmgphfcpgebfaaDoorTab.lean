/- What the listed tables give: the precisions of the three lengths, and the powers of ten. Condition: the row's own list of package-level variables. -/
import Derived.Test.YtcmgphfcpgebfaaDoorCards
import Derived.Test.YtcmgphfcpgebfaaDoorTie
import Derived.WalkKit
import Derived.ProofKit
import Derived.OpenShut
import Derived.Deep.DeepHandedRow
import Derived.Lib.LaidTab
import Derived.Lib.Hide
import Derived.Handy
import Derived.Below
import Derived.Deep.Draws
import Derived.Deep.QuietTactic
import Derived.BigQuiet
namespace Go.Proofs.YtcmgphfcpgebfaaDoor
open Go.ChangeShapes Go.WideShapes Go.ChangeAt Go.RowKit

theorem Tab.own : ownKnob Tryd.prog.godebug = none := by kernel_rfl
theorem Tab.g1 : Tryd.prog.globalNamed "environ/reals.tens" = some 1 := by kernel_rfl
theorem Tab.g1Type : (Tryd.prog.globals[1]?).map (·.type) = some 91 := by kernel_rfl
theorem Tab.cells1 : Tryd.prog.cellsOf 91 = 20 := by kernel_rfl
theorem Tab.cellsU : Tryd.prog.cellsOf 55 = 1 := by kernel_rfl
theorem Tab.g0 : Tryd.prog.globalNamed "environ/reals.precisions" = some 0 := by kernel_rfl
theorem Tab.g0Type : (Tryd.prog.globals[0]?).map (·.type) = some 53 := by kernel_rfl
theorem Tab.cells0 : Tryd.prog.cellsOf 53 = 3 := by kernel_rfl
theorem Tab.cellsI : Tryd.prog.cellsOf 3 = 1 := by kernel_rfl

/-- A power of ten that the table has. -/
def tn (k : Nat) : Nat := 10 ^ k

/-- The tables' cells, in a world. -/
structure Tab (w : World) : Prop where
  p0 : w.cell? ⟨0, 0, none⟩ = some (.int .i64 7)
  p1 : w.cell? ⟨0, 1, none⟩ = some (.int .i64 15)
  p2 : w.cell? ⟨0, 2, none⟩ = some (.int .i64 18)
  tens : ∀ k : Nat, k < 20 → w.cell? ⟨1, k, none⟩ = some (.int .u64 (tn k : Int))

theorem laid_tens : (Rows.laid_environ_reals_tens : DataW Unit) = Lib.tabData .u64 ((List.range 20).map fun k => (tn k : Int)) := by kernel_rfl
theorem laid_prec : (Rows.laid_environ_reals_precisions : DataW Unit) = Lib.tabData .i64 [7, 15, 18] := by kernel_rfl

theorem Tab.of_vars {W : World} {ps : List MemPlace} (h : DataW.LaidVars Tryd.prog W [("environ/reals.tens", Rows.laid_environ_reals_tens), ("environ/reals.precisions", Rows.laid_environ_reals_precisions)] ps) : Tab W := by
  obtain ⟨g, t, cs, fuel, p, q, hg, ht, hvar, hd, ⟨g', t', cs', fuel', p', q', hg', ht', hvar', hd', _, _⟩, _⟩ := h
  obtain rfl := Option.some.inj (Tab.g1.symm.trans hg)
  obtain rfl := Option.some.inj (Tab.g1Type.symm.trans ht)
  obtain rfl := Option.some.inj (Tab.g0.symm.trans hg')
  obtain rfl := Option.some.inj (Tab.g0Type.symm.trans ht')
  rw [laid_tens] at hd
  rw [laid_prec] at hd'
  have h1 := Lib.cells_of_tab Tryd.underlying91 Tryd.underlying55 Tab.cellsU Tab.cells1 hd
  have h0 := Lib.cells_of_tab Tryd.underlying53 Tryd.underlying3 Tab.cellsI Tab.cells0 hd'
  have c1 := fun i => World.var?_cell Tab.g1 hvar i
  have c0 := fun i => World.var?_cell Tab.g0 hvar' i
  refine ⟨?_, ?_, ?_, fun k hk => ?_⟩
  · rw [c0 0, ← Array.getElem?_toList, h0]; rfl
  · rw [c0 1, ← Array.getElem?_toList, h0]; rfl
  · rw [c0 2, ← Array.getElem?_toList, h0]; rfl
  · rw [c1 k, ← Array.getElem?_toList, h1]
    simp [hk]

theorem Tab.of_laid {W : World} (h : laidMetH Tryd.prog [("environ/reals.tens", Rows.laid_environ_reals_tens), ("environ/reals.precisions", Rows.laid_environ_reals_precisions)] W) : Tab W := by
  have h : laidMet Tryd.prog [("environ/reals.tens", Rows.laid_environ_reals_tens), ("environ/reals.precisions", Rows.laid_environ_reals_precisions)] W := h
  obtain ⟨ps, hv, _⟩ := h
  exact Tab.of_vars hv

theorem cell_lt {w : World} {a : Addr} {v : Value} (h : w.cell? a = some v) : a.block < w.heap.size := by
  unfold World.cell? at h
  by_cases hb : a.block < w.heap.size
  · exact hb
  · rw [Array.getElem?_eq_none (by omega)] at h
    simp at h

theorem Tab.lt {w : World} (h : Tab w) : 1 < w.heap.size := cell_lt (h.tens 0 (by omega))
theorem Tab.lt0 {w : World} (h : Tab w) : 0 < w.heap.size := cell_lt h.p0

theorem Tab.below {B : Nat} {w w' : World} (h : Tab w) (hb : Below B w w') (hB : 1 < B) (hB0 : 0 < B) : Tab w' :=
  ⟨(hb.cell hB0).trans h.p0, (hb.cell hB0).trans h.p1, (hb.cell hB0).trans h.p2, fun k hk => (hb.cell hB).trans (h.tens k hk)⟩

/-- What a call leaves: all that was is as it was, and the tables with it. -/
def Kept (w w' : World) : Prop := Tab w' ∧ Below w.heap.size w w'
theorem Kept.mk {w w' : World} (h : Tab w) (hb : Below w.heap.size w w') : Kept w w' := ⟨h.below hb h.lt h.lt0, hb⟩
theorem Kept.refl {w : World} (h : Tab w) : Kept w w := ⟨h, Below.refl _ _⟩
theorem Kept.trans {a b c : World} (h : Kept a b) (k : Kept b c) : Kept a c := ⟨k.1, h.2.trans (k.2.mono h.2.size)⟩
theorem Kept.alloc {a b : World} (h : Kept a b) (o : Obj) : Kept a (b.alloc o) := h.trans (Kept.mk h.1 ((Below.refl _ _).alloc (Nat.le_refl _) _))
theorem Kept.setCell {a b : World} (h : Kept a b) {p : Addr} (hp : a.heap.size ≤ p.block) (u : Value) (h1 : 1 < a.heap.size) (h0 : 0 < a.heap.size) : Kept a (b.setCell p u) :=
  ⟨h.1.below (B := a.heap.size) ((Below.refl _ _).setCell hp u) h1 h0, h.2.setCell hp u⟩
theorem Tab.drew {w : World} (h : Tab w) : Tab w.drew := ⟨h.p0, h.p1, h.p2, h.tens⟩
theorem Tab.drewN {w : World} (h : Tab w) (n : Nat) : Tab (w.drewN n) := ⟨h.p0, h.p1, h.p2, h.tens⟩
theorem below_drewN {B : Nat} {a w : World} (h : Below B a w) (n : Nat) : Below B a (w.drewN n) := ⟨h.os, h.tape, h.output, h.size, h.block⟩
theorem Kept.drew {a b : World} (h : Kept a b) : Kept a b.drew := ⟨h.1.drew, h.2.drew⟩
theorem Kept.drewN {a b : World} (h : Kept a b) (n : Nat) : Kept a (b.drewN n) := ⟨h.1.drewN n, below_drewN h.2 n⟩
theorem Tab.alloc {w : World} (h : Tab w) (o : Obj) : Tab (w.alloc o) := h.below ((Below.refl w.heap.size w).alloc (Nat.le_refl _) o) h.lt h.lt0
theorem bcell {W w1 : World} (hb : Below W.heap.size W w1) : (∀ b o, b < W.heap.size → w1.cell? ⟨b, o, none⟩ = W.cell? ⟨b, o, none⟩) ∧ (∀ b o, b < W.heap.size → w1.frozen? ⟨b, o, none⟩ = W.frozen? ⟨b, o, none⟩) :=
  ⟨fun b o h => hb.cell (p := ⟨b, o, none⟩) h, fun b o h => hb.frozen (p := ⟨b, o, none⟩) h⟩
end Go.Proofs.YtcmgphfcpgebfaaDoor
