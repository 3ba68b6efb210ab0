/- What the listed table of sizes gives: its six cells hold the limits of the three lengths. Condition: the row's own list of package-level variables. -/
import Derived.Test.YtkehmdocjjadnaaDoorCards
import Derived.Test.YtkehmdocjjadnaaDoorTie
import Derived.WalkKit
import Derived.ProofKit
import Derived.OpenShut
import Derived.Deep.DeepHandedRow
import Derived.Lib.LaidTab
import Derived.Lib.Hide
import Derived.Handy
namespace Go.Proofs.YtkehmdocjjadnaaDoor
open Go.ChangeShapes Go.WideShapes Go.ChangeAt Go.RowKit

theorem Tab.own : ownKnob Tryd.prog.godebug = none := by kernel_rfl
theorem Tab.g : Tryd.prog.globalNamed "environ/ints.sizes" = some 0 := by kernel_rfl
theorem Tab.gType : (Tryd.prog.globals[0]?).map (·.type) = some 47 := by kernel_rfl
theorem Tab.cellsA : Tryd.prog.cellsOf 47 = 6 := by kernel_rfl
theorem Tab.cellsS : Tryd.prog.cellsOf 38 = 2 := by kernel_rfl
theorem Tab.cells64 : Tryd.prog.cellsOf 2 = 1 := by kernel_rfl
theorem Tab.cellsInt : Tryd.prog.cellsOf 3 = 1 := by kernel_rfl

/-- The table's six cells, in a world. -/
structure Tab (w : World) : Prop where
  c0 : w.cell? ⟨0, 0, none⟩ = some (.int .i64 32767)
  c1 : w.cell? ⟨0, 1, none⟩ = some (.int .i64 16)
  c2 : w.cell? ⟨0, 2, none⟩ = some (.int .i64 2147483647)
  c3 : w.cell? ⟨0, 3, none⟩ = some (.int .i64 32)
  c4 : w.cell? ⟨0, 4, none⟩ = some (.int .i64 999999999999999999)
  c5 : w.cell? ⟨0, 5, none⟩ = some (.int .i64 60)

theorem int_of_trod {H : Type} {enc : TypeId × Value → H} {P : Program} {w : World} {base : Nat} {sp : Nat → Bool} {held : Bool} {fuel : Nat} {t : TypeId} {k : IntKind} {c : Value} {y : DataW H × List MemPlace}
    (ht : P.underlying t = some (.int k)) (h : DataW.trod enc P w base sp held fuel t [c] = some y) : ∃ n, c = .int k n ∧ y = (.lit (.int k n), []) := by
  cases fuel with
  | zero => simp [DataW.trod] at h
  | succ fuel =>
    cases c <;> simp [DataW.trod, ht] at h
    rename_i k' n
    obtain ⟨⟨rfl, _⟩, rfl⟩ := h
    exact ⟨n, rfl, rfl⟩

theorem pair_of_trod {H : Type} {enc : TypeId × Value → H} {w : World} {base : Nat} {sp : Nat → Bool} {held : Bool} {fuel : Nat} {c d : Value} {y : DataW H × List MemPlace}
    (h : DataW.trod enc Tryd.prog w base sp held fuel 38 [c, d] = some y) : ∃ m n, c = .int .i64 m ∧ d = .int .i64 n ∧ y = (.agg [.lit (.int .i64 m), .lit (.int .i64 n)], []) := by
  obtain ⟨y0, y1, n, rfl, _, h0, h1⟩ := trod_struct2 Tryd.underlying38 h
  simp only [Tab.cells64, Tab.cellsInt, List.drop_zero, List.drop_succ_cons, List.take_succ_cons, List.take_zero] at h0 h1
  obtain ⟨m, rfl, rfl⟩ := int_of_trod Tryd.underlying2 h0
  obtain ⟨n, rfl, rfl⟩ := int_of_trod Tryd.underlying3 h1
  exact ⟨m, n, rfl, rfl, rfl⟩

theorem Tab.of_laid {W : World} (h : laidMetH Tryd.prog [("environ/ints.sizes", Rows.laid_environ_ints_sizes)] W) : Tab W := by
  have h : laidMet Tryd.prog [("environ/ints.sizes", Rows.laid_environ_ints_sizes)] W := h
  obtain ⟨ps, ⟨g, t, cs, fuel, p, q, hg, ht, hvar, hd, _, _⟩, _⟩ := h
  obtain rfl := Option.some.inj (Tab.g.symm.trans hg)
  obtain rfl := Option.some.inj (Tab.gType.symm.trans ht)
  obtain ⟨l⟩ := cs
  obtain ⟨xs, m, _, hx, hl, hn, hi⟩ := DataW.trod_array Tryd.underlying47 hd
  rw [Tab.cellsA] at hl
  match l, hl with
  | [a, b, c, d, e, f], _ =>
    match xs, hn with
    | [x0, x1, x2], _ =>
      have h0 := hi 0 (by omega)
      have h1 := hi 1 (by omega)
      have h2 := hi 2 (by omega)
      simp only [Tab.cellsS, Nat.zero_mul, Nat.one_mul, List.drop_zero, List.drop_succ_cons, List.take_succ_cons, List.take_zero, Nat.reduceMul, List.getElem?_cons_zero, List.getElem?_cons_succ] at h0 h1 h2
      obtain ⟨m0, n0, rfl, rfl, rfl⟩ := pair_of_trod h0
      obtain ⟨m1, n1, rfl, rfl, rfl⟩ := pair_of_trod h1
      obtain ⟨m2, n2, rfl, rfl, rfl⟩ := pair_of_trod h2
      simp [Rows.laid_environ_ints_sizes] at hx
      obtain ⟨⟨⟨rfl, rfl⟩, ⟨rfl, rfl⟩, rfl, rfl⟩, _⟩ := hx
      have hc := fun i => World.var?_cell Tab.g hvar i
      exact ⟨by simpa using hc 0, by simpa using hc 1, by simpa using hc 2, by simpa using hc 3, by simpa using hc 4, by simpa using hc 5⟩

theorem cell_lt {w : World} {a : Addr} {v : Value} (h : w.cell? a = some v) : a.block < w.heap.size := by
  unfold World.cell? at h
  by_cases hb : a.block < w.heap.size
  · exact hb
  · rw [Array.getElem?_eq_none (by omega)] at h
    simp at h

theorem Tab.lt {w : World} (h : Tab w) : 0 < w.heap.size := cell_lt h.c0

theorem Tab.below {B : Nat} {w w' : World} (h : Tab w) (hb : Below B w w') (hB : 0 < B) : Tab w' :=
  ⟨(hb.cell hB).trans h.c0, (hb.cell hB).trans h.c1, (hb.cell hB).trans h.c2, (hb.cell hB).trans h.c3, (hb.cell hB).trans h.c4, (hb.cell hB).trans h.c5⟩

theorem Tab.alloc {w : World} (h : Tab w) (o : Obj) : Tab (w.alloc o) :=
  h.below ((Below.refl w.heap.size w).alloc (Nat.le_refl _) o) h.lt

/-- What was there reads as it did, and bears the marks that it bore. -/
structure Bw (w w' : World) : Prop extends Below w.heap.size w w' where
  fz : ∀ a, w'.frozen? a = w.frozen? a
theorem Bw.trans {a b c : World} (h : Bw a b) (k : Bw b c) : Bw a c := ⟨h.toBelow.trans (k.toBelow.mono h.size), fun x => (k.fz x).trans (h.fz x)⟩
/-- What a call leaves: all that was is as it was, and the table with it. -/
def Kept (w w' : World) : Prop := Tab w' ∧ Bw w w'
theorem Kept.mk {w w' : World} (h : Tab w) (hb : Below w.heap.size w w') (hg : Grown w w') : Kept w w' := ⟨h.below hb h.lt, ⟨hb, hg.2.1⟩⟩
theorem Kept.refl {w : World} (h : Tab w) : Kept w w := ⟨h, ⟨Below.refl _ _, fun _ => rfl⟩⟩
theorem Kept.trans {a b c : World} (h : Kept a b) (k : Kept b c) : Kept a c := ⟨k.1, h.2.trans k.2⟩
theorem Kept.alloc {a b : World} (h : Kept a b) (c : Array Value) (t : TypeId) : Kept a (b.alloc (.cells c t)) :=
  h.trans (Kept.mk h.1 ((Below.refl _ _).alloc (Nat.le_refl _) _) ((Grown.refl _).alloc c t))
theorem bcell {W w1 : World} (hb : Bw W w1) : (∀ b o, b < W.heap.size → w1.cell? ⟨b, o, none⟩ = W.cell? ⟨b, o, none⟩) ∧ (∀ b o, b < W.heap.size → w1.frozen? ⟨b, o, none⟩ = W.frozen? ⟨b, o, none⟩) :=
  ⟨fun b o h => hb.cell (p := ⟨b, o, none⟩) h, fun b o _ => hb.fz ⟨b, o, none⟩⟩
end Go.Proofs.YtkehmdocjjadnaaDoor
