/- What the program's test for integers of a size returns. Condition: the tables hold what their initialisers lay. -/
import Derived.Test.YtanfhlkfmmglhaaDoorGTab
import Derived.Test.YtanfhlkfmmglhaaDoorGReal
namespace Go.Proofs.YtanfhlkfmmglhaaDoor
open Go.ChangeShapes Go.WideShapes Go.ChangeAt Go.RowKit
attribute [local go_sem ↓] Go.wp_at_zero Go.wp_at_succ

theorem Szs.g : Tryd.prog.globalNamed "environ/ints.sizes" = some 4 := by kernel_rfl
theorem Szs.gType : (Tryd.prog.globals[4]?).map (·.type) = some 112 := by kernel_rfl
theorem Szs.cellsA : Tryd.prog.cellsOf 112 = 6 := by kernel_rfl
theorem Szs.cellsS : Tryd.prog.cellsOf 107 = 2 := by kernel_rfl
theorem Szs.cells64 : Tryd.prog.cellsOf 2 = 1 := by kernel_rfl
theorem Szs.cellsInt : Tryd.prog.cellsOf 3 = 1 := by kernel_rfl
/-- The table of sizes, in a world. -/
structure Szs (w : World) : Prop where
  c0 : w.cell? ⟨4, 0, none⟩ = some (.int .i64 32767)
  c1 : w.cell? ⟨4, 1, none⟩ = some (.int .i64 16)
  c2 : w.cell? ⟨4, 2, none⟩ = some (.int .i64 2147483647)
  c3 : w.cell? ⟨4, 3, none⟩ = some (.int .i64 32)
  c4 : w.cell? ⟨4, 4, none⟩ = some (.int .i64 999999999999999999)
  c5 : w.cell? ⟨4, 5, none⟩ = some (.int .i64 60)
theorem Szs.lt {w : World} (h : Szs w) : 4 < w.heap.size := cell_lt h.c0
theorem Szs.below {w w' : World} (h : Szs w) (hb : Below w.heap.size w w') : Szs w' :=
  ⟨(hb.cell (p := ⟨_, 0, none⟩) h.lt).trans h.c0, (hb.cell (p := ⟨_, 1, none⟩) h.lt).trans h.c1, (hb.cell (p := ⟨_, 2, none⟩) h.lt).trans h.c2, (hb.cell (p := ⟨_, 3, none⟩) h.lt).trans h.c3, (hb.cell (p := ⟨_, 4, none⟩) h.lt).trans h.c4, (hb.cell (p := ⟨_, 5, none⟩) h.lt).trans h.c5⟩
theorem Szs.call {w w' : World} (h : Szs w) (k : Kept w w') : Szs w' := h.below k.2
theorem Szs.alloc {w : World} (h : Szs w) (o : Obj) : Szs (w.alloc o) := h.below ((Below.refl _ _).alloc (Nat.le_refl _) o)
theorem Szs.drew {w : World} (h : Szs w) : Szs w.drew := ⟨h.c0, h.c1, h.c2, h.c3, h.c4, h.c5⟩
theorem Szs.drewN {w : World} (h : Szs w) (n : Nat) : Szs (w.drewN n) := ⟨h.c0, h.c1, h.c2, h.c3, h.c4, h.c5⟩

/-- The greatest integer of a size. -/
def mx (s : Int) : Int := if s = -1 then 32767 else if s = 0 then 2147483647 else 999999999999999999
/-- A number is an integer of a size. -/
def isI (s n : Int) : Bool := decide (-mx s ≤ n ∧ n ≤ mx s)
theorem isI_a (n : Int) : isI (-1) n = decide (-32767 ≤ n ∧ n ≤ 32767) := by simp [isI, mx]
theorem isI_b (n : Int) : isI 0 n = decide (-2147483647 ≤ n ∧ n ≤ 2147483647) := by simp [isI, mx]
theorem isI_c (n : Int) : isI 1 n = decide (-999999999999999999 ≤ n ∧ n ≤ 999999999999999999) := by simp [isI, mx]
set_option maxRecDepth 100000 in
set_option maxHeartbeats 4000000 in
theorem Is_a (n : Int) (w : World) (ht : Tab w) (hs : Szs w) :
    Calls Tryd.prog 87 #[.int .i64 (-1), .int .i64 n] w fun e w' => e = .returned (.bool (isI (-1) n)) ∧ Kept w w' := by
  have hlt := ht.lt
  have hlt0 := ht.lt0
  have hlts := hs.lt
  obtain ⟨c0, c1, c2, c3, c4, c5⟩ := id hs
  rw [isI_a]
  rcases (by omega : (n < -32767 ∧ n ≤ 32767) ∨ (-32767 ≤ n ∧ n ≤ 32767) ∨ (32767 < n ∧ -32767 ≤ n)) with ⟨h, h'⟩ | ⟨h, h'⟩ | ⟨h, h'⟩
  all_goals
    go_enter Tryd.func87, Tryd.ntmps87
    go_wp2
    go_returns
    exact ⟨by simp; try omega, (by repeat' (first | (with_reducible assumption) | (with_reducible exact Kept.refl ht) | (with_reducible refine Kept.alloc ?_ _) | (with_reducible refine Kept.drew ?_) | (with_reducible refine Kept.drewN ?_ _) | (with_reducible refine Kept.setCell ?_ ?_ _ ?_ ?_) | (with_reducible refine Kept.trans ?_ (by assumption)) | omega | (simp; done) | (simp; omega)))⟩
end Go.Proofs.YtanfhlkfmmglhaaDoor
