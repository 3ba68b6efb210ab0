/- Blocks of a world that are known whole: what their cells are, and what keeps them. No condition. -/
import Derived.Test.YtbnldpcbdeeflaaGreatDoorCh
import Derived.Laws.Rows
import Derived.Laws.ResultCell
namespace Go.Proofs.YtbnldpcbdeeflaaGreatDoor
open Go.ChangeShapes Go.WideShapes Go.ChangeAt Go.RowKit

theorem cell_lt {w : World} {a : Addr} {v : Value} (h : w.cell? a = some v) : a.block < w.heap.size := by
  unfold World.cell? at h
  by_cases hb : a.block < w.heap.size
  · exact hb
  · rw [Array.getElem?_eq_none (by omega)] at h
    simp at h
theorem bcell {W w1 : World} {B : Nat} (hb : Below B W w1) : (∀ b o, b < B → w1.cell? ⟨b, o, none⟩ = W.cell? ⟨b, o, none⟩) ∧ (∀ b o, b < B → w1.frozen? ⟨b, o, none⟩ = W.frozen? ⟨b, o, none⟩) :=
  ⟨fun b o h => hb.cell (p := ⟨b, o, none⟩) h, fun b o h => hb.frozen (p := ⟨b, o, none⟩) h⟩
theorem sz_drew (w : World) : w.drew.heap.size = w.heap.size := rfl
theorem sz_drewN (w : World) (n : Nat) : (w.drewN n).heap.size = w.heap.size := rfl
theorem Below.call {B : Nat} {w w1 w2 : World} (h : Below B w w1) (hB : B ≤ w1.heap.size) (k : Below w1.heap.size w1 w2) : Below B w w2 := h.trans (k.mono hB)
/-- Block g holds just these cells, of which none is frozen. -/
def Own (w : World) (g : Nat) (t : TypeId) (l : List Value) : Prop := w.heap[g]? = some (.cells l.toArray t (0, 0))

theorem Own.lt {w : World} {g : Nat} {t : TypeId} {l : List Value} (h : Own w g t l) : g < w.heap.size := by
  by_cases hg : g < w.heap.size
  · exact hg
  · unfold Own at h
    rw [Array.getElem?_eq_none (by omega)] at h
    cases h
theorem Own.cell {w : World} {g : Nat} {t : TypeId} {l : List Value} (h : Own w g t l) (i : Nat) : w.cell? ⟨g, i, none⟩ = l[i]? := by
  unfold Own at h
  simp [World.cell?, h]
theorem Own.frozen {w : World} {g : Nat} {t : TypeId} {l : List Value} (h : Own w g t l) (i : Nat) : w.frozen? ⟨g, i, none⟩ = false := by
  unfold Own at h
  simp [World.frozen?, h]
theorem Own.new (w : World) (t : TypeId) (l : List Value) : Own (w.alloc (.cells l.toArray t)) w.heap.size t l := by
  unfold Own World.alloc
  simp
theorem Own.new1 (w : World) (o : Obj) (t : TypeId) (l : List Value) : Own ((w.alloc o).alloc (.cells l.toArray t)) (w.heap.size + 1) t l := by
  have h := Own.new (w.alloc o) t l
  rwa [World.size_alloc] at h
theorem Own.new' {w : World} {g : Nat} {t : TypeId} {l : List Value} (hg : w.heap.size = g) : Own (w.alloc (.cells l.toArray t)) g t l := by subst hg; exact Own.new w t l
theorem Own.drew {w : World} {g : Nat} {t : TypeId} {l : List Value} (h : Own w g t l) : Own w.drew g t l := h
theorem Own.drewN {w : World} {g : Nat} {t : TypeId} {l : List Value} (h : Own w g t l) (n : Nat) : Own (w.drewN n) g t l := h
theorem Own.below {w w' : World} {g : Nat} {t : TypeId} {l : List Value} (h : Own w g t l) {B : Nat} (hb : Below B w w') (hB : g < B) : Own w' g t l := (hb.block g hB).trans h
theorem Own.kept {w w' : World} {g : Nat} {t : TypeId} {l : List Value} (h : Own w g t l) (hb : Below w.heap.size w w') : Own w' g t l := h.below hb h.lt
theorem Own.alloc {w : World} {g : Nat} {t : TypeId} {l : List Value} (h : Own w g t l) (o : Obj) : Own (w.alloc o) g t l := h.kept ((Below.refl _ _).alloc (Nat.le_refl _) o)
theorem Own.far {w : World} {g : Nat} {t : TypeId} {l : List Value} (h : Own w g t l) {p : Addr} (hp : g ≠ p.block) (u : Value) : Own (w.setCell p u) g t l :=
  (Below.heap_setCell w p u g hp).trans h
theorem Own.put {w : World} {g : Nat} {t : TypeId} {l : List Value} (h : Own w g t l) (i : Nat) (u : Value) : Own (w.setCell ⟨g, i, none⟩ u) g t (l.set i u) := by
  unfold Own at *
  simp [World.setCell, Array.getElem?_modify, h]

theorem ret_own {P : Program} {fn : Func} {p : Tmp} {ty : TypeId} (h : fn.results = #[.cell p ty]) {tmps : Array Value} {w : World} {g : Nat} {t : TypeId} {l : List Value} {d : TypeDesc}
    (hg : Own w g t l) (hp : tmps.getD p undef = .pointer (some ⟨g, 0, none⟩))
    (hu : P.underlying ty = some d) (hd : (match d with | .struct _ | .array _ _ => true | _ => false) = true) (hi : (P.info? ty).map (·.size) = some l.toArray.size) :
    (results fn tmps).run P w = .ok (.agg l.toArray) w := results_cell_row h tmps w g t l.toArray (0, 0) d hp hg hu hd hi
theorem ret_own_tmp {P : Program} {fn : Func} {p u : Tmp} {ty : TypeId} (h : fn.results = #[.cell p ty, .tmp u]) {tmps : Array Value} {w : World} {g : Nat} {t : TypeId} {l : List Value} {d : TypeDesc}
    (hg : Own w g t l) (hp : tmps.getD p undef = .pointer (some ⟨g, 0, none⟩))
    (hu : P.underlying ty = some d) (hd : (match d with | .struct _ | .array _ _ => true | _ => false) = true) (hi : (P.info? ty).map (·.size) = some l.toArray.size) :
    (results fn tmps).run P w = .ok (.tuple #[.agg l.toArray, tmps.getD u undef]) w := by
  rw [results_cell_tmp h, hp]
  simp [asAddr, run_loadVar_row w g t ty l.toArray (0, 0) d hg hu hd hi, Result.andThen]
/-- All blocks but S are as they were; there may be new ones. -/
abbrev Gb (S : Nat) (w w' : World) : Prop := w.grownBy w' (some S)
theorem Gb.refl (S : Nat) (w : World) : Gb S w w := ⟨rfl, rfl, rfl, Nat.le_refl _, fun _ _ _ => rfl⟩
theorem Gb.drew {S : Nat} {w w1 : World} (h : Gb S w w1) : Gb S w w1.drew := ⟨h.os, h.tape, h.output, h.size, h.block⟩
theorem Gb.alloc {S : Nat} {w w1 : World} (h : Gb S w w1) (o : Obj) : Gb S w (w1.alloc o) :=
  ⟨h.os, h.tape, h.output, Nat.le_trans h.size (by simp), fun k hk hne => (Below.heap_alloc w1 o k (Nat.lt_of_lt_of_le hk h.size)).trans (h.block k hk hne)⟩
theorem Gb.set {S : Nat} {w w1 : World} (h : Gb S w w1) {p : Addr} (hp : p.block = S ∨ w.heap.size ≤ p.block) (u : Value) : Gb S w (w1.setCell p u) :=
  ⟨h.os, h.tape, h.output, Nat.le_trans h.size (by simp [World.setCell]), fun k hk hne => (Below.heap_setCell w1 p u k (fun e => hp.elim (fun q => hne (congrArg some (e.trans q))) (fun q => absurd hk (by omega)))).trans (h.block k hk hne)⟩
theorem Gb.call {S : Nat} {w w1 w2 : World} (h : Gb S w w1) (k : Below w1.heap.size w1 w2) : Gb S w w2 :=
  ⟨k.os.trans h.os, k.tape.trans h.tape, k.output.trans h.output, Nat.le_trans h.size k.size, fun i hi hne => (k.block i (Nat.lt_of_lt_of_le hi h.size)).trans (h.block i hi hne)⟩
theorem Gb.trans {S : Nat} {w w1 w2 : World} (h : Gb S w w1) (k : Gb S w1 w2) : Gb S w w2 :=
  ⟨k.os.trans h.os, k.tape.trans h.tape, k.output.trans h.output, Nat.le_trans h.size k.size, fun i hi hne => (k.block i (Nat.lt_of_lt_of_le hi h.size) hne).trans (h.block i hi hne)⟩
theorem Gb.below {B S : Nat} {w w' : World} (h : Gb S w w') (hB : B ≤ S) (hw : B ≤ w.heap.size) : Below B w w' := ⟨h.os, h.tape, h.output, h.size, fun k hk => h.block k (by omega) (by intro e; have := Option.some.inj e; omega)⟩
theorem Gb.of {S : Nat} {w w' : World} (k : Below w.heap.size w w') : Gb S w w' := (Gb.refl S w).call k
end Go.Proofs.YtbnldpcbdeeflaaGreatDoor
