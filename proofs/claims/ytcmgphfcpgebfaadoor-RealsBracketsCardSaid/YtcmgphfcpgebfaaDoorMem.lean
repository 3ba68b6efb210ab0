/- Blocks of a world that are known whole: what their cells are, and what keeps them. No condition. -/
import Derived.Test.YtcmgphfcpgebfaaDoorDig
import Derived.Laws.Rows
import Derived.Laws.ResultCell
namespace Go.Proofs.YtcmgphfcpgebfaaDoor
open Go.ChangeShapes Go.WideShapes Go.ChangeAt Go.RowKit

theorem sz_drew (w : World) : w.drew.heap.size = w.heap.size := rfl
theorem sz_drewN (w : World) (n : Nat) : (w.drewN n).heap.size = w.heap.size := rfl
/-- Block g holds just these cells, of which none is frozen. -/
def Own (w : World) (g : Nat) (t : TypeId) (l : List Value) : Prop := w.heap[g]? = some (.cells l.toArray t (0, 0))

theorem Own.lt {w : World} {g : Nat} {t : TypeId} {l : List Value} (h : Own w g t l) : g < w.heap.size := by
  by_cases hg : g < w.heap.size
  · exact hg
  · unfold Own at h
    rw [Array.getElem?_eq_none (by omega)] at h
    cases h
theorem Own.cell {w : World} {g : Nat} {t : TypeId} {l : List Value} (h : Own w g t l) (i : Nat) : w.cell? ⟨g, i, none⟩ = l[i]? := by
  unfold Own at h
  simp [World.cell?, h]
theorem Own.frozen {w : World} {g : Nat} {t : TypeId} {l : List Value} (h : Own w g t l) (i : Nat) : w.frozen? ⟨g, i, none⟩ = false := by
  unfold Own at h
  simp [World.frozen?, h]
theorem Own.new (w : World) (t : TypeId) (l : List Value) : Own (w.alloc (.cells l.toArray t)) w.heap.size t l := by
  unfold Own World.alloc
  simp
theorem Own.new1 (w : World) (o : Obj) (t : TypeId) (l : List Value) : Own ((w.alloc o).alloc (.cells l.toArray t)) (w.heap.size + 1) t l := by
  have h := Own.new (w.alloc o) t l
  rwa [World.size_alloc] at h
theorem Own.drew {w : World} {g : Nat} {t : TypeId} {l : List Value} (h : Own w g t l) : Own w.drew g t l := h
theorem Own.drewN {w : World} {g : Nat} {t : TypeId} {l : List Value} (h : Own w g t l) (n : Nat) : Own (w.drewN n) g t l := h
theorem Own.below {w w' : World} {g : Nat} {t : TypeId} {l : List Value} (h : Own w g t l) {B : Nat} (hb : Below B w w') (hB : g < B) : Own w' g t l := (hb.block g hB).trans h
theorem Own.kept {w w' : World} {g : Nat} {t : TypeId} {l : List Value} (h : Own w g t l) (hb : Below w.heap.size w w') : Own w' g t l := h.below hb h.lt
theorem Own.call {w w' : World} {g : Nat} {t : TypeId} {l : List Value} (h : Own w g t l) (k : Kept w w') : Own w' g t l := h.kept k.2
theorem Own.alloc {w : World} {g : Nat} {t : TypeId} {l : List Value} (h : Own w g t l) (o : Obj) : Own (w.alloc o) g t l := h.kept ((Below.refl _ _).alloc (Nat.le_refl _) o)
theorem Own.far {w : World} {g : Nat} {t : TypeId} {l : List Value} (h : Own w g t l) {p : Addr} (hp : g ≠ p.block) (u : Value) : Own (w.setCell p u) g t l :=
  (Below.heap_setCell w p u g hp).trans h
theorem Own.put {w : World} {g : Nat} {t : TypeId} {l : List Value} (h : Own w g t l) (i : Nat) (u : Value) : Own (w.setCell ⟨g, i, none⟩ u) g t (l.set i u) := by
  unfold Own at *
  simp [World.setCell, Array.getElem?_modify, h]

/-- A call's own blocks, each known whole, beside all that was there before it. -/
structure Inv (w : World) (bs : List (Nat × TypeId × List Value)) (w' : World) : Prop where
  kept : Kept w w'
  own : ∀ (i : Nat) (x : Nat × TypeId × List Value), bs[i]? = some x → Own w' x.1 x.2.1 x.2.2
theorem Inv.drew {w w' : World} {bs : List (Nat × TypeId × List Value)} (h : Inv w bs w') : Inv w bs w'.drew := ⟨h.kept.drew, fun i x hx => (h.own i x hx).drew⟩
theorem Inv.drewN {w w' : World} {bs : List (Nat × TypeId × List Value)} (h : Inv w bs w') (n : Nat) : Inv w bs (w'.drewN n) := ⟨h.kept.drewN n, fun i x hx => (h.own i x hx).drewN n⟩
theorem Inv.alloc {w w' : World} {bs : List (Nat × TypeId × List Value)} (h : Inv w bs w') (o : Obj) : Inv w bs (w'.alloc o) := ⟨h.kept.alloc o, fun i x hx => (h.own i x hx).alloc o⟩
theorem Inv.call {w w' w2 : World} {bs : List (Nat × TypeId × List Value)} (h : Inv w bs w') (k : Kept w' w2) : Inv w bs w2 := ⟨h.kept.trans k, fun i x hx => (h.own i x hx).kept k.2⟩
theorem Inv.more {w w' : World} {bs : List (Nat × TypeId × List Value)} (h : Inv w bs w') {g : Nat} {t : TypeId} {l : List Value} (k : Own w' g t l) : Inv w (bs ++ [(g, t, l)]) w' := by
  refine ⟨h.kept, fun i x hx => ?_⟩
  rcases Nat.lt_or_ge i bs.length with hi | hi
  · rw [List.getElem?_append_left hi] at hx; exact h.own i x hx
  · rw [List.getElem?_append_right hi] at hx
    rcases Nat.eq_zero_or_pos (i - bs.length) with h0 | h0
    · rw [h0] at hx; obtain rfl := Option.some.inj hx; exact k
    · rw [List.getElem?_eq_none (by simp; omega)] at hx; cases hx
theorem Inv.nil {w : World} (ht : Tab w) : Inv w [] w := ⟨Kept.refl ht, fun i x hx => by simp at hx⟩
/-- A store into a block of the call's own that is not one of these. -/
theorem Inv.far {w w' : World} {bs : List (Nat × TypeId × List Value)} (h : Inv w bs w') {p : Addr} (hp : ∀ x ∈ bs, x.1 ≠ p.block) (hg : w.heap.size ≤ p.block) (h1 : 1 < w.heap.size) (h0 : 0 < w.heap.size) (u : Value) : Inv w bs (w'.setCell p u) :=
  ⟨h.kept.setCell hg u h1 h0, fun i x hx => (h.own i x hx).far (hp x (List.mem_of_getElem? hx)) u⟩
/-- A store into one of the blocks: the others are as they were. -/
theorem Inv.put {w w' : World} {bs : List (Nat × TypeId × List Value)} (h : Inv w bs w') (j : Nat) {g : Nat} {t : TypeId} {l : List Value} (hj : bs[j]? = some (g, t, l)) (i : Nat) (u : Value)
    (hn : (bs.map fun y => y.1).Nodup) (hg : w.heap.size ≤ g) (h1 : 1 < w.heap.size) (h0 : 0 < w.heap.size) : Inv w (bs.set j (g, t, l.set i u)) (w'.setCell ⟨g, i, none⟩ u) := by
  have hlt : j < bs.length := by
    rcases Nat.lt_or_ge j bs.length with h | h
    · exact h
    · rw [List.getElem?_eq_none h] at hj; cases hj
  refine ⟨h.kept.setCell hg u h1 h0, fun k x hx => ?_⟩
  by_cases hk : k = j
  · subst hk
    rw [List.getElem?_set_self hlt] at hx
    obtain rfl := Option.some.inj hx
    exact (h.own k _ hj).put i u
  · rw [List.getElem?_set_ne (Ne.symm hk)] at hx
    refine (h.own k x hx).far (fun e => hk ?_) u
    have hl : j < (bs.map fun y => y.1).length := by simpa using hlt
    have he : (bs.map fun y => y.1)[j]? = (bs.map fun y => y.1)[k]? := by
      rw [List.getElem?_map, List.getElem?_map, hj, hx]
      simp only [Option.map_some]
      exact congrArg some e.symm
    exact ((List.getElem?_inj hl hn).1 he).symm

theorem Inv.one {w : World} (ht : Tab w) (t1 : TypeId) (l1 : List Value) : Inv w [(w.heap.size, t1, l1)] (w.alloc (.cells l1.toArray t1)) :=
  ((Inv.nil ht).alloc _).more (bs := []) (Own.new _ _ _)
theorem Inv.two {w : World} (ht : Tab w) (t1 : TypeId) (l1 : List Value) (t2 : TypeId) (l2 : List Value) :
    Inv w [(w.heap.size, t1, l1), (w.heap.size + 1, t2, l2)] ((w.alloc (.cells l1.toArray t1)).alloc (.cells l2.toArray t2)) := by
  have h := ((Inv.one ht t1 l1).alloc (.cells l2.toArray t2)).more (Own.new _ t2 l2)
  rwa [World.size_alloc] at h
theorem Inv.three {w : World} (ht : Tab w) (t1 : TypeId) (l1 : List Value) (t2 : TypeId) (l2 : List Value) (t3 : TypeId) (l3 : List Value) :
    Inv w [(w.heap.size, t1, l1), (w.heap.size + 1, t2, l2), (w.heap.size + 2, t3, l3)] (((w.alloc (.cells l1.toArray t1)).alloc (.cells l2.toArray t2)).alloc (.cells l3.toArray t3)) := by
  have h := ((Inv.two ht t1 l1 t2 l2).alloc (.cells l3.toArray t3)).more (Own.new _ t3 l3)
  rwa [World.size_alloc, World.size_alloc] at h

/-- A result that is a struct, in a block that is known whole. -/
theorem ret_own {P : Program} {fn : Func} {p : Tmp} {ty : TypeId} (h : fn.results = #[.cell p ty]) {tmps : Array Value} {w : World} {g : Nat} {t : TypeId} {l : List Value} {d : TypeDesc}
    (hg : Own w g t l) (hp : tmps.getD p undef = .pointer (some ⟨g, 0, none⟩))
    (hu : P.underlying ty = some d) (hd : (match d with | .struct _ | .array _ _ => true | _ => false) = true) (hi : (P.info? ty).map (·.size) = some l.toArray.size) :
    (results fn tmps).run P w = .ok (.agg l.toArray) w := results_cell_row h tmps w g t l.toArray (0, 0) d hp hg hu hd hi
theorem ret_own_tmp {P : Program} {fn : Func} {p u : Tmp} {ty : TypeId} (h : fn.results = #[.cell p ty, .tmp u]) {tmps : Array Value} {w : World} {g : Nat} {t : TypeId} {l : List Value} {d : TypeDesc}
    (hg : Own w g t l) (hp : tmps.getD p undef = .pointer (some ⟨g, 0, none⟩))
    (hu : P.underlying ty = some d) (hd : (match d with | .struct _ | .array _ _ => true | _ => false) = true) (hi : (P.info? ty).map (·.size) = some l.toArray.size) :
    (results fn tmps).run P w = .ok (.tuple #[.agg l.toArray, tmps.getD u undef]) w := by
  rw [results_cell_tmp h, hp]
  simp [asAddr, run_loadVar_row w g t ty l.toArray (0, 0) d hg hu hd hi, Result.andThen]
end Go.Proofs.YtcmgphfcpgebfaaDoor
