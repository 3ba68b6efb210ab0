/- Blocks of a world that are known whole: what their cells are, and what keeps them. No condition. -/
import Derived.Test.YtanfhlkfmmglhaaDoorGTab
import Derived.Laws.Rows
import Derived.Laws.ResultCell
import Derived.Deep.RegionHeld3
import Derived.Deep.DrawnRows
import Derived.Deep.DeepCutAuto
namespace Go.Proofs.YtanfhlkfmmglhaaDoor
open Go.ChangeShapes Go.WideShapes Go.ChangeAt Go.RowKit

theorem sz_drew (w : World) : w.drew.heap.size = w.heap.size := rfl
theorem sz_drewN (w : World) (n : Nat) : (w.drewN n).heap.size = w.heap.size := rfl
/-- Block g holds just these cells, of which none is frozen. -/
def Own (w : World) (g : Nat) (t : TypeId) (l : List Value) : Prop := w.heap[g]? = some (.cells l.toArray t (0, 0))

theorem Own.lt {w : World} {g : Nat} {t : TypeId} {l : List Value} (h : Own w g t l) : g < w.heap.size := by
  by_cases hg : g < w.heap.size
  · exact hg
  · unfold Own at h
    rw [Array.getElem?_eq_none (by omega)] at h
    cases h
theorem Own.cell {w : World} {g : Nat} {t : TypeId} {l : List Value} (h : Own w g t l) (i : Nat) : w.cell? ⟨g, i, none⟩ = l[i]? := by
  unfold Own at h
  simp [World.cell?, h]
theorem Own.frozen {w : World} {g : Nat} {t : TypeId} {l : List Value} (h : Own w g t l) (i : Nat) : w.frozen? ⟨g, i, none⟩ = false := by
  unfold Own at h
  simp [World.frozen?, h]
theorem Own.new (w : World) (t : TypeId) (l : List Value) : Own (w.alloc (.cells l.toArray t)) w.heap.size t l := by
  unfold Own World.alloc
  simp
theorem Own.new1 (w : World) (o : Obj) (t : TypeId) (l : List Value) : Own ((w.alloc o).alloc (.cells l.toArray t)) (w.heap.size + 1) t l := by
  have h := Own.new (w.alloc o) t l
  rwa [World.size_alloc] at h
theorem Own.drew {w : World} {g : Nat} {t : TypeId} {l : List Value} (h : Own w g t l) : Own w.drew g t l := h
theorem Own.drewN {w : World} {g : Nat} {t : TypeId} {l : List Value} (h : Own w g t l) (n : Nat) : Own (w.drewN n) g t l := h
theorem Own.below {w w' : World} {g : Nat} {t : TypeId} {l : List Value} (h : Own w g t l) {B : Nat} (hb : Below B w w') (hB : g < B) : Own w' g t l := (hb.block g hB).trans h
theorem Own.kept {w w' : World} {g : Nat} {t : TypeId} {l : List Value} (h : Own w g t l) (hb : Below w.heap.size w w') : Own w' g t l := h.below hb h.lt
theorem Own.call {w w' : World} {g : Nat} {t : TypeId} {l : List Value} (h : Own w g t l) (k : Kept w w') : Own w' g t l := h.kept k.2
theorem Own.alloc {w : World} {g : Nat} {t : TypeId} {l : List Value} (h : Own w g t l) (o : Obj) : Own (w.alloc o) g t l := h.kept ((Below.refl _ _).alloc (Nat.le_refl _) o)
theorem Own.far {w : World} {g : Nat} {t : TypeId} {l : List Value} (h : Own w g t l) {p : Addr} (hp : g ≠ p.block) (u : Value) : Own (w.setCell p u) g t l :=
  (Below.heap_setCell w p u g hp).trans h
theorem Own.put {w : World} {g : Nat} {t : TypeId} {l : List Value} (h : Own w g t l) (i : Nat) (u : Value) : Own (w.setCell ⟨g, i, none⟩ u) g t (l.set i u) := by
  unfold Own at *
  simp [World.setCell, Array.getElem?_modify, h]

/-- A call's own blocks, each known whole, beside all that was there before it. -/
structure Inv (w : World) (bs : List (Nat × TypeId × List Value)) (w' : World) : Prop where
  kept : Kept w w'
  own : ∀ (i : Nat) (x : Nat × TypeId × List Value), bs[i]? = some x → Own w' x.1 x.2.1 x.2.2
theorem Inv.drew {w w' : World} {bs : List (Nat × TypeId × List Value)} (h : Inv w bs w') : Inv w bs w'.drew := ⟨h.kept.drew, fun i x hx => (h.own i x hx).drew⟩
theorem Inv.drewN {w w' : World} {bs : List (Nat × TypeId × List Value)} (h : Inv w bs w') (n : Nat) : Inv w bs (w'.drewN n) := ⟨h.kept.drewN n, fun i x hx => (h.own i x hx).drewN n⟩
theorem Inv.alloc {w w' : World} {bs : List (Nat × TypeId × List Value)} (h : Inv w bs w') (o : Obj) : Inv w bs (w'.alloc o) := ⟨h.kept.alloc o, fun i x hx => (h.own i x hx).alloc o⟩
theorem Inv.call {w w' w2 : World} {bs : List (Nat × TypeId × List Value)} (h : Inv w bs w') (k : Kept w' w2) : Inv w bs w2 := ⟨h.kept.trans k, fun i x hx => (h.own i x hx).kept k.2⟩
theorem Inv.more {w w' : World} {bs : List (Nat × TypeId × List Value)} (h : Inv w bs w') {g : Nat} {t : TypeId} {l : List Value} (k : Own w' g t l) : Inv w (bs ++ [(g, t, l)]) w' := by
  refine ⟨h.kept, fun i x hx => ?_⟩
  rcases Nat.lt_or_ge i bs.length with hi | hi
  · rw [List.getElem?_append_left hi] at hx; exact h.own i x hx
  · rw [List.getElem?_append_right hi] at hx
    rcases Nat.eq_zero_or_pos (i - bs.length) with h0 | h0
    · rw [h0] at hx; obtain rfl := Option.some.inj hx; exact k
    · rw [List.getElem?_eq_none (by simp; omega)] at hx; cases hx
theorem Inv.nil {w : World} (ht : Tab w) : Inv w [] w := ⟨Kept.refl ht, fun i x hx => by simp at hx⟩
/-- A store into a block of the call's own that is not one of these. -/
theorem Inv.far {w w' : World} {bs : List (Nat × TypeId × List Value)} (h : Inv w bs w') {p : Addr} (hp : ∀ x ∈ bs, x.1 ≠ p.block) (hg : w.heap.size ≤ p.block) (h1 : 0 < w.heap.size) (h0 : 1 < w.heap.size) (u : Value) : Inv w bs (w'.setCell p u) :=
  ⟨h.kept.setCell hg u h1 h0, fun i x hx => (h.own i x hx).far (hp x (List.mem_of_getElem? hx)) u⟩
/-- A store into one of the blocks: the others are as they were. -/
theorem Inv.put {w w' : World} {bs : List (Nat × TypeId × List Value)} (h : Inv w bs w') (j : Nat) {g : Nat} {t : TypeId} {l : List Value} (hj : bs[j]? = some (g, t, l)) (i : Nat) (u : Value)
    (hn : (bs.map fun y => y.1).Nodup) (hg : w.heap.size ≤ g) (h1 : 0 < w.heap.size) (h0 : 1 < w.heap.size) : Inv w (bs.set j (g, t, l.set i u)) (w'.setCell ⟨g, i, none⟩ u) := by
  have hlt : j < bs.length := by
    rcases Nat.lt_or_ge j bs.length with h | h
    · exact h
    · rw [List.getElem?_eq_none h] at hj; cases hj
  refine ⟨h.kept.setCell hg u h1 h0, fun k x hx => ?_⟩
  by_cases hk : k = j
  · subst hk
    rw [List.getElem?_set_self hlt] at hx
    obtain rfl := Option.some.inj hx
    exact (h.own k _ hj).put i u
  · rw [List.getElem?_set_ne (Ne.symm hk)] at hx
    refine (h.own k x hx).far (fun e => hk ?_) u
    have hl : j < (bs.map fun y => y.1).length := by simpa using hlt
    have he : (bs.map fun y => y.1)[j]? = (bs.map fun y => y.1)[k]? := by
      rw [List.getElem?_map, List.getElem?_map, hj, hx]
      simp only [Option.map_some]
      exact congrArg some e.symm
    exact ((List.getElem?_inj hl hn).1 he).symm

theorem Inv.one {w : World} (ht : Tab w) (t1 : TypeId) (l1 : List Value) : Inv w [(w.heap.size, t1, l1)] (w.alloc (.cells l1.toArray t1)) :=
  ((Inv.nil ht).alloc _).more (bs := []) (Own.new _ _ _)
theorem Inv.two {w : World} (ht : Tab w) (t1 : TypeId) (l1 : List Value) (t2 : TypeId) (l2 : List Value) :
    Inv w [(w.heap.size, t1, l1), (w.heap.size + 1, t2, l2)] ((w.alloc (.cells l1.toArray t1)).alloc (.cells l2.toArray t2)) := by
  have h := ((Inv.one ht t1 l1).alloc (.cells l2.toArray t2)).more (Own.new _ t2 l2)
  rwa [World.size_alloc] at h
theorem Inv.three {w : World} (ht : Tab w) (t1 : TypeId) (l1 : List Value) (t2 : TypeId) (l2 : List Value) (t3 : TypeId) (l3 : List Value) :
    Inv w [(w.heap.size, t1, l1), (w.heap.size + 1, t2, l2), (w.heap.size + 2, t3, l3)] (((w.alloc (.cells l1.toArray t1)).alloc (.cells l2.toArray t2)).alloc (.cells l3.toArray t3)) := by
  have h := ((Inv.two ht t1 l1 t2 l2).alloc (.cells l3.toArray t3)).more (Own.new _ t3 l3)
  rwa [World.size_alloc, World.size_alloc] at h

/-- A result that is a struct, in a block that is known whole. -/
theorem ret_own {P : Program} {fn : Func} {p : Tmp} {ty : TypeId} (h : fn.results = #[.cell p ty]) {tmps : Array Value} {w : World} {g : Nat} {t : TypeId} {l : List Value} {d : TypeDesc}
    (hg : Own w g t l) (hp : tmps.getD p undef = .pointer (some ⟨g, 0, none⟩))
    (hu : P.underlying ty = some d) (hd : (match d with | .struct _ | .array _ _ => true | _ => false) = true) (hi : (P.info? ty).map (·.size) = some l.toArray.size) :
    (results fn tmps).run P w = .ok (.agg l.toArray) w := results_cell_row h tmps w g t l.toArray (0, 0) d hp hg hu hd hi
theorem ret_own_tmp {P : Program} {fn : Func} {p u : Tmp} {ty : TypeId} (h : fn.results = #[.cell p ty, .tmp u]) {tmps : Array Value} {w : World} {g : Nat} {t : TypeId} {l : List Value} {d : TypeDesc}
    (hg : Own w g t l) (hp : tmps.getD p undef = .pointer (some ⟨g, 0, none⟩))
    (hu : P.underlying ty = some d) (hd : (match d with | .struct _ | .array _ _ => true | _ => false) = true) (hi : (P.info? ty).map (·.size) = some l.toArray.size) :
    (results fn tmps).run P w = .ok (.tuple #[.agg l.toArray, tmps.getD u undef]) w := by
  rw [results_cell_tmp h, hp]
  simp [asAddr, run_loadVar_row w g t ty l.toArray (0, 0) d hg hu hd hi, Result.andThen]
end Go.Proofs.YtanfhlkfmmglhaaDoor
/- The program's exact numbers: what a real is as one. Condition: the tables hold what their initialisers lay. -/
namespace Go.Proofs.YtanfhlkfmmglhaaDoor
open Go.ChangeShapes Go.WideShapes Go.ChangeAt Go.RowKit
attribute [local go_sem ↓] Go.wp_at_zero Go.wp_at_succ

set_option maxHeartbeats 1000000 in
theorem exactOf_any (m e : Int) (w : World) (ht : Tab w) (lo : -9223372036854775808 ≤ m) (hi : m ≤ 9223372036854775807) :
    Calls Tryd.prog 35 #[.agg #[.int .i64 m, .int .i64 e]] w fun x w' => x = .returned (.agg #[.bool (decide (m < 0)), .int .u64 (hiW (mag m) : Int), .int .u64 (loW (mag m) : Int), .int .i64 e, .bool false]) ∧ Kept w w' := by
  have hlt := ht.lt
  have _hlt0 := ht.lt0
  have e1 : ((hiW (mag m) : Nat) : Int) = 0 := by unfold hiW mag; omega
  have e2 : ((loW (mag m) : Nat) : Int) = (mag m : Int) := by unfold loW mag; omega
  rw [e1, e2]
  clear e1 e2
  go_enter Tryd.func35, Tryd.ntmps35
  go_wp2
  go_region_held3 (fun w' => w'.cell? ⟨w.heap.size, 0, none⟩ = some (.int .i64 m) ∧ w'.cell? ⟨w.heap.size, 1, none⟩ = some (.int .i64 e)) (go_keep)
    (first | (go_at_call 67; refine (magnitude_any m _ lo hi).mono ?_; rintro e w' ⟨rfl, rfl⟩))
  all_goals go_wp2
  go_returns
  exact ⟨rfl, (by repeat' (first | (with_reducible assumption) | (with_reducible exact Kept.refl ht) | (with_reducible refine Kept.alloc ?_ _) | (with_reducible refine Kept.drew ?_) | (with_reducible refine Kept.drewN ?_ _) | (with_reducible refine Kept.setCell ?_ ?_ _ ?_ ?_) | (with_reducible refine Kept.trans ?_ (by assumption)) | omega | (simp; done) | (simp; omega)))⟩

/-- What shorter returns for k digits. -/
def shN (n : Nat) (k : Int) : Nat := n / 10 ^ k.toNat
def shM (n : Nat) (k : Int) (m : Bool) : Bool := m || decide (n % 10 ^ k.toNat ≠ 0)
theorem shN_nil (n : Nat) {k : Int} (h : k ≤ 0) : shN n k = n := by unfold shN; rw [show k.toNat = 0 by omega]; simp
theorem shM_nil (n : Nat) {k : Int} (m : Bool) (h : k ≤ 0) : shM n k m = m := by unfold shM; rw [show k.toNat = 0 by omega]; simp [Nat.mod_one]
theorem shN_zero (k : Int) : shN 0 k = 0 := by unfold shN; simp
theorem shM_zero (k : Int) (m : Bool) : shM 0 k m = m := by unfold shM; simp
theorem shN_step (n : Nat) {k : Int} {d : Nat} (h : (d : Int) ≤ k) : shN (n / tn d) (k - d) = shN n k := by
  unfold shN tn
  rw [Nat.div_div_eq_div_mul, ← Nat.pow_add, show d + (k - (d : Int)).toNat = k.toNat by omega]
theorem shM_step (n : Nat) {k : Int} {d : Nat} (m : Bool) (h : (d : Int) ≤ k) : shM (n / tn d) (k - d) (m || decide (n % tn d ≠ 0)) = shM n k m := by
  unfold shM tn
  rw [show k.toNat = d + (k - (d : Int)).toNat by omega, Nat.pow_add, Nat.mod_mul]
  have hp := p10 d
  generalize n % 10 ^ d = a
  generalize n / 10 ^ d % 10 ^ (k - (d : Int)).toNat = b
  have h1 : 10 ^ d * b = 0 ↔ b = 0 := by
    rw [Nat.mul_eq_zero]; omega
  cases m <;> by_cases ha : a = 0 <;> by_cases hb : b = 0 <;> simp [ha, hb] <;> omega

/-- What holds at each round's head of shorter's loop: block g is the number, block g + 1 the result's. -/
def ShRel (neg : Bool) (n : Nat) (e : Int) (m : Bool) (k : Int) (w : World) (v : Value) (wr : World) : Prop :=
  ∃ (n' : Nat) (m' : Bool) (k' : Int), v = .int .i64 k' ∧
    Own wr w.heap.size 44 [.bool neg, .int .u64 (hiW n' : Int), .int .u64 (loW n' : Int), .int .i64 e, .bool m'] ∧
    Own wr (w.heap.size + 1) 44 [.bool false, .int .u64 0, .int .u64 0, .int .i64 0, .bool false] ∧
    Tab wr ∧ Below w.heap.size w wr ∧ shN n' k' = shN n k ∧ shM n' k' m' = shM n k m ∧ n' ≤ n ∧ k' ≤ k ∧ -1000000 ≤ k'

theorem ex_eq {a b : Bool} {n1 n2 : Nat} {e1 e2 : Int} (h1 : n1 = n2) (h2 : e1 = e2) (h3 : a = b) (neg : Bool) : Ending.returned (.agg #[.bool neg, .int .u64 (hiW n1 : Int), .int .u64 (loW n1 : Int), .int .i64 e1, .bool a]) = .returned (.agg #[.bool neg, .int .u64 (hiW n2 : Int), .int .u64 (loW n2 : Int), .int .i64 e2, .bool b]) := by rw [h1, h2, h3]

theorem sh_next (n : Nat) (m : Bool) {k : Int} {d : Nat} (h : min k 19 = (d : Int)) (hk : 0 < k) : shN (n / tn d) (k - 19) = shN n k ∧ shM (n / tn d) (k - 19) (m || decide (n % tn d ≠ 0)) = shM n k m := by
  rcases (by omega : k ≤ 19 ∨ 19 < k) with h1 | h1
  · have e : k = d := by omega
    subst e
    have a := shN_step n (k := (d : Int)) (d := d) (Int.le_refl _)
    have b := shM_step n (k := (d : Int)) (d := d) m (Int.le_refl _)
    rw [Int.sub_self, shN_nil _ (Int.le_refl _)] at a
    rw [Int.sub_self, shM_nil _ _ (Int.le_refl _)] at b
    rw [shN_nil _ (by omega), shM_nil _ _ (by omega)]
    exact ⟨a, b⟩
  · have e : d = 19 := by omega
    subst e
    exact ⟨shN_step n (by omega), shM_step n m (by omega)⟩

theorem bne_mod (n t : Nat) : (((n : Int) % (t : Int)) != 0) = decide (n % t ≠ 0) := by
  have e : ((n : Int) % (t : Int)) = ((n % t : Nat) : Int) := by simp
  rw [e, Bool.eq_iff_iff]
  simp
  omega
theorem sh_pack {w w' : World} {neg m' : Bool} {n' d : Nat} {e : Int} (hd : d < 20)
    (h : Inv w [(w.heap.size, 44, [.bool neg, .int .u64 (hiW n' : Int), .int .u64 (loW n' : Int), .int .i64 e, .bool m']), (w.heap.size + 1, 44, [.bool false, .int .u64 0, .int .u64 0, .int .i64 0, .bool false])] w') :
    Inv w [(w.heap.size, 44, [.bool neg, .int .u64 (hiW n' : Int), .int .u64 (loW n' : Int), .int .i64 e, .bool m']), (w.heap.size + 1, 44, [.bool false, .int .u64 0, .int .u64 0, .int .i64 0, .bool false])] w' ∧
    w'.cell? ⟨w.heap.size, 1, none⟩ = some (.int .u64 (hiW n' : Int)) ∧ w'.cell? ⟨w.heap.size, 2, none⟩ = some (.int .u64 (loW n' : Int)) ∧ w'.cell? ⟨0, d, none⟩ = some (.int .u64 (tn d : Int)) ∧ Tab w' :=
  ⟨h, (h.own 0 _ rfl).cell 1, (h.own 0 _ rfl).cell 2, h.kept.1.tens d hd, h.kept.1⟩

set_option maxRecDepth 100000 in
set_option maxHeartbeats 2000000 in
theorem shorter_any (neg : Bool) (n : Nat) (e : Int) (m : Bool) (k : Int) (w : World) (ht : Tab w) (hn : n < 340282366920938463463374607431768211456) (he : -1000000 ≤ e) (he' : e ≤ 1000000) (hk : -999000 ≤ k) (hk' : k ≤ 1000000) :
    Calls Tryd.prog 63 #[.agg #[.bool neg, .int .u64 (hiW n : Int), .int .u64 (loW n : Int), .int .i64 e, .bool m], .int .i64 k] w fun x w' => x = .returned (.agg #[.bool neg, .int .u64 (hiW (shN n k) : Int), .int .u64 (loW (shN n k) : Int), .int .i64 (e + k), .bool (shM n k m)]) ∧ Kept w w' := by
  have hlt := ht.lt
  have _hlt0 := ht.lt0
  go_enter Tryd.func63, Tryd.ntmps63
  go_wp2_with fail
  go_loopw [1] (ShRel neg n (e + k) m k w) (fun v _ => (intOf v).toNat)
  case atStart =>
    exact ⟨n, m, k, rfl, (Own.new _ _ _).alloc _, by simpa using Own.new (w.alloc _) 44 _, (ht.alloc _).alloc _, ((Below.refl _ _).alloc (Nat.le_refl _) _).alloc (by simp) _, rfl, rfl, Nat.le_refl _, Int.le_refl _, by omega⟩
  case round =>
    obtain ⟨n', m', k', rfl, hX, hR, ht', hb, r1, r2, r3, r4, r5⟩ := hrel
    have x0 : wr.cell? ⟨w.heap.size, 0, none⟩ = some (.bool neg) := hX.cell 0
    have x1 : wr.cell? ⟨w.heap.size, 1, none⟩ = some (.int .u64 (hiW n' : Int)) := hX.cell 1
    have x2 : wr.cell? ⟨w.heap.size, 2, none⟩ = some (.int .u64 (loW n' : Int)) := hX.cell 2
    have x3 : wr.cell? ⟨w.heap.size, 3, none⟩ = some (.int .i64 (e + k)) := hX.cell 3
    have x4 : wr.cell? ⟨w.heap.size, 4, none⟩ = some (.bool m') := hX.cell 4
    have y0 : wr.cell? ⟨w.heap.size + 1, 0, none⟩ = some (.bool false) := hR.cell 0
    have y1 : wr.cell? ⟨w.heap.size + 1, 1, none⟩ = some (.int .u64 0) := hR.cell 1
    have y2 : wr.cell? ⟨w.heap.size + 1, 2, none⟩ = some (.int .u64 0) := hR.cell 2
    have y3 : wr.cell? ⟨w.heap.size + 1, 3, none⟩ = some (.int .i64 0) := hR.cell 3
    have y4 : wr.cell? ⟨w.heap.size + 1, 4, none⟩ = some (.bool false) := hR.cell 4
    have fx := fun i => hX.frozen i
    have fy := fun i => hR.frozen i
    have l1 := hX.lt
    have l2 := hR.lt
    have l3 := ht'.lt; have _l30 := ht'.lt0
    have HB := Lib.hid hb
    have HX := Lib.hid hX
    have HR := Lib.hid hR
    have R1 := Lib.hid r1
    have R2 := Lib.hid r2
    have hn' : n' < 340282366920938463463374607431768211456 := Nat.lt_of_le_of_lt r3 hn
    clear hb hX hR r1 r2
    have hK : Kept w wr := ⟨ht', HB.out⟩
    by_cases hk0 : 0 < k'
    · by_cases hz : n' = 0
      · subst hz
        rw [shN_zero] at R1
        rw [shM_zero] at R2
        go_wp2_with (first | (go_at_call 62; (with_reducible refine (isZero_any 0 _ (by repeat' (first | (with_reducible assumption) | (with_reducible refine Tab.alloc ?_ _) | (with_reducible refine Tab.drew ?_) | (with_reducible refine Tab.drewN ?_ _) | (with_reducible refine Tab.setCell ?_ ?_ ?_ _) | omega | (simp; done) | (simp; omega)))).mono ?_); rintro e w1 ⟨rfl, hk1⟩; obtain ⟨hc1, hf1⟩ := bcell hk1.2; have ht1 := hk1.1; have hz1 := hk1.2.size; (try simp only [World.size_alloc] at hz1); (try simp only [sz_drew] at hz1); (try simp only [sz_drewN] at hz1); (try simp only [World.size_alloc] at hz1); (try simp only [sz_drew] at hc1 hf1); (try simp only [sz_drewN] at hc1 hf1); (try have hw1 : w.heap.size < w1.heap.size := by omega); (try have hv1 : w.heap.size + 1 < w1.heap.size := by omega); (try have hu1 : w.heap.size + 2 < w1.heap.size := by omega)))
        have hF := (((((HR.out.kept hk1.2).put 0 (.bool neg)).put 1 (.int .u64 (hiW 0 : Int))).put 2 (.int .u64 (loW 0 : Int))).put 3 (.int .i64 (e + k))).put 4 (.bool m')
        refine bodyPost_ret (ret_own rfl hF rfl Tryd.underlying44 rfl (by kernel_rfl)) rfl ?_
        exact ⟨ex_eq R1.out rfl R2.out neg, (by repeat' (first | (with_reducible assumption) | (with_reducible exact Kept.refl ht) | (with_reducible refine Kept.alloc ?_ _) | (with_reducible refine Kept.drew ?_) | (with_reducible refine Kept.drewN ?_ _) | (with_reducible refine Kept.setCell ?_ ?_ _ ?_ ?_) | (with_reducible refine Kept.trans ?_ (by assumption)) | omega | (simp; done) | (simp; omega)))⟩
      · have hd : decide (n' = 0) = false := decide_eq_false hz
        have HZ := Lib.hid hz
        clear hz
        obtain ⟨d, hmin⟩ := Int.eq_ofNat_of_zero_le (show 0 ≤ min k' 19 by omega)
        have hd20 : d < 20 := by omega
        have hd20i : (d : Int) < 20 := by omega
        have hdn : (0 : Int) ≤ (d : Int) := by omega
        have hTd : tn d < 18446744073709551616 := Nat.lt_of_le_of_lt (p10_le (show d ≤ 19 by omega)) (by decide)
        have hTp : 0 < tn d := p10 d
        have s1 := Lib.hid (sh_next n' m' hmin hk0)
        have tc := ht'.tens d hd20
        go_upto_region 4 with (first | (go_at_call 62; (with_reducible refine (isZero_any n' _ (by repeat' (first | (with_reducible assumption) | (with_reducible refine Tab.alloc ?_ _) | (with_reducible refine Tab.drew ?_) | (with_reducible refine Tab.drewN ?_ _) | (with_reducible refine Tab.setCell ?_ ?_ ?_ _) | omega | (simp; done) | (simp; omega)))).mono ?_); rintro e w1 ⟨rfl, hk1⟩; obtain ⟨hc1, hf1⟩ := bcell hk1.2; have ht1 := hk1.1; have hz1 := hk1.2.size; (try simp only [World.size_alloc] at hz1); (try simp only [sz_drew] at hz1); (try simp only [sz_drewN] at hz1); (try simp only [World.size_alloc] at hz1); (try simp only [sz_drew] at hc1 hf1); (try simp only [sz_drewN] at hc1 hf1); (try have hw1 : w.heap.size < w1.heap.size := by omega); (try have hv1 : w.heap.size + 1 < w1.heap.size := by omega); (try have hu1 : w.heap.size + 2 < w1.heap.size := by omega)))
        have hI : Inv w [(w.heap.size, 44, [.bool neg, .int .u64 (hiW n' : Int), .int .u64 (loW n' : Int), .int .i64 (e + k), .bool m']), (w.heap.size + 1, 44, [.bool false, .int .u64 0, .int .u64 0, .int .i64 0, .bool false])] w1 :=
          ((Inv.mk (bs := []) (hK.trans hk1) (fun i x hx => by simp at hx)).more (HX.out.kept hk1.2)).more (HR.out.kept hk1.2)
        go_cut [5, 6] (fun s5 s6 wx => ∃ B : Nat, s5 = .pointer (some ⟨B, 0, none⟩) ∧ s6 = .int .u64 ((n' % tn d : Nat) : Int) ∧ w.heap.size + 1 < B ∧ Inv w [(w.heap.size, 44, [.bool neg, .int .u64 (hiW n' : Int), .int .u64 (loW n' : Int), .int .i64 (e + k), .bool m']), (w.heap.size + 1, 44, [.bool false, .int .u64 0, .int .u64 0, .int .i64 0, .bool false]), (B, 42, [.int .u64 (hiW (n' / tn d) : Int), .int .u64 (loW (n' / tn d) : Int)])] wx)
        case first =>
          go_region_held3 (fun w' => Inv w [(w.heap.size, 44, [.bool neg, .int .u64 (hiW n' : Int), .int .u64 (loW n' : Int), .int .i64 (e + k), .bool m']), (w.heap.size + 1, 44, [.bool false, .int .u64 0, .int .u64 0, .int .i64 0, .bool false])] w' ∧ w'.cell? ⟨w.heap.size, 1, none⟩ = some (.int .u64 (hiW n' : Int)) ∧ w'.cell? ⟨w.heap.size, 2, none⟩ = some (.int .u64 (loW n' : Int)) ∧ w'.cell? ⟨0, d, none⟩ = some (.int .u64 (tn d : Int)) ∧ Tab w')
            ((refine sh_pack hd20 ?_; repeat' (first | (with_reducible assumption) | (with_reducible refine Inv.drew ?_) | (with_reducible refine Inv.alloc ?_ _) | (with_reducible refine Inv.call ?_ (by assumption)) | (with_reducible refine Inv.far ?_ ?_ ?_ ?_ ?_ _) | omega | (simp; done) | (simp; omega))))
            (first | (go_at_call 83; (with_reducible refine (over_any n' (tn d) _ (by repeat' (first | (with_reducible assumption) | (with_reducible refine Tab.alloc ?_ _) | (with_reducible refine Tab.drew ?_) | (with_reducible refine Tab.drewN ?_ _) | (with_reducible refine Tab.setCell ?_ ?_ ?_ _) | omega | (simp; done) | (simp; omega))) hn' hTp hTd).mono ?_); rintro e w2 ⟨rfl, hk2⟩; obtain ⟨hc2, hf2⟩ := bcell hk2.2; have ht2 := hk2.1; have hz2 := hk2.2.size; (try simp only [World.size_alloc] at hz2); (try simp only [sz_drew] at hz2); (try simp only [sz_drewN] at hz2); (try simp only [World.size_alloc] at hz2); (try simp only [sz_drew] at hc2 hf2); (try simp only [sz_drewN] at hc2 hf2); (try have hw2 : w.heap.size < w2.heap.size := by omega); (try have hv2 : w.heap.size + 1 < w2.heap.size := by omega); (try have hu2 : w.heap.size + 2 < w2.heap.size := by omega)))
          all_goals
            go_wp2_with fail
            go_meet
            refine ⟨_, rfl, rfl, ?_, ?_⟩
            · omega
            · refine Inv.more (bs := [_, _]) ?_ ?_
              · repeat' (first | (with_reducible assumption) | (with_reducible refine Inv.drew ?_) | (with_reducible refine Inv.alloc ?_ _) | (with_reducible refine Inv.call ?_ (by assumption)) | (with_reducible refine Inv.far ?_ ?_ ?_ ?_ ?_ _) | omega | (simp; done) | (simp; omega))
              · first
                  | (with_reducible exact Own.new _ _ _)
                  | (have hq := (((Own.new _ _ [.int .u64 0, .int .u64 0]).drew.call (by assumption)).put 0 (.int .u64 (hiW (n' / tn d) : Int))).put 1 (.int .u64 (loW (n' / tn d) : Int)); exact hq)
        case rest =>
          obtain ⟨B, rfl, rfl, hB, hJ⟩ := hcut
          have q0 : wc.cell? ⟨B, 0, none⟩ = some (.int .u64 (hiW (n' / tn d) : Int)) := (hJ.own 2 _ rfl).cell 0
          have q1 : wc.cell? ⟨B, 1, none⟩ = some (.int .u64 (loW (n' / tn d) : Int)) := (hJ.own 2 _ rfl).cell 1
          have z1 : wc.cell? ⟨w.heap.size, 1, none⟩ = some (.int .u64 (hiW n' : Int)) := (hJ.own 0 _ rfl).cell 1
          have z2 : wc.cell? ⟨w.heap.size, 2, none⟩ = some (.int .u64 (loW n' : Int)) := (hJ.own 0 _ rfl).cell 2
          have z4 : wc.cell? ⟨w.heap.size, 4, none⟩ = some (.bool m') := (hJ.own 0 _ rfl).cell 4
          have fz := fun i => (hJ.own 0 _ rfl).frozen i
          have HJ := Lib.hid hJ
          clear hJ
          cases m'
          all_goals
            go_wp2_with fail
            go_round
            case rel =>
              refine ⟨n' / tn d, _, k' - 19, rfl, (((HJ.out.own 0 _ rfl).put 1 _).put 2 _).put 4 _, (((HJ.out.own 1 _ rfl).far (by simp) _).far (by simp) _).far (by simp) _, ?_, ?_, s1.out.1.trans R1.out, ?_, Nat.le_trans (Nat.div_le_self _ _) r3, by omega, by omega⟩
              · exact ((HJ.out.kept.1.setCell (by simp; omega) (by simp; omega) _).setCell (by simp; omega) (by simp; omega) _).setCell (by simp; omega) (by simp; omega) _
              · exact ((HJ.out.kept.2.setCell (by simp) _).setCell (by simp) _).setCell (by simp) _
              · rw [← R2.out, ← s1.out.2]
                first
                  | done
                  | (congr 1; done)
                  | (congr 1; rw [bne_mod]; simp)
            case measure => simp [intOf]; omega
    · rw [shN_nil _ (by omega)] at R1
      rw [shM_nil _ _ (by omega)] at R2
      go_wp2_with (first | (go_at_call 62; (with_reducible refine (isZero_any n' _ (by repeat' (first | (with_reducible assumption) | (with_reducible refine Tab.alloc ?_ _) | (with_reducible refine Tab.drew ?_) | (with_reducible refine Tab.drewN ?_ _) | (with_reducible refine Tab.setCell ?_ ?_ ?_ _) | omega | (simp; done) | (simp; omega)))).mono ?_); rintro e w1 ⟨rfl, hk1⟩; obtain ⟨hc1, hf1⟩ := bcell hk1.2; have ht1 := hk1.1; have hz1 := hk1.2.size; (try simp only [World.size_alloc] at hz1); (try simp only [sz_drew] at hz1); (try simp only [sz_drewN] at hz1); (try simp only [World.size_alloc] at hz1); (try simp only [sz_drew] at hc1 hf1); (try simp only [sz_drewN] at hc1 hf1); (try have hw1 : w.heap.size < w1.heap.size := by omega); (try have hv1 : w.heap.size + 1 < w1.heap.size := by omega); (try have hu1 : w.heap.size + 2 < w1.heap.size := by omega)))
      have hF := ((((HR.out.put 0 (.bool neg)).put 1 (.int .u64 (hiW n' : Int))).put 2 (.int .u64 (loW n' : Int))).put 3 (.int .i64 (e + k))).put 4 (.bool m')
      refine bodyPost_ret (ret_own rfl hF rfl Tryd.underlying44 rfl (by kernel_rfl)) rfl ?_
      exact ⟨ex_eq R1.out rfl R2.out neg, (by repeat' (first | (with_reducible assumption) | (with_reducible exact Kept.refl ht) | (with_reducible refine Kept.alloc ?_ _) | (with_reducible refine Kept.drew ?_) | (with_reducible refine Kept.drewN ?_ _) | (with_reducible refine Kept.setCell ?_ ?_ _ ?_ ?_) | (with_reducible refine Kept.trans ?_ (by assumption)) | omega | (simp; done) | (simp; omega)))⟩
end Go.Proofs.YtanfhlkfmmglhaaDoor
/- The program's exact numbers with more digits: longer. Condition: the tables hold what their initialisers lay. -/
namespace Go.Proofs.YtanfhlkfmmglhaaDoor
open Go.ChangeShapes Go.WideShapes Go.ChangeAt Go.RowKit
attribute [local go_sem ↓] Go.wp_at_zero Go.wp_at_succ

/-- What holds at each round's head of longer's loop. -/
def LoRel (neg : Bool) (N : Nat) (E : Int) (m : Bool) (w : World) (v : Value) (wr : World) : Prop :=
  ∃ (n' : Nat) (e' k' : Int), v = .int .i64 k' ∧ Inv w [(w.heap.size, 44, [.bool neg, .int .u64 (hiW n' : Int), .int .u64 (loW n' : Int), .int .i64 e', .bool m]), (w.heap.size + 1, 44, [.bool false, .int .u64 0, .int .u64 0, .int .i64 0, .bool false])] wr ∧ n' * 10 ^ k'.toNat = N ∧ e' - (k'.toNat : Int) = E ∧ -100 ≤ k' ∧ k' ≤ 100

theorem lo_next {n' : Nat} {k' : Int} {d : Nat} (h : min k' 19 = (d : Int)) (hk : 0 < k') : n' * tn d * 10 ^ (k' - 19).toNat = n' * 10 ^ k'.toNat ∧ ((k' - 19).toNat : Int) + d = k'.toNat := by
  have e : k'.toNat = d + (k' - 19).toNat := by omega
  rw [e, Nat.pow_add, ← Nat.mul_assoc]
  exact ⟨rfl, by omega⟩

theorem lo_bound {n : Nat} {D : Int} (hn : n < 340282366920938463463374607431768211456) (hD : D ≤ 38) : n * 10 ^ (D.toNat - dg n) < 340282366920938463463374607431768211456 := by
  rcases Nat.lt_or_ge (dg n) D.toNat with h | h
  · have h1 := Nat.mul_lt_mul_of_pos_right (lt_dg n) (p10 (D.toNat - dg n))
    rw [← Nat.pow_add] at h1
    refine Nat.lt_of_lt_of_le h1 (Nat.le_trans (p10_le (show dg n + (D.toNat - dg n) ≤ 38 by omega)) (by decide))
  · rw [show D.toNat - dg n = 0 by omega]; simpa using hn
set_option maxRecDepth 100000 in
set_option maxHeartbeats 2000000 in
theorem longer_any (neg : Bool) (n : Nat) (e : Int) (m : Bool) (D : Int) (w : World) (ht : Tab w) (hn : n < 340282366920938463463374607431768211456) (he : -1000000 ≤ e) (he' : e ≤ 1000000) (hD : 0 ≤ D) (hD' : D ≤ 38) :
    Calls Tryd.prog 82 #[.agg #[.bool neg, .int .u64 (hiW n : Int), .int .u64 (loW n : Int), .int .i64 e, .bool m], .int .i64 D] w fun x w' => x = .returned (.agg #[.bool neg, .int .u64 (hiW (n * 10 ^ (D.toNat - dg n)) : Int), .int .u64 (loW (n * 10 ^ (D.toNat - dg n)) : Int), .int .i64 (e - ((D.toNat - dg n : Nat) : Int)), .bool m]) ∧ Kept w w' := by
  have hlt := ht.lt
  have hlt0 := ht.lt0
  have hdg : dg n ≤ 39 := (dg_iff n 39).2 (by simp; omega)
  go_enter Tryd.func82, Tryd.ntmps82
  go_wp2_with (first | (go_at_call 68; (with_reducible refine (digits_any n _ (by repeat' (first | (with_reducible assumption) | (with_reducible refine Tab.alloc ?_ _) | (with_reducible refine Tab.drew ?_) | (with_reducible refine Tab.drewN ?_ _) | (with_reducible refine Tab.setCell ?_ ?_ ?_ _) | omega | (simp; done) | (simp; omega))) hn).mono ?_); rintro e w1 ⟨rfl, hk1⟩; obtain ⟨hc1, hf1⟩ := bcell hk1.2; have ht1 := hk1.1; have hz1 := hk1.2.size; (try simp only [World.size_alloc] at hz1); (try simp only [sz_drew] at hz1); (try simp only [sz_drewN] at hz1); (try simp only [World.size_alloc] at hz1); (try simp only [sz_drew] at hc1 hf1); (try simp only [sz_drewN] at hc1 hf1); (try have hw1 : w.heap.size < w1.heap.size := by omega); (try have hv1 : w.heap.size + 1 < w1.heap.size := by omega); (try have hu1 : w.heap.size + 2 < w1.heap.size := by omega)))
  go_loopw [5] (LoRel neg (n * 10 ^ (D.toNat - dg n)) (e - ((D.toNat - dg n : Nat) : Int)) m w) (fun v _ => (intOf v).toNat)
  case atStart =>
    refine ⟨n, e, D - (dg n : Int), rfl, ?_, ?_, ?_, by omega, by omega⟩
    · exact (Inv.two ht _ [_, _, _, _, _] _ [_, _, _, _, _]).call hk1
    · congr 2; omega
    · congr 1; omega
  case round =>
    obtain ⟨n', e', k', rfl, hI, r1, r2, r3, r4⟩ := hrel
    have z0 : wr.cell? ⟨w.heap.size, 0, none⟩ = some (.bool neg) := (hI.own 0 _ rfl).cell 0
    have z1 : wr.cell? ⟨w.heap.size, 1, none⟩ = some (.int .u64 (hiW n' : Int)) := (hI.own 0 _ rfl).cell 1
    have z2 : wr.cell? ⟨w.heap.size, 2, none⟩ = some (.int .u64 (loW n' : Int)) := (hI.own 0 _ rfl).cell 2
    have z3 : wr.cell? ⟨w.heap.size, 3, none⟩ = some (.int .i64 e') := (hI.own 0 _ rfl).cell 3
    have z4 : wr.cell? ⟨w.heap.size, 4, none⟩ = some (.bool m) := (hI.own 0 _ rfl).cell 4
    have fz := fun i => (hI.own 0 _ rfl).frozen i
    have y0 : wr.cell? ⟨w.heap.size + 1, 0, none⟩ = some (.bool false) := (hI.own 1 _ rfl).cell 0
    have y1 : wr.cell? ⟨w.heap.size + 1, 1, none⟩ = some (.int .u64 0) := (hI.own 1 _ rfl).cell 1
    have y2 : wr.cell? ⟨w.heap.size + 1, 2, none⟩ = some (.int .u64 0) := (hI.own 1 _ rfl).cell 2
    have y3 : wr.cell? ⟨w.heap.size + 1, 3, none⟩ = some (.int .i64 0) := (hI.own 1 _ rfl).cell 3
    have y4 : wr.cell? ⟨w.heap.size + 1, 4, none⟩ = some (.bool false) := (hI.own 1 _ rfl).cell 4
    have fy := fun i => (hI.own 1 _ rfl).frozen i
    have be : -2000000 ≤ e' := by omega
    have be' : e' ≤ 2000000 := by omega
    have R1 := Lib.hid r1
    have R2 := Lib.hid r2
    have HI := Lib.hid hI
    have HY := Lib.hid (hI.own 1 _ rfl)
    have l1 : w.heap.size < wr.heap.size := (hI.own 0 _ rfl).lt
    have l2 : w.heap.size + 1 < wr.heap.size := (hI.own 1 _ rfl).lt
    have l3 := hI.kept.1.lt
    have ht' := hI.kept.1
    have hK := hI.kept
    clear r1 r2 hI
    by_cases hk0 : 0 < k'
    · obtain ⟨d, hmin⟩ := Int.eq_ofNat_of_zero_le (show 0 ≤ min k' 19 by omega)
      have hd20 : d < 20 := by omega
      have hd20i : (d : Int) < 20 := by omega
      have hdn : (0 : Int) ≤ (d : Int) := by omega
      have hTd : tn d < 18446744073709551616 := Nat.lt_of_le_of_lt (p10_le (show d ≤ 19 by omega)) (by decide)
      have s1 := Lib.hid (lo_next (n' := n') hmin hk0)
      have tc := ht'.tens d hd20
      go_upto_region 5 with fail
      have hNb : n' * tn d < 340282366920938463463374607431768211456 := by
        have h1 : n' * tn d ≤ n * 10 ^ (D.toNat - dg n) := by
          rw [← R1.out, ← s1.out.1]
          exact Nat.le_mul_of_pos_right _ (p10 _)
        exact Nat.lt_of_le_of_lt h1 (lo_bound hn hD')
      go_region_with (first | (go_at_call 64; (with_reducible refine (times_any n' (tn d) _ (by repeat' (first | (with_reducible assumption) | (with_reducible refine Tab.alloc ?_ _) | (with_reducible refine Tab.drew ?_) | (with_reducible refine Tab.drewN ?_ _) | (with_reducible refine Tab.setCell ?_ ?_ ?_ _) | omega | (simp; done) | (simp; omega))) hTd hNb).mono ?_); rintro e w2 ⟨rfl, hk2⟩; obtain ⟨hc2, hf2⟩ := bcell hk2.2; have ht2 := hk2.1; have hz2 := hk2.2.size; (try simp only [World.size_alloc] at hz2); (try simp only [sz_drew] at hz2); (try simp only [sz_drewN] at hz2); (try simp only [World.size_alloc] at hz2); (try simp only [sz_drew] at hc2 hf2); (try simp only [sz_drewN] at hc2 hf2); (try have hw2 : w.heap.size < w2.heap.size := by omega); (try have hv2 : w.heap.size + 1 < w2.heap.size := by omega); (try have hu2 : w.heap.size + 2 < w2.heap.size := by omega)))
      all_goals
        go_wp2_with fail
        go_round
        case rel =>
          refine ⟨n' * tn d, e' - d, k' - 19, rfl, ?_, s1.out.1.trans R1.out, ?_, by omega, by omega⟩
          · exact (((HI.out.drew.call hk2).put 0 rfl 1 _ (by simp) (by omega) hlt hlt0).put 0 rfl 2 _ (by simp) (by omega) hlt hlt0).put 0 rfl 3 _ (by simp) (by omega) hlt hlt0
          · rw [← R2.out]; have := s1.out.2; omega
        case measure => simp [intOf]; omega
    · go_wp2_with fail
      have hF := ((((HY.out.put 0 (.bool neg)).put 1 (.int .u64 (hiW n' : Int))).put 2 (.int .u64 (loW n' : Int))).put 3 (.int .i64 e')).put 4 (.bool m)
      refine bodyPost_ret (ret_own rfl hF rfl Tryd.underlying44 rfl (by kernel_rfl)) rfl ?_
      refine ⟨ex_eq ?_ ?_ rfl neg, ?_⟩
      · rw [← R1.out, show k'.toNat = 0 by omega]; simp
      · rw [← R2.out, show k'.toNat = 0 by omega]; simp
      · exact (by repeat' (first | (with_reducible assumption) | (with_reducible exact Kept.refl ht) | (with_reducible refine Kept.alloc ?_ _) | (with_reducible refine Kept.drew ?_) | (with_reducible refine Kept.drewN ?_ _) | (with_reducible refine Kept.setCell ?_ ?_ _ ?_ ?_) | (with_reducible refine Kept.trans ?_ (by assumption)) | omega | (simp; done) | (simp; omega)))
end Go.Proofs.YtanfhlkfmmglhaaDoor
/- How cutting off digits one step after another comes to cutting them off at once: plain mathematics. No condition. -/
namespace Go.Proofs.YtanfhlkfmmglhaaDoor

/-- What the last digit that is cut off tells, with whether anything is behind it. -/
def tail1 (g : Nat) (m : Bool) : Nat := if g = 0 ∧ m = false then 0 else if g < 5 then 1 else if g = 5 ∧ m = false then 2 else 3
theorem tail1_tl (n : Nat) (m : Bool) (k : Nat) : tail1 (n / 10 ^ k % 10) (m || decide (n % 10 ^ k ≠ 0)) = tl n m (k + 1) := by
  unfold tail1 tl
  rw [show (10 : Nat) ^ (k + 1) = 10 ^ k * 10 by rw [Nat.pow_succ], Nat.mod_mul]
  have hp := p10 k
  have hr := Nat.mod_lt n hp
  have hg := Nat.mod_lt (n / 10 ^ k) (show 0 < 10 by omega)
  generalize n % 10 ^ k = r at *
  generalize n / 10 ^ k % 10 = g at *
  generalize 10 ^ k = B at *
  have key : ∀ a : Nat, g = a → B * g = a * B := by intro a h; rw [h, Nat.mul_comm]
  rcases (by omega : g = 0 ∨ g = 1 ∨ g = 2 ∨ g = 3 ∨ g = 4 ∨ g = 5 ∨ g = 6 ∨ g = 7 ∨ g = 8 ∨ g = 9) with h | h | h | h | h | h | h | h | h | h
  all_goals
    have e := key _ h
    rw [e]
    subst h
    cases m <;> by_cases h0 : r = 0 <;> simp [h0] <;> (repeat (split <;> try omega)) <;> (try omega)
theorem shN_pos (n : Nat) (k : Nat) : shN n (k : Int) = n / 10 ^ k := by unfold shN; simp
theorem shM_pos (n : Nat) (m : Bool) (k : Nat) : shM n (k : Int) m = (m || decide (n % 10 ^ k ≠ 0)) := by unfold shM; simp
theorem div_step (n k : Nat) : n / 10 ^ k / 10 = n / 10 ^ (k + 1) := by rw [Nat.div_div_eq_div_mul, Nat.pow_succ]
end Go.Proofs.YtanfhlkfmmglhaaDoor
