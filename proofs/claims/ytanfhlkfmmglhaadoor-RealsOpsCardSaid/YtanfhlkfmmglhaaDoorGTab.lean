/- What the listed tables give: the precisions of the three lengths, and the powers of ten. Condition: the row's own list of package-level variables. -/
import Derived.Test.YtanfhlkfmmglhaaDoorCards
import Derived.Test.YtanfhlkfmmglhaaDoorTie
import Derived.WalkKit
import Derived.ProofKit
import Derived.OpenShut
import Derived.Deep.DeepHandedRow
import Derived.Lib.LaidTab
import Derived.Lib.Hide
import Derived.Handy
import Derived.Below
import Derived.Deep.Draws
import Derived.Deep.QuietTactic
import Derived.BigQuiet
import Derived.Lib.BitFns
import Derived.Test.YtanfhlkfmmglhaaDoorShelf
import Derived.BigGuardPart
namespace Go.Proofs.YtanfhlkfmmglhaaDoor
open Go.ChangeShapes Go.WideShapes Go.ChangeAt Go.RowKit

theorem Tab.own : ownKnob Tryd.prog.godebug = none := by kernel_rfl
theorem Tab.g1 : Tryd.prog.globalNamed "environ/reals.tens" = some 0 := by kernel_rfl
theorem Tab.g1Type : (Tryd.prog.globals[0]?).map (·.type) = some 79 := by kernel_rfl
theorem Tab.cells1 : Tryd.prog.cellsOf 79 = 20 := by kernel_rfl
theorem Tab.cellsU : Tryd.prog.cellsOf 40 = 1 := by kernel_rfl
theorem Tab.g0 : Tryd.prog.globalNamed "environ/reals.precisions" = some 1 := by kernel_rfl
theorem Tab.g0Type : (Tryd.prog.globals[1]?).map (·.type) = some 82 := by kernel_rfl
theorem Tab.cells0 : Tryd.prog.cellsOf 82 = 3 := by kernel_rfl
theorem Tab.cellsI : Tryd.prog.cellsOf 3 = 1 := by kernel_rfl

/-- A power of ten that the table has. -/
def tn (k : Nat) : Nat := 10 ^ k

/-- The tables' cells, in a world. -/
structure Tab (w : World) : Prop where
  p0 : w.cell? ⟨1, 0, none⟩ = some (.int .i64 7)
  p1 : w.cell? ⟨1, 1, none⟩ = some (.int .i64 15)
  p2 : w.cell? ⟨1, 2, none⟩ = some (.int .i64 18)
  tens : ∀ k : Nat, k < 20 → w.cell? ⟨0, k, none⟩ = some (.int .u64 (tn k : Int))

theorem laid_tens : (Rows.laid_environ_reals_tens : DataW Unit) = Lib.tabData .u64 ((List.range 20).map fun k => (tn k : Int)) := by kernel_rfl
theorem laid_prec : (Rows.laid_environ_reals_precisions : DataW Unit) = Lib.tabData .i64 [7, 15, 18] := by kernel_rfl

theorem Tab.of_vars {W : World} {ps : List MemPlace} (h : DataW.LaidVars Tryd.prog W [("environ/reals.tens", Rows.laid_environ_reals_tens), ("environ/reals.precisions", Rows.laid_environ_reals_precisions)] ps) : Tab W := by
  obtain ⟨g, t, cs, fuel, p, q, hg, ht, hvar, hd, ⟨g', t', cs', fuel', p', q', hg', ht', hvar', hd', _, _⟩, _⟩ := h
  obtain rfl := Option.some.inj (Tab.g1.symm.trans hg)
  obtain rfl := Option.some.inj (Tab.g1Type.symm.trans ht)
  obtain rfl := Option.some.inj (Tab.g0.symm.trans hg')
  obtain rfl := Option.some.inj (Tab.g0Type.symm.trans ht')
  rw [laid_tens] at hd
  rw [laid_prec] at hd'
  have h1 := Lib.cells_of_tab Tryd.underlying79 Tryd.underlying40 Tab.cellsU Tab.cells1 hd
  have h0 := Lib.cells_of_tab Tryd.underlying82 Tryd.underlying3 Tab.cellsI Tab.cells0 hd'
  have c1 := fun i => World.var?_cell Tab.g1 hvar i
  have c0 := fun i => World.var?_cell Tab.g0 hvar' i
  refine ⟨?_, ?_, ?_, fun k hk => ?_⟩
  · rw [c0 0, ← Array.getElem?_toList, h0]; rfl
  · rw [c0 1, ← Array.getElem?_toList, h0]; rfl
  · rw [c0 2, ← Array.getElem?_toList, h0]; rfl
  · rw [c1 k, ← Array.getElem?_toList, h1]
    simp [hk]

theorem Tab.of_laid {W : World} (h : laidMetH Tryd.prog [("environ/reals.tens", Rows.laid_environ_reals_tens), ("environ/reals.precisions", Rows.laid_environ_reals_precisions)] W) : Tab W := by
  have h : laidMet Tryd.prog [("environ/reals.tens", Rows.laid_environ_reals_tens), ("environ/reals.precisions", Rows.laid_environ_reals_precisions)] W := h
  obtain ⟨ps, hv, _⟩ := h
  exact Tab.of_vars hv

theorem cell_lt {w : World} {a : Addr} {v : Value} (h : w.cell? a = some v) : a.block < w.heap.size := by
  unfold World.cell? at h
  by_cases hb : a.block < w.heap.size
  · exact hb
  · rw [Array.getElem?_eq_none (by omega)] at h
    simp at h

theorem Tab.lt {w : World} (h : Tab w) : 0 < w.heap.size := cell_lt (h.tens 0 (by omega))
theorem Tab.lt0 {w : World} (h : Tab w) : 1 < w.heap.size := cell_lt h.p0

theorem Tab.below {B : Nat} {w w' : World} (h : Tab w) (hb : Below B w w') (hB : 0 < B) (hB0 : 1 < B) : Tab w' :=
  ⟨(hb.cell hB0).trans h.p0, (hb.cell hB0).trans h.p1, (hb.cell hB0).trans h.p2, fun k hk => (hb.cell hB).trans (h.tens k hk)⟩

/-- What a call leaves: all that was is as it was, and the tables with it. -/
def Kept (w w' : World) : Prop := Tab w' ∧ Below w.heap.size w w'
theorem Kept.mk {w w' : World} (h : Tab w) (hb : Below w.heap.size w w') : Kept w w' := ⟨h.below hb h.lt h.lt0, hb⟩
theorem Kept.refl {w : World} (h : Tab w) : Kept w w := ⟨h, Below.refl _ _⟩
theorem Kept.trans {a b c : World} (h : Kept a b) (k : Kept b c) : Kept a c := ⟨k.1, h.2.trans (k.2.mono h.2.size)⟩
theorem Kept.alloc {a b : World} (h : Kept a b) (o : Obj) : Kept a (b.alloc o) := h.trans (Kept.mk h.1 ((Below.refl _ _).alloc (Nat.le_refl _) _))
theorem Kept.setCell {a b : World} (h : Kept a b) {p : Addr} (hp : a.heap.size ≤ p.block) (u : Value) (h1 : 0 < a.heap.size) (h0 : 1 < a.heap.size) : Kept a (b.setCell p u) :=
  ⟨h.1.below (B := a.heap.size) ((Below.refl _ _).setCell hp u) h1 h0, h.2.setCell hp u⟩
theorem Tab.drew {w : World} (h : Tab w) : Tab w.drew := ⟨h.p0, h.p1, h.p2, h.tens⟩
theorem Tab.drewN {w : World} (h : Tab w) (n : Nat) : Tab (w.drewN n) := ⟨h.p0, h.p1, h.p2, h.tens⟩
theorem below_drewN {B : Nat} {a w : World} (h : Below B a w) (n : Nat) : Below B a (w.drewN n) := ⟨h.os, h.tape, h.output, h.size, h.block⟩
theorem Kept.drew {a b : World} (h : Kept a b) : Kept a b.drew := ⟨h.1.drew, h.2.drew⟩
theorem Kept.drewN {a b : World} (h : Kept a b) (n : Nat) : Kept a (b.drewN n) := ⟨h.1.drewN n, below_drewN h.2 n⟩
theorem Tab.alloc {w : World} (h : Tab w) (o : Obj) : Tab (w.alloc o) := h.below ((Below.refl w.heap.size w).alloc (Nat.le_refl _) o) h.lt h.lt0
theorem bcell {W w1 : World} (hb : Below W.heap.size W w1) : (∀ b o, b < W.heap.size → w1.cell? ⟨b, o, none⟩ = W.cell? ⟨b, o, none⟩) ∧ (∀ b o, b < W.heap.size → w1.frozen? ⟨b, o, none⟩ = W.frozen? ⟨b, o, none⟩) :=
  ⟨fun b o h => hb.cell (p := ⟨b, o, none⟩) h, fun b o h => hb.frozen (p := ⟨b, o, none⟩) h⟩
end Go.Proofs.YtanfhlkfmmglhaaDoor
/- Decimal digits, trailing zeros and whole roots of natural numbers: plain mathematics. No condition. -/
namespace Go.Proofs.YtanfhlkfmmglhaaDoor

/-- The number of decimal digits, 0 for 0. -/
def dg (n : Nat) : Nat := if h : n = 0 then 0 else dg (n / 10) + 1
termination_by n
decreasing_by omega

theorem dg_zero : dg 0 = 0 := by unfold dg; simp
theorem dg_step {n : Nat} (h : n ≠ 0) : dg n = dg (n / 10) + 1 := by rw [dg]; simp [h]
theorem lt_dg (n : Nat) : n < 10 ^ dg n := by
  induction n using Nat.strongRecOn with
  | ind n ih =>
    by_cases h : n = 0
    · subst h; simp [dg_zero]
    · rw [dg_step h, Nat.pow_succ]
      have := ih (n / 10) (by omega)
      omega
theorem dg_le {n : Nat} (h : n ≠ 0) : 10 ^ (dg n - 1) ≤ n := by
  induction n using Nat.strongRecOn with
  | ind n ih =>
    rw [dg_step h, Nat.add_sub_cancel]
    by_cases h1 : n / 10 = 0
    · rw [h1, dg_zero]; simp; omega
    · have := ih (n / 10) (by omega) h1
      have hp : dg (n / 10) ≠ 0 := by rw [dg_step h1]; omega
      obtain ⟨k, hk⟩ := Nat.exists_eq_succ_of_ne_zero hp
      rw [hk] at this ⊢
      rw [Nat.succ_sub_one] at this
      rw [Nat.pow_succ]
      omega
theorem dg_ne {n : Nat} (h : n ≠ 0) : dg n ≠ 0 := by rw [dg_step h]; omega
theorem p10 (k : Nat) : 0 < 10 ^ k := Nat.pow_pos (by omega)
theorem p10_le {a b : Nat} (h : a ≤ b) : 10 ^ a ≤ 10 ^ b := Nat.pow_le_pow_right (by omega) h
theorem p10_lt {a b : Nat} (h : a < b) : 10 ^ a < 10 ^ b := Nat.pow_lt_pow_right (by omega) h
theorem dg_iff (n k : Nat) : dg n ≤ k ↔ n < 10 ^ k := by
  constructor
  · exact fun h => Nat.lt_of_lt_of_le (lt_dg n) (p10_le h)
  · intro h
    by_cases h0 : n = 0
    · subst h0; simp [dg_zero]
    · have h1 := dg_le h0
      rcases Nat.lt_or_ge k (dg n) with h2 | h2
      · have := p10_le (a := k) (b := dg n - 1) (by omega)
        omega
      · exact h2
theorem dg_eq {n k : Nat} (h1 : 10 ^ k ≤ n) (h2 : n < 10 ^ (k + 1)) : dg n = k + 1 := by
  have a := (dg_iff n (k + 1)).2 h2
  rcases Nat.lt_or_ge k (dg n) with h | h
  · omega
  · have := (dg_iff n k).1 h
    omega
theorem dg_mono {a b : Nat} (h : a ≤ b) : dg a ≤ dg b := (dg_iff a _).2 (Nat.lt_of_le_of_lt h (lt_dg b))
theorem dg_mul {n : Nat} (k : Nat) (h : n ≠ 0) : dg (n * 10 ^ k) = dg n + k := by
  have hn := dg_ne h
  obtain ⟨d, hd⟩ := Nat.exists_eq_succ_of_ne_zero hn
  have h1 := dg_le h
  have h2 := lt_dg n
  rw [hd] at h1 h2 ⊢
  rw [Nat.succ_sub_one] at h1
  have : dg (n * 10 ^ k) = (d + k) + 1 := by
    apply dg_eq
    · rw [Nat.pow_add]; exact Nat.mul_le_mul_right _ h1
    · rw [show d + k + 1 = d.succ + k by omega, Nat.pow_add]; exact Nat.mul_lt_mul_of_pos_right h2 (p10 k)
  omega
theorem dg_div (n k : Nat) : dg (n / 10 ^ k) = dg n - k := by
  apply Nat.le_antisymm
  · rw [dg_iff, Nat.div_lt_iff_lt_mul (p10 k), ← Nat.pow_add]
    exact Nat.lt_of_lt_of_le (lt_dg n) (p10_le (by omega))
  · by_cases h : dg n ≤ k
    · omega
    · have h0 : n ≠ 0 := by rintro rfl; rw [dg_zero] at h; omega
      have h1 := dg_le h0
      have h2 : 10 ^ (dg n - 1 - k) ≤ n / 10 ^ k := by
        rw [Nat.le_div_iff_mul_le (p10 k), ← Nat.pow_add]
        exact Nat.le_trans (p10_le (by omega)) h1
      rcases Nat.lt_or_ge (dg (n / 10 ^ k)) (dg n - k) with h3 | h3
      · have := (dg_iff (n / 10 ^ k) (dg n - 1 - k)).1 (by omega)
        omega
      · exact h3

/-- The number of zeros at the end, 0 for 0. -/
def tz (n : Nat) : Nat := if h : n ≠ 0 ∧ n % 10 = 0 then tz (n / 10) + 1 else 0
termination_by n
decreasing_by omega

theorem tz_step {n : Nat} (h : n ≠ 0) (h1 : n % 10 = 0) : tz n = tz (n / 10) + 1 := by rw [tz]; simp [h, h1]
theorem tz_none {n : Nat} (h1 : n % 10 ≠ 0) : tz n = 0 := by rw [tz]; simp [h1]
theorem tz_zero : tz 0 = 0 := by rw [tz]; simp
theorem tz_mul {n : Nat} (k : Nat) (h : n ≠ 0) : tz (n * 10 ^ k) = tz n + k := by
  induction k with
  | zero => simp
  | succ k ih =>
    have e : n * 10 ^ (k + 1) = n * 10 ^ k * 10 := by rw [Nat.pow_succ, Nat.mul_assoc]
    have h2 : n * 10 ^ k ≠ 0 := Nat.mul_ne_zero h (by have := p10 k; omega)
    rw [e, tz_step (by omega) (by omega), Nat.mul_div_cancel _ (by omega), ih]; omega
/-- What is left without the zeros at the end. -/
def od (n : Nat) : Nat := n / 10 ^ tz n
theorem tz_dvd (n : Nat) : n % 10 ^ tz n = 0 := by
  induction n using Nat.strongRecOn with
  | ind n ih =>
    by_cases h : n ≠ 0 ∧ n % 10 = 0
    · rw [tz_step h.1 h.2]
      have := ih (n / 10) (by omega)
      rw [Nat.pow_succ, Nat.mul_comm, Nat.mod_mul, this, h.2]
    · by_cases h0 : n = 0
      · subst h0; simp
      · rw [tz_none (by intro h1; exact h ⟨h0, h1⟩)]; simp [Nat.mod_one]
theorem od_mul_tz (n : Nat) : od n * 10 ^ tz n = n := by
  have h := tz_dvd n
  have := Nat.div_add_mod n (10 ^ tz n)
  rw [h, Nat.add_zero, Nat.mul_comm] at this
  exact this
theorem od_mul {n : Nat} (k : Nat) (h : n ≠ 0) : od (n * 10 ^ k) = od n := by
  unfold od
  rw [tz_mul k h, Nat.add_comm, Nat.pow_add, ← Nat.div_div_eq_div_mul, Nat.mul_div_cancel _ (p10 k)]
theorem od_step {n : Nat} (h : n ≠ 0) (h1 : n % 10 = 0) : od n = od (n / 10) := by
  have e : n = n / 10 * 10 ^ 1 := by omega
  rw [e, od_mul 1 (by omega), Nat.pow_one, Nat.mul_div_cancel _ (by omega)]
theorem od_none {n : Nat} (h1 : n % 10 ≠ 0) : od n = n := by simp [od, tz_none h1]
theorem od_ne {n : Nat} (h : n ≠ 0) : od n ≠ 0 := by
  intro h0
  have := od_mul_tz n
  rw [h0, Nat.zero_mul] at this
  exact h this.symm
theorem od_mod {n : Nat} (h : n ≠ 0) : od n % 10 ≠ 0 := by
  induction n using Nat.strongRecOn with
  | ind n ih =>
    by_cases h1 : n % 10 = 0
    · rw [od_step h h1]; exact ih (n / 10) (by omega) (by omega)
    · rw [od_none h1]; exact h1

/-- The whole part of the square root. -/
def isq (n : Nat) : Nat :=
  if h : n = 0 then 0 else if (2 * isq (n / 4) + 1) * (2 * isq (n / 4) + 1) ≤ n then 2 * isq (n / 4) + 1 else 2 * isq (n / 4)
termination_by n
decreasing_by all_goals omega

theorem isq_spec (n : Nat) : isq n * isq n ≤ n ∧ n < (isq n + 1) * (isq n + 1) := by
  induction n using Nat.strongRecOn with
  | ind n ih =>
    by_cases h : n = 0
    · subst h; rw [isq]; simp
    · obtain ⟨h1, h2⟩ := ih (n / 4) (by omega)
      rw [isq, dif_neg h]
      generalize isq (n / 4) = r at *
      have e1 : (2 * r + 1) * (2 * r + 1) = 4 * (r * r) + 4 * r + 1 := by
        rw [Nat.mul_add, Nat.add_mul, Nat.mul_one, Nat.one_mul, show 2 * r * (2 * r) = 4 * (r * r) by rw [Nat.mul_mul_mul_comm]]; omega
      have e2 : (2 * r) * (2 * r) = 4 * (r * r) := by rw [Nat.mul_mul_mul_comm]
      have e3 : (r + 1) * (r + 1) = r * r + 2 * r + 1 := by rw [Nat.mul_add, Nat.add_mul]; omega
      have e4 : (2 * r + 1 + 1) * (2 * r + 1 + 1) = 4 * (r * r) + 8 * r + 4 := by
        rw [show 2 * r + 1 + 1 = 2 * (r + 1) by omega, Nat.mul_mul_mul_comm, e3]; omega
      split
      · rename_i h3
        exact ⟨h3, by omega⟩
      · rename_i h3
        exact ⟨by omega, by omega⟩
theorem isq_of {n r : Nat} (h1 : r * r ≤ n) (h2 : n < (r + 1) * (r + 1)) : isq n = r := by
  obtain ⟨a, b⟩ := isq_spec n
  apply Nat.le_antisymm
  · rcases Nat.lt_or_ge r (isq n) with h | h
    · have := Nat.mul_le_mul (show r + 1 ≤ isq n from h) (show r + 1 ≤ isq n from h)
      omega
    · exact h
  · rcases Nat.lt_or_ge (isq n) r with h | h
    · have := Nat.mul_le_mul (show isq n + 1 ≤ r from h) (show isq n + 1 ≤ r from h)
      omega
    · exact h
theorem isq_sq (a : Nat) : isq (a * a) = a := isq_of (Nat.le_refl _) (Nat.mul_lt_mul_of_lt_of_lt (by omega) (by omega))
/-- A root of a number with digits cut off in pairs is the root with as many digits cut off. -/
theorem isq_div (n d : Nat) (hd : 0 < d) : isq (n / (d * d)) = isq n / d := by
  obtain ⟨a, b⟩ := isq_spec n
  apply isq_of
  · rw [Nat.le_div_iff_mul_le (Nat.mul_pos hd hd), Nat.mul_mul_mul_comm]
    have := Nat.div_mul_le_self (isq n) d
    exact Nat.le_trans (Nat.mul_le_mul this this) a
  · rw [Nat.div_lt_iff_lt_mul (Nat.mul_pos hd hd), Nat.mul_mul_mul_comm]
    have h : isq n + 1 ≤ (isq n / d + 1) * d := by
      have := Nat.lt_div_mul_add hd (a := isq n)
      rw [Nat.add_mul, Nat.one_mul]; omega
    exact Nat.lt_of_lt_of_le b (Nat.mul_le_mul h h)
end Go.Proofs.YtanfhlkfmmglhaaDoor
/- Rounding of a number V times 10 to the power of -1100 (and something below 1 more of that unit) to p digits: plain mathematics. No condition. -/
namespace Go.Proofs.YtanfhlkfmmglhaaDoor

/-- How the last t digits (and what is more) compare with one half: 0 nothing, 1 below, 2 one half, 3 above. -/
def tl (V : Nat) (m : Bool) (t : Nat) : Nat :=
  if V % 10 ^ t = 0 ∧ m = false then 0 else if 2 * (V % 10 ^ t) < 10 ^ t then 1 else if 2 * (V % 10 ^ t) = 10 ^ t ∧ m = false then 2 else 3
/-- The direction is that towards 0. -/
def inw (how : Int) (neg : Bool) : Bool := decide (how = 3 ∨ (how = 1 ∧ neg = true) ∨ (how = 2 ∧ neg = false))
/-- The number is rounded away from 0. -/
def grow (how : Int) (neg : Bool) (q t : Nat) : Bool := if how = 0 then decide (t = 3 ∨ (t = 2 ∧ q % 2 = 1)) else decide (t ≠ 0) && !inw how neg
/-- How many digits are left out, at scale -1100. -/
def lst (p V : Nat) : Nat := max (dg V - p) 700
def rq (p : Nat) (how : Int) (neg : Bool) (V : Nat) (m : Bool) : Nat :=
  V / 10 ^ lst p V + if grow how neg (V / 10 ^ lst p V) (tl V m (lst p V)) = true then 1 else 0
/-- The rounded number, were the exponent not bounded above. -/
def rv (p : Nat) (how : Int) (neg : Bool) (V : Nat) (m : Bool) : Nat := rq p how neg V m * 10 ^ lst p V
/-- The greatest real. -/
def mst (p : Nat) : Nat := (10 ^ p - 1) * 10 ^ 1500
def sg (neg : Bool) (n : Nat) : Int := if neg = true then -(n : Int) else n
def fM (neg : Bool) (V : Nat) : Int := sg neg (od V)
def fE (V : Nat) : Int := if V = 0 then 0 else (tz V : Int) - 1100
def ovf (p : Nat) (how : Int) (neg : Bool) (V : Nat) (m : Bool) : Bool := decide (10 ^ (p + 1500) ≤ rv p how neg V m)
/-- The result's number, 0 with an error. -/
def oV (p : Nat) (how : Int) (neg : Bool) (V : Nat) (m : Bool) : Nat :=
  if ovf p how neg V m = true then (if inw how neg = true then mst p else 0) else rv p how neg V m
def oF (p : Nat) (how : Int) (neg : Bool) (V : Nat) (m : Bool) : Bool := ovf p how neg V m && !inw how neg

theorem tl_exact {V t : Nat} (h : V % 10 ^ t = 0) : tl V false t = 0 := by unfold tl; rw [if_pos ⟨h, rfl⟩]
theorem grow_zero (how : Int) (neg : Bool) (q : Nat) : grow how neg q 0 = false := by unfold grow; split <;> simp
theorem lst_ge (p V : Nat) : 700 ≤ lst p V := Nat.le_max_right _ _
theorem rv_exact {p : Nat} {how : Int} {neg : Bool} {V : Nat} (h : V % 10 ^ lst p V = 0) : rv p how neg V false = V := by
  unfold rv rq
  rw [tl_exact h, grow_zero]
  have := Nat.div_add_mod V (10 ^ lst p V)
  rw [h, Nat.add_zero, Nat.mul_comm] at this
  simpa using this
theorem rv_zero (p : Nat) (how : Int) (neg : Bool) : rv p how neg 0 false = 0 := rv_exact (Nat.zero_mod _)

theorem scale_div (n j k : Nat) : n * 10 ^ j / 10 ^ (j + k) = n / 10 ^ k := by
  rw [Nat.add_comm, Nat.pow_add, Nat.mul_div_mul_right _ _ (p10 j)]
theorem scale_mod (n j k : Nat) : n * 10 ^ j % 10 ^ (j + k) = n % 10 ^ k * 10 ^ j := by
  rw [Nat.add_comm, Nat.pow_add, Nat.mul_mod_mul_right]
theorem tl_scale (n j k : Nat) (m : Bool) : tl (n * 10 ^ j) m (j + k) = tl n m k := by
  unfold tl
  rw [scale_mod, show (10 : Nat) ^ (j + k) = 10 ^ k * 10 ^ j by rw [Nat.add_comm, Nat.pow_add]]
  have hp := p10 j
  have h0 : n % 10 ^ k * 10 ^ j = 0 ↔ n % 10 ^ k = 0 := by
    constructor
    · intro h
      rcases Nat.mul_eq_zero.1 h with h | h
      · exact h
      · omega
    · intro h; rw [h, Nat.zero_mul]
  have h1 : 2 * (n % 10 ^ k * 10 ^ j) < 10 ^ k * 10 ^ j ↔ 2 * (n % 10 ^ k) < 10 ^ k := by
    rw [← Nat.mul_assoc]; exact Nat.mul_lt_mul_right hp
  have h2 : 2 * (n % 10 ^ k * 10 ^ j) = 10 ^ k * 10 ^ j ↔ 2 * (n % 10 ^ k) = 10 ^ k := by
    rw [← Nat.mul_assoc]; exact Nat.mul_right_cancel_iff hp
  simp only [h0, h1, h2]

/-- What a number n 10^j is rounded to, where k digits of n are left out. -/
theorem rv_cut {p n j k : Nat} {how : Int} {neg m : Bool} (h : lst p (n * 10 ^ j) = j + k) :
    rv p how neg (n * 10 ^ j) m = (n / 10 ^ k + if grow how neg (n / 10 ^ k) (tl n m k) = true then 1 else 0) * 10 ^ (j + k) := by
  unfold rv rq
  rw [h, scale_div, tl_scale]
theorem lst_mul {p n : Nat} (j : Nat) (h : n ≠ 0) : lst p (n * 10 ^ j) = max (dg n + j - p) 700 := by unfold lst; rw [dg_mul j h]
theorem rv_keep {p n j : Nat} {how : Int} {neg : Bool} (h : lst p (n * 10 ^ j) ≤ j) : rv p how neg (n * 10 ^ j) false = n * 10 ^ j := by
  apply rv_exact
  generalize lst p (n * 10 ^ j) = l at *
  obtain ⟨d, rfl⟩ := Nat.exists_eq_add_of_le h
  rw [Nat.add_comm, Nat.pow_add, ← Nat.mul_assoc]
  exact Nat.mul_mod_left _ _

/-- Rounding does not look at more than one digit behind the last one that is kept, and at whether something is left. -/
theorem rv_norm {p V j : Nat} {how : Int} {neg m : Bool} (h : p < dg (V / 10 ^ j)) :
    rv p how neg V m = rv p how neg (V / 10 ^ j * 10 ^ j) (m || decide (V % 10 ^ j ≠ 0)) := by
  have hd := dg_div V j
  have hW : V / 10 ^ j ≠ 0 := by intro h0; rw [h0, dg_zero] at h; omega
  have hl : lst p (V / 10 ^ j * 10 ^ j) = lst p V := by rw [lst_mul j hW]; unfold lst; rw [hd]; congr 1; omega
  have hj : j + 1 ≤ lst p V := by unfold lst; omega
  obtain ⟨k, hk⟩ := Nat.exists_eq_add_of_le hj
  have hk' : lst p V = j + (k + 1) := by omega
  have e1 : V / 10 ^ (j + (k + 1)) = V / 10 ^ j / 10 ^ (k + 1) := by rw [Nat.pow_add, Nat.div_div_eq_div_mul]
  have e2 : V % 10 ^ (j + (k + 1)) = V % 10 ^ j + 10 ^ j * (V / 10 ^ j % 10 ^ (k + 1)) := by rw [Nat.pow_add, Nat.mod_mul]
  have et : tl V m (j + (k + 1)) = tl (V / 10 ^ j) (m || decide (V % 10 ^ j ≠ 0)) (k + 1) := by
    unfold tl
    rw [e2, show (10 : Nat) ^ (j + (k + 1)) = 10 ^ j * (5 * 10 ^ k * 2) by rw [Nat.pow_add, Nat.pow_succ]; congr 1; omega, show (10 : Nat) ^ (k + 1) = 5 * 10 ^ k * 2 by rw [Nat.pow_succ]; omega]
    have hr := Nat.mod_lt V (p10 j)
    generalize V % 10 ^ j = r at *
    generalize V / 10 ^ j % (5 * 10 ^ k * 2) = a at *
    generalize 5 * 10 ^ k = H at *
    generalize 10 ^ j = B at *
    have eB : B * (H * 2) = 2 * (B * H) := by rw [← Nat.mul_assoc]; omega
    rcases Nat.lt_or_ge a H with ha | ha
    · have h1 : B * (a + 1) ≤ B * H := Nat.mul_le_mul_left _ ha
      rw [Nat.mul_add, Nat.mul_one] at h1
      have h2 : 2 * (r + B * a) < B * (H * 2) := by omega
      have h3 : 2 * a < H * 2 := by omega
      by_cases hz : r + B * a = 0 ∧ m = false
      · have ha0 : a = 0 := by
          rcases Nat.mul_eq_zero.1 (show B * a = 0 by omega) with h | h
          · omega
          · exact h
        rw [if_pos hz, if_pos]
        refine ⟨ha0, ?_⟩
        rw [hz.2]; simp; omega
      · rw [if_neg hz, if_pos h2]
        by_cases hz' : a = 0 ∧ (m || decide (r ≠ 0)) = false
        · exfalso
          simp at hz'
          exact hz ⟨by rw [hz'.1, hz'.2.2]; simp, hz'.2.1⟩
        · rw [if_neg hz', if_pos h3]
    · have h1 : B * H ≤ B * a := Nat.mul_le_mul_left _ ha
      have hH : 0 < H ∨ H = 0 := by omega
      have h2 : ¬ 2 * (r + B * a) < B * (H * 2) := by omega
      have h3 : ¬ 2 * a < H * 2 := by omega
      rw [if_neg h2, if_neg h3]
      by_cases hz : r + B * a = 0 ∧ m = false
      · have ha0 : a = 0 := by
          rcases Nat.mul_eq_zero.1 (show B * a = 0 by omega) with h | h
          · omega
          · exact h
        rw [if_pos hz, if_pos]
        refine ⟨ha0, ?_⟩
        rw [hz.2]; simp; omega
      · rw [if_neg hz]
        have hz' : ¬ (a = 0 ∧ (m || decide (r ≠ 0)) = false) := by
          intro hz'
          simp at hz'
          exact hz ⟨by rw [hz'.1, hz'.2.2]; simp, hz'.2.1⟩
        rw [if_neg hz']
        by_cases hq : 2 * (r + B * a) = B * (H * 2) ∧ m = false
        · rw [if_pos hq, if_pos]
          have hr0 : r = 0 := by omega
          have : B * a = B * H := by omega
          have := Nat.eq_of_mul_eq_mul_left (by omega : 0 < B) this
          refine ⟨by omega, ?_⟩
          rw [hq.2, hr0]; rfl
        · rw [if_neg hq, if_neg]
          intro hq'
          simp at hq'
          have : a = H := by omega
          subst this
          exact hq ⟨by rw [hq'.2.2]; omega, hq'.2.1⟩
  unfold rv rq
  rw [hl, hk', e1, et, scale_div, tl_scale]

/-- Bounds of a rounded number. -/
theorem rq_le (p : Nat) (how : Int) (neg : Bool) (V : Nat) (m : Bool) : rq p how neg V m ≤ 10 ^ p := by
  have h : V / 10 ^ lst p V < 10 ^ p := by
    rw [Nat.div_lt_iff_lt_mul (p10 _), ← Nat.pow_add]
    exact Nat.lt_of_lt_of_le (lt_dg V) (p10_le (by unfold lst; omega))
  unfold rq
  split <;> omega
theorem rv_le (p : Nat) (how : Int) (neg : Bool) (V : Nat) (m : Bool) : rv p how neg V m ≤ 10 ^ (p + lst p V) := by
  unfold rv
  rw [Nat.pow_add]
  exact Nat.mul_le_mul_right _ (rq_le ..)
theorem rv_ge {p V : Nat} {how : Int} {neg m : Bool} (h : 700 < lst p V) (hp : 1 ≤ p) : 10 ^ (p + lst p V - 1) ≤ rv p how neg V m := by
  have hd : dg V = p + lst p V := by unfold lst at *; omega
  have h0 : V ≠ 0 := by rintro rfl; rw [dg_zero] at hd; omega
  have h1 := dg_le h0
  rw [hd] at h1
  have h2 : 10 ^ (p - 1) ≤ V / 10 ^ lst p V := by
    rw [Nat.le_div_iff_mul_le (p10 _), ← Nat.pow_add]
    rwa [show p - 1 + lst p V = p + lst p V - 1 by omega]
  unfold rv rq
  rw [show p + lst p V - 1 = p - 1 + lst p V by omega, Nat.pow_add]
  exact Nat.mul_le_mul_right _ (by omega)
theorem grow_mono {how : Int} {neg : Bool} {q t t' : Nat} (h : t ≤ t') (ht' : t' ≤ 3) (hg : grow how neg q t = true) : grow how neg q t' = true := by
  unfold grow at *
  by_cases hh : how = 0
  · rw [if_pos hh] at *
    have := of_decide_eq_true hg
    exact decide_eq_true (by omega)
  · rw [if_neg hh] at *
    rw [Bool.and_eq_true] at *
    exact ⟨decide_eq_true (by have := of_decide_eq_true hg.1; omega), hg.2⟩
theorem tl_le (V : Nat) (m : Bool) (t : Nat) : tl V m t ≤ 3 := by unfold tl; repeat (split <;> try omega)
theorem tl_mono {V V' t : Nat} (h : V % 10 ^ t ≤ V' % 10 ^ t) : tl V false t ≤ tl V' false t := by
  unfold tl
  simp only [and_true]
  split
  · omega
  · rw [if_neg (by omega : ¬ V' % 10 ^ t = 0)]
    repeat (split <;> try omega)
theorem rv_mono {p V V' : Nat} {how : Int} {neg : Bool} (hp : 1 ≤ p) (h : V ≤ V') : rv p how neg V false ≤ rv p how neg V' false := by
  have hl : lst p V ≤ lst p V' := by have := dg_mono h; unfold lst; omega
  rcases Nat.lt_or_ge (lst p V) (lst p V') with hlt | hge
  · have h1 := rv_le p how neg V false
    have h2 := rv_ge (how := how) (neg := neg) (m := false) (show 700 < lst p V' by have := lst_ge p V; omega) hp
    exact Nat.le_trans h1 (Nat.le_trans (p10_le (by omega)) h2)
  · have he : lst p V' = lst p V := by omega
    unfold rv
    rw [he]
    apply Nat.mul_le_mul_right
    unfold rq
    rw [he]
    have hq := Nat.div_le_div_right (c := 10 ^ lst p V) h
    rcases Nat.lt_or_ge (V / 10 ^ lst p V) (V' / 10 ^ lst p V) with h1 | h1
    · split <;> split <;> omega
    · have h2 : V' / 10 ^ lst p V = V / 10 ^ lst p V := by omega
      have hm : V % 10 ^ lst p V ≤ V' % 10 ^ lst p V := by
        have a := Nat.div_add_mod V (10 ^ lst p V)
        have b := Nat.div_add_mod V' (10 ^ lst p V)
        rw [h2] at b
        omega
      rw [h2]
      by_cases hg : grow how neg (V / 10 ^ lst p V) (tl V false (lst p V)) = true
      · rw [if_pos hg, if_pos (grow_mono (tl_mono hm) (tl_le ..) hg)]; omega
      · rw [if_neg hg]; split <;> omega
end Go.Proofs.YtanfhlkfmmglhaaDoor
/- The carries of math/bits at this program's numbers. Conditions: the arguments are words of 64 bits. -/
namespace Go.Proofs.YtanfhlkfmmglhaaDoor
open Go.ChangeShapes Go.WideShapes Go.ChangeAt Go.RowKit

/-- The upper word of a number, and the lower one. -/
def hiW (n : Nat) : Nat := n / 18446744073709551616
def loW (n : Nat) : Nat := n % 18446744073709551616
theorem lo_lt (n : Nat) : loW n < 18446744073709551616 := Nat.mod_lt _ (by omega)
theorem hi_lt {n : Nat} (h : n < 340282366920938463463374607431768211456) : hiW n < 18446744073709551616 := by unfold hiW; omega

theorem add64 (x y c : Int) (hx : 0 ≤ x) (hy : 0 ≤ y) (hc0 : 0 ≤ c) (hc : c ≤ 1) (w : World) : (callFunc 91 #[.int .u64 x, .int .u64 y, .int .u64 c]).run Tryd.prog w =
    .ok (.value (.tuple #[.int .u64 ((x + y + c) % 18446744073709551616), .int .u64 ((x + y + c) / 18446744073709551616)])) w := by
  obtain ⟨x, rfl⟩ := Int.eq_ofNat_of_zero_le hx
  obtain ⟨y, rfl⟩ := Int.eq_ofNat_of_zero_le hy
  obtain ⟨c, rfl⟩ := Int.eq_ofNat_of_zero_le hc0
  refine (Any7.bits_Add64 Tryd.lays25 x y c (by omega) w).trans ?_
  congr 5 <;> omega
def bor (x y : Int) : Int := if x < y then 1 else 0
theorem sub64 (x y b : Int) (hx : 0 ≤ x) (hy : 0 ≤ y) (hy' : y < 18446744073709551616) (hb0 : 0 ≤ b) (hb : b ≤ 1) (w : World) : (callFunc 96 #[.int .u64 x, .int .u64 y, .int .u64 b]).run Tryd.prog w =
    .ok (.value (.tuple #[.int .u64 ((x - y - b) % 18446744073709551616), .int .u64 (bor x (y + b))])) w := by
  obtain ⟨x, rfl⟩ := Int.eq_ofNat_of_zero_le hx
  obtain ⟨y, rfl⟩ := Int.eq_ofNat_of_zero_le hy
  obtain ⟨b, rfl⟩ := Int.eq_ofNat_of_zero_le hb0
  have e1 : (((x + 18446744073709551616 - y - b) % 18446744073709551616 : Nat) : Int) = ((x : Int) - y - b) % 18446744073709551616 := by omega
  have e2 : ((if x < y + b then 1 else 0 : Nat) : Int) = bor (x : Int) (y + b) := by unfold bor; split <;> split <;> omega
  rw [← e1, ← e2]
  exact Any7.bits_Sub64 Tryd.lays26 x y b (by omega) w
theorem add64_0 (x y : Int) (hx : 0 ≤ x) (hy : 0 ≤ y) (w : World) : (callFunc 91 #[.int .u64 x, .int .u64 y, .int .u64 0]).run Tryd.prog w =
    .ok (.value (.tuple #[.int .u64 ((x + y) % 18446744073709551616), .int .u64 ((x + y) / 18446744073709551616)])) w := by
  simpa using add64 x y 0 hx hy (Int.le_refl 0) (by decide) w
theorem sub64_0 (x y : Int) (hx : 0 ≤ x) (hy : 0 ≤ y) (hy' : y < 18446744073709551616) (w : World) : (callFunc 96 #[.int .u64 x, .int .u64 y, .int .u64 0]).run Tryd.prog w =
    .ok (.value (.tuple #[.int .u64 ((x - y) % 18446744073709551616), .int .u64 (bor x y)])) w := by
  simpa using sub64 x y 0 hx hy hy' (Int.le_refl 0) (by decide) w
/-- The number that two words are. -/
theorem wide {h l n : Nat} (e : n = h * 18446744073709551616 + l) (hl : l < 18446744073709551616) : h = hiW n ∧ l = loW n := by unfold hiW loW; omega
theorem nat_eq (n : Nat) : n = hiW n * 18446744073709551616 + loW n := by unfold hiW loW; omega
theorem Tab.setCell {w : World} (h : Tab w) {p : Addr} (h1 : 0 < p.block) (h0 : 1 < p.block) (u : Value) : Tab (w.setCell p u) :=
  have b1 : Below (0 + 1) w (w.setCell p u) := (Below.refl _ _).setCell h1 u
  have b0 : Below (1 + 1) w (w.setCell p u) := (Below.refl _ _).setCell h0 u
  ⟨(b0.cell (Nat.lt_succ_self _)).trans h.p0, (b0.cell (Nat.lt_succ_self _)).trans h.p1, (b0.cell (Nat.lt_succ_self _)).trans h.p2, fun k hk => (b1.cell (Nat.lt_succ_self _)).trans (h.tens k hk)⟩
end Go.Proofs.YtanfhlkfmmglhaaDoor
/- Division of 128 bits by 64: the arithmetic of the school method in half words. No condition. -/
namespace Go.Proofs.YtanfhlkfmmglhaaDoor

theorem bitLenAux_spec (f x : Nat) (h : x < 2 ^ f) : x < 2 ^ Lib.bitLenAux f x ∧ (x ≠ 0 → 2 ^ (Lib.bitLenAux f x - 1) ≤ x) ∧ Lib.bitLenAux f x ≤ f ∧ (x ≠ 0 → 1 ≤ Lib.bitLenAux f x) := by
  induction f generalizing x with
  | zero =>
    have : x = 0 := by simp at h; omega
    subst this
    simp [Lib.bitLenAux]
  | succ f ih =>
    unfold Lib.bitLenAux
    by_cases h0 : x = 0
    · subst h0; simp
    · rw [if_neg h0]
      obtain ⟨a, b, c, d⟩ := ih (x / 2) (by rw [Nat.pow_succ] at h; omega)
      refine ⟨?_, fun _ => ?_, by omega, fun _ => by omega⟩
      · rw [Nat.add_comm, Nat.pow_succ]; omega
      · by_cases h1 : x / 2 = 0
        · have e : Lib.bitLenAux f (x / 2) = 0 := by
            rcases Nat.eq_zero_or_pos (Lib.bitLenAux f (x / 2)) with h2 | h2
            · exact h2
            · cases f with
              | zero => simp [Lib.bitLenAux]
              | succ f => rw [h1]; simp [Lib.bitLenAux]
          rw [e]; simp; omega
        · have b1 := b h1
          have d1 := d h1
          obtain ⟨k, hk⟩ := Nat.exists_eq_succ_of_ne_zero (show Lib.bitLenAux f (x / 2) ≠ 0 by omega)
          rw [hk] at b1 ⊢
          rw [show 1 + k.succ - 1 = k.succ by omega, Nat.pow_succ]
          rw [Nat.succ_sub_one] at b1
          omega
/-- The shift that brings a divisor's first bit to the front. -/
def nz (y : Nat) : Nat := 64 - Lib.bitLen y
theorem nz_spec (y : Nat) (h0 : 0 < y) (h : y < 18446744073709551616) : y * 2 ^ nz y < 18446744073709551616 ∧ 9223372036854775808 ≤ y * 2 ^ nz y ∧ nz y < 64 := by
  obtain ⟨a, b, c, d⟩ := bitLenAux_spec 64 y (by simpa using h)
  have b := b (by omega)
  have d := d (by omega)
  unfold nz
  change y < 2 ^ Lib.bitLen y at a
  change 2 ^ (Lib.bitLen y - 1) ≤ y at b
  change Lib.bitLen y ≤ 64 at c
  change 1 ≤ Lib.bitLen y at d
  generalize Lib.bitLen y = k at *
  refine ⟨?_, ?_, by omega⟩
  · have : y * 2 ^ (64 - k) < 2 ^ k * 2 ^ (64 - k) := Nat.mul_lt_mul_of_pos_right a (Nat.pow_pos (by omega))
    rwa [← Nat.pow_add, show k + (64 - k) = 64 by omega] at this
  · have : 2 ^ (k - 1) * 2 ^ (64 - k) ≤ y * 2 ^ (64 - k) := Nat.mul_le_mul_right _ b
    rwa [← Nat.pow_add, show k - 1 + (64 - k) = 63 by omega] at this

/-- A digit's estimate as the loop has it: at least the digit, and what is left of it by the divisor's upper half. -/
structure Est (u v y1 y0 q r : Nat) : Prop where
  hy1 : 2147483648 ≤ y1
  hy0 : y0 < 4294967296
  hv : v < 4294967296
  hu : u < y1 * 4294967296 + y0
  big : (u * 4294967296 + v) / (y1 * 4294967296 + y0) ≤ q
  sum : u = q * y1 + r
  top : q ≤ 4294967297

theorem est_start {u v y1 y0 : Nat} (hy1 : 2147483648 ≤ y1) (hy1' : y1 < 4294967296) (hy0 : y0 < 4294967296) (hv : v < 4294967296) (hu : u < y1 * 4294967296 + y0) :
    Est u v y1 y0 (u / y1) (u - u / y1 * y1) ∧ u - u / y1 * y1 < 4294967296 := by
  have hd := Nat.div_add_mod u y1
  have hm := Nat.mod_lt u (show 0 < y1 by omega)
  rw [Nat.mul_comm] at hd
  refine ⟨⟨hy1, hy0, hv, hu, ?_, by omega, ?_⟩, by omega⟩
  · have h : (u * 4294967296 + v) / (y1 * 4294967296 + y0) ≤ (u * 4294967296 + v) / (y1 * 4294967296) := Nat.div_le_div_left (by omega) (by omega)
    refine Nat.le_trans h ?_
    rw [Nat.mul_comm y1, ← Nat.div_div_eq_div_mul, show (u * 4294967296 + v) / 4294967296 = u by omega]
    exact Nat.le_refl _
  · rw [← Nat.lt_succ_iff, Nat.div_lt_iff_lt_mul (by omega)]
    have : Nat.succ 4294967297 * y1 = 4294967298 * y1 := rfl
    omega

/-- The loop's test says whether the estimate is too great. -/
theorem est_test {u v y1 y0 q r : Nat} (h : Est u v y1 y0 q r) : (r * 4294967296 + v < q * y0 ↔ (u * 4294967296 + v) / (y1 * 4294967296 + y0) < q) := by
  have hY : 0 < y1 * 4294967296 + y0 := by have := h.hy1; omega
  rw [Nat.div_lt_iff_lt_mul hY, Nat.mul_add, ← Nat.mul_assoc]
  have := h.sum
  generalize q * y1 = a at *
  generalize q * y0 = b at *
  omega
theorem est_digit {u v y1 y0 q r : Nat} (h : Est u v y1 y0 q r) : (u * 4294967296 + v) / (y1 * 4294967296 + y0) < 4294967296 := by
  have hY : 0 < y1 * 4294967296 + y0 := by have := h.hy1; omega
  rw [Nat.div_lt_iff_lt_mul hY]
  have := h.hu
  have := h.hv
  omega
theorem est_down {u v y1 y0 q r : Nat} (h : Est u v y1 y0 q r) (hq : (u * 4294967296 + v) / (y1 * 4294967296 + y0) < q) : Est u v y1 y0 (q - 1) (r + y1) := by
  have := h.sum
  have hs : q * y1 = (q - 1) * y1 + y1 := by
    obtain ⟨k, rfl⟩ := Nat.exists_eq_succ_of_ne_zero (Nat.ne_of_gt (Nat.lt_of_le_of_lt (Nat.zero_le _) hq))
    rw [Nat.succ_mul, Nat.succ_sub_one]
  exact ⟨h.hy1, h.hy0, h.hv, h.hu, Nat.le_sub_one_of_lt hq, by omega, by have := h.top; omega⟩
/-- Where the loop breaks off, the estimate is the digit. -/
theorem est_break {u v y1 y0 q r : Nat} (h : Est u v y1 y0 q r) (hq : q ≤ 4294967296) (hr : 4294967296 ≤ r) : q = (u * 4294967296 + v) / (y1 * 4294967296 + y0) := by
  apply Nat.le_antisymm _ h.big
  have hY : 0 < y1 * 4294967296 + y0 := by have := h.hy1; omega
  rw [Nat.le_div_iff_mul_le hY, Nat.mul_add, ← Nat.mul_assoc]
  have h0 : q * y0 ≤ 4294967296 * y0 := Nat.mul_le_mul_right _ hq
  have := h.sum
  have := h.hy0
  generalize q * y1 = a at *
  generalize q * y0 = b at *
  omega
/-- What is left of a digit is below the divisor; it is what the wrapped difference gives. -/
theorem est_left (u v Y : Nat) (hY : Y < 18446744073709551616) (h0 : 0 < Y) :
    (u * 4294967296 + v) % Y = ((u * 4294967296 + v) % 18446744073709551616 + 18446744073709551616 - (u * 4294967296 + v) / Y * Y % 18446744073709551616) % 18446744073709551616 := by
  have hd := Nat.div_add_mod (u * 4294967296 + v) Y
  have hm := Nat.mod_lt (u * 4294967296 + v) h0
  rw [Nat.mul_comm] at hd
  generalize (u * 4294967296 + v) / Y * Y = a at *
  generalize (u * 4294967296 + v) % Y = b at *
  omega
/-- Two digits make the quotient. -/
theorem two_digits (u v0 v1 Y : Nat) (h0 : 0 < Y) :
    (u * 4294967296 + v1) / Y * 4294967296 + ((u * 4294967296 + v1) % Y * 4294967296 + v0) / Y = ((u * 4294967296 + v1) * 4294967296 + v0) / Y ∧
    ((u * 4294967296 + v1) % Y * 4294967296 + v0) % Y = ((u * 4294967296 + v1) * 4294967296 + v0) % Y := by
  have key : ∀ N B a b : Nat, Y * a + b = N → a * B + (b * B + v0) / Y = (N * B + v0) / Y ∧ (b * B + v0) % Y = (N * B + v0) % Y := by
    intro N B a b h
    have e : N * B + v0 = b * B + v0 + Y * (a * B) := by rw [← h, Nat.add_mul, Nat.mul_assoc]; omega
    have f1 := Nat.add_mul_div_left (b * B + v0) (a * B) h0
    have f2 := Nat.add_mul_mod_self_left (b * B + v0) Y (a * B)
    rw [← e] at f1 f2
    exact ⟨by rw [f1, Nat.add_comm], f2.symm⟩
  exact key _ _ _ _ (Nat.div_add_mod (u * 4294967296 + v1) Y)
/-- Both numbers times one factor: the same quotient, the remainder times the factor. -/
theorem scaled (a y p : Nat) (hp : 0 < p) : a * p / (y * p) = a / y ∧ a * p % (y * p) / p = a % y := by
  refine ⟨Nat.mul_div_mul_right _ _ hp, ?_⟩
  rw [Nat.mul_mod_mul_right, Nat.mul_div_cancel _ hp]
end Go.Proofs.YtanfhlkfmmglhaaDoor
/- math/bits.Div64 at this program: quotient and remainder. Condition: the high word is below the divisor. -/
namespace Go.Proofs.YtanfhlkfmmglhaaDoor
open Go.ChangeShapes Go.WideShapes Go.ChangeAt Go.RowKit

set_option maxRecDepth 100000 in
set_option maxHeartbeats 1000000 in
theorem div64_low (l y : Nat) (w : World) (hl : l < 18446744073709551616) (hy : y < 18446744073709551616) (h0 : 0 < y) :
    Calls Tryd.prog 93 #[.int .u64 0, .int .u64 (l : Int), .int .u64 (y : Int)] w fun e w' => e = .returned (.tuple #[.int .u64 ((l / y : Nat) : Int), .int .u64 ((l % y : Nat) : Int)]) ∧ ∃ n, w' = w.drewN n := by
  have hy1 : ¬ (y : Int) = 0 := by omega
  have hy2 : (0 : Int) < (y : Int) := by omega
  have hq : (l : Int) / (y : Int) = ((l / y : Nat) : Int) := by omega
  have hq2 : l / y < 18446744073709551616 := Nat.lt_of_le_of_lt (Nat.div_le_self _ _) hl
  have hr : (l : Int) % (y : Int) = ((l % y : Nat) : Int) := by omega
  generalize l / y = q at *
  generalize l % y = r at *
  go_enter Tryd.func93, Tryd.ntmps93
  go_wp2
  go_quiet (fail)
  go_wp2
  go_returns
  exact ⟨by simpa using hr, _, rfl⟩

/-- The estimate, over integers. -/
def EI (u v y1 y0 q r : Int) : Prop := (0 ≤ u ∧ 0 ≤ v ∧ 0 ≤ y1 ∧ 0 ≤ y0 ∧ 0 ≤ q ∧ 0 ≤ r) ∧ r < 4294967296 ∧ Est u.toNat v.toNat y1.toNat y0.toNat q.toNat r.toNat
/-- The digit. -/
def dgt (u v y1 y0 : Int) : Int := (u * 4294967296 + v) / (y1 * 4294967296 + y0)
theorem EI.nat {u v y1 y0 q r : Int} (h : EI u v y1 y0 q r) : ∃ u' v' y1' y0' q' r' : Nat, u = u' ∧ v = v' ∧ y1 = y1' ∧ y0 = y0' ∧ q = q' ∧ r = r' ∧ r' < 4294967296 ∧ Est u' v' y1' y0' q' r' :=
  ⟨u.toNat, v.toNat, y1.toNat, y0.toNat, q.toNat, r.toNat, by have := h.1; omega, by have := h.1; omega, by have := h.1; omega, by have := h.1; omega, by have := h.1; omega, by have := h.1; omega, by have := h.2.1; omega, h.2.2⟩
theorem EI.mk {u v y1 y0 q r : Nat} (h : Est u v y1 y0 q r) (hr : r < 4294967296) : EI u v y1 y0 q r :=
  ⟨⟨by omega, by omega, by omega, by omega, by omega, by omega⟩, by omega, by simpa using h⟩
theorem EI.facts {u v y1 y0 q r : Int} (h : EI u v y1 y0 q r) : (0 ≤ q ∧ q ≤ 4294967297) ∧ (0 ≤ r ∧ r < 4294967296) ∧ (0 ≤ v ∧ v < 4294967296) ∧ (2147483648 ≤ y1) ∧ (0 ≤ y0 ∧ y0 < 4294967296) := by
  obtain ⟨u, v, y1, y0, q, r, rfl, rfl, rfl, rfl, rfl, rfl, c, d⟩ := h.nat
  have := d.top; have := d.hv; have := d.hy1; have := d.hy0
  omega
theorem EI.prod {u v y1 y0 q r : Int} (h : EI u v y1 y0 q r) (hq : q < 4294967296) : 0 ≤ q * y0 ∧ q * y0 ≤ 18446744073709551615 := by
  obtain ⟨u, v, y1, y0, q, r, rfl, rfl, rfl, rfl, rfl, rfl, c, d⟩ := h.nat
  have := Nat.mul_le_mul (show q ≤ 4294967295 by omega) (show y0 ≤ 4294967295 by have := d.hy0; omega)
  rw [← Int.natCast_mul]
  omega
theorem dgt_nat (u v y1 y0 : Nat) : dgt u v y1 y0 = (((u * 4294967296 + v) / (y1 * 4294967296 + y0) : Nat) : Int) := by unfold dgt; simp
theorem EI.down {u v y1 y0 q r : Int} (h : EI u v y1 y0 q r) (ht : 4294967296 ≤ q ∨ 4294967296 * r + v < q * y0) : 1 ≤ q ∧ (r + y1 < 4294967296 → EI u v y1 y0 (q - 1) (r + y1)) ∧
    (4294967296 ≤ r + y1 → q - 1 = dgt u v y1 y0) := by
  obtain ⟨u, v, y1, y0, q, r, rfl, rfl, rfl, rfl, rfl, rfl, c, d⟩ := h.nat
  rw [dgt_nat]
  have hq : (u * 4294967296 + v) / (y1 * 4294967296 + y0) < q := by
    rcases ht with ht | ht
    · exact Nat.lt_of_lt_of_le (est_digit d) (by omega)
    · exact (est_test d).1 (by rw [← Int.natCast_mul] at ht; omega)
  have h1 : 1 ≤ q := Nat.lt_of_le_of_lt (Nat.zero_le _) hq
  have hd := est_down d hq
  have e1 : ((q : Int) - 1) = ((q - 1 : Nat) : Int) := by omega
  have e2 : ((r : Int) + y1) = ((r + y1 : Nat) : Int) := by omega
  refine ⟨by omega, fun h2 => ?_, fun h2 => ?_⟩
  · rw [e1, e2]; exact EI.mk hd (by omega)
  · rw [← est_break hd (by have := d.top; omega) (by omega)]
    omega
theorem EI.stop {u v y1 y0 q r : Int} (h : EI u v y1 y0 q r) (ht : ¬ 4294967296 * r + v < q * y0) : q = dgt u v y1 y0 := by
  obtain ⟨u, v, y1, y0, q, r, rfl, rfl, rfl, rfl, rfl, rfl, c, d⟩ := h.nat
  rw [dgt_nat]
  have h1 : ¬ (u * 4294967296 + v) / (y1 * 4294967296 + y0) < q := fun h => ht (by have := (est_test d).2 h; rw [← Int.natCast_mul]; omega)
  have h2 := d.big
  congr 1
  exact Nat.le_antisymm h2 (Nat.le_of_not_lt h1) |>.symm

set_option maxRecDepth 100000 in
set_option maxHeartbeats 4000000 in
theorem div64_core (h l y s : Nat) (Y y1 y0 H U Lw v1 v0 q r D A Bq u1 q' r' D2 A2 B2 u2 Q R : Int) (w : World) (_hl : l < 18446744073709551616) (hy : y < 18446744073709551616) (h0 : 0 < h) (hh : h < y) (hs : s < 64)
    (hz : Lib.bitLen y = 64 - s) (eY : IntKind.u64.wrap ((y : Int) * 2 ^ s) = Y) (ey1 : Y / 4294967296 = y1) (ey0 : bits .and .u64 Y 4294967295 = y0)
    (eH : IntKind.u64.wrap ((h : Int) * 2 ^ s) = H) (eU : bits .or .u64 H ((l : Int) / 2 ^ (64 - s)) = U) (eL : IntKind.u64.wrap ((l : Int) * 2 ^ s) = Lw)
    (ev1 : Lw / 4294967296 = v1) (ev0 : bits .and .u64 Lw 4294967295 = v0) (eq1 : U / y1 = q) (er1 : U - q * y1 = r)
    (_bY0 : 0 ≤ Y) (_bY : Y < 18446744073709551616) (by1 : 0 < y1) (by2 : y1 < 4294967296) (bU0 : 0 ≤ U) (bU : U < 18446744073709551616) (bq : q * y1 ≤ 18446744073709551615) (bq0 : 0 ≤ q * y1) (_bL0 : 0 ≤ Lw) (_bL : Lw < 18446744073709551616) (_bq1 : 0 ≤ q) (_bq2 : q < 18446744073709551616) (hE : EI U v1 y1 y0 q r)
    (hD : Hid (D = dgt U v1 y1 y0)) (bD0 : 0 ≤ D) (bD : D < 4294967296) (eA : IntKind.u64.wrap (U * 4294967296) = A) (bA0 : 0 ≤ A) (bA : A + v1 < 18446744073709551616) (eB : IntKind.u64.wrap (D * Y) = Bq) (e1 : IntKind.u64.wrap (A + v1 - Bq) = u1)
    (bu0 : 0 ≤ u1) (bu : u1 < 18446744073709551616) (eq2 : u1 / y1 = q') (er2 : u1 - q' * y1 = r') (bqy : q' * y1 ≤ 18446744073709551615) (bqy0 : 0 ≤ q' * y1) (_bq21 : 0 ≤ q') (_bq22 : q' < 18446744073709551616) (hG : Hid (EI u1 v0 y1 y0 q' r'))
    (hD2 : Hid (D2 = dgt u1 v0 y1 y0)) (bD20 : 0 ≤ D2) (bD2 : D2 < 4294967296) (eA2 : IntKind.u64.wrap (u1 * 4294967296) = A2) (bA20 : 0 ≤ A2) (bA2 : A2 + v0 < 18446744073709551616) (eB2 : IntKind.u64.wrap (D2 * Y) = B2) (e2 : IntKind.u64.wrap (A2 + v0 - B2) = u2)
    (_bu20 : 0 ≤ u2) (_bu2 : u2 < 18446744073709551616)
    (hEnd : Hid (Ending.returned (.tuple #[.int .u64 (D * 4294967296 + D2), .int .u64 (u2 / 2 ^ s)]) = .returned (.tuple #[.int .u64 Q, .int .u64 R]))) :
    Calls Tryd.prog 93 #[.int .u64 (h : Int), .int .u64 (l : Int), .int .u64 (y : Int)] w fun e w' => e = .returned (.tuple #[.int .u64 Q, .int .u64 R]) ∧ w = w' := by
  have hy1 : ¬ (y : Int) = 0 := by omega
  have hy2 : ¬ (h : Int) = 0 := by omega
  have hy3 : ¬ y ≤ h := by omega
  have hy4 : ¬ y1 = 0 := by omega
  have hsz : (64 : Int) - (Lib.bitLen y : Int) = (s : Int) := by omega
  obtain ⟨⟨g1, g2⟩, ⟨g3, g4⟩, ⟨g5, g6⟩, g7, g8, g9⟩ := hE.facts
  obtain ⟨_, _, ⟨g10, g11⟩, _⟩ := hG.out.facts
  have hF := Lib.hid hE
  clear hz hE
  go_enter Tryd.func93, Tryd.ntmps93
  go_wp2_with (go_at_call 97; refine (Tryd.bits_LeadingZeros64 (y : Int) _ (by omega) (by omega)).mono ?_; rintro e w1 ⟨rfl, rfl⟩; simp only [Int.toNat_natCast, hsz])
  go_loop [15, 16] (fun t u => ∃ q r : Int, t = .int .u64 q ∧ u = .int .u64 r ∧ EI U v1 y1 y0 q r) (fun t _ => (intOf t).toNat)
  case atStart => rw [eq1]; exact ⟨q, r, rfl, rfl, hF.out⟩
  case round =>
    clear eq1 er1 bq bq0 eU eL eH eY _bq1 _bq2 hF _hl hy ev1 ev0 ey1 ey0 g1 g2 g3 g4
    obtain ⟨q, r, rfl, rfl, hX⟩ := hrel
    obtain ⟨⟨g1, g2⟩, ⟨g3, g4⟩, _⟩ := hX.facts
    have hX := Lib.hid hX
    by_cases hq : 4294967296 ≤ q
    · obtain ⟨k1, k2, k3⟩ := hX.out.down (.inl hq)
      rw [← hD.out] at k3
      by_cases hb : 4294967296 ≤ r + y1
      · have eD := k3 hb
        clear k2 k3
        go_wp2
        clear hX
        go_loop [18, 16] (fun t u => ∃ q r : Int, t = .int .u64 q ∧ u = .int .u64 r ∧ EI u1 v0 y1 y0 q r) (fun t _ => (intOf t).toNat)
        case atStart => exact ⟨_, _, rfl, rfl, hG.out⟩
        case round =>
          clear eq2 er2 bqy bqy0 _bq21 _bq22
          obtain ⟨q, r, rfl, rfl, hX⟩ := hrel
          obtain ⟨⟨g1, g2⟩, ⟨g3, g4⟩, _⟩ := hX.facts
          have hX := Lib.hid hX
          by_cases hq : 4294967296 ≤ q
          · obtain ⟨k1, k2, k3⟩ := hX.out.down (.inl hq)
            rw [← hD2.out] at k3
            by_cases hb : 4294967296 ≤ r + y1
            · have eD := k3 hb
              clear k2 k3
              go_wp2
              go_returns
              exact ⟨hEnd.out, rfl⟩
            · have k4 := k2 (by omega)
              clear k2 k3
              go_wp2
              go_round
              case rel => exact ⟨_, _, rfl, rfl, k4⟩
              case measure => simp [intOf]; omega
          · have hq2 : q < 4294967296 := by omega
            obtain ⟨c1, c2⟩ := hX.out.prod hq2
            clear hq2
            by_cases ht : 4294967296 * r + v0 < q * y0
            · obtain ⟨k1, k2, k3⟩ := hX.out.down (.inr ht)
              rw [← hD2.out] at k3
              by_cases hb : 4294967296 ≤ r + y1
              · have eD := k3 hb
                clear k2 k3
                go_wp2
                go_returns
                exact ⟨hEnd.out, rfl⟩
              · have k4 := k2 (by omega)
                clear k2 k3
                go_wp2
                go_round
                case rel => exact ⟨_, _, rfl, rfl, k4⟩
                case measure => simp [intOf]; omega
            · have eD : q = D2 := (hX.out.stop ht).trans hD2.out.symm
              subst eD
              go_wp2
              go_returns
              exact ⟨hEnd.out, rfl⟩
      · have k4 := k2 (by omega)
        clear k2 k3
        go_wp2
        go_round
        case rel => exact ⟨_, _, rfl, rfl, k4⟩
        case measure => simp [intOf]; omega
    · have hq2 : q < 4294967296 := by omega
      obtain ⟨c1, c2⟩ := hX.out.prod hq2
      clear hq2
      by_cases ht : 4294967296 * r + v1 < q * y0
      · obtain ⟨k1, k2, k3⟩ := hX.out.down (.inr ht)
        rw [← hD.out] at k3
        by_cases hb : 4294967296 ≤ r + y1
        · have eD := k3 hb
          clear k2 k3
          go_wp2
          clear hX
          go_loop [18, 16] (fun t u => ∃ q r : Int, t = .int .u64 q ∧ u = .int .u64 r ∧ EI u1 v0 y1 y0 q r) (fun t _ => (intOf t).toNat)
          case atStart => exact ⟨_, _, rfl, rfl, hG.out⟩
          case round =>
            clear eq2 er2 bqy bqy0 _bq21 _bq22
            obtain ⟨q, r, rfl, rfl, hX⟩ := hrel
            obtain ⟨⟨g1, g2⟩, ⟨g3, g4⟩, _⟩ := hX.facts
            have hX := Lib.hid hX
            by_cases hq : 4294967296 ≤ q
            · obtain ⟨k1, k2, k3⟩ := hX.out.down (.inl hq)
              rw [← hD2.out] at k3
              by_cases hb : 4294967296 ≤ r + y1
              · have eD := k3 hb
                clear k2 k3
                go_wp2
                go_returns
                exact ⟨hEnd.out, rfl⟩
              · have k4 := k2 (by omega)
                clear k2 k3
                go_wp2
                go_round
                case rel => exact ⟨_, _, rfl, rfl, k4⟩
                case measure => simp [intOf]; omega
            · have hq2 : q < 4294967296 := by omega
              obtain ⟨c1, c2⟩ := hX.out.prod hq2
              clear hq2
              by_cases ht : 4294967296 * r + v0 < q * y0
              · obtain ⟨k1, k2, k3⟩ := hX.out.down (.inr ht)
                rw [← hD2.out] at k3
                by_cases hb : 4294967296 ≤ r + y1
                · have eD := k3 hb
                  clear k2 k3
                  go_wp2
                  go_returns
                  exact ⟨hEnd.out, rfl⟩
                · have k4 := k2 (by omega)
                  clear k2 k3
                  go_wp2
                  go_round
                  case rel => exact ⟨_, _, rfl, rfl, k4⟩
                  case measure => simp [intOf]; omega
              · have eD : q = D2 := (hX.out.stop ht).trans hD2.out.symm
                subst eD
                go_wp2
                go_returns
                exact ⟨hEnd.out, rfl⟩
        · have k4 := k2 (by omega)
          clear k2 k3
          go_wp2
          go_round
          case rel => exact ⟨_, _, rfl, rfl, k4⟩
          case measure => simp [intOf]; omega
      · have eD : q = D := (hX.out.stop ht).trans hD.out.symm
        subst eD
        clear hX
        go_wp2
        go_loop [18, 16] (fun t u => ∃ q r : Int, t = .int .u64 q ∧ u = .int .u64 r ∧ EI u1 v0 y1 y0 q r) (fun t _ => (intOf t).toNat)
        case atStart => exact ⟨_, _, rfl, rfl, hG.out⟩
        case round =>
          clear eq2 er2 bqy bqy0 _bq21 _bq22
          obtain ⟨q, r, rfl, rfl, hX⟩ := hrel
          obtain ⟨⟨g1, g2⟩, ⟨g3, g4⟩, _⟩ := hX.facts
          have hX := Lib.hid hX
          by_cases hq : 4294967296 ≤ q
          · obtain ⟨k1, k2, k3⟩ := hX.out.down (.inl hq)
            rw [← hD2.out] at k3
            by_cases hb : 4294967296 ≤ r + y1
            · have eD := k3 hb
              clear k2 k3
              go_wp2
              go_returns
              exact ⟨hEnd.out, rfl⟩
            · have k4 := k2 (by omega)
              clear k2 k3
              go_wp2
              go_round
              case rel => exact ⟨_, _, rfl, rfl, k4⟩
              case measure => simp [intOf]; omega
          · have hq2 : q < 4294967296 := by omega
            obtain ⟨c1, c2⟩ := hX.out.prod hq2
            clear hq2
            by_cases ht : 4294967296 * r + v0 < q * y0
            · obtain ⟨k1, k2, k3⟩ := hX.out.down (.inr ht)
              rw [← hD2.out] at k3
              by_cases hb : 4294967296 ≤ r + y1
              · have eD := k3 hb
                clear k2 k3
                go_wp2
                go_returns
                exact ⟨hEnd.out, rfl⟩
              · have k4 := k2 (by omega)
                clear k2 k3
                go_wp2
                go_round
                case rel => exact ⟨_, _, rfl, rfl, k4⟩
                case measure => simp [intOf]; omega
            · have eD : q = D2 := (hX.out.stop ht).trans hD2.out.symm
              subst eD
              go_wp2
              go_returns
              exact ⟨hEnd.out, rfl⟩
end Go.Proofs.YtanfhlkfmmglhaaDoor
/- math/bits.Div64 at this program returns quotient and remainder. Condition: the high word is below the divisor (else Go panics). -/
namespace Go.Proofs.YtanfhlkfmmglhaaDoor
open Go.ChangeShapes Go.WideShapes Go.ChangeAt Go.RowKit

theorem end_eq {a b c d : Int} (h1 : a = c) (h2 : b = d) : Ending.returned (.tuple #[.int .u64 a, .int .u64 b]) = .returned (.tuple #[.int .u64 c, .int .u64 d]) := by rw [h1, h2]
theorem wrapM (a : Nat) : IntKind.u64.wrap (a : Int) = ((a % 18446744073709551616 : Nat) : Int) := by rw [IntKind.wrap_u64]; omega
theorem left_wrap (X B Y : Nat) (hY : Y < 18446744073709551616) (h0 : 0 < Y) (hB : B = X / Y * Y % 18446744073709551616) : IntKind.u64.wrap (((X % 18446744073709551616 : Nat) : Int) - (B : Int)) = ((X % Y : Nat) : Int) := by
  have hd := Nat.div_add_mod X Y
  have hm := Nat.mod_lt X h0
  rw [Nat.mul_comm] at hd
  rw [IntKind.wrap_u64]
  subst hB
  generalize X / Y * Y = a at *
  generalize X % Y = b at *
  omega

theorem half_split (x : Nat) : x / 4294967296 * 4294967296 + x % 4294967296 = x := by omega
theorem join_two (U v1 v0 Lw X1 : Nat) (h1 : X1 = U * 4294967296 + v1) (h2 : v1 * 4294967296 + v0 = Lw) : U * 18446744073709551616 + Lw = X1 * 4294967296 + v0 := by
  rw [h1, Nat.add_mul, Nat.mul_assoc, Nat.add_assoc, h2]

theorem div64_pos (h l y : Nat) (w : World) (hl : l < 18446744073709551616) (hy : y < 18446744073709551616) (h0 : 0 < h) (hh : h < y) :
    Calls Tryd.prog 93 #[.int .u64 (h : Int), .int .u64 (l : Int), .int .u64 (y : Int)] w fun e w' => e = .returned (.tuple #[.int .u64 (((h * 18446744073709551616 + l) / y : Nat) : Int), .int .u64 (((h * 18446744073709551616 + l) % y : Nat) : Int)]) ∧ w = w' := by
  obtain ⟨n1, n2, n3⟩ := nz_spec y (by omega) hy
  have hz : Lib.bitLen y = 64 - nz y := by have := (bitLenAux_spec 64 y (by simpa using hy)).2.2.1; unfold nz; change Lib.bitLen y ≤ 64 at this; omega
  generalize nz y = s at *
  have hP : 0 < 2 ^ s := Nat.pow_pos (by omega)
  have hPQ : 2 ^ (64 - s) * 2 ^ s = 18446744073709551616 := by rw [← Nat.pow_add, show 64 - s + s = 64 by omega]
  have hH : h * 2 ^ s + 2 ^ s ≤ y * 2 ^ s := by have := Nat.mul_le_mul_right (2 ^ s) hh; rwa [Nat.succ_mul] at this
  have hlq : l / 2 ^ (64 - s) < 2 ^ s := by rw [Nat.div_lt_iff_lt_mul (Nat.pow_pos (by omega)), Nat.mul_comm, hPQ]; exact hl
  have hsplit : l * 2 ^ s = l / 2 ^ (64 - s) * 18446744073709551616 + l * 2 ^ s % 18446744073709551616 := by
    have := Nat.div_add_mod (l * 2 ^ s) 18446744073709551616
    rw [← hPQ, Nat.mul_div_mul_right _ _ hP, Nat.mul_comm _ (l / _), hPQ] at this
    exact this.symm
  have hor : h * 2 ^ s ||| l / 2 ^ (64 - s) = h * 2 ^ s + l / 2 ^ (64 - s) := by rw [Nat.mul_comm]; exact (Nat.two_pow_add_eq_or_of_lt hlq h).symm
  have hU : (h * 18446744073709551616 + l) * 2 ^ s = (h * 2 ^ s + l / 2 ^ (64 - s)) * 18446744073709551616 + l * 2 ^ s % 18446744073709551616 := by
    rw [Nat.add_mul, Nat.add_mul, Nat.mul_right_comm]; omega
  have hL := Nat.mod_lt (l * 2 ^ s) (show 0 < 18446744073709551616 by omega)
  have hdiv := scaled (h * 18446744073709551616 + l) y (2 ^ s) hP
  rw [hU] at hdiv
  generalize hYe : y * 2 ^ s = Y at *
  generalize hHe : h * 2 ^ s = H at *
  generalize hle : l / 2 ^ (64 - s) = lq at *
  generalize hLe : l * 2 ^ s % 18446744073709551616 = Lw at *
  obtain ⟨y1, hy1⟩ : ∃ y1, y1 = Y / 4294967296 := ⟨_, rfl⟩
  obtain ⟨y0, hy0⟩ : ∃ y0, y0 = Y % 4294967296 := ⟨_, rfl⟩
  obtain ⟨v1, hv1⟩ : ∃ v1, v1 = Lw / 4294967296 := ⟨_, rfl⟩
  obtain ⟨v0, hv0⟩ : ∃ v0, v0 = Lw % 4294967296 := ⟨_, rfl⟩
  obtain ⟨U, hUe⟩ : ∃ U, U = H + lq := ⟨_, rfl⟩
  have hY0 : 0 < Y := by omega
  have hYs : y1 * 4294967296 + y0 = Y := by omega
  obtain ⟨E1, R1⟩ := est_start (u := U) (v := v1) (y1 := y1) (y0 := y0) (by omega) (by omega) (by omega) (by omega) (by omega)
  have hdg := est_digit E1
  have td := two_digits U v0 v1 Y hY0
  rw [hYs] at hdg
  have hm1 := Nat.mod_lt (U * 4294967296 + v1) hY0
  have lw1 := left_wrap (U * 4294967296 + v1) _ Y n1 hY0 rfl
  obtain ⟨X1, hX1⟩ : ∃ X1, X1 = U * 4294967296 + v1 := ⟨_, rfl⟩
  rw [← hX1] at td hdg hm1 lw1
  obtain ⟨D, hD⟩ : ∃ D, D = X1 / Y := ⟨_, rfl⟩
  obtain ⟨u1, hu1⟩ : ∃ u1, u1 = X1 % Y := ⟨_, rfl⟩
  rw [← hD] at hdg lw1
  rw [← hu1] at hm1 lw1
  rw [← hD, ← hu1] at td
  obtain ⟨E2, R2⟩ := est_start (u := u1) (v := v0) (y1 := y1) (y0 := y0) (by omega) (by omega) (by omega) (by omega) (by omega)
  have hdg2 := est_digit E2
  rw [hYs] at hdg2
  have hm2 := Nat.mod_lt (u1 * 4294967296 + v0) hY0
  have lw2 := left_wrap (u1 * 4294967296 + v0) _ Y n1 hY0 rfl
  obtain ⟨X2, hX2⟩ : ∃ X2, X2 = u1 * 4294967296 + v0 := ⟨_, rfl⟩
  rw [← hX2] at td hdg2 hm2 lw2
  obtain ⟨D2, hD2⟩ : ∃ D2, D2 = X2 / Y := ⟨_, rfl⟩
  obtain ⟨u2, hu2⟩ : ∃ u2, u2 = X2 % Y := ⟨_, rfl⟩
  rw [← hD2] at hdg2 lw2
  rw [← hu2] at hm2 lw2
  rw [← hD2, ← hu2] at td
  have b1 := Nat.div_mul_le_self U y1
  have b2 := Nat.div_mul_le_self u1 y1
  have b3 := Nat.div_le_self U y1
  have b4 := Nat.div_le_self u1 y1
  obtain ⟨q, hq⟩ : ∃ q, q = U / y1 := ⟨_, rfl⟩
  obtain ⟨q2, hq2⟩ : ∃ q2, q2 = u1 / y1 := ⟨_, rfl⟩
  rw [← hq] at b1 b3 E1 R1
  rw [← hq2] at b2 b4 E2 R2
  obtain ⟨m1, hm1e⟩ : ∃ m1, m1 = q * y1 := ⟨_, rfl⟩
  obtain ⟨m2, hm2e⟩ : ∃ m2, m2 = q2 * y1 := ⟨_, rfl⟩
  rw [← hm1e] at b1 E1 R1
  rw [← hm2e] at b2 E2 R2
  have eX := join_two U v1 v0 Lw X1 hX1 (by rw [hv1, hv0]; exact half_split Lw)
  rw [← hUe, eX] at hdiv
  have c1 : (y1 : Int) * 4294967296 + y0 = Y := by omega
  refine div64_core h l y s Y y1 y0 H U Lw v1 v0 q (U - m1 : Nat) D (U * 4294967296 % 18446744073709551616 : Nat) (D * Y % 18446744073709551616 : Nat) u1
    q2 (u1 - m2 : Nat) D2 (u1 * 4294967296 % 18446744073709551616 : Nat) (D2 * Y % 18446744073709551616 : Nat) u2
    _ _ w hl hy h0 hh n3 hz
    ?_ (by omega) ?_ ?_ ?_ ?_ (by omega) ?_ ?_ ?_ (by omega) (by omega) (by omega) (by omega) (by omega) (by omega) ?_ ?_ (by omega) (by omega) (by omega) (by omega) (EI.mk E1 R1)
    ?_ (by omega) (by omega) ?_ (by omega) (by omega) ?_ ?_ (by omega) (by omega) ?_ ?_ ?_ ?_ (by omega) (by omega) (Lib.hid (EI.mk E2 R2)) ?_ (by omega) (by omega) ?_ (by omega) (by omega) ?_ ?_ (by omega) (by omega) ?_
  · rw [← hYe]; have := wrapM (y * 2 ^ s); rw [Nat.mod_eq_of_lt (by omega)] at this; simpa using this
  · have := Mul64.maskN Y n1; rw [← hy0] at this; exact this
  · rw [← hHe]; have := wrapM (h * 2 ^ s); rw [Nat.mod_eq_of_lt (by omega)] at this; simpa using this
  · have := bits_or_u64_nat H lq (by omega) (by omega); rw [hor, ← hUe, ← hle] at this; simpa using this
  · rw [← hLe]; have := wrapM (l * 2 ^ s); simpa using this
  · have := Mul64.maskN Lw hL; rw [← hv0] at this; exact this
  · rw [hq]; simp
  · rw [← Int.natCast_mul, ← hm1e]; omega
  · rw [← Int.natCast_mul, ← hm1e]; omega
  · rw [← Int.natCast_mul, ← hm1e]; omega
  · refine Lib.hid ?_; rw [dgt_nat, hYs, ← hX1, ← hD]
  · have := wrapM (U * 4294967296); simpa using this
  · have := wrapM (D * Y); simpa using this
  · rw [← lw1]; congr 2; omega
  · rw [hq2]; simp
  · rw [← Int.natCast_mul, ← hm2e]; omega
  · rw [← Int.natCast_mul, ← hm2e]; omega
  · rw [← Int.natCast_mul, ← hm2e]; omega
  · refine Lib.hid ?_; rw [dgt_nat, hYs, ← hX2, ← hD2]
  · have := wrapM (u1 * 4294967296); simpa using this
  · have := wrapM (D2 * Y); simpa using this
  · rw [← lw2]; congr 2; omega
  · refine Lib.hid (end_eq ?_ ?_)
    · rw [← hdiv.1, ← td.1]; simp
    · rw [← hdiv.2, ← td.2]; simp

theorem div64_any (h l y : Nat) (w : World) (hl : l < 18446744073709551616) (hy : y < 18446744073709551616) (hh : h < y) :
    Calls Tryd.prog 93 #[.int .u64 (h : Int), .int .u64 (l : Int), .int .u64 (y : Int)] w fun e w' => e = .returned (.tuple #[.int .u64 (((h * 18446744073709551616 + l) / y : Nat) : Int), .int .u64 (((h * 18446744073709551616 + l) % y : Nat) : Int)]) ∧ ∃ n, w' = w.drewN n := by
  by_cases h0 : h = 0
  · subst h0
    rw [Nat.zero_mul, Nat.zero_add]
    exact div64_low l y w hl hy (by omega)
  · exact (div64_pos h l y w hl hy (by omega) hh).mono fun _ _ ⟨he, hw⟩ => ⟨he, 0, hw.symm⟩
end Go.Proofs.YtanfhlkfmmglhaaDoor
/- What the program's natural numbers of 128 bits compute: tests, sums, differences, products. Condition: the tables hold what their initialisers lay. -/
namespace Go.Proofs.YtanfhlkfmmglhaaDoor
open Go.ChangeShapes Go.WideShapes Go.ChangeAt Go.RowKit

theorem isZero_any (n : Nat) (w : World) (ht : Tab w) : Calls Tryd.prog 62 #[.agg #[.int .u64 (hiW n : Int), .int .u64 (loW n : Int)]] w fun e w' => e = .returned (.bool (decide (n = 0))) ∧ Kept w w' := by
  have hlt := ht.lt
  have _hlt0 := ht.lt0
  go_enter Tryd.func62, Tryd.ntmps62
  go_wp2
  all_goals
    go_returns
    refine ⟨?_, (by repeat' (first | (with_reducible assumption) | (with_reducible exact Kept.refl ht) | (with_reducible refine Kept.alloc ?_ _) | (with_reducible refine Kept.drew ?_) | (with_reducible refine Kept.drewN ?_ _) | (with_reducible refine Kept.setCell ?_ ?_ _ ?_ ?_) | (with_reducible refine Kept.trans ?_ (by assumption)) | omega | (simp; done) | (simp; omega)))⟩
    have hn := nat_eq n
    simp
    omega

theorem less_any (n m : Nat) (w : World) (ht : Tab w) : Calls Tryd.prog 89 #[.agg #[.int .u64 (hiW n : Int), .int .u64 (loW n : Int)], .agg #[.int .u64 (hiW m : Int), .int .u64 (loW m : Int)]] w fun e w' => e = .returned (.bool (decide (n < m))) ∧ Kept w w' := by
  have hlt := ht.lt
  have _hlt0 := ht.lt0
  have l1 := lo_lt n
  have l2 := lo_lt m
  have hn := Lib.hid (nat_eq n)
  have hm := Lib.hid (nat_eq m)
  rcases Nat.lt_trichotomy (hiW n) (hiW m) with h | h | h
  · have g : decide (n < m) = true := decide_eq_true (by have := hn.out; have := hm.out; omega)
    rw [g]
    go_enter Tryd.func89, Tryd.ntmps89
    go_wp2
    go_returns
    exact ⟨rfl, (by repeat' (first | (with_reducible assumption) | (with_reducible exact Kept.refl ht) | (with_reducible refine Kept.alloc ?_ _) | (with_reducible refine Kept.drew ?_) | (with_reducible refine Kept.drewN ?_ _) | (with_reducible refine Kept.setCell ?_ ?_ _ ?_ ?_) | (with_reducible refine Kept.trans ?_ (by assumption)) | omega | (simp; done) | (simp; omega)))⟩
  · rcases Nat.lt_or_ge (loW n) (loW m) with h2 | h2
    · have g : decide (n < m) = true := decide_eq_true (by have := hn.out; have := hm.out; omega)
      rw [g]
      go_enter Tryd.func89, Tryd.ntmps89
      go_wp2
      go_returns
      exact ⟨rfl, (by repeat' (first | (with_reducible assumption) | (with_reducible exact Kept.refl ht) | (with_reducible refine Kept.alloc ?_ _) | (with_reducible refine Kept.drew ?_) | (with_reducible refine Kept.drewN ?_ _) | (with_reducible refine Kept.setCell ?_ ?_ _ ?_ ?_) | (with_reducible refine Kept.trans ?_ (by assumption)) | omega | (simp; done) | (simp; omega)))⟩
    · have g : decide (n < m) = false := decide_eq_false (by have := hn.out; have := hm.out; omega)
      rw [g]
      have h3 : decide (loW n < loW m) = false := decide_eq_false (by omega)
      go_enter Tryd.func89, Tryd.ntmps89
      go_wp2
      go_returns
      exact ⟨by simp; try omega, (by repeat' (first | (with_reducible assumption) | (with_reducible exact Kept.refl ht) | (with_reducible refine Kept.alloc ?_ _) | (with_reducible refine Kept.drew ?_) | (with_reducible refine Kept.drewN ?_ _) | (with_reducible refine Kept.setCell ?_ ?_ _ ?_ ?_) | (with_reducible refine Kept.trans ?_ (by assumption)) | omega | (simp; done) | (simp; omega)))⟩
  · have g : decide (n < m) = false := decide_eq_false (by have := hn.out; have := hm.out; omega)
    rw [g]
    have h3 : decide (hiW n < hiW m) = false := decide_eq_false (by omega)
    have h4 : ¬ hiW n = hiW m := by omega
    go_enter Tryd.func89, Tryd.ntmps89
    go_wp2
    go_returns
    exact ⟨by simp; try omega, (by repeat' (first | (with_reducible assumption) | (with_reducible exact Kept.refl ht) | (with_reducible refine Kept.alloc ?_ _) | (with_reducible refine Kept.drew ?_) | (with_reducible refine Kept.drewN ?_ _) | (with_reducible refine Kept.setCell ?_ ?_ _ ?_ ?_) | (with_reducible refine Kept.trans ?_ (by assumption)) | omega | (simp; done) | (simp; omega)))⟩

theorem plus_any (n m : Nat) (w : World) (ht : Tab w) (h : n + m < 340282366920938463463374607431768211456) : Calls Tryd.prog 65 #[.agg #[.int .u64 (hiW n : Int), .int .u64 (loW n : Int)], .agg #[.int .u64 (hiW m : Int), .int .u64 (loW m : Int)]] w fun e w' => e = .returned (.agg #[.int .u64 (hiW (n + m) : Int), .int .u64 (loW (n + m) : Int)]) ∧ Kept w w' := by
  have hlt := ht.lt
  have _hlt0 := ht.lt0
  have hn := nat_eq n
  have hm := nat_eq m
  have l1 := lo_lt n
  have l2 := lo_lt m
  have k0 : (0 : Int) ≤ ((loW n : Int) + loW m) / 18446744073709551616 := by omega
  have k1 : ((loW n : Int) + loW m) / 18446744073709551616 ≤ 1 := by omega
  have e1 : ((loW n : Int) + loW m) % 18446744073709551616 = (loW (n + m) : Nat) := by unfold loW at *; omega
  have e2 : ((hiW n : Int) + hiW m + ((loW n : Int) + loW m) / 18446744073709551616) % 18446744073709551616 = (hiW (n + m) : Nat) := by unfold loW hiW at *; omega
  have H1 := Lib.hid e1
  have H2 := Lib.hid e2
  clear hn hm e1 e2 h
  go_enter Tryd.func65, Tryd.ntmps65
  go_wp2_with (first | simp only [add64_0 (loW n : Int) (loW m : Int) (by omega) (by omega)] | simp only [add64 (hiW n : Int) (hiW m : Int) _ (by omega) (by omega) k0 k1])
  rw [H1.out, H2.out]
  go_returns
  exact ⟨rfl, (by repeat' (first | (with_reducible assumption) | (with_reducible exact Kept.refl ht) | (with_reducible refine Kept.alloc ?_ _) | (with_reducible refine Kept.drew ?_) | (with_reducible refine Kept.drewN ?_ _) | (with_reducible refine Kept.setCell ?_ ?_ _ ?_ ?_) | (with_reducible refine Kept.trans ?_ (by assumption)) | omega | (simp; done) | (simp; omega)))⟩

theorem minus_any (n m : Nat) (w : World) (ht : Tab w) (h : m ≤ n) (hb : n < 340282366920938463463374607431768211456) : Calls Tryd.prog 92 #[.agg #[.int .u64 (hiW n : Int), .int .u64 (loW n : Int)], .agg #[.int .u64 (hiW m : Int), .int .u64 (loW m : Int)]] w fun e w' => e = .returned (.agg #[.int .u64 (hiW (n - m) : Int), .int .u64 (loW (n - m) : Int)]) ∧ Kept w w' := by
  have hlt := ht.lt
  have _hlt0 := ht.lt0
  have hn := nat_eq n
  have hm := nat_eq m
  have l1 := lo_lt n
  have l2 := lo_lt m
  have l3 := hi_lt hb
  have l4 : hiW m ≤ hiW n := by unfold hiW; omega
  have k0 : 0 ≤ bor (loW n : Int) (loW m) := by unfold bor; split <;> omega
  have k1 : bor (loW n : Int) (loW m) ≤ 1 := by unfold bor; split <;> omega
  have e1 : ((loW n : Int) - loW m) % 18446744073709551616 = (loW (n - m) : Nat) := by unfold loW at *; omega
  have e2 : ((hiW n : Int) - hiW m - bor (loW n : Int) (loW m)) % 18446744073709551616 = (hiW (n - m) : Nat) := by
    unfold bor; unfold loW hiW at *; split <;> omega
  have H1 := Lib.hid e1
  have H2 := Lib.hid e2
  clear hn hm e1 e2 h hb
  go_enter Tryd.func92, Tryd.ntmps92
  go_wp2_with (first | simp only [sub64_0 (loW n : Int) (loW m : Int) (by omega) (by omega) (by omega)] | simp only [sub64 (hiW n : Int) (hiW m : Int) _ (by omega) (by omega) (by omega) k0 k1])
  rw [H1.out, H2.out]
  go_returns
  exact ⟨rfl, (by repeat' (first | (with_reducible assumption) | (with_reducible exact Kept.refl ht) | (with_reducible refine Kept.alloc ?_ _) | (with_reducible refine Kept.drew ?_) | (with_reducible refine Kept.drewN ?_ _) | (with_reducible refine Kept.setCell ?_ ?_ _ ?_ ?_) | (with_reducible refine Kept.trans ?_ (by assumption)) | omega | (simp; done) | (simp; omega)))⟩

theorem times_any (n f : Nat) (w : World) (ht : Tab w) (hf : f < 18446744073709551616) (h : n * f < 340282366920938463463374607431768211456) : Calls Tryd.prog 64 #[.agg #[.int .u64 (hiW n : Int), .int .u64 (loW n : Int)], .int .u64 (f : Int)] w fun e w' => e = .returned (.agg #[.int .u64 (hiW (n * f) : Int), .int .u64 (loW (n * f) : Int)]) ∧ Kept w w' := by
  have hlt := ht.lt
  have _hlt0 := ht.lt0
  have hn := nat_eq n
  have l1 := lo_lt n
  have em : n * f = hiW n * f * 18446744073709551616 + loW n * f := by
    conv => lhs; rw [hn, Nat.add_mul, Nat.mul_assoc, Nat.mul_comm 18446744073709551616 f, ← Nat.mul_assoc]
  have e1 : (loW n : Int) * (f : Int) % 18446744073709551616 = (loW (n * f) : Nat) := by
    rw [← Int.natCast_mul]
    unfold loW at *; rw [em]; generalize hiW n * f = a at *; generalize n % 18446744073709551616 * f = b at *; omega
  have e2 : (loW n : Int) * (f : Int) / 18446744073709551616 + (hiW n : Int) * (f : Int) = (hiW (n * f) : Nat) := by
    rw [← Int.natCast_mul, ← Int.natCast_mul]
    unfold hiW; unfold hiW at em; rw [em]; generalize n / 18446744073709551616 * f = a at *; generalize loW n * f = b at *; omega
  have b0 : (0 : Int) ≤ (hiW n : Int) * (f : Int) := by rw [← Int.natCast_mul]; omega
  have b1 : (hiW n : Int) * (f : Int) ≤ 18446744073709551615 := by rw [← Int.natCast_mul]; generalize hiW n * f = a at *; omega
  have b2 : (loW n : Int) * (f : Int) / 18446744073709551616 + (hiW n : Int) * (f : Int) ≤ 18446744073709551615 := by
    rw [e2]; have := hi_lt h; omega
  have H1 := Lib.hid e1
  have H2 := Lib.hid e2
  have H3 := Lib.hid (Mul64.wrapN _ (hi_lt h))
  clear hn em e1 e2 h
  go_enter Tryd.func64, Tryd.ntmps64
  go_wp2_with (go_at_call 90; refine (Tryd.bits_Mul64 (loW n) f l1 hf _).mono ?_; rintro e w1 ⟨rfl, rfl⟩)
  rw [H1.out, H2.out, H3.out]
  go_returns
  exact ⟨rfl, (by repeat' (first | (with_reducible assumption) | (with_reducible exact Kept.refl ht) | (with_reducible refine Kept.alloc ?_ _) | (with_reducible refine Kept.drew ?_) | (with_reducible refine Kept.drewN ?_ _) | (with_reducible refine Kept.setCell ?_ ?_ _ ?_ ?_) | (with_reducible refine Kept.trans ?_ (by assumption)) | omega | (simp; done) | (simp; omega)))⟩
end Go.Proofs.YtanfhlkfmmglhaaDoor
/- What the program's quotient of a natural number of 128 bits by a word is. Conditions: the tables; the divisor is not 0. -/
namespace Go.Proofs.YtanfhlkfmmglhaaDoor
open Go.ChangeShapes Go.WideShapes Go.ChangeAt Go.RowKit

theorem split_div (hi lo d B : Nat) (hd : 0 < d) (hl : lo < B) : (hi * B + lo) / d = hi / d * B + (hi % d * B + lo) / d ∧ (hi * B + lo) % d = (hi % d * B + lo) % d ∧ (hi % d * B + lo) / d < B := by
  have h := Nat.div_add_mod hi d
  have hm := Nat.mod_lt hi hd
  generalize hi / d = a at *
  generalize hi % d = g at *
  subst h
  have e : (d * a + g) * B + lo = g * B + lo + d * (a * B) := by rw [Nat.add_mul, Nat.mul_assoc]; omega
  rw [e, Nat.add_mul_div_left _ _ hd, Nat.add_mul_mod_self_left]
  refine ⟨Nat.add_comm _ _, rfl, ?_⟩
  rw [Nat.div_lt_iff_lt_mul hd]
  have : (g + 1) * B ≤ d * B := Nat.mul_le_mul_right _ hm
  rw [Nat.add_mul, Nat.one_mul] at this
  rw [Nat.mul_comm B d]
  omega
theorem over_parts (n d : Nat) (hd : 0 < d) : hiW n / d = hiW (n / d) ∧ (hiW n % d * 18446744073709551616 + loW n) / d = loW (n / d) ∧ (hiW n % d * 18446744073709551616 + loW n) % d = n % d := by
  obtain ⟨a, b, c⟩ := split_div (hiW n) (loW n) d 18446744073709551616 hd (lo_lt n)
  rw [← nat_eq n] at a b
  obtain ⟨x, y⟩ := wide a c
  exact ⟨x, y, b.symm⟩

theorem div64_q (h l y : Nat) (w : World) (n : Nat) (hl : l < 18446744073709551616) (hy : y < 18446744073709551616) (hh : h < y) :
    Calls Tryd.prog 93 #[.int .u64 (h : Int), .int .u64 (l : Int), .int .u64 (y : Int)] (w.drewN n) fun e w' => e = .returned (.tuple #[.int .u64 (((h * 18446744073709551616 + l) / y : Nat) : Int), .int .u64 (((h * 18446744073709551616 + l) % y : Nat) : Int)]) ∧ ∃ m, w' = w.drewN m :=
  (div64_any h l y _ hl hy hh).mono fun _ _ ⟨he, m, hm⟩ => ⟨he, n + m, by rw [hm, World.drewN_drewN]⟩

set_option maxHeartbeats 1000000 in
theorem over_any (n d : Nat) (w : World) (ht : Tab w) (hn : n < 340282366920938463463374607431768211456) (hd : 0 < d) (hd1 : d < 18446744073709551616) :
    Calls Tryd.prog 83 #[.agg #[.int .u64 (hiW n : Int), .int .u64 (loW n : Int)], .int .u64 (d : Int)] w fun e w' => e = .returned (.tuple #[.agg #[.int .u64 (hiW (n / d) : Int), .int .u64 (loW (n / d) : Int)], .int .u64 ((n % d : Nat) : Int)]) ∧ Kept w w' := by
  have hlt := ht.lt
  have _hlt0 := ht.lt0
  obtain ⟨p1, p2, p3⟩ := over_parts n d hd
  have l1 := lo_lt n
  have l2 := hi_lt hn
  have l3 := Nat.mod_lt (hiW n) hd
  have hq := fun w k => div64_q (hiW n % d) (loW n) d w k l1 hd1 l3
  rw [p2, p3] at hq
  have e1 : (hiW n : Int) / (d : Int) = (hiW (n / d) : Int) := by rw [← p1]; simp
  have e2 : Int.tmod (hiW n : Int) (d : Int) = ((hiW n % d : Nat) : Int) := rfl
  have hd0 : ((d : Int) == 0) = false := by rw [beq_eq_false_iff_ne]; omega
  have b1 : hiW (n / d) < 18446744073709551616 := by rw [← p1]; exact Nat.lt_of_le_of_lt (Nat.div_le_self _ _) l2
  generalize hgr : n % d = r at *
  generalize hgg : hiW n % d = g at *
  clear p1 p2 p3 hgr
  have hQ := Lib.hid hq
  clear hq
  go_enter Tryd.func83, Tryd.ntmps83
  go_wp2
  go_quiet ((go_at_call 93; exact hQ.out _ _))
  go_wp2
  go_returns
  exact ⟨rfl, (by repeat' (first | (with_reducible assumption) | (with_reducible exact Kept.refl ht) | (with_reducible refine Kept.alloc ?_ _) | (with_reducible refine Kept.drew ?_) | (with_reducible refine Kept.drewN ?_ _) | (with_reducible refine Kept.setCell ?_ ?_ _ ?_ ?_) | (with_reducible refine Kept.trans ?_ (by assumption)) | omega | (simp; done) | (simp; omega)))⟩
end Go.Proofs.YtanfhlkfmmglhaaDoor
/- Absolute values and numbers of digits, in the program. Condition: the tables hold what their initialisers lay. -/
namespace Go.Proofs.YtanfhlkfmmglhaaDoor
open Go.ChangeShapes Go.WideShapes Go.ChangeAt Go.RowKit

theorem log_tab : ∀ b : Fin 65, 2 ^ b.val ≤ 10 ^ (b.val * 1233 / 4096 + 1) ∧ (b.val * 1233 / 4096 = 0 ∨ 10 ^ (b.val * 1233 / 4096 - 1) ≤ 2 ^ (b.val - 1)) ∧ b.val * 1233 / 4096 < 20 := by decide
theorem dg_log (n : Nat) (h : n < 18446744073709551616) : Lib.bitLen n ≤ 64 ∧ Lib.bitLen n * 1233 / 4096 < 20 ∧ dg n = Lib.bitLen n * 1233 / 4096 + if tn (Lib.bitLen n * 1233 / 4096) ≤ n then 1 else 0 := by
  by_cases h0 : n = 0
  · subst h0
    rw [show Lib.bitLen 0 = 0 by decide, dg_zero]
    simp [tn]
  obtain ⟨a, b, c, d⟩ := bitLenAux_spec 64 n (by simpa using h)
  change n < 2 ^ Lib.bitLen n at a
  change n ≠ 0 → 2 ^ (Lib.bitLen n - 1) ≤ n at b
  change Lib.bitLen n ≤ 64 at c
  have b := b h0
  clear d
  obtain ⟨e, f, g⟩ := log_tab ⟨Lib.bitLen n, by omega⟩
  simp only at e f g
  refine ⟨c, g, ?_⟩
  generalize Lib.bitLen n = k at *
  generalize k * 1233 / 4096 = x at *
  unfold tn
  by_cases hx : 10 ^ x ≤ n
  · rw [if_pos hx]
    exact dg_eq hx (Nat.lt_of_lt_of_le a e)
  · rw [if_neg hx, Nat.add_zero]
    rcases Nat.eq_zero_or_pos x with h3 | h3
    · subst h3; simp at hx; omega
    · obtain ⟨y, rfl⟩ := Nat.exists_eq_succ_of_ne_zero (show x ≠ 0 by omega)
      rcases f with f | f
      · omega
      · exact dg_eq (Nat.le_trans f b) (Nat.lt_of_not_le hx)

theorem digitsOf_any (n : Nat) (w : World) (ht : Tab w) (h : n < 18446744073709551616) : Calls Tryd.prog 86 #[.int .u64 (n : Int)] w fun e w' => e = .returned (.int .i64 (dg n : Int)) ∧ w = w' := by
  have hlt := ht.lt
  have _hlt0 := ht.lt0
  obtain ⟨h1, h2, h3⟩ := dg_log n h
  have hc := ht.tens _ h2
  obtain ⟨x, hx⟩ : ∃ x : Int, x = (Lib.bitLen n : Int) := ⟨_, rfl⟩
  have hd : x * 1233 / 4096 = ((Lib.bitLen n * 1233 / 4096 : Nat) : Int) := by omega
  have hx0 : 0 ≤ x := by omega
  have hx1 : x ≤ 64 := by omega
  generalize Lib.bitLen n * 1233 / 4096 = d at *
  have hd2 : (d : Int) < 20 := by omega
  have H3 := Lib.hid h3
  clear h1 h2 h3
  have HX := Lib.hid hx
  clear hx
  by_cases hcmp : tn d ≤ n
  · rw [if_pos hcmp] at H3
    go_enter Tryd.func86, Tryd.ntmps86
    go_wp2_with (go_at_call 94; refine (Tryd.bits_Len64 (n : Int) _ (by omega) (by omega)).mono ?_; rintro e w1 ⟨rfl, rfl⟩; simp only [Int.toNat_natCast]; rw [← HX.out])
    go_returns
    exact ⟨by rw [H3.out]; simp, rfl⟩
  · rw [if_neg hcmp] at H3
    have hcmp' : decide (tn d ≤ n) = false := decide_eq_false hcmp
    go_enter Tryd.func86, Tryd.ntmps86
    go_wp2_with (go_at_call 94; refine (Tryd.bits_Len64 (n : Int) _ (by omega) (by omega)).mono ?_; rintro e w1 ⟨rfl, rfl⟩; simp only [Int.toNat_natCast]; rw [← HX.out])
    go_returns
    exact ⟨by rw [H3.out]; simp, rfl⟩

/-- The absolute value. -/
def mag (m : Int) : Nat := m.natAbs
theorem magnitude_any (m : Int) (w : World) (lo : -9223372036854775808 ≤ m) (hi : m ≤ 9223372036854775807) : Calls Tryd.prog 67 #[.int .i64 m] w fun e w' => e = .returned (.int .u64 (mag m : Int)) ∧ w = w' := by
  rcases (by omega : m < 0 ∨ 0 ≤ m) with h | h
  · have e1 : IntKind.u64.wrap (-(IntKind.u64.wrap m)) = (mag m : Int) := by unfold mag; rw [IntKind.wrap_u64, IntKind.wrap_u64]; omega
    go_enter Tryd.func67, Tryd.ntmps67
    go_wp2
    go_returns
    exact ⟨rfl, rfl⟩
  · have e1 : (mag m : Int) = m := by unfold mag; omega
    rw [e1]
    clear e1
    have h' : ¬ m < 0 := by omega
    go_enter Tryd.func67, Tryd.ntmps67
    go_wp2
    go_returns
    exact ⟨rfl, rfl⟩

/-- The number of digits of a natural number. -/
theorem digits_any (n : Nat) (w : World) (ht : Tab w) (h : n < 340282366920938463463374607431768211456) : Calls Tryd.prog 68 #[.agg #[.int .u64 (hiW n : Int), .int .u64 (loW n : Int)]] w fun e w' => e = .returned (.int .i64 (dg n : Int)) ∧ Kept w w' := by
  induction n using Nat.strongRecOn generalizing w with
  | ind n ih =>
    have hlt := ht.lt
    have _hlt0 := ht.lt0
    have l1 := lo_lt n
    by_cases h0 : hiW n = 0
    · have hn : loW n = n := by have := nat_eq n; rw [h0] at this; omega
      rw [h0, hn]
      have l2 : n < 18446744073709551616 := by rw [← hn]; exact l1
      clear hn h0 l1
      go_enter Tryd.func68, Tryd.ntmps68
      go_wp2_with (first | (go_at_call 86; (with_reducible refine (digitsOf_any n _ (by repeat' (first | (with_reducible assumption) | (with_reducible refine Tab.alloc ?_ _) | (with_reducible refine Tab.drew ?_) | (with_reducible refine Tab.drewN ?_ _) | (with_reducible refine Tab.setCell ?_ ?_ ?_ _) | omega | (simp; done) | (simp; omega))) l2).mono ?_); rintro e w' ⟨rfl, rfl⟩))
      go_returns
      exact ⟨rfl, (by repeat' (first | (with_reducible assumption) | (with_reducible exact Kept.refl ht) | (with_reducible refine Kept.alloc ?_ _) | (with_reducible refine Kept.drew ?_) | (with_reducible refine Kept.drewN ?_ _) | (with_reducible refine Kept.setCell ?_ ?_ _ ?_ ?_) | (with_reducible refine Kept.trans ?_ (by assumption)) | omega | (simp; done) | (simp; omega)))⟩
    · have hq : 18446744073709551616 ≤ n := by have := nat_eq n; omega
      have hdq := dg_div n 19
      have ht19 := ht.tens 19 (by omega)
      have he : dg (n / tn 19) = dg n - 19 := hdq
      have hbig : 20 ≤ dg n := by
        rcases Nat.lt_or_ge 19 (dg n) with h | h
        · exact h
        · have := (dg_iff n 19).1 h; simp at this; omega
      have hi := ih (n / tn 19) (Nat.div_lt_self (by omega) (by decide))
      have ht19' : tn 19 < 18446744073709551616 := by decide
      have hlq : n / tn 19 < 340282366920938463463374607431768211456 := Nat.lt_of_le_of_lt (Nat.div_le_self _ _) h
      have hd : (dg n : Int) = 19 + ((dg n - 19 : Nat) : Int) := by omega
      rw [hd]
      rw [← he]
      have hb : dg (n / tn 19) ≤ 39 := by rw [he]; have := (dg_iff n 39).2 (by simp; omega); omega
      have HI := Lib.hid hi
      clear hi hd he hdq ih
      have h0' : ¬ (hiW n : Int) = 0 := by omega
      go_enter Tryd.func68, Tryd.ntmps68
      go_wp2_with (first | (go_at_call 83; (with_reducible refine (over_any n (tn 19) _ (by repeat' (first | (with_reducible assumption) | (with_reducible refine Tab.alloc ?_ _) | (with_reducible refine Tab.drew ?_) | (with_reducible refine Tab.drewN ?_ _) | (with_reducible refine Tab.setCell ?_ ?_ ?_ _) | omega | (simp; done) | (simp; omega))) h (by decide) ht19').mono ?_); rintro e w1 ⟨rfl, hk1⟩; obtain ⟨hc1, hf1⟩ := bcell hk1.2; have ht1 := hk1.1; have hz1 := hk1.2.size; (try simp only [World.size_alloc] at hz1); (try simp only [sz_drew] at hz1); (try simp only [sz_drewN] at hz1); (try simp only [World.size_alloc] at hz1); (try simp only [sz_drew] at hc1 hf1); (try simp only [sz_drewN] at hc1 hf1); (try have hw1 : w.heap.size < w1.heap.size := by omega); (try have hv1 : w.heap.size + 1 < w1.heap.size := by omega); (try have hu1 : w.heap.size + 2 < w1.heap.size := by omega)) | (go_at_call 68; (with_reducible refine (HI.out _ (by repeat' (first | (with_reducible assumption) | (with_reducible refine Tab.alloc ?_ _) | (with_reducible refine Tab.drew ?_) | (with_reducible refine Tab.drewN ?_ _) | (with_reducible refine Tab.setCell ?_ ?_ ?_ _) | omega | (simp; done) | (simp; omega))) hlq).mono ?_); rintro e w2 ⟨rfl, hk2⟩; obtain ⟨hc2, hf2⟩ := bcell hk2.2; have ht2 := hk2.1; have hz2 := hk2.2.size; (try simp only [World.size_alloc] at hz2); (try simp only [sz_drew] at hz2); (try simp only [sz_drewN] at hz2); (try simp only [World.size_alloc] at hz2); (try simp only [sz_drew] at hc2 hf2); (try simp only [sz_drewN] at hc2 hf2); (try have hw2 : w.heap.size < w2.heap.size := by omega); (try have hv2 : w.heap.size + 1 < w2.heap.size := by omega); (try have hu2 : w.heap.size + 2 < w2.heap.size := by omega)))
      go_returns
      exact ⟨rfl, (by repeat' (first | (with_reducible assumption) | (with_reducible exact Kept.refl ht) | (with_reducible refine Kept.alloc ?_ _) | (with_reducible refine Kept.drew ?_) | (with_reducible refine Kept.drewN ?_ _) | (with_reducible refine Kept.setCell ?_ ?_ _ ?_ ?_) | (with_reducible refine Kept.trans ?_ (by assumption)) | omega | (simp; done) | (simp; omega)))⟩
end Go.Proofs.YtanfhlkfmmglhaaDoor
