/- For the reference's Rounded: definitions. Condition: the tables hold what their initialisers lay. -/
import Derived.Test.YtanfhlkfmmglhaaDoorGRf8
import Derived.BigQuiet
namespace Go.Proofs.YtanfhlkfmmglhaaDoor
open Go.ChangeShapes Go.WideShapes Go.ChangeAt Go.RowKit
attribute [local go_sem ↓] Go.wp_at_zero Go.wp_at_succ

/-- What the number is cut to, ahead of rounding: exponent, digits, rest, whether something is left. -/
def rT (p : Nat) (e : Int) (n : Nat) : Int := if e + (dg n : Int) - (p : Int) < -400 then -400 else e + (dg n : Int) - (p : Int)
def rcE (p : Nat) (e : Int) (n : Nat) : Int := if e < rT p e n then rT p e n else e
def rcQ (p : Nat) (e : Int) (n : Nat) : Nat := if e < rT p e n then n / 10 ^ ((rT p e n - e - 1).toNat + 1) else n
def rcS (p : Nat) (e : Int) (n : Nat) (more : Bool) : Int := if e < rT p e n then cutS n (rT p e n - e - 1).toNat more else 0
def rcL (p : Nat) (e : Int) (n : Nat) (more : Bool) : Bool := if e < rT p e n then cutL n (rT p e n - e - 1).toNat more else false
/-- What the number is rounded to, and what comes of it. -/
def rcR (p : Nat) (how : Int) (neg : Bool) (e : Int) (n : Nat) (more : Bool) : Nat := if awR how neg (rcQ p e n) (rcS p e n more) (rcL p e n more) = true then rcQ p e n + 1 else rcQ p e n
def RndRes (p : Nat) (how : Int) (neg : Bool) (R : Nat) (E M X er : Int) : Prop :=
  ((dg R : Int) + E ≤ (p : Int) + 400 ∧ er = 0 ∧ (R = 0 ∧ M = 0 ∧ X = 0 ∨ R ≠ 0 ∧ M = sg neg (od R) ∧ X = E + (tz R : Int))) ∨
  (¬ (dg R : Int) + E ≤ (p : Int) + 400 ∧ inw how neg = true ∧ er = 0 ∧ M = sg neg (od (10 ^ p - 1)) ∧ X = 400 + (tz (10 ^ p - 1) : Int)) ∨
  (¬ (dg R : Int) + E ≤ (p : Int) + 400 ∧ inw how neg = false ∧ er = 11 ∧ M = 0 ∧ X = 0)
theorem ds_nines (p : Nat) : ds (10 ^ p - 1) = List.replicate p 9 := by
  induction p with
  | zero => exact ds_zero
  | succ p ih =>
    have h := p10 p
    have e : 10 ^ (p + 1) - 1 = (10 ^ p - 1) * 10 + 9 := by rw [Nat.pow_succ]; omega
    rw [e, ds_step (by omega), List.replicate_succ, ← ih]
    congr 1
    · omega
    · congr 1; omega
/-- What holds at each round's head of the loop of nines. -/
def NinRel (p : Nat) (w : World) (u v : Value) (wr : World) : Prop :=
  ∃ (i : Nat) (z : Value), z = u ∧ v = .int .i64 (i : Int) ∧ i ≤ p ∧ Ow wr w.heap.size z (List.replicate i 9) ∧ Below w.heap.size w wr
theorem rnd_facts {w wc : World} {c0 c1 c2 c3 d0 d1 : Value} (h : Inv w [(w.heap.size, 53, [c0, c1, c2, c3]), (w.heap.size + 1, 25, [d0, d1])] wc) :
    (wc.cell? ⟨w.heap.size, 0, none⟩ = some c0 ∧ wc.cell? ⟨w.heap.size, 1, none⟩ = some c1 ∧ wc.cell? ⟨w.heap.size, 2, none⟩ = some c2 ∧ wc.cell? ⟨w.heap.size, 3, none⟩ = some c3) ∧ wc.cell? ⟨w.heap.size + 1, 0, none⟩ = some d0 ∧ wc.cell? ⟨w.heap.size + 1, 1, none⟩ = some d1 :=
  ⟨⟨(h.own 0 _ rfl).cell 0, (h.own 0 _ rfl).cell 1, (h.own 0 _ rfl).cell 2, (h.own 0 _ rfl).cell 3⟩, (h.own 1 _ rfl).cell 0, (h.own 1 _ rfl).cell 1⟩
/-- The ways in which the greatest number is taken, and those in which it is an error. -/
theorem inw_ways {how : Int} {neg : Bool} (h0 : 0 ≤ how) (h3 : how ≤ 3) : (inw how neg = true ∧ (how = 3 ∨ (how = 2 ∧ neg = false) ∨ (how = 1 ∧ neg = true))) ∨ (inw how neg = false ∧ (how = 0 ∨ (how = 2 ∧ neg = true) ∨ (how = 1 ∧ neg = false))) := by
  have : how = 0 ∨ how = 1 ∨ how = 2 ∨ how = 3 := by omega
  rcases this with rfl | rfl | rfl | rfl <;> cases neg <;> simp [inw]
end Go.Proofs.YtanfhlkfmmglhaaDoor
