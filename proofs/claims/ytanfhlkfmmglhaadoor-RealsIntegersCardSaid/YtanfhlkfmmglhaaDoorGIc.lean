/- The test for integers of any size. Condition: the tables hold what their initialisers lay. -/
import Derived.Test.YtanfhlkfmmglhaaDoorGIb
namespace Go.Proofs.YtanfhlkfmmglhaaDoor
open Go.ChangeShapes Go.WideShapes Go.ChangeAt Go.RowKit
attribute [local go_sem ↓] Go.wp_at_zero Go.wp_at_succ

set_option maxRecDepth 100000 in
set_option maxHeartbeats 4000000 in
theorem Is_c (n : Int) (w : World) (ht : Tab w) (hs : Szs w) :
    Calls Tryd.prog 87 #[.int .i64 1, .int .i64 n] w fun e w' => e = .returned (.bool (isI 1 n)) ∧ Kept w w' := by
  have hlt := ht.lt
  have hlt0 := ht.lt0
  have hlts := hs.lt
  obtain ⟨c0, c1, c2, c3, c4, c5⟩ := id hs
  rw [isI_c]
  rcases (by omega : (n < -999999999999999999 ∧ n ≤ 999999999999999999) ∨ (-999999999999999999 ≤ n ∧ n ≤ 999999999999999999) ∨ (999999999999999999 < n ∧ -999999999999999999 ≤ n)) with ⟨h, h'⟩ | ⟨h, h'⟩ | ⟨h, h'⟩
  all_goals
    go_enter Tryd.func87, Tryd.ntmps87
    go_wp2
    go_returns
    exact ⟨by simp; try omega, (by repeat' (first | (with_reducible assumption) | (with_reducible exact Kept.refl ht) | (with_reducible refine Kept.alloc ?_ _) | (with_reducible refine Kept.drew ?_) | (with_reducible refine Kept.drewN ?_ _) | (with_reducible refine Kept.setCell ?_ ?_ _ ?_ ?_) | (with_reducible refine Kept.trans ?_ (by assumption)) | omega | (simp; done) | (simp; omega)))⟩
theorem Is_any (s n : Int) (w : World) (ht : Tab w) (hs : Szs w) (h : s = -1 ∨ s = 0 ∨ s = 1) :
    Calls Tryd.prog 87 #[.int .i64 s, .int .i64 n] w fun e w' => e = .returned (.bool (isI s n)) ∧ Kept w w' := by
  rcases h with rfl | rfl | rfl
  · exact Is_a n w ht hs
  · exact Is_b n w ht hs
  · exact Is_c n w ht hs
/-- Below 10^18. -/
def Sm (q : Nat) : Prop := (q : Int) < 1000000000000000000
theorem q_up {n j q : Nat} (hj : dg n + j ≤ 18) (hq : n * 10 ^ j = q) : (q : Int) < 1000000000000000000 := by
  have e18 : (10 : Nat) ^ 18 = 1000000000000000000 := by decide
  have : q < 10 ^ 18 := by
    rw [← hq]
    by_cases h0 : n = 0
    · rw [h0, Nat.zero_mul]; exact p10 _
    · exact (dg_iff _ _).1 (by rw [dg_mul j h0]; omega)
  omega
theorem q_dn {n j q : Nat} (hn : dg n ≤ 18) (hq : n / 10 ^ j = q) : (q : Int) < 1000000000000000000 := by
  have e18 : (10 : Nat) ^ 18 = 1000000000000000000 := by decide
  have h1 := (dg_iff n 18).1 hn
  have h2 := Nat.div_le_self n (10 ^ j)
  omega
/-- A number of a sign, one more if it grows. -/
def rI (neg g : Bool) (q : Nat) : Int := sg neg (q + if g = true then 1 else 0)
theorem rI_tt (q : Nat) : rI true true q = -((q : Int) + 1) := by unfold rI sg; simp
theorem rI_tf (q : Nat) : rI true false q = -(q : Int) := by unfold rI sg; simp
theorem rI_ft (q : Nat) : rI false true q = (q : Int) + 1 := by unfold rI sg; simp
theorem rI_ff (q : Nat) : rI false false q = (q : Int) := by unfold rI sg; simp
/-- What is returned: the integer, or the error. -/
def rP (s r : Int) : Value := if isI s r = true then .tuple #[.int .i64 r, .int .i64 0] else .tuple #[.int .i64 0, .int .i64 11]
theorem rP_yes {s r : Int} (h : isI s r = true) : rP s r = .tuple #[.int .i64 r, .int .i64 0] := by unfold rP; rw [if_pos h]
theorem rP_no {s r : Int} (h : isI s r = false) : rP s r = .tuple #[.int .i64 0, .int .i64 11] := by unfold rP; rw [if_neg (by rw [h]; decide)]
end Go.Proofs.YtanfhlkfmmglhaaDoor
