/- How the words of 'and', 'or' and shifts are built bit by bit. No condition. -/
import Derived.Test.YtkehmdocjjadnaaDoorBitR
namespace Go.Proofs.YtkehmdocjjadnaaDoor
open Go.RowKit
theorem and_step (W x y k : Nat) (h : k < W) : pre W (x &&& y) (k + 1) = 2 * pre W (x &&& y) k + bt W ((k : Int) + 1) x * bt W ((k : Int) + 1) y := by
  rw [pre_succ _ _ _ h, show (k : Int) + 1 = ((k + 1 : Nat) : Int) from by omega, bt_nat (by omega) (by omega), bt_nat (by omega) (by omega), Nat.testBit_and]
  cases x.testBit (W - (k + 1)) <;> cases y.testBit (W - (k + 1)) <;> rfl
theorem or_step1 (W x y k : Nat) (h : k < W) (hb : bt W ((k : Int) + 1) x = 1 ∨ bt W ((k : Int) + 1) y = 1) : pre W (x ||| y) (k + 1) = 2 * pre W (x ||| y) k + 1 := by
  rw [pre_succ _ _ _ h]
  rw [show (k : Int) + 1 = ((k + 1 : Nat) : Int) from by omega, bt_nat (by omega) (by omega), bt_nat (by omega) (by omega)] at hb
  rw [Nat.testBit_or]
  revert hb
  cases x.testBit (W - (k + 1)) <;> cases y.testBit (W - (k + 1)) <;> simp
theorem or_step0 (W x y k : Nat) (h : k < W) (h1 : bt W ((k : Int) + 1) x ≠ 1) (h2 : bt W ((k : Int) + 1) y ≠ 1) : pre W (x ||| y) (k + 1) = 2 * pre W (x ||| y) k := by
  rw [pre_succ _ _ _ h]
  rw [show (k : Int) + 1 = ((k + 1 : Nat) : Int) from by omega, bt_nat (by omega) (by omega)] at h1 h2
  rw [Nat.testBit_or]
  revert h1 h2
  cases x.testBit (W - (k + 1)) <;> cases y.testBit (W - (k + 1)) <;> simp
theorem sh_step (W x k : Nat) (n : Int) (hx : x < 2 ^ W) (h : k < W) : pre W (shN W x n) (k + 1) = 2 * pre W (shN W x n) k + bt W ((k : Int) + 1 + n) x := by
  rw [pre_succ _ _ _ h, shN_bit hx (by omega) (by omega), show ((k + 1 : Nat) : Int) = (k : Int) + 1 from by omega]
theorem mul_01 {a b : Int} (ha : 0 ≤ a ∧ a ≤ 1) (hb : 0 ≤ b ∧ b ≤ 1) : 0 ≤ a * b ∧ a * b ≤ 1 := by
  rcases (by omega : a = 0 ∨ a = 1) with rfl | rfl
  · simp
  · simpa using hb
end Go.Proofs.YtkehmdocjjadnaaDoor
