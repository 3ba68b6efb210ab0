/- How cutting off digits one step after another comes to cutting them off at once: plain mathematics. No condition. -/
import Derived.Test.YtcmgphfcpgebfaaDoorLon
namespace Go.Proofs.YtcmgphfcpgebfaaDoor

/-- What the last digit that is cut off tells, with whether anything is behind it. -/
def tail1 (g : Nat) (m : Bool) : Nat := if g = 0 ∧ m = false then 0 else if g < 5 then 1 else if g = 5 ∧ m = false then 2 else 3
theorem tail1_tl (n : Nat) (m : Bool) (k : Nat) : tail1 (n / 10 ^ k % 10) (m || decide (n % 10 ^ k ≠ 0)) = tl n m (k + 1) := by
  unfold tail1 tl
  rw [show (10 : Nat) ^ (k + 1) = 10 ^ k * 10 by rw [Nat.pow_succ], Nat.mod_mul]
  have hp := p10 k
  have hr := Nat.mod_lt n hp
  have hg := Nat.mod_lt (n / 10 ^ k) (show 0 < 10 by omega)
  generalize n % 10 ^ k = r at *
  generalize n / 10 ^ k % 10 = g at *
  generalize 10 ^ k = B at *
  have key : ∀ a : Nat, g = a → B * g = a * B := by intro a h; rw [h, Nat.mul_comm]
  rcases (by omega : g = 0 ∨ g = 1 ∨ g = 2 ∨ g = 3 ∨ g = 4 ∨ g = 5 ∨ g = 6 ∨ g = 7 ∨ g = 8 ∨ g = 9) with h | h | h | h | h | h | h | h | h | h
  all_goals
    have e := key _ h
    rw [e]
    subst h
    cases m <;> by_cases h0 : r = 0 <;> simp [h0] <;> (repeat (split <;> try omega)) <;> (try omega)
theorem shN_pos (n : Nat) (k : Nat) : shN n (k : Int) = n / 10 ^ k := by unfold shN; simp
theorem shM_pos (n : Nat) (m : Bool) (k : Nat) : shM n (k : Int) m = (m || decide (n % 10 ^ k ≠ 0)) := by unfold shM; simp
theorem div_step (n k : Nat) : n / 10 ^ k / 10 = n / 10 ^ (k + 1) := by rw [Nat.div_div_eq_div_mul, Nat.pow_succ]
end Go.Proofs.YtcmgphfcpgebfaaDoor
