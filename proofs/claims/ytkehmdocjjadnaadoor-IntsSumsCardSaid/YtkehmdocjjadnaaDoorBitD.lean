/- Bit words as numbers: the bit with a number, the word that is built of its bits. No condition. -/
import Derived.Test.YtkehmdocjjadnaaDoorBitM
namespace Go.Proofs.YtkehmdocjjadnaaDoor
open Go.RowKit
/-- The bit of v with the number j, of W bits, the first one being 1; 0 if there is none. -/
def bt (W j v : Int) : Int := if j < 1 ∨ W < j then 0 else v / 2 ^ (W - j).toNat % 2
theorem bt_out {W j v : Int} (h : j < 1 ∨ W < j) : bt W j v = 0 := by simp [bt, h]
theorem bt_in {W j v : Int} (h1 : ¬ j < 1) (h2 : ¬ W < j) : bt W j v = v / 2 ^ (W - j).toNat % 2 := by simp [bt, h1, h2]
theorem bt_01 (W j v : Int) : 0 ≤ bt W j v ∧ bt W j v ≤ 1 := by unfold bt; split <;> omega
/-- The bit is that of the number. -/
theorem bt_nat {W j v : Nat} (h1 : 1 ≤ j) (h2 : j ≤ W) : bt W j v = ((v.testBit (W - j)).toNat : Int) := by
  rw [bt_in (by omega) (by omega), show ((W : Int) - j).toNat = W - j from by omega, Nat.toNat_testBit]
  push_cast; rfl
/-- What the first k of W bits of R are, as a number. -/
def pre (W R : Nat) (k : Nat) : Int := ((R / 2 ^ (W - k) : Nat) : Int)
theorem pre_zero {W R : Nat} (h : R < 2 ^ W) : pre W R 0 = 0 := by
  unfold pre; rw [Nat.sub_zero, Nat.div_eq_of_lt h]; rfl
theorem pre_all (W R : Nat) : pre W R W = R := by unfold pre; simp
theorem pre_succ (W R k : Nat) (h : k < W) : pre W R (k + 1) = 2 * pre W R k + ((R.testBit (W - (k + 1))).toNat : Int) := by
  unfold pre
  rw [Nat.toNat_testBit]
  have e : W - k = (W - (k + 1)) + 1 := by omega
  rw [e, Nat.pow_succ, ← Nat.div_div_eq_div_mul]
  have := Nat.div_add_mod (R / 2 ^ (W - (k + 1))) 2
  omega
theorem pre_le (W R k : Nat) (h : R < 2 ^ W) (hW : W ≤ 60) : 0 ≤ pre W R k ∧ pre W R k ≤ 1152921504606846975 := by
  have h1 : R / 2 ^ (W - k) ≤ R := Nat.div_le_self _ _
  have h2 : (2 : Nat) ^ W ≤ 2 ^ 60 := Nat.pow_le_pow_right (by decide) hW
  unfold pre
  generalize R / 2 ^ (W - k) = x at h1 ⊢
  omega
/-- Shifted by n places to the left, or -n to the right. -/
def shN (W v : Nat) (n : Int) : Nat := if (W : Int) ≤ n ∨ n ≤ -(W : Int) then 0 else if n < 0 then v / 2 ^ (-n).toNat else v * 2 ^ n.toNat % 2 ^ W
theorem shN_lt {W v : Nat} {n : Int} (h : v < 2 ^ W) : shN W v n < 2 ^ W := by
  unfold shN
  split
  · exact Nat.two_pow_pos W
  · split
    · exact Nat.lt_of_le_of_lt (Nat.div_le_self _ _) h
    · exact Nat.mod_lt _ (Nat.two_pow_pos W)
/-- The bits of a shifted word. -/
theorem shN_bit {W v : Nat} {n : Int} (h : v < 2 ^ W) {j : Nat} (h1 : 1 ≤ j) (h2 : j ≤ W) : (((shN W v n).testBit (W - j)).toNat : Int) = bt W ((j : Int) + n) v := by
  unfold shN
  split
  · rename_i hn
    rw [bt_out (by omega), Nat.zero_testBit]; rfl
  · rename_i hn
    split
    · rename_i hneg
      obtain ⟨m, rfl⟩ : ∃ m : Nat, n = -(m : Int) := ⟨(-n).toNat, by omega⟩
      rw [show (-(-(m : Int))).toNat = m from by omega, Nat.testBit_div_two_pow]
      by_cases hj : (j : Int) + -(m : Int) < 1
      · rw [bt_out (Or.inl hj), Nat.testBit_lt_two_pow (Nat.lt_of_lt_of_le h (Nat.pow_le_pow_right (by decide) (by omega)))]; rfl
      · rw [show (j : Int) + -(m : Int) = ((j - m : Nat) : Int) from by omega, bt_nat (by omega) (by omega), show W - j + m = W - (j - m) from by omega]
    · rename_i hpos
      obtain ⟨m, rfl⟩ := Int.eq_ofNat_of_zero_le (show 0 ≤ n by omega)
      rw [Int.toNat_natCast, Nat.testBit_mod_two_pow, Nat.testBit_mul_two_pow]
      by_cases hj : W < j + m
      · rw [bt_out (by omega)]
        have : ¬ m ≤ W - j := by omega
        simp [this]
      · rw [show (j : Int) + (m : Int) = ((j + m : Nat) : Int) from by omega, bt_nat (by omega) (by omega), show W - (j + m) = W - j - m from by omega]
        have e1 : W - j < W := by omega
        have e2 : m ≤ W - j := by omega
        simp [e1, e2]
end Go.Proofs.YtkehmdocjjadnaaDoor
