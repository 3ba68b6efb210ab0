/- Bit words as numbers: masks, shifts, single bits. No condition. -/
import Derived.Test.YtkehmdocjjadnaaDoorCkA
import Derived.Laws.BitsLemmas
namespace Go.Proofs.YtkehmdocjjadnaaDoor
open Go.RowKit
/-- 'and' with a mask of i ones is the remainder, whatever the number. -/
theorem and_mask (n : Int) (i : Nat) (hi : i ≤ 62) : bits .and .i64 n (2 ^ i - 1) = n % 2 ^ i := by
  have hpos : 0 < 2 ^ i := Nat.two_pow_pos i
  have hle : (2 : Nat) ^ i ≤ 2 ^ 62 := Nat.pow_le_pow_right (by decide) hi
  have hc : ((2 : Int) ^ i - 1) = ((2 ^ i - 1 : Nat) : Int) := by
    rw [Int.natCast_sub hpos]; simp
  have hdvd : ((2 : Int) ^ i) ∣ 2 ^ 64 := ⟨2 ^ (64 - i), by rw [← Int.pow_add]; congr 1; omega⟩
  have hz : (0 : Int) ≤ n % 2 ^ 64 := Int.emod_nonneg _ (by decide)
  have e : (BitVec.ofInt 64 n).toNat = (n % 2 ^ 64).toNat := by
    rw [BitVec.toNat_ofInt]; rfl
  have h2 : (((n % 2 ^ 64).toNat % 2 ^ i : Nat) : Int) = n % 2 ^ i := by
    rw [Int.natCast_emod, Int.toNat_of_nonneg hz]
    push_cast
    exact Int.emod_emod_of_dvd _ hdvd
  have hlt : n % 2 ^ i < 2 ^ i := Int.emod_lt_of_pos _ (by exact_mod_cast hpos)
  have hnn : 0 ≤ n % 2 ^ i := Int.emod_nonneg _ (by have : (0:Int) < 2 ^ i := by exact_mod_cast hpos
                                                    omega)
  have hle' : (2 : Int) ^ i ≤ 2 ^ 62 := by exact_mod_cast hle
  have key : ((BitVec.ofInt 64 n) &&& (BitVec.ofNat 64 (2 ^ i - 1))).toNat = (n % 2 ^ 64).toNat % 2 ^ i := by
    rw [BitVec.toNat_and, e, BitVec.toNat_ofNat, Nat.mod_eq_of_lt (a := 2 ^ i - 1) (by omega), Nat.and_two_pow_sub_one_eq_mod]
  have hb : bits .and .i64 n ((2 ^ i - 1 : Nat) : Int) = IntKind.i64.wrap (((BitVec.ofInt 64 n) &&& (BitVec.ofNat 64 (2 ^ i - 1))).toNat : Int) := by
    simp only [bits, BitVec.ofInt_natCast]; rfl
  rw [hc, hb, key, h2, IntKind.wrap_i64]
  omega
theorem wrap_mod (n : Int) (i : Nat) (hi : i ≤ 62) : wrap64 n % 2 ^ i = n % 2 ^ i := by
  have h : wrap64 n % 2 ^ 64 = n % 2 ^ 64 := by unfold wrap64; omega
  have hdvd : ((2 : Int) ^ i) ∣ 2 ^ 64 := ⟨2 ^ (64 - i), by rw [← Int.pow_add]; congr 1; omega⟩
  rw [← Int.emod_emod_of_dvd (wrap64 n) hdvd, h, Int.emod_emod_of_dvd n hdvd]
theorem and16 (n : Int) : bits .and .i64 (wrap64 n) 65535 = n % 2 ^ 16 := by
  rw [show (65535 : Int) = 2 ^ 16 - 1 from by decide, and_mask _ 16 (by decide), wrap_mod _ 16 (by decide)]
theorem and32 (n : Int) : bits .and .i64 (wrap64 n) 4294967295 = n % 2 ^ 32 := by
  rw [show (4294967295 : Int) = 2 ^ 32 - 1 from by decide, and_mask _ 32 (by decide), wrap_mod _ 32 (by decide)]
theorem and60 (n : Int) : bits .and .i64 (wrap64 n) 1152921504606846975 = n % 2 ^ 60 := by
  rw [show (1152921504606846975 : Int) = 2 ^ 60 - 1 from by decide, and_mask _ 60 (by decide), wrap_mod _ 60 (by decide)]
theorem and1 (n : Int) : bits .and .i64 n 1 = n % 2 := by
  have := and_mask n 1 (by decide)
  simpa using this
/-- 'and' and 'or' of two numbers from 0 on. -/
def andV (a b : Int) : Int := ((a.toNat &&& b.toNat : Nat) : Int)
def orV (a b : Int) : Int := ((a.toNat ||| b.toNat : Nat) : Int)
theorem wraps62 (n : Int) (h0 : 0 ≤ n) (h1 : n < 2 ^ 62) : IntKind.i64.wrap n = n := by rw [IntKind.wrap_i64]; omega
theorem and_any {a b : Int} (a0 : 0 ≤ a) (a1 : a ≤ 1152921504606846975) (b0 : 0 ≤ b) (b1 : b ≤ 1152921504606846975) : bits .and .i64 a b = andV a b := by
  obtain ⟨x, rfl⟩ := Int.eq_ofNat_of_zero_le a0
  obtain ⟨y, rfl⟩ := Int.eq_ofNat_of_zero_le b0
  rw [(bits_nat .i64 62 (by decide) wraps62 x y (by omega) (by omega)).1]; rfl
theorem or_any {a b : Int} (a0 : 0 ≤ a) (a1 : a ≤ 1152921504606846975) (b0 : 0 ≤ b) (b1 : b ≤ 1152921504606846975) : bits .or .i64 a b = orV a b := by
  obtain ⟨x, rfl⟩ := Int.eq_ofNat_of_zero_le a0
  obtain ⟨y, rfl⟩ := Int.eq_ofNat_of_zero_le b0
  rw [(bits_nat .i64 62 (by decide) wraps62 x y (by omega) (by omega)).2]; rfl
theorem xor_mask (x i : Nat) (hi : i ≤ 62) (hx : x < 2 ^ i) : bits .xor .i64 (x : Int) ((2 ^ i - 1 : Nat) : Int) = ((2 ^ i - 1 - x : Nat) : Int) := by
  have hpos : 0 < 2 ^ i := Nat.two_pow_pos i
  have hle : (2 : Nat) ^ i ≤ 2 ^ 62 := Nat.pow_le_pow_right (by decide) hi
  have hn : x ^^^ (2 ^ i - 1) = 2 ^ i - 1 - x := by
    apply Nat.eq_of_testBit_eq
    intro j
    rw [Nat.testBit_xor, Nat.testBit_two_pow_sub_one, show 2 ^ i - 1 - x = 2 ^ i - (x + 1) from by omega, Nat.testBit_two_pow_sub_succ hx]
    by_cases hj : j < i
    · simp [hj]
    · rw [Nat.testBit_lt_two_pow (Nat.lt_of_lt_of_le hx (Nat.pow_le_pow_right (by decide) (by omega)))]
      simp [hj]
  have key : ((BitVec.ofNat 64 x) ^^^ (BitVec.ofNat 64 (2 ^ i - 1))).toNat = 2 ^ i - 1 - x := by
    rw [BitVec.toNat_xor, BitVec.toNat_ofNat, BitVec.toNat_ofNat, Nat.mod_eq_of_lt (by omega), Nat.mod_eq_of_lt (by omega), hn]
  have hb : bits .xor .i64 (x : Int) ((2 ^ i - 1 : Nat) : Int) = IntKind.i64.wrap (((BitVec.ofNat 64 x) ^^^ (BitVec.ofNat 64 (2 ^ i - 1))).toNat : Int) := by
    simp only [bits, BitVec.ofInt_natCast]; rfl
  rw [hb, key, IntKind.wrap_i64]
  omega
theorem xor16 {n : Int} (h0 : 0 ≤ n) (h1 : n ≤ 65535) : bits .xor .i64 n 65535 = 65535 - n := by
  obtain ⟨x, rfl⟩ := Int.eq_ofNat_of_zero_le h0
  have := xor_mask x 16 (by decide) (by omega)
  rw [show (65535 : Int) = ((2 ^ 16 - 1 : Nat) : Int) from by decide, this]; omega
theorem xor32 {n : Int} (h0 : 0 ≤ n) (h1 : n ≤ 4294967295) : bits .xor .i64 n 4294967295 = 4294967295 - n := by
  obtain ⟨x, rfl⟩ := Int.eq_ofNat_of_zero_le h0
  have := xor_mask x 32 (by decide) (by omega)
  rw [show (4294967295 : Int) = ((2 ^ 32 - 1 : Nat) : Int) from by decide, this]; omega
theorem xor60 {n : Int} (h0 : 0 ≤ n) (h1 : n ≤ 1152921504606846975) : bits .xor .i64 n 1152921504606846975 = 1152921504606846975 - n := by
  obtain ⟨x, rfl⟩ := Int.eq_ofNat_of_zero_le h0
  have := xor_mask x 60 (by decide) (by omega)
  rw [show (1152921504606846975 : Int) = ((2 ^ 60 - 1 : Nat) : Int) from by decide, this]; omega
end Go.Proofs.YtkehmdocjjadnaaDoor
