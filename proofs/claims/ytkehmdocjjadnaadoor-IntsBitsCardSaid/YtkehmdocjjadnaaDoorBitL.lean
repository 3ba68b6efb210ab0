/- The laws of words as numbers: De Morgan, bits of 'and', shifting there and back. No condition. -/
import Derived.Test.YtkehmdocjjadnaaDoorBitS
namespace Go.Proofs.YtkehmdocjjadnaaDoor
open Go.RowKit
theorem demorgan {W x y : Nat} (hx : x < 2 ^ W) (hy : y < 2 ^ W) : (2 ^ W - 1 - x) ||| (2 ^ W - 1 - y) = 2 ^ W - 1 - (x &&& y) := by
  have hxy : x &&& y < 2 ^ W := Nat.and_lt_two_pow _ hy
  apply Nat.eq_of_testBit_eq
  intro j
  rw [Nat.testBit_or, show 2 ^ W - 1 - x = 2 ^ W - (x + 1) from by omega, show 2 ^ W - 1 - y = 2 ^ W - (y + 1) from by omega, show 2 ^ W - 1 - (x &&& y) = 2 ^ W - ((x &&& y) + 1) from by omega,
    Nat.testBit_two_pow_sub_succ hx, Nat.testBit_two_pow_sub_succ hy, Nat.testBit_two_pow_sub_succ hxy, Nat.testBit_and]
  cases decide (j < W) <;> cases x.testBit j <;> cases y.testBit j <;> rfl
theorem there_and_back {W x i : Nat} (hx : x < 2 ^ W) (h1 : 1 ≤ i) (h2 : i ≤ W) :
    shN W (shN W x (i : Int)) (-(i : Int)) ||| shN W (shN W x ((i : Int) - W)) ((W : Int) - i) = x := by
  by_cases hi : i = W
  · subst hi
    have a1 : shN i x (i : Int) = 0 := by unfold shN; rw [if_pos (by omega)]
    have a2 : shN i 0 (-(i : Int)) = 0 := by unfold shN; rw [if_pos (by omega)]
    have a3 : ∀ z, z < 2 ^ i → shN i z 0 = z := by
      intro z hz
      unfold shN; rw [if_neg (by omega), if_neg (by omega)]
      simp [Nat.mod_eq_of_lt hz]
    rw [a1, a2, Int.sub_self, a3 x hx, a3 x hx, Nat.zero_or]
  · have hp : 0 < 2 ^ i := Nat.two_pow_pos i
    have hW : 2 ^ W = 2 ^ (W - i) * 2 ^ i := by rw [← Nat.pow_add]; congr 1; omega
    have a1 : shN W x (i : Int) = x % 2 ^ (W - i) * 2 ^ i := by
      unfold shN; rw [if_neg (by omega), if_neg (by omega), Int.toNat_natCast, hW, Nat.mul_mod_mul_right]
    have a2 : ∀ z, shN W (z * 2 ^ i) (-(i : Int)) = z := by
      intro z
      unfold shN; rw [if_neg (by omega), if_pos (by omega), show (-(-(i : Int))).toNat = i from by omega, Nat.mul_div_cancel _ hp]
    have a3 : shN W x ((i : Int) - W) = x / 2 ^ (W - i) := by
      unfold shN; rw [if_neg (by omega), if_pos (by omega), show (-((i : Int) - W)).toNat = W - i from by omega]
    have hq : x / 2 ^ (W - i) * 2 ^ (W - i) ≤ x := Nat.div_mul_le_self _ _
    have a4 : shN W (x / 2 ^ (W - i)) ((W : Int) - i) = 2 ^ (W - i) * (x / 2 ^ (W - i)) := by
      unfold shN; rw [if_neg (by omega), if_neg (by omega), show ((W : Int) - i).toNat = W - i from by omega, Nat.mod_eq_of_lt (by omega), Nat.mul_comm]
    rw [a1, a2, a3, a4, Nat.or_comm, ← Nat.two_pow_add_eq_or_of_lt (Nat.mod_lt _ (Nat.two_pow_pos _))]
    exact Nat.div_add_mod _ _
/-- A size's width, as a natural number. -/
theorem size_width {s : Int} (h : isSz s = true) : ∃ W : Nat, wd s = (W : Int) ∧ mw s = ((2 ^ W - 1 : Nat) : Int) ∧ 1 ≤ W ∧ W ≤ 60 := by
  rcases sz3 h with rfl | rfl | rfl
  · exact ⟨16, rfl, by decide, by decide, by decide⟩
  · exact ⟨32, rfl, by decide, by decide, by decide⟩
  · exact ⟨60, rfl, by decide, by decide, by decide⟩
theorem isW_iff {s n : Int} (h : isSz s = true) : isW s n = true ↔ 0 ≤ n ∧ n ≤ mw s := by
  have h := of_decide_eq_true h
  unfold isW
  rw [decide_eq_true_iff]
  exact ⟨fun h' => h'.2, fun h' => ⟨h, h'⟩⟩
theorem isW_nat {s : Int} {W x : Nat} (h : isSz s = true) (hm : mw s = ((2 ^ W - 1 : Nat) : Int)) : isW s (x : Int) = true ↔ x < 2 ^ W := by
  rw [isW_iff h, hm]
  have := Nat.two_pow_pos W
  omega
theorem bt_and {W i x y : Nat} (h1 : 1 ≤ i) (h2 : i ≤ W) : (bt W i ((x &&& y : Nat) : Int) == 1) = ((bt W i x == 1) && (bt W i y == 1)) := by
  rw [bt_nat h1 h2, bt_nat h1 h2, bt_nat h1 h2, Nat.testBit_and]
  cases x.testBit (W - i) <;> cases y.testBit (W - i) <;> rfl
end Go.Proofs.YtkehmdocjjadnaaDoor
