/- Division of 128 bits by 64: the arithmetic of the school method in half words. No condition. -/
import Derived.Test.YtcmgphfcpgebfaaDoorBits
namespace Go.Proofs.YtcmgphfcpgebfaaDoor

theorem bitLenAux_spec (f x : Nat) (h : x < 2 ^ f) : x < 2 ^ Lib.bitLenAux f x ∧ (x ≠ 0 → 2 ^ (Lib.bitLenAux f x - 1) ≤ x) ∧ Lib.bitLenAux f x ≤ f ∧ (x ≠ 0 → 1 ≤ Lib.bitLenAux f x) := by
  induction f generalizing x with
  | zero =>
    have : x = 0 := by simp at h; omega
    subst this
    simp [Lib.bitLenAux]
  | succ f ih =>
    unfold Lib.bitLenAux
    by_cases h0 : x = 0
    · subst h0; simp
    · rw [if_neg h0]
      obtain ⟨a, b, c, d⟩ := ih (x / 2) (by rw [Nat.pow_succ] at h; omega)
      refine ⟨?_, fun _ => ?_, by omega, fun _ => by omega⟩
      · rw [Nat.add_comm, Nat.pow_succ]; omega
      · by_cases h1 : x / 2 = 0
        · have e : Lib.bitLenAux f (x / 2) = 0 := by
            rcases Nat.eq_zero_or_pos (Lib.bitLenAux f (x / 2)) with h2 | h2
            · exact h2
            · cases f with
              | zero => simp [Lib.bitLenAux]
              | succ f => rw [h1]; simp [Lib.bitLenAux]
          rw [e]; simp; omega
        · have b1 := b h1
          have d1 := d h1
          obtain ⟨k, hk⟩ := Nat.exists_eq_succ_of_ne_zero (show Lib.bitLenAux f (x / 2) ≠ 0 by omega)
          rw [hk] at b1 ⊢
          rw [show 1 + k.succ - 1 = k.succ by omega, Nat.pow_succ]
          rw [Nat.succ_sub_one] at b1
          omega
/-- The shift that brings a divisor's first bit to the front. -/
def nz (y : Nat) : Nat := 64 - Lib.bitLen y
theorem nz_spec (y : Nat) (h0 : 0 < y) (h : y < 18446744073709551616) : y * 2 ^ nz y < 18446744073709551616 ∧ 9223372036854775808 ≤ y * 2 ^ nz y ∧ nz y < 64 := by
  obtain ⟨a, b, c, d⟩ := bitLenAux_spec 64 y (by simpa using h)
  have b := b (by omega)
  have d := d (by omega)
  unfold nz
  change y < 2 ^ Lib.bitLen y at a
  change 2 ^ (Lib.bitLen y - 1) ≤ y at b
  change Lib.bitLen y ≤ 64 at c
  change 1 ≤ Lib.bitLen y at d
  generalize Lib.bitLen y = k at *
  refine ⟨?_, ?_, by omega⟩
  · have : y * 2 ^ (64 - k) < 2 ^ k * 2 ^ (64 - k) := Nat.mul_lt_mul_of_pos_right a (Nat.pow_pos (by omega))
    rwa [← Nat.pow_add, show k + (64 - k) = 64 by omega] at this
  · have : 2 ^ (k - 1) * 2 ^ (64 - k) ≤ y * 2 ^ (64 - k) := Nat.mul_le_mul_right _ b
    rwa [← Nat.pow_add, show k - 1 + (64 - k) = 63 by omega] at this

/-- A digit's estimate as the loop has it: at least the digit, and what is left of it by the divisor's upper half. -/
structure Est (u v y1 y0 q r : Nat) : Prop where
  hy1 : 2147483648 ≤ y1
  hy0 : y0 < 4294967296
  hv : v < 4294967296
  hu : u < y1 * 4294967296 + y0
  big : (u * 4294967296 + v) / (y1 * 4294967296 + y0) ≤ q
  sum : u = q * y1 + r
  top : q ≤ 4294967297

theorem est_start {u v y1 y0 : Nat} (hy1 : 2147483648 ≤ y1) (hy1' : y1 < 4294967296) (hy0 : y0 < 4294967296) (hv : v < 4294967296) (hu : u < y1 * 4294967296 + y0) :
    Est u v y1 y0 (u / y1) (u - u / y1 * y1) ∧ u - u / y1 * y1 < 4294967296 := by
  have hd := Nat.div_add_mod u y1
  have hm := Nat.mod_lt u (show 0 < y1 by omega)
  rw [Nat.mul_comm] at hd
  refine ⟨⟨hy1, hy0, hv, hu, ?_, by omega, ?_⟩, by omega⟩
  · have h : (u * 4294967296 + v) / (y1 * 4294967296 + y0) ≤ (u * 4294967296 + v) / (y1 * 4294967296) := Nat.div_le_div_left (by omega) (by omega)
    refine Nat.le_trans h ?_
    rw [Nat.mul_comm y1, ← Nat.div_div_eq_div_mul, show (u * 4294967296 + v) / 4294967296 = u by omega]
    exact Nat.le_refl _
  · rw [← Nat.lt_succ_iff, Nat.div_lt_iff_lt_mul (by omega)]
    have : Nat.succ 4294967297 * y1 = 4294967298 * y1 := rfl
    omega

/-- The loop's test says whether the estimate is too great. -/
theorem est_test {u v y1 y0 q r : Nat} (h : Est u v y1 y0 q r) : (r * 4294967296 + v < q * y0 ↔ (u * 4294967296 + v) / (y1 * 4294967296 + y0) < q) := by
  have hY : 0 < y1 * 4294967296 + y0 := by have := h.hy1; omega
  rw [Nat.div_lt_iff_lt_mul hY, Nat.mul_add, ← Nat.mul_assoc]
  have := h.sum
  generalize q * y1 = a at *
  generalize q * y0 = b at *
  omega
theorem est_digit {u v y1 y0 q r : Nat} (h : Est u v y1 y0 q r) : (u * 4294967296 + v) / (y1 * 4294967296 + y0) < 4294967296 := by
  have hY : 0 < y1 * 4294967296 + y0 := by have := h.hy1; omega
  rw [Nat.div_lt_iff_lt_mul hY]
  have := h.hu
  have := h.hv
  omega
theorem est_down {u v y1 y0 q r : Nat} (h : Est u v y1 y0 q r) (hq : (u * 4294967296 + v) / (y1 * 4294967296 + y0) < q) : Est u v y1 y0 (q - 1) (r + y1) := by
  have := h.sum
  have hs : q * y1 = (q - 1) * y1 + y1 := by
    obtain ⟨k, rfl⟩ := Nat.exists_eq_succ_of_ne_zero (Nat.ne_of_gt (Nat.lt_of_le_of_lt (Nat.zero_le _) hq))
    rw [Nat.succ_mul, Nat.succ_sub_one]
  exact ⟨h.hy1, h.hy0, h.hv, h.hu, Nat.le_sub_one_of_lt hq, by omega, by have := h.top; omega⟩
/-- Where the loop breaks off, the estimate is the digit. -/
theorem est_break {u v y1 y0 q r : Nat} (h : Est u v y1 y0 q r) (hq : q ≤ 4294967296) (hr : 4294967296 ≤ r) : q = (u * 4294967296 + v) / (y1 * 4294967296 + y0) := by
  apply Nat.le_antisymm _ h.big
  have hY : 0 < y1 * 4294967296 + y0 := by have := h.hy1; omega
  rw [Nat.le_div_iff_mul_le hY, Nat.mul_add, ← Nat.mul_assoc]
  have h0 : q * y0 ≤ 4294967296 * y0 := Nat.mul_le_mul_right _ hq
  have := h.sum
  have := h.hy0
  generalize q * y1 = a at *
  generalize q * y0 = b at *
  omega
/-- What is left of a digit is below the divisor; it is what the wrapped difference gives. -/
theorem est_left (u v Y : Nat) (hY : Y < 18446744073709551616) (h0 : 0 < Y) :
    (u * 4294967296 + v) % Y = ((u * 4294967296 + v) % 18446744073709551616 + 18446744073709551616 - (u * 4294967296 + v) / Y * Y % 18446744073709551616) % 18446744073709551616 := by
  have hd := Nat.div_add_mod (u * 4294967296 + v) Y
  have hm := Nat.mod_lt (u * 4294967296 + v) h0
  rw [Nat.mul_comm] at hd
  generalize (u * 4294967296 + v) / Y * Y = a at *
  generalize (u * 4294967296 + v) % Y = b at *
  omega
/-- Two digits make the quotient. -/
theorem two_digits (u v0 v1 Y : Nat) (h0 : 0 < Y) :
    (u * 4294967296 + v1) / Y * 4294967296 + ((u * 4294967296 + v1) % Y * 4294967296 + v0) / Y = ((u * 4294967296 + v1) * 4294967296 + v0) / Y ∧
    ((u * 4294967296 + v1) % Y * 4294967296 + v0) % Y = ((u * 4294967296 + v1) * 4294967296 + v0) % Y := by
  have key : ∀ N B a b : Nat, Y * a + b = N → a * B + (b * B + v0) / Y = (N * B + v0) / Y ∧ (b * B + v0) % Y = (N * B + v0) % Y := by
    intro N B a b h
    have e : N * B + v0 = b * B + v0 + Y * (a * B) := by rw [← h, Nat.add_mul, Nat.mul_assoc]; omega
    have f1 := Nat.add_mul_div_left (b * B + v0) (a * B) h0
    have f2 := Nat.add_mul_mod_self_left (b * B + v0) Y (a * B)
    rw [← e] at f1 f2
    exact ⟨by rw [f1, Nat.add_comm], f2.symm⟩
  exact key _ _ _ _ (Nat.div_add_mod (u * 4294967296 + v1) Y)
/-- Both numbers times one factor: the same quotient, the remainder times the factor. -/
theorem scaled (a y p : Nat) (hp : 0 < p) : a * p / (y * p) = a / y ∧ a * p % (y * p) / p = a % y := by
  refine ⟨Nat.mul_div_mul_right _ _ hp, ?_⟩
  rw [Nat.mul_mod_mul_right, Nat.mul_div_cancel _ hp]
end Go.Proofs.YtcmgphfcpgebfaaDoor
