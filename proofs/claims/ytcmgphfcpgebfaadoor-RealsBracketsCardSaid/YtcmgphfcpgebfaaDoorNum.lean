/- Decimal digits, trailing zeros and whole roots of natural numbers: plain mathematics. No condition. -/
import Derived.Lib.BitFns
namespace Go.Proofs.YtcmgphfcpgebfaaDoor

/-- The number of decimal digits, 0 for 0. -/
def dg (n : Nat) : Nat := if h : n = 0 then 0 else dg (n / 10) + 1
termination_by n
decreasing_by omega

theorem dg_zero : dg 0 = 0 := by unfold dg; simp
theorem dg_step {n : Nat} (h : n ≠ 0) : dg n = dg (n / 10) + 1 := by rw [dg]; simp [h]
theorem lt_dg (n : Nat) : n < 10 ^ dg n := by
  induction n using Nat.strongRecOn with
  | ind n ih =>
    by_cases h : n = 0
    · subst h; simp [dg_zero]
    · rw [dg_step h, Nat.pow_succ]
      have := ih (n / 10) (by omega)
      omega
theorem dg_le {n : Nat} (h : n ≠ 0) : 10 ^ (dg n - 1) ≤ n := by
  induction n using Nat.strongRecOn with
  | ind n ih =>
    rw [dg_step h, Nat.add_sub_cancel]
    by_cases h1 : n / 10 = 0
    · rw [h1, dg_zero]; simp; omega
    · have := ih (n / 10) (by omega) h1
      have hp : dg (n / 10) ≠ 0 := by rw [dg_step h1]; omega
      obtain ⟨k, hk⟩ := Nat.exists_eq_succ_of_ne_zero hp
      rw [hk] at this ⊢
      rw [Nat.succ_sub_one] at this
      rw [Nat.pow_succ]
      omega
theorem dg_ne {n : Nat} (h : n ≠ 0) : dg n ≠ 0 := by rw [dg_step h]; omega
theorem p10 (k : Nat) : 0 < 10 ^ k := Nat.pow_pos (by omega)
theorem p10_le {a b : Nat} (h : a ≤ b) : 10 ^ a ≤ 10 ^ b := Nat.pow_le_pow_right (by omega) h
theorem p10_lt {a b : Nat} (h : a < b) : 10 ^ a < 10 ^ b := Nat.pow_lt_pow_right (by omega) h
theorem dg_iff (n k : Nat) : dg n ≤ k ↔ n < 10 ^ k := by
  constructor
  · exact fun h => Nat.lt_of_lt_of_le (lt_dg n) (p10_le h)
  · intro h
    by_cases h0 : n = 0
    · subst h0; simp [dg_zero]
    · have h1 := dg_le h0
      rcases Nat.lt_or_ge k (dg n) with h2 | h2
      · have := p10_le (a := k) (b := dg n - 1) (by omega)
        omega
      · exact h2
theorem dg_eq {n k : Nat} (h1 : 10 ^ k ≤ n) (h2 : n < 10 ^ (k + 1)) : dg n = k + 1 := by
  have a := (dg_iff n (k + 1)).2 h2
  rcases Nat.lt_or_ge k (dg n) with h | h
  · omega
  · have := (dg_iff n k).1 h
    omega
theorem dg_mono {a b : Nat} (h : a ≤ b) : dg a ≤ dg b := (dg_iff a _).2 (Nat.lt_of_le_of_lt h (lt_dg b))
theorem dg_mul {n : Nat} (k : Nat) (h : n ≠ 0) : dg (n * 10 ^ k) = dg n + k := by
  have hn := dg_ne h
  obtain ⟨d, hd⟩ := Nat.exists_eq_succ_of_ne_zero hn
  have h1 := dg_le h
  have h2 := lt_dg n
  rw [hd] at h1 h2 ⊢
  rw [Nat.succ_sub_one] at h1
  have : dg (n * 10 ^ k) = (d + k) + 1 := by
    apply dg_eq
    · rw [Nat.pow_add]; exact Nat.mul_le_mul_right _ h1
    · rw [show d + k + 1 = d.succ + k by omega, Nat.pow_add]; exact Nat.mul_lt_mul_of_pos_right h2 (p10 k)
  omega
theorem dg_div (n k : Nat) : dg (n / 10 ^ k) = dg n - k := by
  apply Nat.le_antisymm
  · rw [dg_iff, Nat.div_lt_iff_lt_mul (p10 k), ← Nat.pow_add]
    exact Nat.lt_of_lt_of_le (lt_dg n) (p10_le (by omega))
  · by_cases h : dg n ≤ k
    · omega
    · have h0 : n ≠ 0 := by rintro rfl; rw [dg_zero] at h; omega
      have h1 := dg_le h0
      have h2 : 10 ^ (dg n - 1 - k) ≤ n / 10 ^ k := by
        rw [Nat.le_div_iff_mul_le (p10 k), ← Nat.pow_add]
        exact Nat.le_trans (p10_le (by omega)) h1
      rcases Nat.lt_or_ge (dg (n / 10 ^ k)) (dg n - k) with h3 | h3
      · have := (dg_iff (n / 10 ^ k) (dg n - 1 - k)).1 (by omega)
        omega
      · exact h3

/-- The number of zeros at the end, 0 for 0. -/
def tz (n : Nat) : Nat := if h : n ≠ 0 ∧ n % 10 = 0 then tz (n / 10) + 1 else 0
termination_by n
decreasing_by omega

theorem tz_step {n : Nat} (h : n ≠ 0) (h1 : n % 10 = 0) : tz n = tz (n / 10) + 1 := by rw [tz]; simp [h, h1]
theorem tz_none {n : Nat} (h1 : n % 10 ≠ 0) : tz n = 0 := by rw [tz]; simp [h1]
theorem tz_zero : tz 0 = 0 := by rw [tz]; simp
theorem tz_mul {n : Nat} (k : Nat) (h : n ≠ 0) : tz (n * 10 ^ k) = tz n + k := by
  induction k with
  | zero => simp
  | succ k ih =>
    have e : n * 10 ^ (k + 1) = n * 10 ^ k * 10 := by rw [Nat.pow_succ, Nat.mul_assoc]
    have h2 : n * 10 ^ k ≠ 0 := Nat.mul_ne_zero h (by have := p10 k; omega)
    rw [e, tz_step (by omega) (by omega), Nat.mul_div_cancel _ (by omega), ih]; omega
/-- What is left without the zeros at the end. -/
def od (n : Nat) : Nat := n / 10 ^ tz n
theorem tz_dvd (n : Nat) : n % 10 ^ tz n = 0 := by
  induction n using Nat.strongRecOn with
  | ind n ih =>
    by_cases h : n ≠ 0 ∧ n % 10 = 0
    · rw [tz_step h.1 h.2]
      have := ih (n / 10) (by omega)
      rw [Nat.pow_succ, Nat.mul_comm, Nat.mod_mul, this, h.2]
    · by_cases h0 : n = 0
      · subst h0; simp
      · rw [tz_none (by intro h1; exact h ⟨h0, h1⟩)]; simp [Nat.mod_one]
theorem od_mul_tz (n : Nat) : od n * 10 ^ tz n = n := by
  have h := tz_dvd n
  have := Nat.div_add_mod n (10 ^ tz n)
  rw [h, Nat.add_zero, Nat.mul_comm] at this
  exact this
theorem od_mul {n : Nat} (k : Nat) (h : n ≠ 0) : od (n * 10 ^ k) = od n := by
  unfold od
  rw [tz_mul k h, Nat.add_comm, Nat.pow_add, ← Nat.div_div_eq_div_mul, Nat.mul_div_cancel _ (p10 k)]
theorem od_step {n : Nat} (h : n ≠ 0) (h1 : n % 10 = 0) : od n = od (n / 10) := by
  have e : n = n / 10 * 10 ^ 1 := by omega
  rw [e, od_mul 1 (by omega), Nat.pow_one, Nat.mul_div_cancel _ (by omega)]
theorem od_none {n : Nat} (h1 : n % 10 ≠ 0) : od n = n := by simp [od, tz_none h1]
theorem od_ne {n : Nat} (h : n ≠ 0) : od n ≠ 0 := by
  intro h0
  have := od_mul_tz n
  rw [h0, Nat.zero_mul] at this
  exact h this.symm
theorem od_mod {n : Nat} (h : n ≠ 0) : od n % 10 ≠ 0 := by
  induction n using Nat.strongRecOn with
  | ind n ih =>
    by_cases h1 : n % 10 = 0
    · rw [od_step h h1]; exact ih (n / 10) (by omega) (by omega)
    · rw [od_none h1]; exact h1

/-- The whole part of the square root. -/
def isq (n : Nat) : Nat :=
  if h : n = 0 then 0 else if (2 * isq (n / 4) + 1) * (2 * isq (n / 4) + 1) ≤ n then 2 * isq (n / 4) + 1 else 2 * isq (n / 4)
termination_by n
decreasing_by all_goals omega

theorem isq_spec (n : Nat) : isq n * isq n ≤ n ∧ n < (isq n + 1) * (isq n + 1) := by
  induction n using Nat.strongRecOn with
  | ind n ih =>
    by_cases h : n = 0
    · subst h; rw [isq]; simp
    · obtain ⟨h1, h2⟩ := ih (n / 4) (by omega)
      rw [isq, dif_neg h]
      generalize isq (n / 4) = r at *
      have e1 : (2 * r + 1) * (2 * r + 1) = 4 * (r * r) + 4 * r + 1 := by
        rw [Nat.mul_add, Nat.add_mul, Nat.mul_one, Nat.one_mul, show 2 * r * (2 * r) = 4 * (r * r) by rw [Nat.mul_mul_mul_comm]]; omega
      have e2 : (2 * r) * (2 * r) = 4 * (r * r) := by rw [Nat.mul_mul_mul_comm]
      have e3 : (r + 1) * (r + 1) = r * r + 2 * r + 1 := by rw [Nat.mul_add, Nat.add_mul]; omega
      have e4 : (2 * r + 1 + 1) * (2 * r + 1 + 1) = 4 * (r * r) + 8 * r + 4 := by
        rw [show 2 * r + 1 + 1 = 2 * (r + 1) by omega, Nat.mul_mul_mul_comm, e3]; omega
      split
      · rename_i h3
        exact ⟨h3, by omega⟩
      · rename_i h3
        exact ⟨by omega, by omega⟩
theorem isq_of {n r : Nat} (h1 : r * r ≤ n) (h2 : n < (r + 1) * (r + 1)) : isq n = r := by
  obtain ⟨a, b⟩ := isq_spec n
  apply Nat.le_antisymm
  · rcases Nat.lt_or_ge r (isq n) with h | h
    · have := Nat.mul_le_mul (show r + 1 ≤ isq n from h) (show r + 1 ≤ isq n from h)
      omega
    · exact h
  · rcases Nat.lt_or_ge (isq n) r with h | h
    · have := Nat.mul_le_mul (show isq n + 1 ≤ r from h) (show isq n + 1 ≤ r from h)
      omega
    · exact h
theorem isq_sq (a : Nat) : isq (a * a) = a := isq_of (Nat.le_refl _) (Nat.mul_lt_mul_of_lt_of_lt (by omega) (by omega))
/-- A root of a number with digits cut off in pairs is the root with as many digits cut off. -/
theorem isq_div (n d : Nat) (hd : 0 < d) : isq (n / (d * d)) = isq n / d := by
  obtain ⟨a, b⟩ := isq_spec n
  apply isq_of
  · rw [Nat.le_div_iff_mul_le (Nat.mul_pos hd hd), Nat.mul_mul_mul_comm]
    have := Nat.div_mul_le_self (isq n) d
    exact Nat.le_trans (Nat.mul_le_mul this this) a
  · rw [Nat.div_lt_iff_lt_mul (Nat.mul_pos hd hd), Nat.mul_mul_mul_comm]
    have h : isq n + 1 ≤ (isq n / d + 1) * d := by
      have := Nat.lt_div_mul_add hd (a := isq n)
      rw [Nat.add_mul, Nat.one_mul]; omega
    exact Nat.lt_of_lt_of_le b (Nat.mul_le_mul h h)
end Go.Proofs.YtcmgphfcpgebfaaDoor
