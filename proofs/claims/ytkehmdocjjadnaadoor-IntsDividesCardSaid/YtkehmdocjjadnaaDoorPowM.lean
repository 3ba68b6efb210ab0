/- Powers of integers: when they fit. No condition. -/
import Derived.Test.YtkehmdocjjadnaaDoorCkA
namespace Go.Proofs.YtkehmdocjjadnaaDoor
open Go.RowKit
def pw (a n : Int) : Int := a ^ n.toNat
def powR (s a n : Int) : Int × Int := if isSz s then (if isI s a then (if n < 0 then (0, 11) else fit s (pw a n)) else (0, 11)) else (0, 1)
theorem powR_no {s a n : Int} (h : isSz s = false) : powR s a n = (0, 1) := by simp [powR, h]
theorem powR_out {s a n : Int} (h : isSz s = true) (ha : isI s a = false) : powR s a n = (0, 11) := by simp [powR, h, ha]
theorem powR_neg {s a n : Int} (h : isSz s = true) (ha : isI s a = true) (hn : n < 0) : powR s a n = (0, 11) := by simp [powR, h, ha, hn]
theorem powR_y {s a n : Int} (h : isSz s = true) (ha : isI s a = true) (hn : ¬ n < 0) : powR s a n = fit s (pw a n) := by simp [powR, h, ha, hn]
theorem pw_zero (a : Int) : pw a 0 = 1 := by simp [pw]
theorem pw_succ (a : Int) (k : Nat) : pw a ((k : Int) + 1) = pw a k * a := by
  unfold pw
  rw [show ((k : Int) + 1).toNat = k + 1 from by omega, Int.pow_succ, Int.toNat_natCast]
theorem pw_nat (a n : Int) (k : Nat) (h : (k : Int) = n) : pw a k = pw a n := by rw [h]
theorem mag_pw (a : Int) (k : Nat) : mag (pw a k) = ((a.natAbs ^ k : Nat) : Int) := by
  rw [mag_natAbs]; unfold pw; rw [Int.natAbs_pow, Int.toNat_natCast]
theorem one_fits {s : Int} (h : isSz s = true) : isI s 1 = true := by
  rcases (of_decide_eq_true h : s = -1 ∨ s = 0 ∨ s = 1) with rfl | rfl | rfl <;> rfl
theorem pw_big {s a : Int} {k n : Nat} (hs : isSz s = true) (h2 : 2 ≤ mag a) (hk : k ≤ n) (h : isI s (pw a k) = false) : isI s (pw a n) = false := by
  have h1 : ¬ mag (pw a k) ≤ mx s := fun hc => by rw [(isI_mag hs).2 hc] at h; cases h
  cases hn : isI s (pw a n)
  · rfl
  · have h3 := (isI_mag hs).1 hn
    rw [mag_pw] at h1 h3
    rw [mag_natAbs] at h2
    have := Nat.pow_le_pow_right (n := a.natAbs) (by omega) hk
    omega
theorem pw_unit {a n : Int} (h : mag a ≤ 1) (hn : 0 ≤ n) : pw a n = if n = 0 then 1 else if n % 2 = 0 then a * a else a := by
  have hc : a = -1 ∨ a = 0 ∨ a = 1 := by unfold mag at h; split at h <;> omega
  obtain ⟨k, rfl⟩ := Int.eq_ofNat_of_zero_le hn
  clear hn
  unfold pw
  rw [Int.toNat_natCast]
  rcases hc with rfl | rfl | rfl
  · induction k with
    | zero => rfl
    | succ k ih =>
      rw [Int.pow_succ, ih]
      by_cases h0 : k = 0
      · subst h0; rfl
      · have e1 : ¬ (k : Int) = 0 := by omega
        have e2 : ¬ ((k + 1 : Nat) : Int) = 0 := by omega
        rw [if_neg e1, if_neg e2]
        by_cases h1 : (k : Int) % 2 = 0
        · have e3 : ¬ ((k + 1 : Nat) : Int) % 2 = 0 := by omega
          rw [if_pos h1, if_neg e3]; rfl
        · have e3 : ((k + 1 : Nat) : Int) % 2 = 0 := by omega
          rw [if_neg h1, if_pos e3]
  · cases k with
    | zero => rfl
    | succ k =>
      have e1 : ¬ ((k + 1 : Nat) : Int) = 0 := by omega
      rw [Int.pow_succ, Int.mul_zero, if_neg e1]
      split <;> rfl
  · rw [Int.one_pow]; split <;> (try split) <;> rfl
theorem unit_fits {s a n : Int} (hs : isSz s = true) (ha : isI s a = true) (h : mag a ≤ 1) (hn : 0 ≤ n) : isI s (pw a n) = true := by
  rw [pw_unit h hn]
  split
  · exact one_fits hs
  · split
    · have hc : a = -1 ∨ a = 0 ∨ a = 1 := by unfold mag at h; split at h <;> omega
      rcases hc with rfl | rfl | rfl
      · exact one_fits hs
      · exact isI_zero hs
      · exact one_fits hs
    · exact ha
end Go.Proofs.YtkehmdocjjadnaaDoor
