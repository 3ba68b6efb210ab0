/- That the program's rounding of a number n 10^e (and what is behind it) is rounding at the fixed scale: plain mathematics. No condition. -/
import Derived.Test.YtcmgphfcpgebfaaDoorReal
namespace Go.Proofs.YtcmgphfcpgebfaaDoor

/-- The digits of a size. -/
def pr (s : Int) : Nat := if s = -1 then 7 else if s = 0 then 15 else 18
theorem pr_pos (s : Int) : 7 ≤ pr s ∧ pr s ≤ 18 := by unfold pr; repeat (split <;> try omega)
/-- How many digits are cut off; what is left; how it is rounded. -/
def cK (p n : Nat) (e : Int) : Int := max (e + (dg n : Int) - (p : Int)) (-400) - e
def cQ (p : Nat) (how : Int) (neg : Bool) (n : Nat) (e : Int) (m : Bool) : Nat :=
  n / 10 ^ (cK p n e).toNat + if grow how neg (n / 10 ^ (cK p n e).toNat) (tl n m (cK p n e).toNat) = true then 1 else 0
/-- The number at the fixed scale. -/
def sc (n : Nat) (e : Int) : Nat := n * 10 ^ (e + 1100).toNat

theorem tl_zero (n : Nat) : tl n false 0 = 0 := by unfold tl; simp [Nat.mod_one]
theorem rep_rv {p n : Nat} {how e : Int} {neg m : Bool} (hn : n ≠ 0) (he : -1100 ≤ e) (hm : m = true → p < dg n) :
    rv p how neg (sc n e) m = cQ p how neg n e m * 10 ^ ((e + 1100).toNat + (cK p n e).toNat) := by
  unfold sc cQ
  rcases (by omega : cK p n e ≤ 0 ∨ 0 < cK p n e) with h | h
  · have hm' : m = false := by
      cases m with
      | false => rfl
      | true => have := hm rfl; unfold cK at h; omega
    subst hm'
    have h0 : (cK p n e).toNat = 0 := by omega
    rw [h0, tl_zero, grow_zero]
    rw [rv_keep]
    · simp
    · rw [lst_mul _ hn]; unfold cK at h; omega
  · rw [rv_cut]
    rw [lst_mul _ hn]
    unfold cK at *
    omega
theorem rep_ovf {p n : Nat} {how e : Int} {neg m : Bool} (hn : n ≠ 0) (he : -1100 ≤ e) (hp : 1 ≤ p) (hm : m = true → p < dg n) :
    ovf p how neg (sc n e) m = decide (¬ e + ((cK p n e).toNat : Int) + (dg (cQ p how neg n e m) : Int) ≤ 400 + (p : Int)) := by
  unfold ovf
  rw [rep_rv hn he hm]
  by_cases hq : cQ p how neg n e m = 0
  · have hz : n / 10 ^ (cK p n e).toNat = 0 := by unfold cQ at hq; exact (Nat.add_eq_zero_iff.1 hq).1
    have hlt : n < 10 ^ (cK p n e).toNat := by
      rcases Nat.lt_or_ge n (10 ^ (cK p n e).toNat) with h | h
      · exact h
      · have := Nat.div_pos h (p10 _); omega
    have hd := (dg_iff n _).2 hlt
    have hdn := dg_ne hn
    rw [hq, dg_zero, Nat.zero_mul]
    rw [decide_eq_false (by have := p10 (p + 1500); omega), decide_eq_false]
    unfold cK at *
    omega
  · have hd := dg_mul ((e + 1100).toNat + (cK p n e).toNat) hq
    have hi := dg_iff (cQ p how neg n e m * 10 ^ ((e + 1100).toNat + (cK p n e).toNat)) (p + 1500)
    rw [hd] at hi
    rw [Bool.eq_iff_iff]
    simp only [decide_eq_true_eq]
    rw [← Nat.not_lt, ← hi]
    omega
theorem fM_mul (neg : Bool) {q : Nat} (j : Nat) (h : q ≠ 0) : fM neg (q * 10 ^ j) = sg neg (od q) := by unfold fM; rw [od_mul j h]
theorem fE_mul {q : Nat} (j : Nat) (h : q ≠ 0) : fE (q * 10 ^ j) = (tz q : Int) + j - 1100 := by
  unfold fE
  rw [if_neg (Nat.mul_ne_zero h (by have := p10 j; omega)), tz_mul j h]
  omega
theorem od_zero : od 0 = 0 := by unfold od; simp
theorem fM_zero (neg : Bool) : fM neg 0 = 0 := by unfold fM sg; rw [od_zero]; simp
theorem fE_zero : fE 0 = 0 := by unfold fE; simp
/-- The result of rounding: the number in its form, and the error. -/
def rM (p : Nat) (how : Int) (neg : Bool) (V : Nat) (m : Bool) : Int := fM neg (oV p how neg V m)
def rE (p : Nat) (how : Int) (neg : Bool) (V : Nat) (m : Bool) : Int := fE (oV p how neg V m)
def rX (p : Nat) (how : Int) (neg : Bool) (V : Nat) (m : Bool) : Int := if oF p how neg V m = true then 11 else 0

theorem round_zero {p : Nat} {how e : Int} {neg : Bool} : rM p how neg (sc 0 e) false = 0 ∧ rE p how neg (sc 0 e) false = 0 ∧ rX p how neg (sc 0 e) false = 0 := by
  have h0 : sc 0 e = 0 := by unfold sc; simp
  have hr := rv_zero p how neg
  have ho : ovf p how neg 0 false = false := by unfold ovf; rw [hr]; exact decide_eq_false (by have := p10 (p + 1500); omega)
  rw [h0]
  unfold rM rE rX oV oF
  rw [ho, hr]
  simp [fM_zero, fE_zero]
theorem round_in {p n : Nat} {how e : Int} {neg m : Bool} (hn : n ≠ 0) (he : -1100 ≤ e) (hp : 1 ≤ p) (hm : m = true → p < dg n) (h : e + ((cK p n e).toNat : Int) + (dg (cQ p how neg n e m) : Int) ≤ 400 + (p : Int)) :
    rX p how neg (sc n e) m = 0 ∧ (cQ p how neg n e m = 0 → rM p how neg (sc n e) m = 0 ∧ rE p how neg (sc n e) m = 0) ∧
    (cQ p how neg n e m ≠ 0 → rM p how neg (sc n e) m = sg neg (od (cQ p how neg n e m)) ∧ rE p how neg (sc n e) m = e + ((cK p n e).toNat : Int) + (tz (cQ p how neg n e m) : Int)) := by
  have ho := rep_ovf (how := how) (neg := neg) (m := m) hn he hp hm
  rw [decide_eq_false (by omega)] at ho
  have hr := rep_rv (how := how) (neg := neg) hn he hm
  unfold rM rE rX oV oF
  rw [ho, hr]
  simp only [Bool.false_and, Bool.false_eq_true, if_false, true_and]
  refine ⟨fun h0 => ?_, fun h0 => ?_⟩
  · rw [h0, Nat.zero_mul, fM_zero, fE_zero]; exact ⟨rfl, rfl⟩
  · rw [fM_mul _ _ h0, fE_mul _ h0]
    exact ⟨rfl, by omega⟩
theorem p10ne (k : Nat) : 10 ^ k ≠ 0 := Nat.ne_of_gt (p10 k)
theorem mul_p10 {a : Nat} (h : a ≠ 0) (k : Nat) : a * 10 ^ k ≠ 0 := Nat.mul_ne_zero h (p10ne k)
theorem mst_gen (p k : Nat) (h0 : 10 ^ p - 1 ≠ 0) : (10 ^ p - 1) * 10 ^ k ≠ 0 ∧ fE ((10 ^ p - 1) * 10 ^ k) = (k : Int) - 1100 + (tz (10 ^ p - 1) : Int) ∧ ∀ neg, fM neg ((10 ^ p - 1) * 10 ^ k) = sg neg (od (10 ^ p - 1)) := by
  refine ⟨mul_p10 h0 k, ?_, fun neg => fM_mul neg k h0⟩
  rw [fE_mul k h0]
  omega
theorem mst_form (p : Nat) (h1 : 1 ≤ p) : mst p ≠ 0 ∧ fE (mst p) = ((1500 : Nat) : Int) - 1100 + (tz (10 ^ p - 1) : Int) ∧ ∀ neg, fM neg (mst p) = sg neg (od (10 ^ p - 1)) := by
  have hp := p10_lt (show 0 < p by omega)
  have h0 : 10 ^ p - 1 ≠ 0 := by simp at hp; omega
  exact mst_gen p 1500 h0
theorem round_out {p n : Nat} {how e : Int} {neg m : Bool} (hn : n ≠ 0) (he : -1100 ≤ e) (hp : 1 ≤ p) (hm : m = true → p < dg n) (h : ¬ e + ((cK p n e).toNat : Int) + (dg (cQ p how neg n e m) : Int) ≤ 400 + (p : Int)) :
    (inw how neg = false → rM p how neg (sc n e) m = 0 ∧ rE p how neg (sc n e) m = 0 ∧ rX p how neg (sc n e) m = 11) ∧
    (inw how neg = true → rM p how neg (sc n e) m = sg neg (od (10 ^ p - 1)) ∧ rE p how neg (sc n e) m = 400 + (tz (10 ^ p - 1) : Int) ∧ rX p how neg (sc n e) m = 0) := by
  have ho := rep_ovf (how := how) (neg := neg) (m := m) hn he hp hm
  rw [decide_eq_true h] at ho
  obtain ⟨a, b, c⟩ := mst_form p hp
  unfold rM rE rX oV oF
  rw [ho]
  refine ⟨fun hi => ?_, fun hi => ?_⟩
  · rw [hi]; simp [fM_zero, fE_zero]
  · rw [hi]
    simp only [Bool.true_and, Bool.not_true, Bool.false_eq_true, if_true, if_false, b, c]
    exact ⟨trivial, by omega, trivial⟩
theorem cQ_le {p n : Nat} {how e : Int} {neg m : Bool} (hp : p ≤ 18) : cQ p how neg n e m ≤ 1000000000000000000 := by
  have h : n / 10 ^ (cK p n e).toNat < 10 ^ p := by
    rw [Nat.div_lt_iff_lt_mul (p10 _), ← Nat.pow_add]
    refine Nat.lt_of_lt_of_le (lt_dg n) (p10_le ?_)
    unfold cK
    omega
  have h2 := p10_le hp
  have h3 : (10 : Nat) ^ 18 = 1000000000000000000 := by decide
  unfold cQ
  split <;> omega
end Go.Proofs.YtcmgphfcpgebfaaDoor
