/- Rounding of a number V times 10 to the power of -1100 (and something below 1 more of that unit) to p digits: plain mathematics. No condition. -/
import Derived.Test.YtcmgphfcpgebfaaDoorNum
namespace Go.Proofs.YtcmgphfcpgebfaaDoor

/-- How the last t digits (and what is more) compare with one half: 0 nothing, 1 below, 2 one half, 3 above. -/
def tl (V : Nat) (m : Bool) (t : Nat) : Nat :=
  if V % 10 ^ t = 0 ∧ m = false then 0 else if 2 * (V % 10 ^ t) < 10 ^ t then 1 else if 2 * (V % 10 ^ t) = 10 ^ t ∧ m = false then 2 else 3
/-- The direction is that towards 0. -/
def inw (how : Int) (neg : Bool) : Bool := decide (how = 3 ∨ (how = 1 ∧ neg = true) ∨ (how = 2 ∧ neg = false))
/-- The number is rounded away from 0. -/
def grow (how : Int) (neg : Bool) (q t : Nat) : Bool := if how = 0 then decide (t = 3 ∨ (t = 2 ∧ q % 2 = 1)) else decide (t ≠ 0) && !inw how neg
/-- How many digits are left out, at scale -1100. -/
def lst (p V : Nat) : Nat := max (dg V - p) 700
def rq (p : Nat) (how : Int) (neg : Bool) (V : Nat) (m : Bool) : Nat :=
  V / 10 ^ lst p V + if grow how neg (V / 10 ^ lst p V) (tl V m (lst p V)) = true then 1 else 0
/-- The rounded number, were the exponent not bounded above. -/
def rv (p : Nat) (how : Int) (neg : Bool) (V : Nat) (m : Bool) : Nat := rq p how neg V m * 10 ^ lst p V
/-- The greatest real. -/
def mst (p : Nat) : Nat := (10 ^ p - 1) * 10 ^ 1500
def sg (neg : Bool) (n : Nat) : Int := if neg = true then -(n : Int) else n
def fM (neg : Bool) (V : Nat) : Int := sg neg (od V)
def fE (V : Nat) : Int := if V = 0 then 0 else (tz V : Int) - 1100
def ovf (p : Nat) (how : Int) (neg : Bool) (V : Nat) (m : Bool) : Bool := decide (10 ^ (p + 1500) ≤ rv p how neg V m)
/-- The result's number, 0 with an error. -/
def oV (p : Nat) (how : Int) (neg : Bool) (V : Nat) (m : Bool) : Nat :=
  if ovf p how neg V m = true then (if inw how neg = true then mst p else 0) else rv p how neg V m
def oF (p : Nat) (how : Int) (neg : Bool) (V : Nat) (m : Bool) : Bool := ovf p how neg V m && !inw how neg

theorem tl_exact {V t : Nat} (h : V % 10 ^ t = 0) : tl V false t = 0 := by unfold tl; rw [if_pos ⟨h, rfl⟩]
theorem grow_zero (how : Int) (neg : Bool) (q : Nat) : grow how neg q 0 = false := by unfold grow; split <;> simp
theorem lst_ge (p V : Nat) : 700 ≤ lst p V := Nat.le_max_right _ _
theorem rv_exact {p : Nat} {how : Int} {neg : Bool} {V : Nat} (h : V % 10 ^ lst p V = 0) : rv p how neg V false = V := by
  unfold rv rq
  rw [tl_exact h, grow_zero]
  have := Nat.div_add_mod V (10 ^ lst p V)
  rw [h, Nat.add_zero, Nat.mul_comm] at this
  simpa using this
theorem rv_zero (p : Nat) (how : Int) (neg : Bool) : rv p how neg 0 false = 0 := rv_exact (Nat.zero_mod _)

theorem scale_div (n j k : Nat) : n * 10 ^ j / 10 ^ (j + k) = n / 10 ^ k := by
  rw [Nat.add_comm, Nat.pow_add, Nat.mul_div_mul_right _ _ (p10 j)]
theorem scale_mod (n j k : Nat) : n * 10 ^ j % 10 ^ (j + k) = n % 10 ^ k * 10 ^ j := by
  rw [Nat.add_comm, Nat.pow_add, Nat.mul_mod_mul_right]
theorem tl_scale (n j k : Nat) (m : Bool) : tl (n * 10 ^ j) m (j + k) = tl n m k := by
  unfold tl
  rw [scale_mod, show (10 : Nat) ^ (j + k) = 10 ^ k * 10 ^ j by rw [Nat.add_comm, Nat.pow_add]]
  have hp := p10 j
  have h0 : n % 10 ^ k * 10 ^ j = 0 ↔ n % 10 ^ k = 0 := by
    constructor
    · intro h
      rcases Nat.mul_eq_zero.1 h with h | h
      · exact h
      · omega
    · intro h; rw [h, Nat.zero_mul]
  have h1 : 2 * (n % 10 ^ k * 10 ^ j) < 10 ^ k * 10 ^ j ↔ 2 * (n % 10 ^ k) < 10 ^ k := by
    rw [← Nat.mul_assoc]; exact Nat.mul_lt_mul_right hp
  have h2 : 2 * (n % 10 ^ k * 10 ^ j) = 10 ^ k * 10 ^ j ↔ 2 * (n % 10 ^ k) = 10 ^ k := by
    rw [← Nat.mul_assoc]; exact Nat.mul_right_cancel_iff hp
  simp only [h0, h1, h2]

/-- What a number n 10^j is rounded to, where k digits of n are left out. -/
theorem rv_cut {p n j k : Nat} {how : Int} {neg m : Bool} (h : lst p (n * 10 ^ j) = j + k) :
    rv p how neg (n * 10 ^ j) m = (n / 10 ^ k + if grow how neg (n / 10 ^ k) (tl n m k) = true then 1 else 0) * 10 ^ (j + k) := by
  unfold rv rq
  rw [h, scale_div, tl_scale]
theorem lst_mul {p n : Nat} (j : Nat) (h : n ≠ 0) : lst p (n * 10 ^ j) = max (dg n + j - p) 700 := by unfold lst; rw [dg_mul j h]
theorem rv_keep {p n j : Nat} {how : Int} {neg : Bool} (h : lst p (n * 10 ^ j) ≤ j) : rv p how neg (n * 10 ^ j) false = n * 10 ^ j := by
  apply rv_exact
  generalize lst p (n * 10 ^ j) = l at *
  obtain ⟨d, rfl⟩ := Nat.exists_eq_add_of_le h
  rw [Nat.add_comm, Nat.pow_add, ← Nat.mul_assoc]
  exact Nat.mul_mod_left _ _

/-- Rounding does not look at more than one digit behind the last one that is kept, and at whether something is left. -/
theorem rv_norm {p V j : Nat} {how : Int} {neg m : Bool} (h : p < dg (V / 10 ^ j)) :
    rv p how neg V m = rv p how neg (V / 10 ^ j * 10 ^ j) (m || decide (V % 10 ^ j ≠ 0)) := by
  have hd := dg_div V j
  have hW : V / 10 ^ j ≠ 0 := by intro h0; rw [h0, dg_zero] at h; omega
  have hl : lst p (V / 10 ^ j * 10 ^ j) = lst p V := by rw [lst_mul j hW]; unfold lst; rw [hd]; congr 1; omega
  have hj : j + 1 ≤ lst p V := by unfold lst; omega
  obtain ⟨k, hk⟩ := Nat.exists_eq_add_of_le hj
  have hk' : lst p V = j + (k + 1) := by omega
  have e1 : V / 10 ^ (j + (k + 1)) = V / 10 ^ j / 10 ^ (k + 1) := by rw [Nat.pow_add, Nat.div_div_eq_div_mul]
  have e2 : V % 10 ^ (j + (k + 1)) = V % 10 ^ j + 10 ^ j * (V / 10 ^ j % 10 ^ (k + 1)) := by rw [Nat.pow_add, Nat.mod_mul]
  have et : tl V m (j + (k + 1)) = tl (V / 10 ^ j) (m || decide (V % 10 ^ j ≠ 0)) (k + 1) := by
    unfold tl
    rw [e2, show (10 : Nat) ^ (j + (k + 1)) = 10 ^ j * (5 * 10 ^ k * 2) by rw [Nat.pow_add, Nat.pow_succ]; congr 1; omega, show (10 : Nat) ^ (k + 1) = 5 * 10 ^ k * 2 by rw [Nat.pow_succ]; omega]
    have hr := Nat.mod_lt V (p10 j)
    generalize V % 10 ^ j = r at *
    generalize V / 10 ^ j % (5 * 10 ^ k * 2) = a at *
    generalize 5 * 10 ^ k = H at *
    generalize 10 ^ j = B at *
    have eB : B * (H * 2) = 2 * (B * H) := by rw [← Nat.mul_assoc]; omega
    rcases Nat.lt_or_ge a H with ha | ha
    · have h1 : B * (a + 1) ≤ B * H := Nat.mul_le_mul_left _ ha
      rw [Nat.mul_add, Nat.mul_one] at h1
      have h2 : 2 * (r + B * a) < B * (H * 2) := by omega
      have h3 : 2 * a < H * 2 := by omega
      by_cases hz : r + B * a = 0 ∧ m = false
      · have ha0 : a = 0 := by
          rcases Nat.mul_eq_zero.1 (show B * a = 0 by omega) with h | h
          · omega
          · exact h
        rw [if_pos hz, if_pos]
        refine ⟨ha0, ?_⟩
        rw [hz.2]; simp; omega
      · rw [if_neg hz, if_pos h2]
        by_cases hz' : a = 0 ∧ (m || decide (r ≠ 0)) = false
        · exfalso
          simp at hz'
          exact hz ⟨by rw [hz'.1, hz'.2.2]; simp, hz'.2.1⟩
        · rw [if_neg hz', if_pos h3]
    · have h1 : B * H ≤ B * a := Nat.mul_le_mul_left _ ha
      have hH : 0 < H ∨ H = 0 := by omega
      have h2 : ¬ 2 * (r + B * a) < B * (H * 2) := by omega
      have h3 : ¬ 2 * a < H * 2 := by omega
      rw [if_neg h2, if_neg h3]
      by_cases hz : r + B * a = 0 ∧ m = false
      · have ha0 : a = 0 := by
          rcases Nat.mul_eq_zero.1 (show B * a = 0 by omega) with h | h
          · omega
          · exact h
        rw [if_pos hz, if_pos]
        refine ⟨ha0, ?_⟩
        rw [hz.2]; simp; omega
      · rw [if_neg hz]
        have hz' : ¬ (a = 0 ∧ (m || decide (r ≠ 0)) = false) := by
          intro hz'
          simp at hz'
          exact hz ⟨by rw [hz'.1, hz'.2.2]; simp, hz'.2.1⟩
        rw [if_neg hz']
        by_cases hq : 2 * (r + B * a) = B * (H * 2) ∧ m = false
        · rw [if_pos hq, if_pos]
          have hr0 : r = 0 := by omega
          have : B * a = B * H := by omega
          have := Nat.eq_of_mul_eq_mul_left (by omega : 0 < B) this
          refine ⟨by omega, ?_⟩
          rw [hq.2, hr0]; rfl
        · rw [if_neg hq, if_neg]
          intro hq'
          simp at hq'
          have : a = H := by omega
          subst this
          exact hq ⟨by rw [hq'.2.2]; omega, hq'.2.1⟩
  unfold rv rq
  rw [hl, hk', e1, et, scale_div, tl_scale]

/-- Bounds of a rounded number. -/
theorem rq_le (p : Nat) (how : Int) (neg : Bool) (V : Nat) (m : Bool) : rq p how neg V m ≤ 10 ^ p := by
  have h : V / 10 ^ lst p V < 10 ^ p := by
    rw [Nat.div_lt_iff_lt_mul (p10 _), ← Nat.pow_add]
    exact Nat.lt_of_lt_of_le (lt_dg V) (p10_le (by unfold lst; omega))
  unfold rq
  split <;> omega
theorem rv_le (p : Nat) (how : Int) (neg : Bool) (V : Nat) (m : Bool) : rv p how neg V m ≤ 10 ^ (p + lst p V) := by
  unfold rv
  rw [Nat.pow_add]
  exact Nat.mul_le_mul_right _ (rq_le ..)
theorem rv_ge {p V : Nat} {how : Int} {neg m : Bool} (h : 700 < lst p V) (hp : 1 ≤ p) : 10 ^ (p + lst p V - 1) ≤ rv p how neg V m := by
  have hd : dg V = p + lst p V := by unfold lst at *; omega
  have h0 : V ≠ 0 := by rintro rfl; rw [dg_zero] at hd; omega
  have h1 := dg_le h0
  rw [hd] at h1
  have h2 : 10 ^ (p - 1) ≤ V / 10 ^ lst p V := by
    rw [Nat.le_div_iff_mul_le (p10 _), ← Nat.pow_add]
    rwa [show p - 1 + lst p V = p + lst p V - 1 by omega]
  unfold rv rq
  rw [show p + lst p V - 1 = p - 1 + lst p V by omega, Nat.pow_add]
  exact Nat.mul_le_mul_right _ (by omega)
theorem grow_mono {how : Int} {neg : Bool} {q t t' : Nat} (h : t ≤ t') (ht' : t' ≤ 3) (hg : grow how neg q t = true) : grow how neg q t' = true := by
  unfold grow at *
  by_cases hh : how = 0
  · rw [if_pos hh] at *
    have := of_decide_eq_true hg
    exact decide_eq_true (by omega)
  · rw [if_neg hh] at *
    rw [Bool.and_eq_true] at *
    exact ⟨decide_eq_true (by have := of_decide_eq_true hg.1; omega), hg.2⟩
theorem tl_le (V : Nat) (m : Bool) (t : Nat) : tl V m t ≤ 3 := by unfold tl; repeat (split <;> try omega)
theorem tl_mono {V V' t : Nat} (h : V % 10 ^ t ≤ V' % 10 ^ t) : tl V false t ≤ tl V' false t := by
  unfold tl
  simp only [and_true]
  split
  · omega
  · rw [if_neg (by omega : ¬ V' % 10 ^ t = 0)]
    repeat (split <;> try omega)
theorem rv_mono {p V V' : Nat} {how : Int} {neg : Bool} (hp : 1 ≤ p) (h : V ≤ V') : rv p how neg V false ≤ rv p how neg V' false := by
  have hl : lst p V ≤ lst p V' := by have := dg_mono h; unfold lst; omega
  rcases Nat.lt_or_ge (lst p V) (lst p V') with hlt | hge
  · have h1 := rv_le p how neg V false
    have h2 := rv_ge (how := how) (neg := neg) (m := false) (show 700 < lst p V' by have := lst_ge p V; omega) hp
    exact Nat.le_trans h1 (Nat.le_trans (p10_le (by omega)) h2)
  · have he : lst p V' = lst p V := by omega
    unfold rv
    rw [he]
    apply Nat.mul_le_mul_right
    unfold rq
    rw [he]
    have hq := Nat.div_le_div_right (c := 10 ^ lst p V) h
    rcases Nat.lt_or_ge (V / 10 ^ lst p V) (V' / 10 ^ lst p V) with h1 | h1
    · split <;> split <;> omega
    · have h2 : V' / 10 ^ lst p V = V / 10 ^ lst p V := by omega
      have hm : V % 10 ^ lst p V ≤ V' % 10 ^ lst p V := by
        have a := Nat.div_add_mod V (10 ^ lst p V)
        have b := Nat.div_add_mod V' (10 ^ lst p V)
        rw [h2] at b
        omega
      rw [h2]
      by_cases hg : grow how neg (V / 10 ^ lst p V) (tl V false (lst p V)) = true
      · rw [if_pos hg, if_pos (grow_mono (tl_mono hm) (tl_le ..) hg)]; omega
      · rw [if_neg hg]; split <;> omega
end Go.Proofs.YtcmgphfcpgebfaaDoor
