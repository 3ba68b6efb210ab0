/- The results of rounding are valid, and what number they are: plain mathematics. No condition. -/
import Derived.Test.YtcmgphfcpgebfaaDoorCheck
namespace Go.Proofs.YtcmgphfcpgebfaaDoor

theorem sg_mag (neg : Bool) (n : Nat) : mag (sg neg n) = n := by unfold mag sg; split <;> omega
theorem sg_ne (neg : Bool) {n : Nat} (h : n ≠ 0) : sg neg n ≠ 0 := by unfold sg; split <;> omega
theorem sg_mod (neg : Bool) {n : Nat} (h : n % 10 ≠ 0) : sg neg n % 10 ≠ 0 := by unfold sg; split <;> omega
theorem sg_lt (neg : Bool) {n : Nat} (h : n ≠ 0) : decide (sg neg n < 0) = neg := by
  cases neg
  · exact decide_eq_false (by unfold sg; simp)
  · exact decide_eq_true (by unfold sg; simp; omega)

/-- A number at the fixed scale that a real of p digits is. -/
def Fits (p U : Nat) : Prop := U < 10 ^ (p + 1500) ∧ ∃ q k, U = q * 10 ^ k ∧ q ≤ 10 ^ p ∧ 700 ≤ k
theorem zero_any (k : Nat) : 0 = 0 * 10 ^ k := (Nat.zero_mul _).symm
theorem fits_zero (p : Nat) : Fits p 0 := ⟨p10 _, 0, 700, zero_any 700, Nat.zero_le _, Nat.le_refl _⟩

theorem od_le {q p : Nat} (h0 : q ≠ 0) (hp : 1 ≤ p) (h : q ≤ 10 ^ p) : dg (od q) ≤ p := by
  rcases Nat.lt_or_ge q (10 ^ p) with h1 | h1
  · have h2 := (dg_iff q p).2 h1
    have h3 := od_mul_tz q
    have h4 : dg (od q * 10 ^ tz q) = dg (od q) + tz q := dg_mul _ (od_ne h0)
    rw [h3] at h4
    omega
  · have h2 : q = 1 * 10 ^ p := by omega
    rw [h2, od_mul p (by omega), od_none (by omega)]
    have : dg 1 = 1 := dg_eq (k := 0) (by simp) (by omega)
    omega

theorem form_vld {s : Int} {neg : Bool} {U : Nat} (hs : isSz s = true) (h : Fits (pr s) U) : vld s (fM neg U) (fE U) = true := by
  unfold vld
  rw [hs, Bool.true_and]
  by_cases h0 : U = 0
  · subst h0
    rw [fM_zero, fE_zero]; simp
  · obtain ⟨hU, q, k, he, hq, hk⟩ := h
    have hp := pr_pos s
    have hq0 : q ≠ 0 := by rintro rfl; simp at he; exact h0 he
    have hn : fM neg U ≠ 0 := sg_ne neg (od_ne h0)
    rw [if_neg hn]
    apply decide_eq_true
    have hm : mag (fM neg U) = od U := sg_mag _ _
    have ho : od U = od q := by rw [he, od_mul k hq0]
    have ht : tz U = tz q + k := by rw [he, tz_mul k hq0]
    have hd := od_le hq0 (by omega) hq
    have h3 := od_mul_tz U
    have h4 : dg (od U * 10 ^ tz U) = dg (od U) + tz U := dg_mul _ (od_ne h0)
    rw [h3] at h4
    have h5 := (dg_iff U (pr s + 1500)).2 hU
    rw [hm]
    have hE : fE U = (tz U : Int) - 1100 := by unfold fE; rw [if_neg h0]
    rw [hE]
    refine ⟨sg_mod neg (od_mod h0), by rw [ho]; exact hd, by omega, by omega⟩

theorem form_val {p : Nat} {neg : Bool} {U : Nat} (h : Fits p U) : sc (mag (fM neg U)) (fE U) = U := by
  by_cases h0 : U = 0
  · subst h0
    rw [fM_zero, fE_zero]
    unfold sc
    rw [show mag 0 = 0 from rfl, Nat.zero_mul]
  · obtain ⟨hU, q, k, he, hq, hk⟩ := h
    have hm : mag (fM neg U) = od U := sg_mag _ _
    have hE : fE U = (tz U : Int) - 1100 := by unfold fE; rw [if_neg h0]
    unfold sc
    rw [hm, hE]
    have : ((tz U : Int) - 1100 + 1100).toNat = tz U := by omega
    rw [this]
    exact od_mul_tz U
theorem form_neg {neg : Bool} {U : Nat} (h0 : U ≠ 0) : decide (fM neg U < 0) = neg := sg_lt neg (od_ne h0)

theorem oV_fits {p : Nat} {how : Int} {neg : Bool} {V : Nat} {m : Bool} : Fits p (oV p how neg V m) := by
  unfold oV
  split
  · split
    · refine ⟨?_, 10 ^ p - 1, 1500, rfl, Nat.sub_le _ _, by omega⟩
      unfold mst
      rw [Nat.pow_add]
      exact Nat.mul_lt_mul_of_pos_right (by have := p10 p; omega) (p10 1500)
    · exact fits_zero p
  · rename_i h
    unfold ovf at h
    have h1 : ¬ 10 ^ (p + 1500) ≤ rv p how neg V m := fun h2 => h (decide_eq_true h2)
    exact ⟨Nat.lt_of_not_le h1, rq p how neg V m, lst p V, rfl, rq_le p how neg V m, lst_ge p V⟩

theorem res_vld {s how : Int} {neg : Bool} {V : Nat} {m : Bool} (hs : isSz s = true) : vld s (rM (pr s) how neg V m) (rE (pr s) how neg V m) = true := form_vld hs oV_fits
theorem res_val {s how : Int} {neg : Bool} {V : Nat} {m : Bool} : sc (mag (rM (pr s) how neg V m)) (rE (pr s) how neg V m) = oV (pr s) how neg V m := form_val (p := pr s) oV_fits

/-- A valid real's number. -/
theorem vld_fits {s m e : Int} (h : vld s m e = true) : Fits (pr s) (sc (mag m) e) := by
  unfold vld at h
  rw [Bool.and_eq_true] at h
  by_cases h0 : m = 0
  · have : mag m = 0 := by unfold mag; omega
    rw [this]
    unfold sc
    rw [Nat.zero_mul]
    exact fits_zero _
  · have h2 := h.2
    rw [if_neg h0] at h2
    obtain ⟨a, b, c, d⟩ := of_decide_eq_true h2
    have hm : mag m ≠ 0 := by unfold mag; omega
    refine ⟨?_, mag m, (e + 1100).toNat, rfl, Nat.le_of_lt ((dg_iff _ _).1 b), by omega⟩
    rw [← dg_iff]
    unfold sc
    rw [dg_mul _ hm]
    omega
/-- A valid real's form is that of its number. -/
theorem vld_form {s m e : Int} (h : vld s m e = true) : fM (decide (m < 0)) (sc (mag m) e) = m ∧ fE (sc (mag m) e) = e := by
  unfold vld at h
  rw [Bool.and_eq_true] at h
  by_cases h0 : m = 0
  · subst h0
    have h2 := h.2
    rw [if_pos rfl] at h2
    have he := of_decide_eq_true h2
    subst he
    have : mag 0 = 0 := by unfold mag; omega
    rw [this]
    unfold sc
    rw [Nat.zero_mul, fM_zero, fE_zero]
    exact ⟨rfl, rfl⟩
  · have h2 := h.2
    rw [if_neg h0] at h2
    obtain ⟨a, b, c, d⟩ := of_decide_eq_true h2
    have hm : mag m ≠ 0 := by unfold mag; omega
    have hz : mag m % 10 ≠ 0 := by unfold mag; omega
    unfold sc
    refine ⟨?_, ?_⟩
    · rw [fM_mul _ _ hm, od_none hz]
      unfold sg mag
      by_cases hn : m < 0
      · rw [decide_eq_true hn, if_pos rfl]; omega
      · rw [decide_eq_false hn, if_neg (by simp)]; omega
    · rw [fE_mul _ hm, tz_none hz]; omega
/-- A valid real's number is rounded to itself. -/
theorem vld_same {s m e how : Int} (neg : Bool) (h : vld s m e = true) : rv (pr s) how neg (sc (mag m) e) false = sc (mag m) e := by
  have hF := vld_fits h
  apply rv_exact
  unfold vld at h
  rw [Bool.and_eq_true] at h
  by_cases h0 : m = 0
  · have : mag m = 0 := by unfold mag; omega
    rw [this]
    unfold sc
    rw [Nat.zero_mul, Nat.zero_mod]
  · have h2 := h.2
    rw [if_neg h0] at h2
    obtain ⟨a, b, c, d⟩ := of_decide_eq_true h2
    have hm : mag m ≠ 0 := by unfold mag; omega
    unfold sc
    rw [lst_mul _ hm]
    have hle : max (dg (mag m) + (e + 1100).toNat - pr s) 700 ≤ (e + 1100).toNat := by omega
    generalize max (dg (mag m) + (e + 1100).toNat - pr s) 700 = t at hle ⊢
    obtain ⟨r, hr⟩ := Nat.exists_eq_add_of_le hle
    rw [hr, Nat.pow_add, ← Nat.mul_assoc, Nat.mul_right_comm]
    exact Nat.mul_mod_left _ _
end Go.Proofs.YtcmgphfcpgebfaaDoor
