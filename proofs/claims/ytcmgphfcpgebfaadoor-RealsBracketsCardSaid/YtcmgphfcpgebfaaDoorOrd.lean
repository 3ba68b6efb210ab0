/- The order of reals and of rounded numbers: plain mathematics. No condition. -/
import Derived.Test.YtcmgphfcpgebfaaDoorLaw
namespace Go.Proofs.YtcmgphfcpgebfaaDoor

theorem mst_top {p q k : Nat} (K : Nat) (hp : 1 ≤ p) (hK : 1 ≤ K) (hU : q * 10 ^ k < 10 ^ (p + K)) (hq : q ≤ 10 ^ p) : q * 10 ^ k ≤ (10 ^ p - 1) * 10 ^ K := by
  have h1 : 1 ≤ 10 ^ p := p10 p
  rcases Nat.lt_or_ge k K with h | h
  · obtain ⟨L, rfl⟩ : ∃ L, K = L + 1 := ⟨K - 1, by omega⟩
    have h2 : 10 ^ k ≤ 10 ^ L := p10_le (by omega)
    have h3 : (10 : Nat) ^ (L + 1) = 10 * 10 ^ L := Nat.pow_succ'
    rw [h3]
    have h4 : 10 ≤ 10 ^ p := by have := p10_le hp; simpa using this
    generalize (10 : Nat) ^ L = c at *
    generalize 10 ^ p = t at *
    have h5 : q * 10 ^ k ≤ t * c := Nat.mul_le_mul hq h2
    have h6 : t * c ≤ (t - 1) * 10 * c := Nat.mul_le_mul_right _ (by omega)
    rw [Nat.mul_assoc] at h6
    omega
  · obtain ⟨r, rfl⟩ := Nat.exists_eq_add_of_le h
    rw [Nat.pow_add] at hU ⊢
    rw [Nat.pow_add] at hU
    have hc : 0 < 10 ^ K := p10 K
    generalize (10 : Nat) ^ K = c at *
    generalize 10 ^ p = t at *
    rw [Nat.mul_comm c, ← Nat.mul_assoc] at hU ⊢
    have h5 : q * 10 ^ r < t := Nat.lt_of_mul_lt_mul_right hU
    exact Nat.mul_le_mul_right _ (by omega)
theorem fits_mst {p U : Nat} (hp : 1 ≤ p) (h : Fits p U) : U ≤ mst p := by
  obtain ⟨hU, q, k, rfl, hq, hk⟩ := h
  exact mst_top 1500 hp (by omega) hU hq

/-- The rounded number, with its sign. -/
def nR (p : Nat) (how N : Int) : Int := sg (decide (N < 0)) (oV p how (decide (N < 0)) N.natAbs false)
theorem sv_form {p U : Nat} (neg : Bool) (h : Fits p U) : sv (fM neg U) (fE U) = sg neg U := by
  unfold sv
  rw [form_val h]
  by_cases h0 : U = 0
  · subst h0; rw [sg_zero, sg_zero]
  · rw [form_neg h0]
theorem sv_res (p : Nat) (how N : Int) : sv (nM p how N) (nE p how N) = nR p how N := sv_form (p := p) _ oV_fits
theorem sv_res' (p : Nat) (how : Int) (neg : Bool) (V : Nat) (m : Bool) : sv (rM p how neg V m) (rE p how neg V m) = sg neg (oV p how neg V m) := sv_form (p := p) _ oV_fits

theorem oV_mono {p V V' : Nat} {how : Int} {neg : Bool} (hp : 1 ≤ p) (h : V ≤ V') (_h1 : oF p how neg V false = false) (h2 : oF p how neg V' false = false) : oV p how neg V false ≤ oV p how neg V' false := by
  have hr := rv_mono (how := how) (neg := neg) hp h
  have hf := fits_mst hp (oV_fits (p := p) (how := how) (neg := neg) (V := V) (m := false))
  unfold oF ovf at h2
  unfold oV ovf at *
  by_cases hb : 10 ^ (p + 1500) ≤ rv p how neg V' false
  · rw [decide_eq_true hb] at h2 ⊢
    have hi : inw how neg = true := by simpa using h2
    rw [hi] at hf ⊢
    simpa using hf
  · rw [decide_eq_false hb]
    rw [decide_eq_false (by omega)]
    simpa using hr
theorem nX_oF {p : Nat} {how N : Int} (h : nX p how N = 0) : oF p how (decide (N < 0)) N.natAbs false = false := by
  unfold nX rX at h
  cases hc : oF p how (decide (N < 0)) N.natAbs false
  · rfl
  · rw [hc] at h; simp at h
theorem nR_mono {p : Nat} {how N K : Int} (hp : 1 ≤ p) (h : N ≤ K) (h1 : nX p how N = 0) (h2 : nX p how K = 0) : nR p how N ≤ nR p how K := by
  have f1 := nX_oF h1
  have f2 := nX_oF h2
  unfold nR
  by_cases hk : K < 0
  · have hn : N < 0 := by omega
    rw [decide_eq_true hk] at f2 ⊢
    rw [decide_eq_true hn] at f1 ⊢
    have := oV_mono hp (show K.natAbs ≤ N.natAbs by omega) f2 f1
    unfold sg
    simp only [if_true]
    omega
  · by_cases hn : N < 0
    · rw [decide_eq_true hn, decide_eq_false hk]
      unfold sg
      simp only [if_true, Bool.false_eq_true, if_false]
      omega
    · rw [decide_eq_false hk] at f2 ⊢
      rw [decide_eq_false hn] at f1 ⊢
      have := oV_mono hp (show N.natAbs ≤ K.natAbs by omega) f1 f2
      unfold sg
      simp only [Bool.false_eq_true, if_false]
      omega

/-- How integers compare. -/
def cmpI (x y : Int) : Int := if x < y then -1 else if y < x then 1 else 0
theorem cmpN_swap (x y : Nat) : cmpN y x = - cmpN x y := by unfold cmpN; split <;> split <;> omega
theorem cmpN_mul (x y c : Nat) (hc : 0 < c) : cmpN (x * c) (y * c) = cmpN x y := by
  unfold cmpN
  have h1 : x * c < y * c ↔ x < y := Nat.mul_lt_mul_right hc
  have h2 : y * c < x * c ↔ y < x := Nat.mul_lt_mul_right hc
  simp only [h1, h2]
/-- How the absolute values of two reals compare. -/
def cm (a e b f : Int) : Int := if e < f then - cmG (mag b) (mag a) (f - e) else cmG (mag a) (mag b) (e - f)
theorem cmG_sc {x y : Nat} {e f : Int} (hf : -1100 ≤ f) (h : f ≤ e) (hx : x ≠ 0) (hy : y < 10 ^ 20) : cmG x y (e - f) = cmpN (sc x e) (sc y f) := by
  have hs : sc x e = x * 10 ^ (e - f).toNat * 10 ^ (f + 1100).toNat := by
    unfold sc
    rw [Nat.mul_assoc, ← Nat.pow_add]
    congr 2
    omega
  rw [hs]
  unfold sc
  rw [cmpN_mul _ _ _ (p10 _)]
  unfold cmG
  split
  · have h20 : 10 ^ 20 ≤ 10 ^ (e - f).toNat := p10_le (by omega)
    have h3 : 10 ^ (e - f).toNat ≤ x * 10 ^ (e - f).toNat := Nat.le_mul_of_pos_left _ (by omega)
    unfold cmpN
    rw [if_neg (by omega), if_pos (by omega)]
  · rfl
theorem cm_sc {a e b f : Int} (he : -1100 ≤ e) (hf : -1100 ≤ f) (ha : a ≠ 0) (hb : b ≠ 0) (la : mag a < 10 ^ 20) (lb : mag b < 10 ^ 20) : cm a e b f = cmpN (sc (mag a) e) (sc (mag b) f) := by
  have ha' : mag a ≠ 0 := by unfold mag; omega
  have hb' : mag b ≠ 0 := by unfold mag; omega
  unfold cm
  split
  · rw [cmG_sc he (by omega) hb' la, ← cmpN_swap]
  · rw [cmG_sc hf (by omega) ha' lb]
/-- The program's comparison of two reals. -/
def cmpR (a e b f : Int) : Int := if sgn a < sgn b then -1 else if sgn b < sgn a then 1 else if sgn a < 0 then cm b f a e else if 0 < sgn a then cm a e b f else 0
theorem sc_pos {x : Nat} (e : Int) (h : x ≠ 0) : 0 < sc x e := by unfold sc; exact Nat.mul_pos (by omega) (p10 _)
theorem cmpR_sv {a e b f : Int} (he : -1100 ≤ e) (hf : -1100 ≤ f) (la : mag a < 10 ^ 20) (lb : mag b < 10 ^ 20) : cmpR a e b f = cmpI (sv a e) (sv b f) := by
  have hz : ∀ e, sc 0 e = 0 := fun e => by unfold sc; rw [Nat.zero_mul]
  have hn : ∀ m e : Int, m < 0 → sv m e = -(sc (mag m) e : Int) ∧ 0 < sc (mag m) e ∧ sgn m = -1 := fun m e h => by
    refine ⟨?_, sc_pos _ (by unfold mag; omega), ?_⟩
    · unfold sv sg; rw [decide_eq_true h, if_pos rfl]
    · unfold sgn; rw [if_pos h]
  have hp : ∀ m e : Int, 0 < m → sv m e = (sc (mag m) e : Int) ∧ 0 < sc (mag m) e ∧ sgn m = 1 := fun m e h => by
    refine ⟨?_, sc_pos _ (by unfold mag; omega), ?_⟩
    · unfold sv sg; rw [decide_eq_false (by omega), if_neg (by simp)]
    · unfold sgn; rw [if_neg (by omega), if_pos h]
  have h0 : ∀ e : Int, sv 0 e = 0 ∧ sgn 0 = 0 := fun e => by
    refine ⟨?_, rfl⟩
    unfold sv; rw [show mag 0 = 0 from rfl, hz, sg_zero]
  unfold cmpR
  rcases (by omega : a < 0 ∨ a = 0 ∨ 0 < a) with h | h | h
  · obtain ⟨a1, a2, a3⟩ := hn a e h
    rw [a1, a3]
    rcases (by omega : b < 0 ∨ b = 0 ∨ 0 < b) with k | k | k
    · obtain ⟨b1, b2, b3⟩ := hn b f k
      rw [b1, b3, if_neg (by omega), if_neg (by omega), if_pos (by omega), cm_sc hf he (by omega) (by omega) lb la]
      unfold cmpN cmpI
      repeat' split
      all_goals omega
    · subst k
      rw [(h0 f).1, (h0 f).2, if_pos (by omega)]
      unfold cmpI
      rw [if_pos (by omega)]
    · obtain ⟨b1, b2, b3⟩ := hp b f k
      rw [b1, b3, if_pos (by omega)]
      unfold cmpI
      rw [if_pos (by omega)]
  · subst h
    rw [(h0 e).1, (h0 e).2]
    rcases (by omega : b < 0 ∨ b = 0 ∨ 0 < b) with k | k | k
    · obtain ⟨b1, b2, b3⟩ := hn b f k
      rw [b1, b3, if_neg (by omega), if_pos (by omega)]
      unfold cmpI
      rw [if_neg (by omega), if_pos (by omega)]
    · subst k
      rw [(h0 f).1, (h0 f).2]
      rfl
    · obtain ⟨b1, b2, b3⟩ := hp b f k
      rw [b1, b3, if_pos (by omega)]
      unfold cmpI
      rw [if_pos (by omega)]
  · obtain ⟨a1, a2, a3⟩ := hp a e h
    rw [a1, a3]
    rcases (by omega : b < 0 ∨ b = 0 ∨ 0 < b) with k | k | k
    · obtain ⟨b1, b2, b3⟩ := hn b f k
      rw [b1, b3, if_neg (by omega), if_pos (by omega)]
      unfold cmpI
      rw [if_neg (by omega), if_pos (by omega)]
    · subst k
      rw [(h0 f).1, (h0 f).2, if_neg (by omega), if_pos (by omega)]
      unfold cmpI
      rw [if_neg (by omega), if_pos (by omega)]
    · obtain ⟨b1, b2, b3⟩ := hp b f k
      rw [b1, b3, if_neg (by omega), if_neg (by omega), if_neg (by omega), if_pos (by omega), cm_sc he hf (by omega) (by omega) la lb]
      unfold cmpN cmpI
      repeat' split
      all_goals omega
theorem cmpI_le {x y : Int} : cmpI x y ≤ 0 ↔ x ≤ y := by unfold cmpI; repeat' split
                                                         all_goals omega
theorem cmpI_gt {x y : Int} : 0 < cmpI x y ↔ y < x := by unfold cmpI; repeat' split
                                                         all_goals omega
theorem cmpR_vld {s t a e b f : Int} (h : vld s a e = true) (k : vld t b f = true) : cmpR a e b f = cmpI (sv a e) (sv b f) := by
  obtain ⟨_, h1, h2, _⟩ := vld_facts h
  obtain ⟨_, k1, k2, _⟩ := vld_facts k
  exact cmpR_sv (by omega) (by omega) (Nat.lt_trans h1 (by decide)) (Nat.lt_trans k1 (by decide))
end Go.Proofs.YtcmgphfcpgebfaaDoor
