/- Products, quotients and roots at the fixed scale: plain mathematics. No condition. -/
import Derived.Test.YtcmgphfcpgebfaaDoorBrk
namespace Go.Proofs.YtcmgphfcpgebfaaDoor

theorem pw_split (a b : Nat) : (10 : Nat) ^ (a + b) = 10 ^ a * 10 ^ b := Nat.pow_add 10 a b
/-- A square at the fixed scale. -/
theorem sc_mul (x y : Nat) {e f : Int} (he : -550 ≤ e) (hf : -550 ≤ f) : sc (x * y) (e + f) * 10 ^ 1100 = sc x e * sc y f := by
  have h1 : sc (x * y) (e + f) * 10 ^ 1100 = x * y * 10 ^ ((e + f + 1100).toNat + 1100) := by unfold sc; rw [pw_split, Nat.mul_assoc]
  have h2 : sc x e * sc y f = x * y * 10 ^ ((e + 1100).toNat + (f + 1100).toNat) := by
    unfold sc
    rw [pw_split]
    simp only [Nat.mul_assoc, Nat.mul_left_comm]
  rw [h1, h2]
  exact congrArg (fun k => x * y * 10 ^ k) (by omega)

def rtD (n : Nat) (e : Int) : Nat := if (e - ((37 - dg n : Nat) : Int)) % 2 = 0 then 37 - dg n else 38 - dg n
def rtF (n : Nat) (e : Int) : Int := (e - rtD n e) / 2
def rtN (n : Nat) (e : Int) : Nat := n * 10 ^ rtD n e
theorem rt_facts {n : Nat} (e : Int) (hn : n ≠ 0) (hd : dg n ≤ 18) : e - rtD n e = 2 * rtF n e ∧ rtD n e ≤ 38 ∧ 10 ^ 36 ≤ rtN n e ∧ rtN n e < 10 ^ 38 := by
  have h1 : rtD n e ≤ 38 ∧ (e - rtD n e) % 2 = 0 ∧ (rtD n e = 37 - dg n ∨ rtD n e = 38 - dg n) := by unfold rtD; split <;> omega
  have h2 := dg_mul (rtD n e) hn
  refine ⟨by unfold rtF; omega, h1.1, ?_, ?_⟩
  · rcases Nat.lt_or_ge (rtN n e) (10 ^ 36) with h | h
    · have := (dg_iff _ _).2 h
      unfold rtN at this
      omega
    · exact h
  · apply (dg_iff _ _).1
    unfold rtN
    omega
theorem isq_facts {N : Nat} (h1 : 10 ^ 36 ≤ N) (h2 : N < 10 ^ 38) : isq N < 10 ^ 19 ∧ 18 < dg (isq N) := by
  obtain ⟨a, b⟩ := isq_spec N
  have hlt : isq N < 10 ^ 19 := by
    rcases Nat.lt_or_ge (isq N) (10 ^ 19) with h | h
    · exact h
    · have := Nat.mul_le_mul h h; omega
  have hge : 10 ^ 18 ≤ isq N := by
    rcases Nat.lt_or_ge (isq N) (10 ^ 18) with h | h
    · have := Nat.mul_le_mul (show isq N + 1 ≤ 10 ^ 18 by omega) (show isq N + 1 ≤ 10 ^ 18 by omega); omega
    · exact h
  exact ⟨hlt, dg_gt hge⟩
theorem rt_scale {n : Nat} {e : Int} (he : -1000 ≤ e) (h : e - rtD n e = 2 * rtF n e) (hd : rtD n e ≤ 38) : rtN n e * (10 ^ (rtF n e + 1100).toNat * 10 ^ (rtF n e + 1100).toNat) = sc n e * 10 ^ 1100 := by
  have h1 : sc n e * 10 ^ 1100 = n * 10 ^ ((e + 1100).toNat + 1100) := by unfold sc; rw [pw_split, Nat.mul_assoc]
  rw [h1]
  unfold rtN
  rw [Nat.mul_assoc, ← pw_split, ← pw_split]
  exact congrArg (fun k => n * 10 ^ k) (by omega)
theorem rv_down {p V : Nat} {how : Int} {neg m : Bool} (hi : inw how neg = true) (hh : how ≠ 0) : rv p how neg V m ≤ V := by
  unfold rv rq grow
  rw [if_neg hh, hi]
  simp only [Bool.not_true, Bool.and_false, Bool.false_eq_true, if_false, Nat.add_zero]
  exact Nat.div_mul_le_self _ _
theorem mst_le {p V : Nat} (h : 10 ^ (p + 1500) ≤ V) : mst p ≤ V := by
  refine Nat.le_trans ?_ h
  unfold mst
  rw [pw_split]
  exact Nat.mul_le_mul_right _ (Nat.sub_le _ _)
theorem oV_down {p V : Nat} {how : Int} {neg m : Bool} (hi : inw how neg = true) (hh : how ≠ 0) : oV p how neg V m ≤ V := by
  have h := rv_down (p := p) (V := V) (m := m) hi hh
  unfold oV ovf
  split
  · rename_i h1
    exact mst_le (Nat.le_trans (of_decide_eq_true h1) h)
  · exact h
theorem rX_down {p V : Nat} {how : Int} {neg m : Bool} (hi : inw how neg = true) : rX p how neg V m = 0 := by unfold rX oF; rw [hi]; simp
theorem rv_up {p V : Nat} {how : Int} {neg : Bool} (hi : inw how neg = false) (hh : how ≠ 0) : V ≤ rv p how neg V false := by
  unfold rv rq grow
  rw [if_neg hh, hi]
  have h1 := Nat.div_add_mod V (10 ^ lst p V)
  have h2 := Nat.mod_lt V (p10 (lst p V))
  by_cases h0 : V % 10 ^ lst p V = 0
  · rw [tl_exact h0]
    simp only [Nat.add_zero, ne_eq, not_true_eq_false, decide_false, Bool.false_and, Bool.false_eq_true, if_false]
    rw [Nat.mul_comm]; omega
  · have ht : tl V false (lst p V) ≠ 0 := by
      unfold tl
      rw [if_neg (by omega)]
      split
      · omega
      · split <;> omega
    rw [decide_eq_true ht]
    simp only [Bool.not_false, Bool.and_true, if_true]
    rw [Nat.add_mul, Nat.one_mul, Nat.mul_comm]
    omega
/-- Where Down and Up are the same, the number is that. -/
theorem exact_sq {p V : Nat} (e1 : rX p 1 false V false = 0) (hM : rM p 2 false V false = rM p 1 false V false) (hE : rE p 2 false V false = rE p 1 false V false) : oV p 2 false V false = V := by
  obtain ⟨c, d⟩ := oV_rv (rX_zero e1) (show inw 1 false = false by decide)
  have h1 := rv_up (p := p) (V := V) (neg := false) (how := 1) (by decide) (by decide)
  have h2 := oV_down (p := p) (V := V) (neg := false) (how := 2) (m := false) (by decide) (by decide)
  have h3 := form_val (p := p) (neg := false) (oV_fits (p := p) (how := 2) (neg := false) (V := V) (m := false))
  have h4 := form_val (p := p) (neg := false) (oV_fits (p := p) (how := 1) (neg := false) (V := V) (m := false))
  unfold rM at hM
  unfold rE at hE
  rw [hM, hE, h4] at h3
  omega

/-- The square of Down of a root is at most the number. -/
theorem root_down {s : Int} {n : Nat} {e : Int} {M E : Int} (hs : isSz s = true) (hn : n ≠ 0) (hd : dg n ≤ 18) (he : -400 ≤ e) (he' : e ≤ 500) (mo : Bool)
    (hM : rM (pr s) 2 false (sc (isq (rtN n e)) (rtF n e)) mo = M) (hE : rE (pr s) 2 false (sc (isq (rtN n e)) (rtF n e)) mo = E) : sc (mag M * mag M) (E + E) ≤ sc n e := by
  obtain ⟨a, b, c, d⟩ := rt_facts e hn hd
  have h1 := rt_scale (by omega) a b
  have h2 := oV_down (p := pr s) (V := sc (isq (rtN n e)) (rtF n e)) (neg := false) (how := 2) (m := mo) (by decide) (by decide)
  have h3 := res_val (s := s) (how := 2) (neg := false) (V := sc (isq (rtN n e)) (rtF n e)) (m := mo)
  have h4 := res_vld (s := s) (how := 2) (neg := false) (V := sc (isq (rtN n e)) (rtF n e)) (m := mo) hs
  rw [hM, hE] at h3 h4
  obtain ⟨_, _, v, _⟩ := vld_facts h4
  have h5 := sc_mul (mag M) (mag M) (e := E) (f := E) (by omega) (by omega)
  rw [h3] at h5
  have h6 := Nat.mul_le_mul h2 h2
  rw [← h5] at h6
  have h7 : sc (isq (rtN n e)) (rtF n e) * sc (isq (rtN n e)) (rtF n e) ≤ sc n e * 10 ^ 1100 := by
    rw [← h1]
    have h8 := Nat.mul_le_mul_right (10 ^ (rtF n e + 1100).toNat * 10 ^ (rtF n e + 1100).toNat) (isq_spec (rtN n e)).1
    refine Nat.le_trans (Nat.le_of_eq ?_) h8
    unfold sc
    simp only [Nat.mul_assoc, Nat.mul_left_comm]
  exact Nat.le_of_mul_le_mul_right (Nat.le_trans h6 h7) (p10 1100)

/-- The root of a square. -/
theorem root_sq {n x : Nat} {e ex : Int} (hn : n ≠ 0) (hd : dg n ≤ 18) (he : -400 ≤ e) (he' : e ≤ 500) (hx : x < 10 ^ 18) (hex : -400 ≤ ex) (hv : sc n e = sc (x * x) (ex + ex)) :
    isq (rtN n e) * isq (rtN n e) = rtN n e ∧ sc (isq (rtN n e)) (rtF n e) = sc x ex := by
  obtain ⟨a, b, c, d⟩ := rt_facts e hn hd
  have h1 := rt_scale (by omega) a b
  have h2 := sc_mul x x (e := ex) (f := ex) (by omega) (by omega)
  rw [hv, h2] at h1
  have hF : -1000 ≤ rtF n e := by omega
  have hle : rtF n e ≤ ex := by
    rcases (by omega : rtF n e ≤ ex ∨ ex < rtF n e) with h | h
    · exact h
    · exfalso
      obtain ⟨k, hk⟩ : ∃ k : Nat, rtF n e = ex + k := ⟨(rtF n e - ex).toNat, by omega⟩
      have h3 : (rtF n e + 1100).toNat = k + (ex + 1100).toNat := by omega
      rw [h3, pw_split] at h1
      unfold sc at h1
      have h4 : rtN n e * (10 ^ k * 10 ^ k) * (10 ^ (ex + 1100).toNat * 10 ^ (ex + 1100).toNat) = x * x * (10 ^ (ex + 1100).toNat * 10 ^ (ex + 1100).toNat) := by
        have : ∀ u v w : Nat, u * (v * v) * (w * w) = u * (v * w * (v * w)) := fun u v w => by simp only [Nat.mul_assoc, Nat.mul_left_comm]
        rw [this, h1]
        simp only [Nat.mul_assoc, Nat.mul_left_comm]
      have hb := p10 (ex + 1100).toNat
      have h5 := Nat.eq_of_mul_eq_mul_right (Nat.mul_pos hb hb) h4
      have h6 : x * x < 10 ^ 36 := Nat.lt_of_lt_of_le (Nat.mul_lt_mul_of_lt_of_lt hx hx) (by decide)
      have h7 : rtN n e ≤ rtN n e * (10 ^ k * 10 ^ k) := Nat.le_mul_of_pos_right _ (Nat.mul_pos (p10 k) (p10 k))
      omega
  obtain ⟨k, hk⟩ : ∃ k : Nat, ex = rtF n e + k := ⟨(ex - rtF n e).toNat, by omega⟩
  have h3 : (ex + 1100).toNat = k + (rtF n e + 1100).toNat := by omega
  have h4 : sc x ex = x * 10 ^ k * 10 ^ (rtF n e + 1100).toNat := by unfold sc; rw [h3, pw_split, Nat.mul_assoc]
  rw [h4] at h1
  have hb := p10 (rtF n e + 1100).toNat
  have h5 : rtN n e = x * 10 ^ k * (x * 10 ^ k) := by
    refine Nat.eq_of_mul_eq_mul_right (Nat.mul_pos hb hb) ?_
    rw [h1]
    simp only [Nat.mul_assoc, Nat.mul_left_comm]
  have h6 : isq (rtN n e) = x * 10 ^ k := by rw [h5]; exact isq_sq _
  rw [h6, h4]
  exact ⟨h5.symm, rfl⟩
/-- A valid number is rounded to itself. -/
theorem vld_res {s m e : Int} (how : Int) (h : vld s m e = true) : rM (pr s) how (decide (m < 0)) (sc (mag m) e) false = m ∧ rE (pr s) how (decide (m < 0)) (sc (mag m) e) false = e ∧ rX (pr s) how (decide (m < 0)) (sc (mag m) e) false = 0 := by
  have h1 := vld_same (how := how) (decide (m < 0)) h
  obtain ⟨h2, _⟩ := vld_fits h
  obtain ⟨h3, h4⟩ := vld_form h
  have ho : ovf (pr s) how (decide (m < 0)) (sc (mag m) e) false = false := by unfold ovf; rw [h1]; exact decide_eq_false (by omega)
  unfold rM rE rX oF oV
  rw [ho, h1]
  simp only [Bool.false_eq_true, if_false, Bool.false_and]
  exact ⟨h3, h4, trivial⟩
theorem nM_vld {s m e : Int} (how : Int) (h : vld s m e = true) : nM (pr s) how (sv m e) = m ∧ nE (pr s) how (sv m e) = e ∧ nX (pr s) how (sv m e) = 0 := by
  obtain ⟨a, b, c⟩ := vld_res how h
  have hS : Same (pr s) (decide (m < 0)) (sc (mag m) e) false (sv m e) := same_exact rfl
  obtain ⟨a', b', c'⟩ := hS.res how
  exact ⟨a'.symm.trans a, b'.symm.trans b, c'.symm.trans c⟩

/-- Quotients. -/
def qN (n k : Nat) : Nat := n * 10 ^ (37 - dg n) / k
def qM (n k : Nat) : Bool := decide (n * 10 ^ (37 - dg n) % k ≠ 0)
def qT (n : Nat) (e f : Int) : Int := e - ((37 - dg n : Nat) : Int) - f
theorem q_facts {n k : Nat} (hn : n ≠ 0) (hd : dg n ≤ 18) (hk : k ≠ 0) (hk' : k < 10 ^ 18) : qN n k < 340282366920938463463374607431768211456 ∧ 18 < dg (qN n k) := by
  have h1 := dg_mul (37 - dg n) hn
  have h2 : 10 ^ 36 ≤ n * 10 ^ (37 - dg n) := by
    rcases Nat.lt_or_ge (n * 10 ^ (37 - dg n)) (10 ^ 36) with h | h
    · have := (dg_iff _ _).2 h; omega
    · exact h
  have h3 : n * 10 ^ (37 - dg n) < 10 ^ 37 := (dg_iff _ _).1 (by omega)
  unfold qN
  refine ⟨Nat.lt_of_le_of_lt (Nat.div_le_self _ _) (Nat.lt_of_lt_of_le h3 (by decide)), dg_gt ?_⟩
  rw [Nat.le_div_iff_mul_le (by omega)]
  refine Nat.le_trans (Nat.mul_le_mul_left _ (Nat.le_of_lt hk')) (Nat.le_trans (by decide) h2)
end Go.Proofs.YtcmgphfcpgebfaaDoor
