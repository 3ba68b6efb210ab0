/- Signed numbers at the fixed scale, sums, products and the order of rounded numbers: plain mathematics. No condition. -/
import Derived.Test.YtanfhlkfmmglhaaDoorGComp
import Derived.Test.YtanfhlkfmmglhaaDoorGCnear
import Derived.Test.YtanfhlkfmmglhaaDoorGReal
namespace Go.Proofs.YtanfhlkfmmglhaaDoor

/-- A real's number at the fixed scale, with its sign. -/
def sv (m e : Int) : Int := sg (decide (m < 0)) (sc (mag m) e)
/-- The result of rounding a signed number. -/
def nM (p : Nat) (how N : Int) : Int := rM p how (decide (N < 0)) N.natAbs false
def nE (p : Nat) (how N : Int) : Int := rE p how (decide (N < 0)) N.natAbs false
def nX (p : Nat) (how N : Int) : Int := rX p how (decide (N < 0)) N.natAbs false

theorem sg_abs (neg : Bool) (n : Nat) : (sg neg n).natAbs = n := sg_mag neg n
theorem sg_zero (neg : Bool) : sg neg 0 = 0 := by unfold sg; simp
theorem sg_same (A : Bool) (x y : Nat) : sg A x + sg A y = sg A (x + y) := by unfold sg; split <;> omega
theorem sg_ge (A : Bool) {x y : Nat} (h : y ≤ x) : sg A x + sg (!A) y = sg A (x - y) := by cases A <;> simp [sg] <;> omega
theorem sg_lt' (A : Bool) {x y : Nat} (h : x ≤ y) : sg A x + sg (!A) y = sg (!A) (y - x) := by cases A <;> simp [sg] <;> omega
theorem sg_not (A : Bool) (x : Nat) : sg (!A) x = - sg A x := by cases A <;> simp [sg]

/-- Rounding of (neg, V, m) is that of the signed number N. -/
structure Same (p : Nat) (neg : Bool) (V : Nat) (m : Bool) (N : Int) : Prop where
  rv : ∀ how, rv p how neg V m = rv p how (decide (N < 0)) N.natAbs false
  neg : neg = decide (N < 0) ∨ (V = 0 ∧ m = false ∧ N = 0)
theorem zero_res (p : Nat) (how : Int) (neg : Bool) : rM p how neg 0 false = 0 ∧ rE p how neg 0 false = 0 ∧ rX p how neg 0 false = 0 := by
  have h := round_zero (p := p) (how := how) (e := 0) (neg := neg)
  rw [show sc 0 0 = 0 by unfold sc; rw [Nat.zero_mul]] at h
  exact h
theorem Same.res {p : Nat} {neg : Bool} {V : Nat} {m : Bool} {N : Int} (h : Same p neg V m N) (how : Int) :
    rM p how neg V m = nM p how N ∧ rE p how neg V m = nE p how N ∧ rX p how neg V m = nX p how N := by
  rcases h.neg with hn | ⟨hV, hm, hN⟩
  · have hr := h.rv how
    subst hn
    unfold nM nE nX rM rE rX oV oF ovf
    rw [hr]
    exact ⟨rfl, rfl, rfl⟩
  · subst hV hm hN
    obtain ⟨a, b, c⟩ := zero_res p how neg
    obtain ⟨a', b', c'⟩ := zero_res p how (decide ((0 : Int) < 0))
    unfold nM nE nX
    rw [Int.natAbs_zero]
    exact ⟨a.trans a'.symm, b.trans b'.symm, c.trans c'.symm⟩
theorem same_of {p : Nat} {neg : Bool} {V V' : Nat} {m : Bool} {N : Int} (hN : N = sg neg V') (h0 : V' = 0 → V = 0 ∧ m = false) (h : ∀ how, rv p how neg V m = Go.Proofs.YtanfhlkfmmglhaaDoor.rv p how neg V' false) : Same p neg V m N := by
  subst hN
  by_cases hz : V' = 0
  · obtain ⟨hV, hm⟩ := h0 hz
    subst hz hV hm
    rw [sg_zero]
    exact ⟨fun how => by rw [rv_zero, Int.natAbs_zero, rv_zero], Or.inr ⟨rfl, rfl, rfl⟩⟩
  · refine ⟨fun how => ?_, Or.inl (sg_lt neg hz).symm⟩
    rw [sg_lt neg hz, sg_abs, h how]
theorem same_exact {p : Nat} {neg : Bool} {V : Nat} {N : Int} (hN : N = sg neg V) : Same p neg V false N := same_of hN (fun h => ⟨h, rfl⟩) (fun _ => rfl)
/-- A number whose last digits are left out, but for whether there were any. -/
theorem same_norm {p : Nat} {neg : Bool} {V' q j : Nat} {m : Bool} {N : Int} (hN : N = sg neg V') (hq : V' / 10 ^ j = q) (hp : p < dg q) (hm : m = decide (V' % 10 ^ j ≠ 0)) : Same p neg (q * 10 ^ j) m N := by
  subst hq hm
  have h0 : V' ≠ 0 := by
    rintro rfl
    rw [Nat.zero_div, dg_zero] at hp
    omega
  refine same_of hN (fun h => absurd h h0) (fun how => ?_)
  rw [rv_norm (how := how) (neg := neg) (m := false) hp, Bool.false_or]

theorem sc_up {n : Nat} {E : Int} (d : Nat) (h : -1100 ≤ E - d) : sc n E = n * 10 ^ d * 10 ^ (E - d + 1100).toNat := by
  unfold sc
  rw [Nat.mul_assoc, ← Nat.pow_add]
  congr 2
  omega
theorem sc_parts {k : Nat} {F : Int} {kk : Int} (hF : -1100 ≤ F) (hk : 0 ≤ kk) :
    sc k F / 10 ^ (F + kk + 1100).toNat = shN k kk ∧ decide (sc k F % 10 ^ (F + kk + 1100).toNat ≠ 0) = shM k kk false := by
  unfold sc shN shM
  have h : (F + kk + 1100).toNat = (F + 1100).toNat + kk.toNat := by omega
  rw [h, scale_div, scale_mod, Bool.false_or]
  refine ⟨rfl, ?_⟩
  have := p10 (F + 1100).toNat
  rw [decide_eq_decide]
  constructor
  · rintro h1 h2; rw [h2, Nat.zero_mul] at h1; exact h1 rfl
  · intro h1 h2
    rcases Nat.mul_eq_zero.1 h2 with h3 | h3
    · exact h1 h3
    · omega
theorem add_parts (X B Y : Nat) (hB : 0 < B) : (X * B + Y) / B = X + Y / B ∧ (X * B + Y) % B = Y % B := by
  rw [Nat.mul_comm]
  exact ⟨Nat.mul_add_div hB X Y, Nat.mul_add_mod B X Y⟩
theorem sub_parts (X B Y : Nat) (hB : 0 < B) (h : Y / B < X) (hr : Y % B ≠ 0) : (X * B - Y) / B = X - Y / B - 1 ∧ (X * B - Y) % B ≠ 0 := by
  have h1 := Nat.div_add_mod Y B
  have h2 := Nat.mod_lt Y hB
  obtain ⟨z, hz⟩ : ∃ z, X = Y / B + 1 + z := ⟨X - (Y / B + 1), by omega⟩
  have h3 : X * B - Y = z * B + (B - Y % B) := by
    rw [hz, Nat.add_mul, Nat.add_mul, Nat.one_mul]
    rw [Nat.mul_comm B] at h1
    generalize Y / B * B = u at h1 ⊢
    generalize z * B = v
    omega
  obtain ⟨a, b⟩ := add_parts z B (B - Y % B) hB
  rw [h3, a, b, Nat.div_eq_of_lt (by omega), Nat.mod_eq_of_lt (by omega)]
  exact ⟨by omega, by omega⟩
theorem sub_exact (X B Y : Nat) (hr : Y % B = 0) : X * B - Y = (X - Y / B) * B := by
  have h1 := Nat.div_add_mod Y B
  rw [hr, Nat.add_zero, Nat.mul_comm] at h1
  rw [Nat.sub_mul, h1]
theorem add_exact (X B Y : Nat) (hr : Y % B = 0) : X * B + Y = (X + Y / B) * B := by
  have h1 := Nat.div_add_mod Y B
  rw [hr, Nat.add_zero, Nat.mul_comm] at h1
  rw [Nat.add_mul, h1]

theorem dg_gt {x k : Nat} (h : 10 ^ k ≤ x) : k < dg x := by
  rcases Nat.lt_or_ge k (dg x) with h1 | h1
  · exact h1
  · have := (dg_iff x k).1 h1; omega

/-- Sums of two numbers with one sign: the last digits of the lesser one are left out. -/
theorem same_plus {p n k : Nat} {A : Bool} {E F : Int} {d : Nat} (hp : p ≤ 18) (hn : n ≠ 0) (hF : -1100 ≤ F) (hd : min (E - F) 19 = (d : Int)) (_hEF : F ≤ E) :
    Same p A (sc (n * 10 ^ d + shN k (E - d - F)) (E - d)) (shM k (E - d - F) false) (sg A (sc n E) + sg A (sc k F)) ∧
    (shM k (E - d - F) false = true → 18 < dg (n * 10 ^ d + shN k (E - d - F))) := by
  obtain ⟨a, b⟩ := sc_parts (k := k) (F := F) (kk := E - d - F) hF (by omega)
  rw [show F + (E - d - F) + 1100 = E - d + 1100 by omega] at a b
  rw [sg_same, sc_up (n := n) (E := E) d (by omega)]
  have hB := p10 (E - d + 1100).toNat
  have hS : ∀ x, sc x (E - d) = x * 10 ^ (E - d + 1100).toNat := fun x => rfl
  rw [hS]
  rw [← a, ← b]
  obtain ⟨u, v⟩ := add_parts (n * 10 ^ d) (10 ^ (E - d + 1100).toNat) (sc k F) hB
  by_cases hr : sc k F % 10 ^ (E - d + 1100).toNat = 0
  · rw [hr, decide_eq_false (by simp)]
    refine ⟨same_exact ?_, by simp⟩
    rw [add_exact _ _ _ hr]
  · have h19 : d = 19 := by
      rcases (by omega : d = 19 ∨ (d : Int) = E - F) with h | h
      · exact h
      · exfalso
        apply hr
        unfold sc
        rw [show E - d + 1100 = F + 1100 by omega]
        exact Nat.mul_mod_left _ _
    have hX : 10 ^ 19 ≤ n * 10 ^ d := by subst h19; exact Nat.le_mul_of_pos_left _ (by omega)
    have hdg : 18 < dg (n * 10 ^ d + sc k F / 10 ^ (E - d + 1100).toNat) := Nat.lt_trans (by omega) (dg_gt (k := 19) (by omega))
    refine ⟨same_norm rfl u (by omega) (by rw [v]), fun _ => hdg⟩
/-- Differences: where a part is left, the greater number is far greater. -/
theorem same_minus {p n k : Nat} {A : Bool} {E F : Int} {d : Nat} (hp : p ≤ 18) (hn : n ≠ 0) (hk : k < 10 ^ 18) (hF : -1100 ≤ F) (hd : min (E - F) 19 = (d : Int)) (_hEF : F ≤ E) (hm : shM k (E - d - F) false = true) :
    shN k (E - d - F) + 1 ≤ n * 10 ^ d ∧ Same p A (sc (n * 10 ^ d - shN k (E - d - F) - 1) (E - d)) true (sg A (sc n E) + sg (!A) (sc k F)) ∧ 18 < dg (n * 10 ^ d - shN k (E - d - F) - 1) := by
  obtain ⟨a, b⟩ := sc_parts (k := k) (F := F) (kk := E - d - F) hF (by omega)
  rw [show F + (E - d - F) + 1100 = E - d + 1100 by omega] at a b
  rw [hm] at b
  have hB := p10 (E - d + 1100).toNat
  have hS : ∀ x, sc x (E - d) = x * 10 ^ (E - d + 1100).toNat := fun x => rfl
  have hr : sc k F % 10 ^ (E - d + 1100).toNat ≠ 0 := of_decide_eq_true b
  have h19 : d = 19 ∧ 0 < E - d - F := by
    rcases (by omega : (d = 19 ∧ 0 < E - d - F) ∨ (d : Int) = E - F) with h | h
    · exact h
    · exfalso
      apply hr
      unfold sc
      rw [show E - d + 1100 = F + 1100 by omega]
      exact Nat.mul_mod_left _ _
  have hX : 10 ^ 19 ≤ n * 10 ^ d := by rw [h19.1]; exact Nat.le_mul_of_pos_left _ (by omega)
  have hQ : shN k (E - d - F) ≤ k := Nat.div_le_self _ _
  rw [hS, sc_up (n := n) (E := E) d (by omega)]
  rw [← a] at hQ ⊢
  obtain ⟨u, v⟩ := sub_parts (n * 10 ^ d) (10 ^ (E - d + 1100).toNat) (sc k F) hB (by omega) hr
  have hle : sc k F ≤ n * 10 ^ d * 10 ^ (E - d + 1100).toNat := by
    rcases Nat.le_total (sc k F) (n * 10 ^ d * 10 ^ (E - d + 1100).toNat) with h | h
    · exact h
    · rw [Nat.sub_eq_zero_of_le h, Nat.zero_mod] at v; exact absurd rfl v
  rw [sg_ge A hle]
  have hdg : 18 < dg (n * 10 ^ d - sc k F / 10 ^ (E - d + 1100).toNat - 1) := dg_gt (by omega)
  exact ⟨by omega, same_norm rfl u (by omega) (by rw [decide_eq_true v]), hdg⟩
/-- Differences without a part. -/
theorem same_exact_minus {p n k : Nat} {A : Bool} {E F : Int} {d : Nat} (hF : -1100 ≤ F) (hd : min (E - F) 19 = (d : Int)) (_hEF : F ≤ E) (hm : shM k (E - d - F) false = false) :
    (shN k (E - d - F) ≤ n * 10 ^ d → Same p A (sc (n * 10 ^ d - shN k (E - d - F)) (E - d)) false (sg A (sc n E) + sg (!A) (sc k F))) ∧
    (n * 10 ^ d ≤ shN k (E - d - F) → Same p (!A) (sc (shN k (E - d - F) - n * 10 ^ d) (E - d)) false (sg A (sc n E) + sg (!A) (sc k F))) := by
  obtain ⟨a, b⟩ := sc_parts (k := k) (F := F) (kk := E - d - F) hF (by omega)
  rw [show F + (E - d - F) + 1100 = E - d + 1100 by omega] at a b
  rw [hm] at b
  have hS : ∀ x, sc x (E - d) = x * 10 ^ (E - d + 1100).toNat := fun x => rfl
  have hr : sc k F % 10 ^ (E - d + 1100).toNat = 0 := by have := of_decide_eq_false b; omega
  have h1 := Nat.div_add_mod (sc k F) (10 ^ (E - d + 1100).toNat)
  rw [hr, Nat.add_zero, Nat.mul_comm, a] at h1
  rw [hS, hS, sc_up (n := n) (E := E) d (by omega), ← h1]
  refine ⟨fun h => ?_, fun h => ?_⟩
  · rw [sg_ge A (Nat.mul_le_mul_right _ h), ← Nat.sub_mul]
    exact same_exact rfl
  · rw [sg_lt' A (Nat.mul_le_mul_right _ h), ← Nat.sub_mul]
    exact same_exact rfl
end Go.Proofs.YtanfhlkfmmglhaaDoor
/- The order of reals and of rounded numbers: plain mathematics. No condition. -/
namespace Go.Proofs.YtanfhlkfmmglhaaDoor

theorem mst_top {p q k : Nat} (K : Nat) (hp : 1 ≤ p) (hK : 1 ≤ K) (hU : q * 10 ^ k < 10 ^ (p + K)) (hq : q ≤ 10 ^ p) : q * 10 ^ k ≤ (10 ^ p - 1) * 10 ^ K := by
  have h1 : 1 ≤ 10 ^ p := p10 p
  rcases Nat.lt_or_ge k K with h | h
  · obtain ⟨L, rfl⟩ : ∃ L, K = L + 1 := ⟨K - 1, by omega⟩
    have h2 : 10 ^ k ≤ 10 ^ L := p10_le (by omega)
    have h3 : (10 : Nat) ^ (L + 1) = 10 * 10 ^ L := Nat.pow_succ'
    rw [h3]
    have h4 : 10 ≤ 10 ^ p := by have := p10_le hp; simpa using this
    generalize (10 : Nat) ^ L = c at *
    generalize 10 ^ p = t at *
    have h5 : q * 10 ^ k ≤ t * c := Nat.mul_le_mul hq h2
    have h6 : t * c ≤ (t - 1) * 10 * c := Nat.mul_le_mul_right _ (by omega)
    rw [Nat.mul_assoc] at h6
    omega
  · obtain ⟨r, rfl⟩ := Nat.exists_eq_add_of_le h
    rw [Nat.pow_add] at hU ⊢
    rw [Nat.pow_add] at hU
    have hc : 0 < 10 ^ K := p10 K
    generalize (10 : Nat) ^ K = c at *
    generalize 10 ^ p = t at *
    rw [Nat.mul_comm c, ← Nat.mul_assoc] at hU ⊢
    have h5 : q * 10 ^ r < t := Nat.lt_of_mul_lt_mul_right hU
    exact Nat.mul_le_mul_right _ (by omega)
theorem fits_mst {p U : Nat} (hp : 1 ≤ p) (h : Fits p U) : U ≤ mst p := by
  obtain ⟨hU, q, k, rfl, hq, hk⟩ := h
  exact mst_top 1500 hp (by omega) hU hq

/-- The rounded number, with its sign. -/
def nR (p : Nat) (how N : Int) : Int := sg (decide (N < 0)) (oV p how (decide (N < 0)) N.natAbs false)
theorem sv_form {p U : Nat} (neg : Bool) (h : Fits p U) : sv (fM neg U) (fE U) = sg neg U := by
  unfold sv
  rw [form_val h]
  by_cases h0 : U = 0
  · subst h0; rw [sg_zero, sg_zero]
  · rw [form_neg h0]
theorem sv_res (p : Nat) (how N : Int) : sv (nM p how N) (nE p how N) = nR p how N := sv_form (p := p) _ oV_fits
theorem sv_res' (p : Nat) (how : Int) (neg : Bool) (V : Nat) (m : Bool) : sv (rM p how neg V m) (rE p how neg V m) = sg neg (oV p how neg V m) := sv_form (p := p) _ oV_fits

theorem oV_mono {p V V' : Nat} {how : Int} {neg : Bool} (hp : 1 ≤ p) (h : V ≤ V') (_h1 : oF p how neg V false = false) (h2 : oF p how neg V' false = false) : oV p how neg V false ≤ oV p how neg V' false := by
  have hr := rv_mono (how := how) (neg := neg) hp h
  have hf := fits_mst hp (oV_fits (p := p) (how := how) (neg := neg) (V := V) (m := false))
  unfold oF ovf at h2
  unfold oV ovf at *
  by_cases hb : 10 ^ (p + 1500) ≤ rv p how neg V' false
  · rw [decide_eq_true hb] at h2 ⊢
    have hi : inw how neg = true := by simpa using h2
    rw [hi] at hf ⊢
    simpa using hf
  · rw [decide_eq_false hb]
    rw [decide_eq_false (by omega)]
    simpa using hr
theorem nX_oF {p : Nat} {how N : Int} (h : nX p how N = 0) : oF p how (decide (N < 0)) N.natAbs false = false := by
  unfold nX rX at h
  cases hc : oF p how (decide (N < 0)) N.natAbs false
  · rfl
  · rw [hc] at h; simp at h
theorem nR_mono {p : Nat} {how N K : Int} (hp : 1 ≤ p) (h : N ≤ K) (h1 : nX p how N = 0) (h2 : nX p how K = 0) : nR p how N ≤ nR p how K := by
  have f1 := nX_oF h1
  have f2 := nX_oF h2
  unfold nR
  by_cases hk : K < 0
  · have hn : N < 0 := by omega
    rw [decide_eq_true hk] at f2 ⊢
    rw [decide_eq_true hn] at f1 ⊢
    have := oV_mono hp (show K.natAbs ≤ N.natAbs by omega) f2 f1
    unfold sg
    simp only [if_true]
    omega
  · by_cases hn : N < 0
    · rw [decide_eq_true hn, decide_eq_false hk]
      unfold sg
      simp only [if_true, Bool.false_eq_true, if_false]
      omega
    · rw [decide_eq_false hk] at f2 ⊢
      rw [decide_eq_false hn] at f1 ⊢
      have := oV_mono hp (show N.natAbs ≤ K.natAbs by omega) f1 f2
      unfold sg
      simp only [Bool.false_eq_true, if_false]
      omega

/-- How integers compare. -/
def cmpI (x y : Int) : Int := if x < y then -1 else if y < x then 1 else 0
theorem cmpN_swap (x y : Nat) : cmpN y x = - cmpN x y := by unfold cmpN; split <;> split <;> omega
theorem cmpN_mul (x y c : Nat) (hc : 0 < c) : cmpN (x * c) (y * c) = cmpN x y := by
  unfold cmpN
  have h1 : x * c < y * c ↔ x < y := Nat.mul_lt_mul_right hc
  have h2 : y * c < x * c ↔ y < x := Nat.mul_lt_mul_right hc
  simp only [h1, h2]
/-- How the absolute values of two reals compare. -/
def cm (a e b f : Int) : Int := if e < f then - cmG (mag b) (mag a) (f - e) else cmG (mag a) (mag b) (e - f)
theorem cmG_sc {x y : Nat} {e f : Int} (hf : -1100 ≤ f) (h : f ≤ e) (hx : x ≠ 0) (hy : y < 10 ^ 20) : cmG x y (e - f) = cmpN (sc x e) (sc y f) := by
  have hs : sc x e = x * 10 ^ (e - f).toNat * 10 ^ (f + 1100).toNat := by
    unfold sc
    rw [Nat.mul_assoc, ← Nat.pow_add]
    congr 2
    omega
  rw [hs]
  unfold sc
  rw [cmpN_mul _ _ _ (p10 _)]
  unfold cmG
  split
  · have h20 : 10 ^ 20 ≤ 10 ^ (e - f).toNat := p10_le (by omega)
    have h3 : 10 ^ (e - f).toNat ≤ x * 10 ^ (e - f).toNat := Nat.le_mul_of_pos_left _ (by omega)
    unfold cmpN
    rw [if_neg (by omega), if_pos (by omega)]
  · rfl
theorem cm_sc {a e b f : Int} (he : -1100 ≤ e) (hf : -1100 ≤ f) (ha : a ≠ 0) (hb : b ≠ 0) (la : mag a < 10 ^ 20) (lb : mag b < 10 ^ 20) : cm a e b f = cmpN (sc (mag a) e) (sc (mag b) f) := by
  have ha' : mag a ≠ 0 := by unfold mag; omega
  have hb' : mag b ≠ 0 := by unfold mag; omega
  unfold cm
  split
  · rw [cmG_sc he (by omega) hb' la, ← cmpN_swap]
  · rw [cmG_sc hf (by omega) ha' lb]
/-- The program's comparison of two reals. -/
def cmpR (a e b f : Int) : Int := if sgn a < sgn b then -1 else if sgn b < sgn a then 1 else if sgn a < 0 then cm b f a e else if 0 < sgn a then cm a e b f else 0
theorem sc_pos {x : Nat} (e : Int) (h : x ≠ 0) : 0 < sc x e := by unfold sc; exact Nat.mul_pos (by omega) (p10 _)
theorem cmpR_sv {a e b f : Int} (he : -1100 ≤ e) (hf : -1100 ≤ f) (la : mag a < 10 ^ 20) (lb : mag b < 10 ^ 20) : cmpR a e b f = cmpI (sv a e) (sv b f) := by
  have hz : ∀ e, sc 0 e = 0 := fun e => by unfold sc; rw [Nat.zero_mul]
  have hn : ∀ m e : Int, m < 0 → sv m e = -(sc (mag m) e : Int) ∧ 0 < sc (mag m) e ∧ sgn m = -1 := fun m e h => by
    refine ⟨?_, sc_pos _ (by unfold mag; omega), ?_⟩
    · unfold sv sg; rw [decide_eq_true h, if_pos rfl]
    · unfold sgn; rw [if_pos h]
  have hp : ∀ m e : Int, 0 < m → sv m e = (sc (mag m) e : Int) ∧ 0 < sc (mag m) e ∧ sgn m = 1 := fun m e h => by
    refine ⟨?_, sc_pos _ (by unfold mag; omega), ?_⟩
    · unfold sv sg; rw [decide_eq_false (by omega), if_neg (by simp)]
    · unfold sgn; rw [if_neg (by omega), if_pos h]
  have h0 : ∀ e : Int, sv 0 e = 0 ∧ sgn 0 = 0 := fun e => by
    refine ⟨?_, rfl⟩
    unfold sv; rw [show mag 0 = 0 from rfl, hz, sg_zero]
  unfold cmpR
  rcases (by omega : a < 0 ∨ a = 0 ∨ 0 < a) with h | h | h
  · obtain ⟨a1, a2, a3⟩ := hn a e h
    rw [a1, a3]
    rcases (by omega : b < 0 ∨ b = 0 ∨ 0 < b) with k | k | k
    · obtain ⟨b1, b2, b3⟩ := hn b f k
      rw [b1, b3, if_neg (by omega), if_neg (by omega), if_pos (by omega), cm_sc hf he (by omega) (by omega) lb la]
      unfold cmpN cmpI
      repeat' split
      all_goals omega
    · subst k
      rw [(h0 f).1, (h0 f).2, if_pos (by omega)]
      unfold cmpI
      rw [if_pos (by omega)]
    · obtain ⟨b1, b2, b3⟩ := hp b f k
      rw [b1, b3, if_pos (by omega)]
      unfold cmpI
      rw [if_pos (by omega)]
  · subst h
    rw [(h0 e).1, (h0 e).2]
    rcases (by omega : b < 0 ∨ b = 0 ∨ 0 < b) with k | k | k
    · obtain ⟨b1, b2, b3⟩ := hn b f k
      rw [b1, b3, if_neg (by omega), if_pos (by omega)]
      unfold cmpI
      rw [if_neg (by omega), if_pos (by omega)]
    · subst k
      rw [(h0 f).1, (h0 f).2]
      rfl
    · obtain ⟨b1, b2, b3⟩ := hp b f k
      rw [b1, b3, if_pos (by omega)]
      unfold cmpI
      rw [if_pos (by omega)]
  · obtain ⟨a1, a2, a3⟩ := hp a e h
    rw [a1, a3]
    rcases (by omega : b < 0 ∨ b = 0 ∨ 0 < b) with k | k | k
    · obtain ⟨b1, b2, b3⟩ := hn b f k
      rw [b1, b3, if_neg (by omega), if_pos (by omega)]
      unfold cmpI
      rw [if_neg (by omega), if_pos (by omega)]
    · subst k
      rw [(h0 f).1, (h0 f).2, if_neg (by omega), if_pos (by omega)]
      unfold cmpI
      rw [if_neg (by omega), if_pos (by omega)]
    · obtain ⟨b1, b2, b3⟩ := hp b f k
      rw [b1, b3, if_neg (by omega), if_neg (by omega), if_neg (by omega), if_pos (by omega), cm_sc he hf (by omega) (by omega) la lb]
      unfold cmpN cmpI
      repeat' split
      all_goals omega
theorem cmpI_le {x y : Int} : cmpI x y ≤ 0 ↔ x ≤ y := by unfold cmpI; repeat' split
                                                         all_goals omega
theorem cmpI_gt {x y : Int} : 0 < cmpI x y ↔ y < x := by unfold cmpI; repeat' split
                                                         all_goals omega
theorem cmpR_vld {s t a e b f : Int} (h : vld s a e = true) (k : vld t b f = true) : cmpR a e b f = cmpI (sv a e) (sv b f) := by
  obtain ⟨_, h1, h2, _⟩ := vld_facts h
  obtain ⟨_, k1, k2, _⟩ := vld_facts k
  exact cmpR_sv (by omega) (by omega) (Nat.lt_trans h1 (by decide)) (Nat.lt_trans k1 (by decide))
end Go.Proofs.YtanfhlkfmmglhaaDoor
/- The program's comparison of any two reals. Condition: the tables hold what their initialisers lay. -/
namespace Go.Proofs.YtanfhlkfmmglhaaDoor
open Go.ChangeShapes Go.WideShapes Go.ChangeAt Go.RowKit

theorem cmpmag_ge (a e b f : Int) (w : World) (ht : Tab w) (la : -9223372036854775808 ≤ a) (ha : a ≤ 9223372036854775807) (lb : -9223372036854775808 ≤ b) (hb : b ≤ 9223372036854775807)
    (le : -9223372036854775808 ≤ e) (he : e ≤ 9223372036854775807) (lf : -9223372036854775808 ≤ f) (hf : f ≤ 9223372036854775807) (h : f ≤ e) :
    Calls Tryd.prog 57 #[.agg #[.int .i64 a, .int .i64 e], .agg #[.int .i64 b, .int .i64 f]] w fun x w' => x = .returned (.int .i64 (cmG (mag a) (mag b) (e - f))) ∧ Kept w w' := by
  by_cases hg : 19 < e - f
  · exact cmpmag_far a e b f (e - f) w ht rfl hg (by omega)
  · have hX : cmG (mag a) (mag b) (e - f) = cmpN (mag a * 10 ^ (e - f).toNat) (mag b) := by unfold cmG; rw [if_neg hg]
    rw [hX]
    exact cmpmag_near a e b f (e - f).toNat _ _ w ht la ha lb hb (by omega) (by omega) rfl rfl
theorem cmG_bd (x y : Nat) (g : Int) : -1 ≤ cmG x y g ∧ cmG x y g ≤ 1 := by
  unfold cmG cmpN
  repeat' split
  all_goals omega
theorem cmpmag_any (a e b f : Int) (w : World) (ht : Tab w) (la : -9223372036854775808 ≤ a) (ha : a ≤ 9223372036854775807) (lb : -9223372036854775808 ≤ b) (hb : b ≤ 9223372036854775807)
    (le : -9223372036854775808 ≤ e) (he : e ≤ 9223372036854775807) (lf : -9223372036854775808 ≤ f) (hf : f ≤ 9223372036854775807) :
    Calls Tryd.prog 57 #[.agg #[.int .i64 a, .int .i64 e], .agg #[.int .i64 b, .int .i64 f]] w fun x w' => x = .returned (.int .i64 (cm a e b f)) ∧ Kept w w' := by
  unfold cm
  by_cases h : e < f
  · rw [if_pos h]
    obtain ⟨h1, h2⟩ := cmG_bd (mag b) (mag a) (f - e)
    exact cmpmag_lt a e b f (cmG (mag b) (mag a) (f - e)) _ w ht h h1 h2 rfl (fun w ht => cmpmag_ge b f a e w ht lb hb la ha lf hf le he (by omega))
  · rw [if_neg h]
    exact cmpmag_ge a e b f w ht la ha lb hb le he lf hf (by omega)
theorem compare_any (a e b f : Int) (w : World) (ht : Tab w) (la : -9223372036854775808 ≤ a) (ha : a ≤ 9223372036854775807) (lb : -9223372036854775808 ≤ b) (hb : b ≤ 9223372036854775807)
    (le : -9223372036854775808 ≤ e) (he : e ≤ 9223372036854775807) (lf : -9223372036854775808 ≤ f) (hf : f ≤ 9223372036854775807) :
    Calls Tryd.prog 25 #[.agg #[.int .i64 a, .int .i64 e], .agg #[.int .i64 b, .int .i64 f]] w fun x w' => x = .returned (.int .i64 (cmpR a e b f)) ∧ Kept w w' := by
  unfold cmpR
  by_cases h1 : sgn a < sgn b
  · rw [if_pos h1]
    exact comp_lt a e b f w ht (decide_eq_true h1)
  · rw [if_neg h1]
    by_cases h2 : sgn b < sgn a
    · rw [if_pos h2]
      exact comp_gt a e b f w ht (decide_eq_false h1) (decide_eq_true h2)
    · rw [if_neg h2]
      by_cases h3 : sgn a < 0
      · rw [if_pos h3]
        exact comp_neg a e b f _ w ht (decide_eq_false h1) (decide_eq_false h2) (decide_eq_true h3) (fun w ht => cmpmag_any b f a e w ht lb hb la ha lf hf le he)
      · rw [if_neg h3]
        by_cases h4 : 0 < sgn a
        · rw [if_pos h4]
          exact comp_pos a e b f _ w ht (decide_eq_false h1) (decide_eq_false h2) (decide_eq_false h3) (decide_eq_true h4) (fun w ht => cmpmag_any a e b f w ht la ha lb hb le he lf hf)
        · rw [if_neg h4]
          exact comp_zero a e b f w ht (decide_eq_false h1) (decide_eq_false h2) (decide_eq_false h3) (decide_eq_false h4)
end Go.Proofs.YtanfhlkfmmglhaaDoor
/- The program's product of exact numbers. Condition: the tables hold what their initialisers lay. -/
namespace Go.Proofs.YtanfhlkfmmglhaaDoor
open Go.ChangeShapes Go.WideShapes Go.ChangeAt Go.RowKit
attribute [local go_sem ↓] Go.wp_at_zero Go.wp_at_succ

theorem two_pack {w w' : World} {a b m1 m2 : Bool} {n k : Nat} {e f : Int} {G H : Nat}
    (h : Inv w [(G, 44, [.bool a, .int .u64 (hiW n : Int), .int .u64 (loW n : Int), .int .i64 e, .bool m1]), (H, 44, [.bool b, .int .u64 (hiW k : Int), .int .u64 (loW k : Int), .int .i64 f, .bool m2])] w') :
    Inv w [(G, 44, [.bool a, .int .u64 (hiW n : Int), .int .u64 (loW n : Int), .int .i64 e, .bool m1]), (H, 44, [.bool b, .int .u64 (hiW k : Int), .int .u64 (loW k : Int), .int .i64 f, .bool m2])] w' ∧ Tab w' ∧
    w'.cell? ⟨G, 0, none⟩ = some (.bool a) ∧ w'.cell? ⟨G, 1, none⟩ = some (.int .u64 (hiW n : Int)) ∧ w'.cell? ⟨G, 2, none⟩ = some (.int .u64 (loW n : Int)) ∧ w'.cell? ⟨G, 3, none⟩ = some (.int .i64 e) ∧ w'.cell? ⟨G, 4, none⟩ = some (.bool m1) ∧
    w'.cell? ⟨H, 0, none⟩ = some (.bool b) ∧ w'.cell? ⟨H, 1, none⟩ = some (.int .u64 (hiW k : Int)) ∧ w'.cell? ⟨H, 2, none⟩ = some (.int .u64 (loW k : Int)) ∧ w'.cell? ⟨H, 3, none⟩ = some (.int .i64 f) ∧ w'.cell? ⟨H, 4, none⟩ = some (.bool m2) :=
  ⟨h, h.kept.1, (h.own 0 _ rfl).cell 0, (h.own 0 _ rfl).cell 1, (h.own 0 _ rfl).cell 2, (h.own 0 _ rfl).cell 3, (h.own 0 _ rfl).cell 4, (h.own 1 _ rfl).cell 0, (h.own 1 _ rfl).cell 1, (h.own 1 _ rfl).cell 2, (h.own 1 _ rfl).cell 3, (h.own 1 _ rfl).cell 4⟩
theorem Inv.init {w w' : World} {bs : List (Nat × TypeId × List Value)} {x : Nat × TypeId × List Value} (h : Inv w (bs ++ [x]) w') : Inv w bs w' := by
  refine ⟨h.kept, fun i y hy => h.own i y ?_⟩
  have hl : i < bs.length := by
    rcases Nat.lt_or_ge i bs.length with h | h
    · exact h
    · rw [List.getElem?_eq_none h] at hy; cases hy
  rw [List.getElem?_append_left hl]
  exact hy

set_option maxRecDepth 100000 in
set_option maxHeartbeats 2000000 in
theorem product_any (a b m1 m2 : Bool) (n k : Nat) (e f : Int) (w : World) (ht : Tab w) (hk : k < 18446744073709551616) (hnk : n * k < 340282366920938463463374607431768211456) (he : -100000 ≤ e) (he' : e ≤ 100000) (hf : -100000 ≤ f) (hf' : f ≤ 100000) :
    Calls Tryd.prog 42 #[.agg #[.bool a, .int .u64 (hiW n : Int), .int .u64 (loW n : Int), .int .i64 e, .bool m1], .agg #[.bool b, .int .u64 (hiW k : Int), .int .u64 (loW k : Int), .int .i64 f, .bool m2]] w fun x w' => x = .returned (.agg #[.bool (a != b), .int .u64 (hiW (n * k) : Int), .int .u64 (loW (n * k) : Int), .int .i64 (e + f), .bool false]) ∧ Kept w w' := by
  have hlt := ht.lt
  have hlt0 := ht.lt0
  have hlo : loW k = k := by unfold loW; omega
  have hta := fun w ht => times_any n k w ht hk hnk
  rw [← hlo] at hta
  have HT := Lib.hid (show ∀ w, Tab w → Calls Tryd.prog 64 #[.agg #[.int .u64 (hiW n : Int), .int .u64 (loW n : Int)], .int .u64 (loW k : Int)] w fun e w' => e = .returned (.agg #[.int .u64 (hiW (n * k) : Int), .int .u64 (loW (n * k) : Int)]) ∧ Kept w w' by
    intro w ht
    have := hta w ht
    rw [hlo] at this
    rw [hlo]
    exact this)
  clear hta hlo hk hnk
  have HW : Hid (IntKind.i64.wrap (e + f) = e + f) := Lib.hid (IntWalk.i64_in _ (by omega))
  go_enter Tryd.func42, Tryd.ntmps42
  go_upto_region 1 with fail
  have hI0 := Inv.three ht 44 [.bool a, .int .u64 (hiW n : Int), .int .u64 (loW n : Int), .int .i64 e, .bool m1] 44 [.bool b, .int .u64 (hiW k : Int), .int .u64 (loW k : Int), .int .i64 f, .bool m2] 44 [.bool false, .int .u64 0, .int .u64 0, .int .i64 0, .bool false]
  have HZ := Lib.hid (hI0.own 2 _ rfl)
  have hI : Inv w [(w.heap.size, 44, [.bool a, .int .u64 (hiW n : Int), .int .u64 (loW n : Int), .int .i64 e, .bool m1]), (w.heap.size + 1, 44, [.bool b, .int .u64 (hiW k : Int), .int .u64 (loW k : Int), .int .i64 f, .bool m2])] _ := hI0.init (bs := [_, _])
  clear hI0
  go_region_held3 (fun w' => Inv w [(w.heap.size, 44, [.bool a, .int .u64 (hiW n : Int), .int .u64 (loW n : Int), .int .i64 e, .bool m1]), (w.heap.size + 1, 44, [.bool b, .int .u64 (hiW k : Int), .int .u64 (loW k : Int), .int .i64 f, .bool m2])] w' ∧ Tab w' ∧
      w'.cell? ⟨w.heap.size, 0, none⟩ = some (.bool a) ∧ w'.cell? ⟨w.heap.size, 1, none⟩ = some (.int .u64 (hiW n : Int)) ∧ w'.cell? ⟨w.heap.size, 2, none⟩ = some (.int .u64 (loW n : Int)) ∧ w'.cell? ⟨w.heap.size, 3, none⟩ = some (.int .i64 e) ∧ w'.cell? ⟨w.heap.size, 4, none⟩ = some (.bool m1) ∧
      w'.cell? ⟨w.heap.size + 1, 0, none⟩ = some (.bool b) ∧ w'.cell? ⟨w.heap.size + 1, 1, none⟩ = some (.int .u64 (hiW k : Int)) ∧ w'.cell? ⟨w.heap.size + 1, 2, none⟩ = some (.int .u64 (loW k : Int)) ∧ w'.cell? ⟨w.heap.size + 1, 3, none⟩ = some (.int .i64 f) ∧ w'.cell? ⟨w.heap.size + 1, 4, none⟩ = some (.bool m2))
    ((refine two_pack ?_; repeat' (first | (with_reducible assumption) | (with_reducible refine Inv.drew ?_) | (with_reducible refine Inv.alloc ?_ _) | (with_reducible refine Inv.call ?_ (by assumption)) | (with_reducible refine Inv.far ?_ ?_ ?_ ?_ ?_ _) | omega | (simp; done) | (simp; omega))))
    (first | (go_at_call 64; (with_reducible refine (HT.out _ (by repeat' (first | (with_reducible assumption) | (with_reducible refine Tab.alloc ?_ _) | (with_reducible refine Tab.drew ?_) | (with_reducible refine Tab.drewN ?_ _) | (with_reducible refine Tab.setCell ?_ ?_ ?_ _) | omega | (simp; done) | (simp; omega)))).mono ?_); rintro e w4 ⟨rfl, hk4⟩; obtain ⟨hc4, hf4⟩ := bcell hk4.2; have ht4 := hk4.1; have hz4 := hk4.2.size; (try simp only [World.size_alloc] at hz4); (try simp only [sz_drew] at hz4); (try simp only [sz_drewN] at hz4); (try simp only [World.size_alloc] at hz4); (try simp only [sz_drew] at hc4 hf4); (try simp only [sz_drewN] at hc4 hf4); (try have hw4 : w.heap.size < w4.heap.size := by omega); (try have hv4 : w.heap.size + 1 < w4.heap.size := by omega); (try have hu4 : w.heap.size + 2 < w4.heap.size := by omega)))
  go_wp2_with fail
  have hF := (((((HZ.out.drew.call hk4).put 0 (.bool (a != b))).put 1 (.int .u64 (hiW (n * k) : Int))).put 2 (.int .u64 (loW (n * k) : Int))).put 3 (.int .i64 (IntKind.i64.wrap (e + f)))).put 4 (.bool false)
  refine bodyPost_ret (ret_own rfl hF rfl Tryd.underlying44 rfl (by kernel_rfl)) rfl ?_
  exact ⟨ex_eq rfl HW.out rfl _, (by repeat' (first | (with_reducible assumption) | (with_reducible exact Kept.refl ht) | (with_reducible refine Kept.alloc ?_ _) | (with_reducible refine Kept.drew ?_) | (with_reducible refine Kept.drewN ?_ _) | (with_reducible refine Kept.setCell ?_ ?_ _ ?_ ?_) | (with_reducible refine Kept.trans ?_ (by assumption)) | omega | (simp; done) | (simp; omega)))⟩
end Go.Proofs.YtanfhlkfmmglhaaDoor
