/- Signed numbers at the fixed scale, sums, products and the order of rounded numbers: plain mathematics. No condition. -/
import Derived.Test.YtcmgphfcpgebfaaDoorComp
namespace Go.Proofs.YtcmgphfcpgebfaaDoor

/-- A real's number at the fixed scale, with its sign. -/
def sv (m e : Int) : Int := sg (decide (m < 0)) (sc (mag m) e)
/-- The result of rounding a signed number. -/
def nM (p : Nat) (how N : Int) : Int := rM p how (decide (N < 0)) N.natAbs false
def nE (p : Nat) (how N : Int) : Int := rE p how (decide (N < 0)) N.natAbs false
def nX (p : Nat) (how N : Int) : Int := rX p how (decide (N < 0)) N.natAbs false

theorem sg_abs (neg : Bool) (n : Nat) : (sg neg n).natAbs = n := sg_mag neg n
theorem sg_zero (neg : Bool) : sg neg 0 = 0 := by unfold sg; simp
theorem sg_same (A : Bool) (x y : Nat) : sg A x + sg A y = sg A (x + y) := by unfold sg; split <;> omega
theorem sg_ge (A : Bool) {x y : Nat} (h : y ≤ x) : sg A x + sg (!A) y = sg A (x - y) := by cases A <;> simp [sg] <;> omega
theorem sg_lt' (A : Bool) {x y : Nat} (h : x ≤ y) : sg A x + sg (!A) y = sg (!A) (y - x) := by cases A <;> simp [sg] <;> omega
theorem sg_not (A : Bool) (x : Nat) : sg (!A) x = - sg A x := by cases A <;> simp [sg]

/-- Rounding of (neg, V, m) is that of the signed number N. -/
structure Same (p : Nat) (neg : Bool) (V : Nat) (m : Bool) (N : Int) : Prop where
  rv : ∀ how, rv p how neg V m = rv p how (decide (N < 0)) N.natAbs false
  neg : neg = decide (N < 0) ∨ (V = 0 ∧ m = false ∧ N = 0)
theorem zero_res (p : Nat) (how : Int) (neg : Bool) : rM p how neg 0 false = 0 ∧ rE p how neg 0 false = 0 ∧ rX p how neg 0 false = 0 := by
  have h := round_zero (p := p) (how := how) (e := 0) (neg := neg)
  rw [show sc 0 0 = 0 by unfold sc; rw [Nat.zero_mul]] at h
  exact h
theorem Same.res {p : Nat} {neg : Bool} {V : Nat} {m : Bool} {N : Int} (h : Same p neg V m N) (how : Int) :
    rM p how neg V m = nM p how N ∧ rE p how neg V m = nE p how N ∧ rX p how neg V m = nX p how N := by
  rcases h.neg with hn | ⟨hV, hm, hN⟩
  · have hr := h.rv how
    subst hn
    unfold nM nE nX rM rE rX oV oF ovf
    rw [hr]
    exact ⟨rfl, rfl, rfl⟩
  · subst hV hm hN
    obtain ⟨a, b, c⟩ := zero_res p how neg
    obtain ⟨a', b', c'⟩ := zero_res p how (decide ((0 : Int) < 0))
    unfold nM nE nX
    rw [Int.natAbs_zero]
    exact ⟨a.trans a'.symm, b.trans b'.symm, c.trans c'.symm⟩
theorem same_of {p : Nat} {neg : Bool} {V V' : Nat} {m : Bool} {N : Int} (hN : N = sg neg V') (h0 : V' = 0 → V = 0 ∧ m = false) (h : ∀ how, rv p how neg V m = Go.Proofs.YtcmgphfcpgebfaaDoor.rv p how neg V' false) : Same p neg V m N := by
  subst hN
  by_cases hz : V' = 0
  · obtain ⟨hV, hm⟩ := h0 hz
    subst hz hV hm
    rw [sg_zero]
    exact ⟨fun how => by rw [rv_zero, Int.natAbs_zero, rv_zero], Or.inr ⟨rfl, rfl, rfl⟩⟩
  · refine ⟨fun how => ?_, Or.inl (sg_lt neg hz).symm⟩
    rw [sg_lt neg hz, sg_abs, h how]
theorem same_exact {p : Nat} {neg : Bool} {V : Nat} {N : Int} (hN : N = sg neg V) : Same p neg V false N := same_of hN (fun h => ⟨h, rfl⟩) (fun _ => rfl)
/-- A number whose last digits are left out, but for whether there were any. -/
theorem same_norm {p : Nat} {neg : Bool} {V' q j : Nat} {m : Bool} {N : Int} (hN : N = sg neg V') (hq : V' / 10 ^ j = q) (hp : p < dg q) (hm : m = decide (V' % 10 ^ j ≠ 0)) : Same p neg (q * 10 ^ j) m N := by
  subst hq hm
  have h0 : V' ≠ 0 := by
    rintro rfl
    rw [Nat.zero_div, dg_zero] at hp
    omega
  refine same_of hN (fun h => absurd h h0) (fun how => ?_)
  rw [rv_norm (how := how) (neg := neg) (m := false) hp, Bool.false_or]

theorem sc_up {n : Nat} {E : Int} (d : Nat) (h : -1100 ≤ E - d) : sc n E = n * 10 ^ d * 10 ^ (E - d + 1100).toNat := by
  unfold sc
  rw [Nat.mul_assoc, ← Nat.pow_add]
  congr 2
  omega
theorem sc_parts {k : Nat} {F : Int} {kk : Int} (hF : -1100 ≤ F) (hk : 0 ≤ kk) :
    sc k F / 10 ^ (F + kk + 1100).toNat = shN k kk ∧ decide (sc k F % 10 ^ (F + kk + 1100).toNat ≠ 0) = shM k kk false := by
  unfold sc shN shM
  have h : (F + kk + 1100).toNat = (F + 1100).toNat + kk.toNat := by omega
  rw [h, scale_div, scale_mod, Bool.false_or]
  refine ⟨rfl, ?_⟩
  have := p10 (F + 1100).toNat
  rw [decide_eq_decide]
  constructor
  · rintro h1 h2; rw [h2, Nat.zero_mul] at h1; exact h1 rfl
  · intro h1 h2
    rcases Nat.mul_eq_zero.1 h2 with h3 | h3
    · exact h1 h3
    · omega
theorem add_parts (X B Y : Nat) (hB : 0 < B) : (X * B + Y) / B = X + Y / B ∧ (X * B + Y) % B = Y % B := by
  rw [Nat.mul_comm]
  exact ⟨Nat.mul_add_div hB X Y, Nat.mul_add_mod B X Y⟩
theorem sub_parts (X B Y : Nat) (hB : 0 < B) (h : Y / B < X) (hr : Y % B ≠ 0) : (X * B - Y) / B = X - Y / B - 1 ∧ (X * B - Y) % B ≠ 0 := by
  have h1 := Nat.div_add_mod Y B
  have h2 := Nat.mod_lt Y hB
  obtain ⟨z, hz⟩ : ∃ z, X = Y / B + 1 + z := ⟨X - (Y / B + 1), by omega⟩
  have h3 : X * B - Y = z * B + (B - Y % B) := by
    rw [hz, Nat.add_mul, Nat.add_mul, Nat.one_mul]
    rw [Nat.mul_comm B] at h1
    generalize Y / B * B = u at h1 ⊢
    generalize z * B = v
    omega
  obtain ⟨a, b⟩ := add_parts z B (B - Y % B) hB
  rw [h3, a, b, Nat.div_eq_of_lt (by omega), Nat.mod_eq_of_lt (by omega)]
  exact ⟨by omega, by omega⟩
theorem sub_exact (X B Y : Nat) (hr : Y % B = 0) : X * B - Y = (X - Y / B) * B := by
  have h1 := Nat.div_add_mod Y B
  rw [hr, Nat.add_zero, Nat.mul_comm] at h1
  rw [Nat.sub_mul, h1]
theorem add_exact (X B Y : Nat) (hr : Y % B = 0) : X * B + Y = (X + Y / B) * B := by
  have h1 := Nat.div_add_mod Y B
  rw [hr, Nat.add_zero, Nat.mul_comm] at h1
  rw [Nat.add_mul, h1]

theorem dg_gt {x k : Nat} (h : 10 ^ k ≤ x) : k < dg x := by
  rcases Nat.lt_or_ge k (dg x) with h1 | h1
  · exact h1
  · have := (dg_iff x k).1 h1; omega

/-- Sums of two numbers with one sign: the last digits of the lesser one are left out. -/
theorem same_plus {p n k : Nat} {A : Bool} {E F : Int} {d : Nat} (hp : p ≤ 18) (hn : n ≠ 0) (hF : -1100 ≤ F) (hd : min (E - F) 19 = (d : Int)) (_hEF : F ≤ E) :
    Same p A (sc (n * 10 ^ d + shN k (E - d - F)) (E - d)) (shM k (E - d - F) false) (sg A (sc n E) + sg A (sc k F)) ∧
    (shM k (E - d - F) false = true → 18 < dg (n * 10 ^ d + shN k (E - d - F))) := by
  obtain ⟨a, b⟩ := sc_parts (k := k) (F := F) (kk := E - d - F) hF (by omega)
  rw [show F + (E - d - F) + 1100 = E - d + 1100 by omega] at a b
  rw [sg_same, sc_up (n := n) (E := E) d (by omega)]
  have hB := p10 (E - d + 1100).toNat
  have hS : ∀ x, sc x (E - d) = x * 10 ^ (E - d + 1100).toNat := fun x => rfl
  rw [hS]
  rw [← a, ← b]
  obtain ⟨u, v⟩ := add_parts (n * 10 ^ d) (10 ^ (E - d + 1100).toNat) (sc k F) hB
  by_cases hr : sc k F % 10 ^ (E - d + 1100).toNat = 0
  · rw [hr, decide_eq_false (by simp)]
    refine ⟨same_exact ?_, by simp⟩
    rw [add_exact _ _ _ hr]
  · have h19 : d = 19 := by
      rcases (by omega : d = 19 ∨ (d : Int) = E - F) with h | h
      · exact h
      · exfalso
        apply hr
        unfold sc
        rw [show E - d + 1100 = F + 1100 by omega]
        exact Nat.mul_mod_left _ _
    have hX : 10 ^ 19 ≤ n * 10 ^ d := by subst h19; exact Nat.le_mul_of_pos_left _ (by omega)
    have hdg : 18 < dg (n * 10 ^ d + sc k F / 10 ^ (E - d + 1100).toNat) := Nat.lt_trans (by omega) (dg_gt (k := 19) (by omega))
    refine ⟨same_norm rfl u (by omega) (by rw [v]), fun _ => hdg⟩
/-- Differences: where a part is left, the greater number is far greater. -/
theorem same_minus {p n k : Nat} {A : Bool} {E F : Int} {d : Nat} (hp : p ≤ 18) (hn : n ≠ 0) (hk : k < 10 ^ 18) (hF : -1100 ≤ F) (hd : min (E - F) 19 = (d : Int)) (_hEF : F ≤ E) (hm : shM k (E - d - F) false = true) :
    shN k (E - d - F) + 1 ≤ n * 10 ^ d ∧ Same p A (sc (n * 10 ^ d - shN k (E - d - F) - 1) (E - d)) true (sg A (sc n E) + sg (!A) (sc k F)) ∧ 18 < dg (n * 10 ^ d - shN k (E - d - F) - 1) := by
  obtain ⟨a, b⟩ := sc_parts (k := k) (F := F) (kk := E - d - F) hF (by omega)
  rw [show F + (E - d - F) + 1100 = E - d + 1100 by omega] at a b
  rw [hm] at b
  have hB := p10 (E - d + 1100).toNat
  have hS : ∀ x, sc x (E - d) = x * 10 ^ (E - d + 1100).toNat := fun x => rfl
  have hr : sc k F % 10 ^ (E - d + 1100).toNat ≠ 0 := of_decide_eq_true b
  have h19 : d = 19 ∧ 0 < E - d - F := by
    rcases (by omega : (d = 19 ∧ 0 < E - d - F) ∨ (d : Int) = E - F) with h | h
    · exact h
    · exfalso
      apply hr
      unfold sc
      rw [show E - d + 1100 = F + 1100 by omega]
      exact Nat.mul_mod_left _ _
  have hX : 10 ^ 19 ≤ n * 10 ^ d := by rw [h19.1]; exact Nat.le_mul_of_pos_left _ (by omega)
  have hQ : shN k (E - d - F) ≤ k := Nat.div_le_self _ _
  rw [hS, sc_up (n := n) (E := E) d (by omega)]
  rw [← a] at hQ ⊢
  obtain ⟨u, v⟩ := sub_parts (n * 10 ^ d) (10 ^ (E - d + 1100).toNat) (sc k F) hB (by omega) hr
  have hle : sc k F ≤ n * 10 ^ d * 10 ^ (E - d + 1100).toNat := by
    rcases Nat.le_total (sc k F) (n * 10 ^ d * 10 ^ (E - d + 1100).toNat) with h | h
    · exact h
    · rw [Nat.sub_eq_zero_of_le h, Nat.zero_mod] at v; exact absurd rfl v
  rw [sg_ge A hle]
  have hdg : 18 < dg (n * 10 ^ d - sc k F / 10 ^ (E - d + 1100).toNat - 1) := dg_gt (by omega)
  exact ⟨by omega, same_norm rfl u (by omega) (by rw [decide_eq_true v]), hdg⟩
/-- Differences without a part. -/
theorem same_exact_minus {p n k : Nat} {A : Bool} {E F : Int} {d : Nat} (hF : -1100 ≤ F) (hd : min (E - F) 19 = (d : Int)) (_hEF : F ≤ E) (hm : shM k (E - d - F) false = false) :
    (shN k (E - d - F) ≤ n * 10 ^ d → Same p A (sc (n * 10 ^ d - shN k (E - d - F)) (E - d)) false (sg A (sc n E) + sg (!A) (sc k F))) ∧
    (n * 10 ^ d ≤ shN k (E - d - F) → Same p (!A) (sc (shN k (E - d - F) - n * 10 ^ d) (E - d)) false (sg A (sc n E) + sg (!A) (sc k F))) := by
  obtain ⟨a, b⟩ := sc_parts (k := k) (F := F) (kk := E - d - F) hF (by omega)
  rw [show F + (E - d - F) + 1100 = E - d + 1100 by omega] at a b
  rw [hm] at b
  have hS : ∀ x, sc x (E - d) = x * 10 ^ (E - d + 1100).toNat := fun x => rfl
  have hr : sc k F % 10 ^ (E - d + 1100).toNat = 0 := by have := of_decide_eq_false b; omega
  have h1 := Nat.div_add_mod (sc k F) (10 ^ (E - d + 1100).toNat)
  rw [hr, Nat.add_zero, Nat.mul_comm, a] at h1
  rw [hS, hS, sc_up (n := n) (E := E) d (by omega), ← h1]
  refine ⟨fun h => ?_, fun h => ?_⟩
  · rw [sg_ge A (Nat.mul_le_mul_right _ h), ← Nat.sub_mul]
    exact same_exact rfl
  · rw [sg_lt' A (Nat.mul_le_mul_right _ h), ← Nat.sub_mul]
    exact same_exact rfl
end Go.Proofs.YtcmgphfcpgebfaaDoor
