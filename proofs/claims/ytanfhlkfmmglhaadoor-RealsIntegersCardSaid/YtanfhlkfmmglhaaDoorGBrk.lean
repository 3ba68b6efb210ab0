/- The four directions of one number: plain mathematics. No condition. -/
import Derived.Test.YtanfhlkfmmglhaaDoorGLaw
import Derived.Test.YtanfhlkfmmglhaaDoorGAddo
import Derived.Test.YtanfhlkfmmglhaaDoorGTwo
import Derived.Test.YtanfhlkfmmglhaaDoorGYroot
import Derived.Test.YtanfhlkfmmglhaaDoorGReal
import Derived.Laws.AppendOwn
import Derived.LoopTactic
namespace Go.Proofs.YtanfhlkfmmglhaaDoor

theorem rv_inw {p V : Nat} {how how' : Int} {neg m : Bool} (h : how ≠ 0) (h' : how' ≠ 0) (hi : inw how neg = inw how' neg) : rv p how neg V m = rv p how' neg V m := by
  unfold rv rq grow
  rw [if_neg h, if_neg h', hi]
theorem oV_inw {p V : Nat} {how how' : Int} {neg m : Bool} (h : how ≠ 0) (h' : how' ≠ 0) (hi : inw how neg = inw how' neg) : oV p how neg V m = oV p how' neg V m := by
  unfold oV ovf
  rw [rv_inw h h' hi, hi]
theorem rv_lohi {p V : Nat} {l h : Int} {neg m : Bool} (hl : l ≠ 0) (hh : h ≠ 0) (il : inw l neg = true) (ih : inw h neg = false) :
    rv p l neg V m ≤ rv p h neg V m ∧ (rv p 0 neg V m = rv p l neg V m ∨ rv p 0 neg V m = rv p h neg V m) := by
  unfold rv rq grow
  rw [if_neg hl, if_neg hh, if_pos rfl, il, ih]
  generalize V / 10 ^ lst p V = q
  generalize tl V m (lst p V) = t
  simp only [Bool.not_true, Bool.and_false, Bool.false_eq_true, if_false, Bool.not_false, Bool.and_true, decide_eq_true_eq]
  refine ⟨Nat.mul_le_mul_right _ (by omega), ?_⟩
  by_cases h0 : t = 3 ∨ t = 2 ∧ q % 2 = 1
  · right
    rw [if_pos h0, if_pos (by omega)]
  · left
    rw [if_neg h0]
theorem rX_zero {p : Nat} {how : Int} {neg m : Bool} {V : Nat} (h : rX p how neg V m = 0) : oF p how neg V m = false := by
  unfold rX at h
  cases hc : oF p how neg V m
  · rfl
  · rw [hc] at h; simp at h
theorem oV_rv {p : Nat} {how : Int} {neg m : Bool} {V : Nat} (h : oF p how neg V m = false) (hi : inw how neg = false) : rv p how neg V m < 10 ^ (p + 1500) ∧ oV p how neg V m = rv p how neg V m := by
  unfold oF ovf at h
  rw [hi] at h
  have h1 : ¬ 10 ^ (p + 1500) ≤ rv p how neg V m := by simpa using h
  refine ⟨by omega, ?_⟩
  unfold oV ovf
  rw [decide_eq_false h1]
  simp
theorem oV_lt {p : Nat} {how : Int} {neg m : Bool} {V : Nat} (h : rv p how neg V m < 10 ^ (p + 1500)) : oV p how neg V m = rv p how neg V m := by
  unfold oV ovf
  rw [decide_eq_false (by omega)]
  simp
theorem inw0 (neg : Bool) : inw 0 neg = false := by unfold inw; simp
/-- The greater and the lesser absolute value, and the nearest one. -/
theorem oV_lohi {p V : Nat} {l h : Int} {neg m : Bool} (hl : l ≠ 0) (hh : h ≠ 0) (il : inw l neg = true) (ih : inw h neg = false) (e0 : rX p 0 neg V m = 0) (eh : rX p h neg V m = 0) :
    oV p l neg V m ≤ oV p h neg V m ∧ (oV p 0 neg V m = oV p l neg V m ∨ oV p 0 neg V m = oV p h neg V m) := by
  obtain ⟨a, b⟩ := rv_lohi (p := p) (V := V) (m := m) hl hh il ih
  obtain ⟨c, d⟩ := oV_rv (rX_zero eh) ih
  obtain ⟨c0, d0⟩ := oV_rv (rX_zero e0) (inw0 neg)
  rw [oV_lt (p := p) (how := l) (by omega), d, d0]
  exact ⟨a, b⟩
/-- Down, Up, Nearest and Zero of one number. -/
theorem brackets {p V : Nat} {neg m : Bool} (e0 : rX p 0 neg V m = 0) (e1 : rX p 1 neg V m = 0) (e2 : rX p 2 neg V m = 0) :
    sg neg (oV p 2 neg V m) ≤ sg neg (oV p 1 neg V m) ∧
    (oV p 0 neg V m = oV p 1 neg V m ∨ oV p 0 neg V m = oV p 2 neg V m) ∧
    (rM p 3 neg V m = if rM p 2 neg V m < 0 then rM p 1 neg V m else rM p 2 neg V m) ∧
    (rE p 3 neg V m = if rM p 2 neg V m < 0 then rE p 1 neg V m else rE p 2 neg V m) := by
  unfold rM rE
  cases neg
  · obtain ⟨a, b⟩ := oV_lohi (p := p) (V := V) (m := m) (neg := false) (l := 2) (h := 1) (by omega) (by omega) (by decide) (by decide) e0 e1
    rw [oV_inw (how := 3) (how' := 2) (by omega) (by omega) (by decide)]
    have hp : ¬ fM false (oV p 2 false V m) < 0 := by unfold fM sg; simp
    rw [if_neg hp, if_neg hp]
    refine ⟨by unfold sg; simp; exact a, b.symm, rfl, rfl⟩
  · obtain ⟨a, b⟩ := oV_lohi (p := p) (V := V) (m := m) (neg := true) (l := 1) (h := 2) (by omega) (by omega) (by decide) (by decide) e0 e2
    rw [oV_inw (how := 3) (how' := 1) (by omega) (by omega) (by decide)]
    refine ⟨by unfold sg; simp; exact a, b, ?_⟩
    by_cases h0 : oV p 2 true V m = 0
    · have h1 : oV p 1 true V m = 0 := by omega
      rw [h0, h1]
      simp
    · have hp : fM true (oV p 2 true V m) < 0 := of_decide_eq_true (form_neg h0)
      rw [if_pos hp, if_pos hp]
      exact ⟨rfl, rfl⟩
end Go.Proofs.YtanfhlkfmmglhaaDoor
/- Products, quotients and roots at the fixed scale: plain mathematics. No condition. -/
namespace Go.Proofs.YtanfhlkfmmglhaaDoor

theorem pw_split (a b : Nat) : (10 : Nat) ^ (a + b) = 10 ^ a * 10 ^ b := Nat.pow_add 10 a b
/-- A square at the fixed scale. -/
theorem sc_mul (x y : Nat) {e f : Int} (he : -550 ≤ e) (hf : -550 ≤ f) : sc (x * y) (e + f) * 10 ^ 1100 = sc x e * sc y f := by
  have h1 : sc (x * y) (e + f) * 10 ^ 1100 = x * y * 10 ^ ((e + f + 1100).toNat + 1100) := by unfold sc; rw [pw_split, Nat.mul_assoc]
  have h2 : sc x e * sc y f = x * y * 10 ^ ((e + 1100).toNat + (f + 1100).toNat) := by
    unfold sc
    rw [pw_split]
    simp only [Nat.mul_assoc, Nat.mul_left_comm]
  rw [h1, h2]
  exact congrArg (fun k => x * y * 10 ^ k) (by omega)

def rtD (n : Nat) (e : Int) : Nat := if (e - ((37 - dg n : Nat) : Int)) % 2 = 0 then 37 - dg n else 38 - dg n
def rtF (n : Nat) (e : Int) : Int := (e - rtD n e) / 2
def rtN (n : Nat) (e : Int) : Nat := n * 10 ^ rtD n e
theorem rt_facts {n : Nat} (e : Int) (hn : n ≠ 0) (hd : dg n ≤ 18) : e - rtD n e = 2 * rtF n e ∧ rtD n e ≤ 38 ∧ 10 ^ 36 ≤ rtN n e ∧ rtN n e < 10 ^ 38 := by
  have h1 : rtD n e ≤ 38 ∧ (e - rtD n e) % 2 = 0 ∧ (rtD n e = 37 - dg n ∨ rtD n e = 38 - dg n) := by unfold rtD; split <;> omega
  have h2 := dg_mul (rtD n e) hn
  refine ⟨by unfold rtF; omega, h1.1, ?_, ?_⟩
  · rcases Nat.lt_or_ge (rtN n e) (10 ^ 36) with h | h
    · have := (dg_iff _ _).2 h
      unfold rtN at this
      omega
    · exact h
  · apply (dg_iff _ _).1
    unfold rtN
    omega
theorem isq_facts {N : Nat} (h1 : 10 ^ 36 ≤ N) (h2 : N < 10 ^ 38) : isq N < 10 ^ 19 ∧ 18 < dg (isq N) := by
  obtain ⟨a, b⟩ := isq_spec N
  have hlt : isq N < 10 ^ 19 := by
    rcases Nat.lt_or_ge (isq N) (10 ^ 19) with h | h
    · exact h
    · have := Nat.mul_le_mul h h; omega
  have hge : 10 ^ 18 ≤ isq N := by
    rcases Nat.lt_or_ge (isq N) (10 ^ 18) with h | h
    · have := Nat.mul_le_mul (show isq N + 1 ≤ 10 ^ 18 by omega) (show isq N + 1 ≤ 10 ^ 18 by omega); omega
    · exact h
  exact ⟨hlt, dg_gt hge⟩
theorem rt_scale {n : Nat} {e : Int} (he : -1000 ≤ e) (h : e - rtD n e = 2 * rtF n e) (hd : rtD n e ≤ 38) : rtN n e * (10 ^ (rtF n e + 1100).toNat * 10 ^ (rtF n e + 1100).toNat) = sc n e * 10 ^ 1100 := by
  have h1 : sc n e * 10 ^ 1100 = n * 10 ^ ((e + 1100).toNat + 1100) := by unfold sc; rw [pw_split, Nat.mul_assoc]
  rw [h1]
  unfold rtN
  rw [Nat.mul_assoc, ← pw_split, ← pw_split]
  exact congrArg (fun k => n * 10 ^ k) (by omega)
theorem rv_down {p V : Nat} {how : Int} {neg m : Bool} (hi : inw how neg = true) (hh : how ≠ 0) : rv p how neg V m ≤ V := by
  unfold rv rq grow
  rw [if_neg hh, hi]
  simp only [Bool.not_true, Bool.and_false, Bool.false_eq_true, if_false, Nat.add_zero]
  exact Nat.div_mul_le_self _ _
theorem mst_le {p V : Nat} (h : 10 ^ (p + 1500) ≤ V) : mst p ≤ V := by
  refine Nat.le_trans ?_ h
  unfold mst
  rw [pw_split]
  exact Nat.mul_le_mul_right _ (Nat.sub_le _ _)
theorem oV_down {p V : Nat} {how : Int} {neg m : Bool} (hi : inw how neg = true) (hh : how ≠ 0) : oV p how neg V m ≤ V := by
  have h := rv_down (p := p) (V := V) (m := m) hi hh
  unfold oV ovf
  split
  · rename_i h1
    exact mst_le (Nat.le_trans (of_decide_eq_true h1) h)
  · exact h
theorem rX_down {p V : Nat} {how : Int} {neg m : Bool} (hi : inw how neg = true) : rX p how neg V m = 0 := by unfold rX oF; rw [hi]; simp
theorem rv_up {p V : Nat} {how : Int} {neg : Bool} (hi : inw how neg = false) (hh : how ≠ 0) : V ≤ rv p how neg V false := by
  unfold rv rq grow
  rw [if_neg hh, hi]
  have h1 := Nat.div_add_mod V (10 ^ lst p V)
  have h2 := Nat.mod_lt V (p10 (lst p V))
  by_cases h0 : V % 10 ^ lst p V = 0
  · rw [tl_exact h0]
    simp only [Nat.add_zero, ne_eq, not_true_eq_false, decide_false, Bool.false_and, Bool.false_eq_true, if_false]
    rw [Nat.mul_comm]; omega
  · have ht : tl V false (lst p V) ≠ 0 := by
      unfold tl
      rw [if_neg (by omega)]
      split
      · omega
      · split <;> omega
    rw [decide_eq_true ht]
    simp only [Bool.not_false, Bool.and_true, if_true]
    rw [Nat.add_mul, Nat.one_mul, Nat.mul_comm]
    omega
/-- Where Down and Up are the same, the number is that. -/
theorem exact_sq {p V : Nat} (e1 : rX p 1 false V false = 0) (hM : rM p 2 false V false = rM p 1 false V false) (hE : rE p 2 false V false = rE p 1 false V false) : oV p 2 false V false = V := by
  obtain ⟨c, d⟩ := oV_rv (rX_zero e1) (show inw 1 false = false by decide)
  have h1 := rv_up (p := p) (V := V) (neg := false) (how := 1) (by decide) (by decide)
  have h2 := oV_down (p := p) (V := V) (neg := false) (how := 2) (m := false) (by decide) (by decide)
  have h3 := form_val (p := p) (neg := false) (oV_fits (p := p) (how := 2) (neg := false) (V := V) (m := false))
  have h4 := form_val (p := p) (neg := false) (oV_fits (p := p) (how := 1) (neg := false) (V := V) (m := false))
  unfold rM at hM
  unfold rE at hE
  rw [hM, hE, h4] at h3
  omega

/-- The square of Down of a root is at most the number. -/
theorem root_down {s : Int} {n : Nat} {e : Int} {M E : Int} (hs : isSz s = true) (hn : n ≠ 0) (hd : dg n ≤ 18) (he : -400 ≤ e) (he' : e ≤ 500) (mo : Bool)
    (hM : rM (pr s) 2 false (sc (isq (rtN n e)) (rtF n e)) mo = M) (hE : rE (pr s) 2 false (sc (isq (rtN n e)) (rtF n e)) mo = E) : sc (mag M * mag M) (E + E) ≤ sc n e := by
  obtain ⟨a, b, c, d⟩ := rt_facts e hn hd
  have h1 := rt_scale (by omega) a b
  have h2 := oV_down (p := pr s) (V := sc (isq (rtN n e)) (rtF n e)) (neg := false) (how := 2) (m := mo) (by decide) (by decide)
  have h3 := res_val (s := s) (how := 2) (neg := false) (V := sc (isq (rtN n e)) (rtF n e)) (m := mo)
  have h4 := res_vld (s := s) (how := 2) (neg := false) (V := sc (isq (rtN n e)) (rtF n e)) (m := mo) hs
  rw [hM, hE] at h3 h4
  obtain ⟨_, _, v, _⟩ := vld_facts h4
  have h5 := sc_mul (mag M) (mag M) (e := E) (f := E) (by omega) (by omega)
  rw [h3] at h5
  have h6 := Nat.mul_le_mul h2 h2
  rw [← h5] at h6
  have h7 : sc (isq (rtN n e)) (rtF n e) * sc (isq (rtN n e)) (rtF n e) ≤ sc n e * 10 ^ 1100 := by
    rw [← h1]
    have h8 := Nat.mul_le_mul_right (10 ^ (rtF n e + 1100).toNat * 10 ^ (rtF n e + 1100).toNat) (isq_spec (rtN n e)).1
    refine Nat.le_trans (Nat.le_of_eq ?_) h8
    unfold sc
    simp only [Nat.mul_assoc, Nat.mul_left_comm]
  exact Nat.le_of_mul_le_mul_right (Nat.le_trans h6 h7) (p10 1100)

/-- The root of a square. -/
theorem root_sq {n x : Nat} {e ex : Int} (hn : n ≠ 0) (hd : dg n ≤ 18) (he : -400 ≤ e) (he' : e ≤ 500) (hx : x < 10 ^ 18) (hex : -400 ≤ ex) (hv : sc n e = sc (x * x) (ex + ex)) :
    isq (rtN n e) * isq (rtN n e) = rtN n e ∧ sc (isq (rtN n e)) (rtF n e) = sc x ex := by
  obtain ⟨a, b, c, d⟩ := rt_facts e hn hd
  have h1 := rt_scale (by omega) a b
  have h2 := sc_mul x x (e := ex) (f := ex) (by omega) (by omega)
  rw [hv, h2] at h1
  have hF : -1000 ≤ rtF n e := by omega
  have hle : rtF n e ≤ ex := by
    rcases (by omega : rtF n e ≤ ex ∨ ex < rtF n e) with h | h
    · exact h
    · exfalso
      obtain ⟨k, hk⟩ : ∃ k : Nat, rtF n e = ex + k := ⟨(rtF n e - ex).toNat, by omega⟩
      have h3 : (rtF n e + 1100).toNat = k + (ex + 1100).toNat := by omega
      rw [h3, pw_split] at h1
      unfold sc at h1
      have h4 : rtN n e * (10 ^ k * 10 ^ k) * (10 ^ (ex + 1100).toNat * 10 ^ (ex + 1100).toNat) = x * x * (10 ^ (ex + 1100).toNat * 10 ^ (ex + 1100).toNat) := by
        have : ∀ u v w : Nat, u * (v * v) * (w * w) = u * (v * w * (v * w)) := fun u v w => by simp only [Nat.mul_assoc, Nat.mul_left_comm]
        rw [this, h1]
        simp only [Nat.mul_assoc, Nat.mul_left_comm]
      have hb := p10 (ex + 1100).toNat
      have h5 := Nat.eq_of_mul_eq_mul_right (Nat.mul_pos hb hb) h4
      have h6 : x * x < 10 ^ 36 := Nat.lt_of_lt_of_le (Nat.mul_lt_mul_of_lt_of_lt hx hx) (by decide)
      have h7 : rtN n e ≤ rtN n e * (10 ^ k * 10 ^ k) := Nat.le_mul_of_pos_right _ (Nat.mul_pos (p10 k) (p10 k))
      omega
  obtain ⟨k, hk⟩ : ∃ k : Nat, ex = rtF n e + k := ⟨(ex - rtF n e).toNat, by omega⟩
  have h3 : (ex + 1100).toNat = k + (rtF n e + 1100).toNat := by omega
  have h4 : sc x ex = x * 10 ^ k * 10 ^ (rtF n e + 1100).toNat := by unfold sc; rw [h3, pw_split, Nat.mul_assoc]
  rw [h4] at h1
  have hb := p10 (rtF n e + 1100).toNat
  have h5 : rtN n e = x * 10 ^ k * (x * 10 ^ k) := by
    refine Nat.eq_of_mul_eq_mul_right (Nat.mul_pos hb hb) ?_
    rw [h1]
    simp only [Nat.mul_assoc, Nat.mul_left_comm]
  have h6 : isq (rtN n e) = x * 10 ^ k := by rw [h5]; exact isq_sq _
  rw [h6, h4]
  exact ⟨h5.symm, rfl⟩
/-- A valid number is rounded to itself. -/
theorem vld_res {s m e : Int} (how : Int) (h : vld s m e = true) : rM (pr s) how (decide (m < 0)) (sc (mag m) e) false = m ∧ rE (pr s) how (decide (m < 0)) (sc (mag m) e) false = e ∧ rX (pr s) how (decide (m < 0)) (sc (mag m) e) false = 0 := by
  have h1 := vld_same (how := how) (decide (m < 0)) h
  obtain ⟨h2, _⟩ := vld_fits h
  obtain ⟨h3, h4⟩ := vld_form h
  have ho : ovf (pr s) how (decide (m < 0)) (sc (mag m) e) false = false := by unfold ovf; rw [h1]; exact decide_eq_false (by omega)
  unfold rM rE rX oF oV
  rw [ho, h1]
  simp only [Bool.false_eq_true, if_false, Bool.false_and]
  exact ⟨h3, h4, trivial⟩
theorem nM_vld {s m e : Int} (how : Int) (h : vld s m e = true) : nM (pr s) how (sv m e) = m ∧ nE (pr s) how (sv m e) = e ∧ nX (pr s) how (sv m e) = 0 := by
  obtain ⟨a, b, c⟩ := vld_res how h
  have hS : Same (pr s) (decide (m < 0)) (sc (mag m) e) false (sv m e) := same_exact rfl
  obtain ⟨a', b', c'⟩ := hS.res how
  exact ⟨a'.symm.trans a, b'.symm.trans b, c'.symm.trans c⟩

/-- Quotients. -/
def qN (n k : Nat) : Nat := n * 10 ^ (37 - dg n) / k
def qM (n k : Nat) : Bool := decide (n * 10 ^ (37 - dg n) % k ≠ 0)
def qT (n : Nat) (e f : Int) : Int := e - ((37 - dg n : Nat) : Int) - f
theorem q_facts {n k : Nat} (hn : n ≠ 0) (hd : dg n ≤ 18) (hk : k ≠ 0) (hk' : k < 10 ^ 18) : qN n k < 340282366920938463463374607431768211456 ∧ 18 < dg (qN n k) := by
  have h1 := dg_mul (37 - dg n) hn
  have h2 : 10 ^ 36 ≤ n * 10 ^ (37 - dg n) := by
    rcases Nat.lt_or_ge (n * 10 ^ (37 - dg n)) (10 ^ 36) with h | h
    · have := (dg_iff _ _).2 h; omega
    · exact h
  have h3 : n * 10 ^ (37 - dg n) < 10 ^ 37 := (dg_iff _ _).1 (by omega)
  unfold qN
  refine ⟨Nat.lt_of_le_of_lt (Nat.div_le_self _ _) (Nat.lt_of_lt_of_le h3 (by decide)), dg_gt ?_⟩
  rw [Nat.le_div_iff_mul_le (by omega)]
  refine Nat.le_trans (Nat.mul_le_mul_left _ (Nat.le_of_lt hk')) (Nat.le_trans (by decide) h2)
end Go.Proofs.YtanfhlkfmmglhaaDoor
/- The program's operations on reals, for every input: their results as plain functions. Condition: the tables hold what their initialisers lay. -/
namespace Go.Proofs.YtanfhlkfmmglhaaDoor
open Go.ChangeShapes Go.WideShapes Go.ChangeAt Go.RowKit

/-- A contract of the sum, for some result that is rounded like the signed sum. -/
def SumOf (a b : Bool) (n k : Nat) (e f : Int) (N : Int) : Prop :=
  ∃ (neg : Bool) (Q : Nat) (T : Int) (mo : Bool), (∀ w, Tab w → Calls Tryd.prog 34 #[.agg #[.bool a, .int .u64 (hiW n : Int), .int .u64 (loW n : Int), .int .i64 e, .bool false], .agg #[.bool b, .int .u64 (hiW k : Int), .int .u64 (loW k : Int), .int .i64 f, .bool false]] w fun x w' => x = .returned (.agg #[.bool neg, .int .u64 (hiW Q : Int), .int .u64 (loW Q : Int), .int .i64 T, .bool mo]) ∧ Kept w w') ∧
    Q < 340282366920938463463374607431768211456 ∧ -1100 ≤ T ∧ T ≤ 5000 ∧ (mo = true → 18 < dg Q) ∧ ∀ p, p ≤ 18 → Same p neg (sc Q T) mo N

theorem sum_two (a b A B : Bool) (n k N K : Nat) (e f E F : Int) (hT : Turn a b n k e f A B N K E F) (hEF : F ≤ E) (hn0 : n ≠ 0) (hk0 : k ≠ 0) (hN0 : N ≠ 0) (hN : N < 10 ^ 18) (hK : K < 10 ^ 18)
    (he1 : -420 ≤ e) (he2 : e ≤ 420) (hf1 : -420 ≤ f) (hf2 : f ≤ 420) (hE1 : -420 ≤ E) (hE2 : E ≤ 420) (hF1 : -420 ≤ F) (hF2 : F ≤ 420) : SumOf a b n k e f (sg A (sc N E) + sg B (sc K F)) := by
  obtain ⟨d, hd⟩ : ∃ d : Nat, min (E - F) 19 = (d : Int) := ⟨(min (E - F) 19).toNat, by omega⟩
  have e18 : (10 : Nat) ^ 18 = 1000000000000000000 := by decide
  have hd19 : d ≤ 19 := by omega
  have htd : tn d ≤ 10000000000000000000 := Nat.le_trans (p10_le hd19) (by decide)
  have hXb : N * 10 ^ d < 10000000000000000000000000000000000000 := by
    have := Nat.mul_le_mul (show N ≤ 999999999999999999 by omega) htd
    unfold tn at this
    omega
  have hQ : shN K (E - d - F) ≤ K := Nat.div_le_self _ _
  have hsh := fun w ht => shorter_any B K F false (E - d - F) w ht (by omega) (by omega) (by omega) (by omega) (by omega)
  have core := fun neg R RE RM hres w ht => sum_core a b A B n k N K (N * 10 ^ d) (shN K (E - d - F)) e f E F (E - d - F) (E - d) (F + (E - d - F)) (shM K (E - d - F) false) d neg R RE RM w ht hn0 hk0 (Lib.hid hT) (by omega) (by omega) (by omega) (by omega) (by omega) (by omega) (by omega) (by omega) hd (by omega) rfl rfl (by omega) rfl rfl hsh hres
  have hF2' : F + (E - d - F) = E - d := by omega
  cases hAB : (A == B)
  · have hB : B = !A := by cases A <;> cases B <;> simp_all
    have hA : A = !B := by rw [hB, Bool.not_not]
    cases hm : shM K (E - d - F) false
    · obtain ⟨s1, s2⟩ := same_exact_minus (p := 18) (n := N) (k := K) (A := A) (E := E) (F := F) (d := d) (by omega) hd hEF hm
      rcases Nat.le_total (shN K (E - d - F)) (N * 10 ^ d) with h | h
      · refine ⟨A, N * 10 ^ d - shN K (E - d - F), E - d, false, core _ _ _ _ (Or.inr ⟨hA, ?_⟩), by omega, by omega, by omega, by simp, fun p hp => ?_⟩
        · intro w ht
          rw [hm]
          exact difference_ge A B false _ _ _ _ _ w ht h (by omega) rfl
        · rw [hB]
          exact (same_exact_minus (by omega) hd hEF hm).1 h
      · rcases Nat.lt_or_ge (N * 10 ^ d) (shN K (E - d - F)) with h' | h'
        · refine ⟨B, shN K (E - d - F) - N * 10 ^ d, E - d, false, core _ _ _ _ (Or.inr ⟨hA, ?_⟩), by omega, by omega, by omega, by simp, fun p hp => ?_⟩
          · intro w ht
            rw [hm, hF2']
            exact difference_lt A B _ _ _ _ _ w ht h' (by omega) rfl
          · rw [hB]
            exact (same_exact_minus (by omega) hd hEF hm).2 h
        · refine ⟨A, N * 10 ^ d - shN K (E - d - F), E - d, false, core _ _ _ _ (Or.inr ⟨hA, ?_⟩), by omega, by omega, by omega, by simp, fun p hp => ?_⟩
          · intro w ht
            rw [hm]
            exact difference_ge A B false _ _ _ _ _ w ht h' (by omega) rfl
          · rw [hB]
            exact (same_exact_minus (by omega) hd hEF hm).1 h'
    · obtain ⟨c1, _, c3⟩ := same_minus (p := 18) (n := N) (k := K) (A := A) (E := E) (F := F) (d := d) (by omega) hN0 hK (by omega) hd hEF hm
      refine ⟨A, N * 10 ^ d - shN K (E - d - F) - 1, E - d, true, core _ _ _ _ (Or.inr ⟨hA, ?_⟩), by omega, by omega, by omega, fun _ => c3, fun p hp => ?_⟩
      · intro w ht
        rw [hm]
        exact difference_part A B false _ _ _ _ _ w ht (by omega) (by omega) rfl _ (by omega) rfl
      · rw [hB]
        exact (same_minus hp hN0 hK (by omega) hd hEF hm).2.1
  · obtain rfl : A = B := by simpa using hAB
    obtain ⟨_, c2⟩ := same_plus (p := 18) (n := N) (k := K) (A := A) (E := E) (F := F) (d := d) (by omega) hN0 (by omega) hd hEF
    refine ⟨A, N * 10 ^ d + shN K (E - d - F), E - d, shM K (E - d - F) false, core _ _ _ _ (Or.inl ⟨rfl, rfl, by omega, rfl, rfl, rfl⟩), by omega, by omega, by omega, c2, fun p hp => ?_⟩
    exact (same_plus hp hN0 (by omega) hd hEF).1
/-- The sum of any two exact numbers without parts. -/
theorem sum_any (a b : Bool) (n k : Nat) (e f : Int) (hn : n < 10 ^ 18) (hk : k < 10 ^ 18) (he1 : -420 ≤ e) (he2 : e ≤ 420) (hf1 : -420 ≤ f) (hf2 : f ≤ 420) : SumOf a b n k e f (sg a (sc n e) + sg b (sc k f)) := by
  have hz : ∀ e, sc 0 e = 0 := fun e => by unfold sc; rw [Nat.zero_mul]
  have hb : (10 : Nat) ^ 18 < 340282366920938463463374607431768211456 := by decide
  by_cases hn0 : n = 0
  · subst hn0
    refine ⟨b, k, f, false, sum_left a b k e f, by omega, by omega, by omega, by simp, fun p _ => same_exact ?_⟩
    rw [hz, sg_zero]
    omega
  · by_cases hk0 : k = 0
    · subst hk0
      refine ⟨a, n, e, false, fun w ht => sum_right a b n e f w ht hn0, by omega, by omega, by omega, by simp, fun p _ => same_exact ?_⟩
      rw [hz, sg_zero]
      omega
    · by_cases h : e < f
      · have := sum_two a b b a n k k n e f f e (Or.inr ⟨h, rfl, rfl, rfl, rfl, rfl, rfl⟩) (by omega) hn0 hk0 hk0 hk hn he1 he2 hf1 hf2 hf1 hf2 he1 he2
        rwa [Int.add_comm] at this
      · exact sum_two a b a b n k n k e f e f (Or.inl ⟨h, rfl, rfl, rfl, rfl, rfl, rfl⟩) (by omega) hn0 hk0 hn0 hn hk he1 he2 hf1 hf2 he1 he2 hf1 hf2

/-- A result: the real and the error. -/
structure Res where
  M : Int
  E : Int
  X : Int
/-- A result, or an error that came before. -/
def okOr (c : Int) (r : Res) : Res := if c = 0 then r else ⟨0, 0, c⟩
def nRes (p : Nat) (how N : Int) : Res := ⟨nM p how N, nE p how N, nX p how N⟩
def rRes (p : Nat) (how : Int) (neg : Bool) (V : Nat) (m : Bool) : Res := ⟨rM p how neg V m, rE p how neg V m, rX p how neg V m⟩
theorem Same.eq {p : Nat} {neg : Bool} {V : Nat} {m : Bool} {N : Int} (h : Same p neg V m N) (how : Int) : rRes p how neg V m = nRes p how N := by
  obtain ⟨a, b, c⟩ := h.res how
  unfold rRes nRes
  rw [a, b, c]
def pv (a e b f : Int) : Int := sg (decide (a < 0) != decide (b < 0)) (sc (mag a * mag b) (e + f))
def aRes (s how a e b f : Int) : Res := okOr (ckR s how [(a, e), (b, f)]) (nRes (pr s) how (sv a e + sv b f))
def bRes (s how a e b f : Int) : Res := okOr (ckR s how [(a, e), (b, f)]) (nRes (pr s) how (sv a e + sv (-b) f))
def mRes (s how a e b f : Int) : Res := okOr (ckR s how [(a, e), (b, f)]) (nRes (pr s) how (pv a e b f))
def dRes (s how a e b f : Int) : Res := okOr (ckR s how [(a, e), (b, f)]) (if b = 0 then ⟨0, 0, 11⟩ else if a = 0 then ⟨0, 0, 0⟩ else rRes (pr s) how (decide (a < 0) != decide (b < 0)) (sc (qN (mag a) (mag b)) (qT (mag a) e f)) (qM (mag a) (mag b)))
def sMo (n : Nat) (e : Int) : Bool := decide (isq (rtN n e) * isq (rtN n e) ≠ rtN n e)
def sRes (s how a e : Int) : Res := okOr (ckR s how [(a, e)]) (if a < 0 then ⟨0, 0, 11⟩ else if a = 0 then ⟨0, 0, 0⟩ else rRes (pr s) how false (sc (isq (rtN (mag a) e)) (rtF (mag a) e)) (sMo (mag a) e))
/-- What the call of an operation leaves. -/
def Gives (r : Res) (w : World) (x : Ending) (w' : World) : Prop := x = .returned (.tuple #[.agg #[.int .i64 r.M, .int .i64 r.E], .int .i64 r.X]) ∧ Kept w w'

theorem gives_mk (M E X : Int) {P : Program} {f : Nat} {args : Array Value} {w : World} (h : Calls P f args w fun x w' => x = .returned (.tuple #[.agg #[.int .i64 M, .int .i64 E], .int .i64 X]) ∧ Kept w w') : Calls P f args w (Gives ⟨M, E, X⟩ w) := h
theorem ck_cases {c : Int} : c = 0 ∨ (c != 0) = true := by
  by_cases h : c = 0
  · exact Or.inl h
  · right; simpa using h
theorem okOr_zero {c : Int} (r : Res) (h : c = 0) : okOr c r = r := by unfold okOr; rw [if_pos h]
theorem okOr_ne {c : Int} (r : Res) (h : (c != 0) = true) : okOr c r = ⟨0, 0, c⟩ := by unfold okOr; rw [if_neg (by simpa using h)]
theorem pr18 (s : Int) : pr s ≤ 18 := (pr_pos s).2

theorem add_any (s how a e b f : Int) (w : World) (ht : Tab w) (la : -9223372036854775808 ≤ a) (ha : a ≤ 9223372036854775807) (lb : -9223372036854775808 ≤ b) (hb : b ≤ 9223372036854775807) :
    Calls Tryd.prog 7 #[.int .i64 s, .int .i64 how, .agg #[.int .i64 a, .int .i64 e], .agg #[.int .i64 b, .int .i64 f]] w (Gives (aRes s how a e b f) w) := by
  unfold aRes
  rcases ck_cases (c := ckR s how [(a, e), (b, f)]) with hc | hc
  · rw [okOr_zero _ hc]
    obtain ⟨_, v1, v2⟩ := ck_facts hc
    obtain ⟨_, a1, a2, a3, _⟩ := vld_facts v1
    obtain ⟨_, b1, b2, b3, _⟩ := vld_facts v2
    obtain ⟨neg, Q, T, mo, h1, h2, h3, h4, h5, h6⟩ := sum_any (decide (a < 0)) (decide (b < 0)) (mag a) (mag b) e f a1 b1 (by omega) (by omega) (by omega) (by omega)
    have hs := (h6 (pr s) (pr18 s)).eq how
    show Calls _ _ _ w (Gives (nRes (pr s) how (sg (decide (a < 0)) (sc (mag a) e) + sg (decide (b < 0)) (sc (mag b) f))) w)
    rw [← hs]
    unfold rRes
    exact gives_mk _ _ _ (add_good s how a e b f w ht hc _ _ _ neg Q T mo h1 h2 h3 h4 (fun h => Nat.lt_of_le_of_lt (pr18 s) (h5 h)) rfl rfl rfl)
  · rw [okOr_ne _ hc]
    exact gives_mk _ _ _ (add_bad s how a e b f _ w ht la ha lb hb rfl hc)
theorem sub_any (s how a e b f : Int) (w : World) (ht : Tab w) (la : -9223372036854775808 ≤ a) (ha : a ≤ 9223372036854775807) (lb : -9223372036854775808 ≤ b) (hb : b ≤ 9223372036854775807) :
    Calls Tryd.prog 9 #[.int .i64 s, .int .i64 how, .agg #[.int .i64 a, .int .i64 e], .agg #[.int .i64 b, .int .i64 f]] w (Gives (bRes s how a e b f) w) := by
  unfold bRes
  rcases ck_cases (c := ckR s how [(a, e), (b, f)]) with hc | hc
  · rw [okOr_zero _ hc]
    obtain ⟨_, v1, v2⟩ := ck_facts hc
    obtain ⟨_, a1, a2, a3, _⟩ := vld_facts v1
    obtain ⟨_, b1, b2, b3, _⟩ := vld_facts v2
    have hmb : mag (-b) = mag b := by unfold mag; omega
    obtain ⟨neg, Q, T, mo, h1, h2, h3, h4, h5, h6⟩ := sum_any (decide (a < 0)) (decide (-b < 0)) (mag a) (mag (-b)) e f a1 (by rw [hmb]; exact b1) (by omega) (by omega) (by omega) (by omega)
    have hs := (h6 (pr s) (pr18 s)).eq how
    show Calls _ _ _ w (Gives (nRes (pr s) how (sg (decide (a < 0)) (sc (mag a) e) + sg (decide (-b < 0)) (sc (mag (-b)) f))) w)
    rw [← hs]
    unfold rRes
    exact gives_mk _ _ _ (sub_good s how a e b f w ht hc _ _ _ (decide (-b < 0)) (mag (-b)) rfl rfl neg Q T mo h1 h2 h3 h4 (fun h => Nat.lt_of_le_of_lt (pr18 s) (h5 h)) rfl rfl rfl)
  · rw [okOr_ne _ hc]
    exact gives_mk _ _ _ (sub_bad s how a e b f _ w ht la ha lb hb rfl hc)
theorem mul_any (s how a e b f : Int) (w : World) (ht : Tab w) (la : -9223372036854775808 ≤ a) (ha : a ≤ 9223372036854775807) (lb : -9223372036854775808 ≤ b) (hb : b ≤ 9223372036854775807) :
    Calls Tryd.prog 11 #[.int .i64 s, .int .i64 how, .agg #[.int .i64 a, .int .i64 e], .agg #[.int .i64 b, .int .i64 f]] w (Gives (mRes s how a e b f) w) := by
  unfold mRes
  rcases ck_cases (c := ckR s how [(a, e), (b, f)]) with hc | hc
  · rw [okOr_zero _ hc]
    have hS : Same (pr s) (decide (a < 0) != decide (b < 0)) (sc (mag a * mag b) (e + f)) false (pv a e b f) := same_exact rfl
    rw [← hS.eq how]
    unfold rRes
    exact gives_mk _ _ _ (mul_good s how a e b f w ht hc _ _ _ _ rfl rfl rfl rfl)
  · rw [okOr_ne _ hc]
    exact gives_mk _ _ _ (mul_bad s how a e b f _ w ht la ha lb hb rfl hc)
theorem dg18 {n : Nat} (h : n < 1000000000000000000) : dg n ≤ 18 := (dg_iff n 18).2 h
theorem div_any (s how a e b f : Int) (w : World) (ht : Tab w) (la : -9223372036854775808 ≤ a) (ha : a ≤ 9223372036854775807) (lb : -9223372036854775808 ≤ b) (hb : b ≤ 9223372036854775807) :
    Calls Tryd.prog 13 #[.int .i64 s, .int .i64 how, .agg #[.int .i64 a, .int .i64 e], .agg #[.int .i64 b, .int .i64 f]] w (Gives (dRes s how a e b f) w) := by
  unfold dRes
  rcases ck_cases (c := ckR s how [(a, e), (b, f)]) with hc | hc
  · rw [okOr_zero _ hc]
    obtain ⟨_, v1, v2⟩ := ck_facts hc
    obtain ⟨_, a1, a2, a3, _⟩ := vld_facts v1
    obtain ⟨_, b1, b2, b3, _⟩ := vld_facts v2
    by_cases hb0 : b = 0
    · rw [if_pos hb0]
      exact gives_mk _ _ _ (div_zero s how a e b f w ht hc hb0)
    · rw [if_neg hb0]
      have hbm : mag b ≠ 0 := by unfold mag; omega
      by_cases ha0 : a = 0
      · rw [if_pos ha0]
        subst ha0
        have h0 : mag 0 = 0 := rfl
        obtain ⟨r1, r2, r3⟩ := zero_res (pr s) how (decide ((0 : Int) < 0))
        have hz : sc 0 e = 0 := by unfold sc; rw [Nat.zero_mul]
        rw [← hz] at r1 r2 r3
        refine gives_mk _ _ _ (div_good s how 0 e b f w ht hc hb0 _ _ _ (decide ((0 : Int) < 0)) 0 e false ?_ (by omega) (by omega) (by omega) (by simp) r1 r2 r3)
        intro w ht
        exact quotient_zero _ _ _ _ _ _ _ w ht
      · rw [if_neg ha0]
        have ham : mag a ≠ 0 := by unfold mag; omega
        obtain ⟨q1, q2⟩ := q_facts ham (dg18 a1) hbm b1
        unfold rRes
        have hd : 37 - dg (mag a) ≤ 37 := Nat.sub_le _ _
        refine gives_mk _ _ _ (div_good s how a e b f w ht hc hb0 _ _ _ (decide (a < 0) != decide (b < 0)) (qN (mag a) (mag b)) (qT (mag a) e f) (qM (mag a) (mag b)) ?_ q1 (by unfold qT; omega) (by unfold qT; omega) (fun _ => Nat.lt_of_le_of_lt (pr18 s) q2) rfl rfl rfl)
        intro w ht
        exact quotient_any _ _ _ _ (mag a) (mag b) e f w ht ham (by omega) (by omega) (by omega) (by omega) (by omega) (by omega) (by omega) _ _ _ _ rfl rfl rfl rfl
  · rw [okOr_ne _ hc]
    exact gives_mk _ _ _ (div_bad s how a e b f _ w ht la ha lb hb rfl hc)
theorem xroot_any (neg m : Bool) (n : Nat) (e : Int) (w : World) (ht : Tab w) (hn0 : n ≠ 0) (hn : n < 1000000000000000000) (he : -1000 ≤ e) (he' : e ≤ 1000) :
    Calls Tryd.prog 48 #[.agg #[.bool neg, .int .u64 (hiW n : Int), .int .u64 (loW n : Int), .int .i64 e, .bool m]] w fun x w' => x = .returned (.agg #[.bool false, .int .u64 (hiW (isq (rtN n e)) : Int), .int .u64 (loW (isq (rtN n e)) : Int), .int .i64 (rtF n e), .bool (sMo n e)]) ∧ Kept w w' := by
  have hd := dg18 hn
  unfold sMo rtN rtF rtD
  by_cases h : (e - ((37 - dg n : Nat) : Int)) % 2 = 0
  · rw [if_pos h]
    exact xroot_even neg m n e w ht hn0 (by omega) (by omega) (by omega) _ _ _ rfl rfl (by omega)
  · rw [if_neg h]
    have h38 : 38 - dg n = (37 - dg n) + 1 := by omega
    have hN2 : n * 10 ^ (37 - dg n) * 10 = n * 10 ^ (38 - dg n) := by rw [h38, Nat.pow_succ, Nat.mul_assoc]
    exact xroot_odd neg m n e w ht hn0 (by omega) (by omega) (by omega) _ _ _ _ rfl rfl hN2 (by omega)
theorem sqrt_any (s how a e : Int) (w : World) (ht : Tab w) (la : -9223372036854775808 ≤ a) (ha : a ≤ 9223372036854775807) :
    Calls Tryd.prog 15 #[.int .i64 s, .int .i64 how, .agg #[.int .i64 a, .int .i64 e]] w (Gives (sRes s how a e) w) := by
  unfold sRes
  rcases ck_cases (c := ckR s how [(a, e)]) with hc | hc
  · rw [okOr_zero _ hc]
    obtain ⟨_, v1⟩ := ck1_facts hc
    obtain ⟨_, a1, a2, a3, _⟩ := vld_facts v1
    by_cases hn : a < 0
    · rw [if_pos hn]
      exact gives_mk _ _ _ (sqrt_neg s how a e w ht hc (decide_eq_true hn))
    · rw [if_neg hn]
      by_cases ha0 : a = 0
      · rw [if_pos ha0]
        subst ha0
        obtain ⟨r1, r2, r3⟩ := zero_res (pr s) how (decide ((0 : Int) < 0))
        have hz : sc 0 e = 0 := by unfold sc; rw [Nat.zero_mul]
        rw [← hz] at r1 r2 r3
        refine gives_mk _ _ _ (sqrt_good s how 0 e w ht hc (by simp) _ _ _ (decide ((0 : Int) < 0)) 0 e false ?_ (by omega) (by omega) (by omega) (by simp) r1 r2 r3)
        intro w ht
        exact xroot_zero _ _ _ w ht
      · rw [if_neg ha0]
        have ham : mag a ≠ 0 := by unfold mag; omega
        obtain ⟨t1, t2, t3, t4⟩ := rt_facts e ham (dg18 a1)
        obtain ⟨i1, i2⟩ := isq_facts t3 t4
        unfold rRes
        have hb : (10 : Nat) ^ 19 < 340282366920938463463374607431768211456 := by decide
        refine gives_mk _ _ _ (sqrt_good s how a e w ht hc (decide_eq_false hn) _ _ _ false (isq (rtN (mag a) e)) (rtF (mag a) e) (sMo (mag a) e) ?_ (by omega) (by omega) (by omega) (fun _ => Nat.lt_of_le_of_lt (pr18 s) i2) rfl rfl rfl)
        intro w ht
        exact xroot_any _ _ _ _ w ht ham a1 (by omega) (by omega)
  · rw [okOr_ne _ hc]
    exact gives_mk _ _ _ (sqrt_bad s how a e _ w ht la ha rfl hc)
def gRes (s a e : Int) : Res := okOr (ckR s 0 [(a, e)]) ⟨-a, e, 0⟩
def absI (a : Int) : Int := if a < 0 then -a else a
def hRes (s a e : Int) : Res := okOr (ckR s 0 [(a, e)]) ⟨absI a, e, 0⟩
def lRes (s a e : Int) : Res := if s = 1 then ⟨0, 0, 1⟩ else okOr (ckR s 0 [(a, e)]) ⟨a, e, 0⟩
def tRes (s how a e : Int) : Res := if s = -1 then ⟨0, 0, 1⟩ else okOr (ckR s how [(a, e)]) (nRes (pr (s - 1)) how (sv a e))
def kRes (s how m e : Int) : Res := if (isSz s && isDir how) = true then nRes (pr s) how (sv m (max (-1000) (min e 1000))) else ⟨0, 0, 1⟩
theorem neg_any (s a e : Int) (w : World) (ht : Tab w) (la : -9223372036854775808 ≤ a) (ha : a ≤ 9223372036854775807) :
    Calls Tryd.prog 17 #[.int .i64 s, .agg #[.int .i64 a, .int .i64 e]] w (Gives (gRes s a e) w) := by
  unfold gRes
  rcases ck_cases (c := ckR s 0 [(a, e)]) with hc | hc
  · rw [okOr_zero _ hc]; exact gives_mk _ _ _ (neg_good s a e w ht hc)
  · rw [okOr_ne _ hc]; exact gives_mk _ _ _ (neg_bad s a e _ w ht la ha rfl hc)
theorem abs_any (s a e : Int) (w : World) (ht : Tab w) (la : -9223372036854775808 ≤ a) (ha : a ≤ 9223372036854775807) :
    Calls Tryd.prog 19 #[.int .i64 s, .agg #[.int .i64 a, .int .i64 e]] w (Gives (hRes s a e) w) := by
  unfold hRes absI
  rcases ck_cases (c := ckR s 0 [(a, e)]) with hc | hc
  · rw [okOr_zero _ hc]
    by_cases hn : a < 0
    · rw [if_pos hn]; exact gives_mk _ _ _ (abs_neg s a e w ht hc (decide_eq_true hn))
    · rw [if_neg hn]; exact gives_mk _ _ _ (abs_pos s a e w ht hc (decide_eq_false hn))
  · rw [okOr_ne _ hc]; exact gives_mk _ _ _ (abs_bad s a e _ w ht la ha rfl hc)
theorem leng_any (s a e : Int) (w : World) (ht : Tab w) (la : -9223372036854775808 ≤ a) (ha : a ≤ 9223372036854775807) :
    Calls Tryd.prog 27 #[.int .i64 s, .agg #[.int .i64 a, .int .i64 e]] w (Gives (lRes s a e) w) := by
  unfold lRes
  by_cases h1 : s = 1
  · rw [if_pos h1]; subst h1; exact gives_mk _ _ _ (leng_size a e w ht)
  · rw [if_neg h1]
    have h2 : (s == 1) = false := by simpa using h1
    rcases ck_cases (c := ckR s 0 [(a, e)]) with hc | hc
    · rw [okOr_zero _ hc]; exact gives_mk _ _ _ (leng_good s a e w ht h2 hc)
    · rw [okOr_ne _ hc]; exact gives_mk _ _ _ (leng_bad s a e _ w ht h2 la ha rfl hc)
theorem shorten_any (s how a e : Int) (w : World) (ht : Tab w) (la : -9223372036854775808 ≤ a) (ha : a ≤ 9223372036854775807) :
    Calls Tryd.prog 29 #[.int .i64 s, .int .i64 how, .agg #[.int .i64 a, .int .i64 e]] w (Gives (tRes s how a e) w) := by
  unfold tRes
  by_cases h1 : s = -1
  · rw [if_pos h1]; subst h1; exact gives_mk _ _ _ (shorten_size how a e w ht)
  · rw [if_neg h1]
    have h2 : (s == -1) = false := by simpa using h1
    rcases ck_cases (c := ckR s how [(a, e)]) with hc | hc
    · rw [okOr_zero _ hc]
      have hS : Same (pr (s - 1)) (decide (a < 0)) (sc (mag a) e) false (sv a e) := same_exact rfl
      rw [← hS.eq how]
      unfold rRes
      exact gives_mk _ _ _ (shorten_good s how a e w ht h2 hc _ _ _ _ rfl rfl rfl rfl)
    · rw [okOr_ne _ hc]; exact gives_mk _ _ _ (shorten_bad s how a e _ w ht h2 la ha rfl hc)
theorem make_any (s how m e : Int) (w : World) (ht : Tab w) (la : -9223372036854775808 ≤ m) (ha : m ≤ 9223372036854775807) :
    Calls Tryd.prog 31 #[.int .i64 s, .int .i64 how, .int .i64 m, .int .i64 e] w (Gives (kRes s how m e) w) := by
  unfold kRes
  cases h : (isSz s && isDir how)
  · rw [if_neg (by simp)]
    exact gives_mk _ _ _ (make_bad s how m e w ht h)
  · rw [if_pos rfl]
    have hS : Same (pr s) (decide (m < 0)) (sc (mag m) (max (-1000) (min e 1000))) false (sv m (max (-1000) (min e 1000))) := same_exact rfl
    rw [← hS.eq how]
    unfold rRes
    exact gives_mk _ _ _ (make_good s how m e w ht h la ha _ rfl _ _ _ rfl rfl rfl)
end Go.Proofs.YtanfhlkfmmglhaaDoor
/- The examples of the chapter: plain mathematics. No condition. -/
namespace Go.Proofs.YtanfhlkfmmglhaaDoor

theorem dg_of {n : Nat} (k : Nat) (h1 : 10 ^ k ≤ n) (h2 : n < 10 ^ (k + 1)) : dg n = k + 1 := dg_eq h1 h2
theorem res_in {p n : Nat} {how e : Int} {neg m : Bool} (hn : n ≠ 0) (he : -1100 ≤ e) (hp : 1 ≤ p) (hm : m = true → p < dg n) (k q o z D : Nat) (hk : (cK p n e).toNat = k) (hq : cQ p how neg n e m = q) (h0 : q ≠ 0) (hD : dg q = D) (h : e + (k : Int) + (D : Int) ≤ 400 + (p : Int)) (ho : od q = o) (hz : tz q = z) :
    rRes p how neg (sc n e) m = ⟨sg neg o, e + k + z, 0⟩ := by
  obtain ⟨a, _, c⟩ := round_in (how := how) (neg := neg) (m := m) hn he hp hm (by rw [hk, hq, hD]; exact h)
  obtain ⟨c1, c2⟩ := c (by rw [hq]; exact h0)
  unfold rRes
  rw [a, c1, c2, hq, hk, ho, hz]
theorem dg1 : dg 1 = 1 := dg_of 0 (by decide) (by decide)
theorem dg2 : dg 2 = 1 := dg_of 0 (by decide) (by decide)
theorem dg3 : dg 3 = 1 := dg_of 0 (by decide) (by decide)
theorem dg5 : dg 5 = 1 := dg_of 0 (by decide) (by decide)
theorem dgn : dg 9999999 = 7 := dg_of 6 (by decide) (by decide)
theorem vld_of {s m e : Int} {n D : Nat} (hs : isSz s = true) (h0 : m ≠ 0) (hm : mag m = n) (hD : dg n = D) (h1 : m % 10 ≠ 0) (h2 : D ≤ pr s) (h3 : -400 ≤ e) (h4 : e ≤ 400 + (pr s : Int) - (D : Int)) : vld s m e = true := by
  unfold vld
  rw [hs, if_neg h0, hm, hD, Bool.true_and]
  exact decide_eq_true ⟨h1, h2, h3, h4⟩
theorem ck2_of {s how a e b f : Int} (h : (isSz s && isDir how) = true) (h1 : vld s a e = true) (h2 : vld s b f = true) : ckR s how [(a, e), (b, f)] = 0 := by
  unfold ckR ckO
  rw [if_pos h, if_pos (by simp [h1, h2])]
theorem ck1_of {s how a e : Int} (h : (isSz s && isDir how) = true) (h1 : vld s a e = true) : ckR s how [(a, e)] = 0 := by
  unfold ckR ckO
  rw [if_pos h, if_pos (by simp [h1])]
theorem pr_m : pr (-1) = 7 := rfl
theorem pr_z : pr 0 = 15 := rfl

theorem sc_lift (n : Nat) (e : Int) (d N : Nat) (E : Int) (h : -1100 ≤ e) (hE : e + d = E) (hN : n * 10 ^ d = N) : sc n E = sc N e := by
  subst hE hN
  have := sc_up (n := n) (E := e + d) d (by omega)
  rw [this]
  unfold sc
  rw [show e + d - d = e by omega]
theorem sc_add (x y : Nat) (e : Int) : sc x e + sc y e = sc (x + y) e := by unfold sc; rw [Nat.add_mul]

theorem exm_make : kRes 0 0 1000 (-3) = ⟨1, 0, 0⟩ := by
  have hv : vld 0 1 0 = true := vld_of (by decide) (by decide) rfl dg1 (by decide) (by rw [pr_z]; decide) (by decide) (by rw [pr_z]; decide)
  obtain ⟨a, b, c⟩ := nM_vld 0 hv
  have hs : sv 1000 (max (-1000) (min (-3) 1000)) = sv 1 0 := by
    rw [show max (-1000 : Int) (min (-3) 1000) = -3 by decide]
    have h := sc_lift 1 (-3) 3 1000 0 (by decide) (by decide) (by decide)
    unfold sv
    rw [show mag 1000 = 1000 from rfl, show mag 1 = 1 from rfl, h, show decide ((1000 : Int) < 0) = decide ((1 : Int) < 0) by decide]
  unfold kRes nRes
  rw [if_pos (by decide), hs, a, b, c]
theorem exm_div : dRes (-1) 1 1 0 3 0 = ⟨3333334, -7, 0⟩ := by
  have h1 : vld (-1) 1 0 = true := vld_of (by decide) (by decide) rfl dg1 (by decide) (by rw [pr_m]; decide) (by decide) (by rw [pr_m]; decide)
  have h3 : vld (-1) 3 0 = true := vld_of (by decide) (by decide) rfl dg3 (by decide) (by rw [pr_m]; decide) (by decide) (by rw [pr_m]; decide)
  have hq : qN (mag 1) (mag 3) = 333333333333333333333333333333333333 := by
    unfold qN
    rw [show mag 1 = 1 from rfl, show mag 3 = 3 from rfl, dg1]
  have ht : qT (mag 1) 0 0 = -36 := by
    unfold qT
    rw [show mag 1 = 1 from rfl, dg1]
    rfl
  have hm : qM (mag 1) (mag 3) = true := by
    unfold qM
    rw [show mag 1 = 1 from rfl, show mag 3 = 3 from rfl, dg1]
    decide
  have hd : dg 333333333333333333333333333333333333 = 36 := dg_of 35 (by decide) (by decide)
  have hK : (cK 7 333333333333333333333333333333333333 (-36)).toNat = 29 := by unfold cK; rw [hd]; decide
  unfold dRes
  rw [okOr_zero _ (ck2_of (by decide) h1 h3), if_neg (by decide), if_neg (by decide), hq, ht, hm, pr_m, show (decide ((1 : Int) < 0) != decide ((3 : Int) < 0)) = false by decide]
  rw [res_in (by decide) (by decide) (by decide) (by rw [hd]; decide) 29 3333334 3333334 0 7 hK ?_ (by decide) (dg_of 6 (by decide) (by decide)) (by decide) (od_none (by decide)) (tz_none (by decide))]
  · rfl
  · unfold cQ
    rw [hK]
    decide
theorem exm_add : aRes (-1) 0 9999999 0 5 (-1) = ⟨1, 7, 0⟩ := by
  have h1 : vld (-1) 9999999 0 = true := vld_of (by decide) (by decide) rfl dgn (by decide) (by rw [pr_m]; decide) (by decide) (by rw [pr_m]; decide)
  have h3 : vld (-1) 5 (-1) = true := vld_of (by decide) (by decide) rfl dg5 (by decide) (by rw [pr_m]; decide) (by decide) (by rw [pr_m]; decide)
  have hN : sv 9999999 0 + sv 5 (-1) = sg false (sc 99999995 (-1)) := by
    have h := sc_lift 9999999 (-1) 1 99999990 0 (by decide) (by decide) (by decide)
    unfold sv
    rw [show mag 9999999 = 9999999 from rfl, show mag 5 = 5 from rfl, show decide ((9999999 : Int) < 0) = false by decide, show decide ((5 : Int) < 0) = false by decide, sg_same, h, sc_add]
  have hS : Same 7 false (sc 99999995 (-1)) false (sg false (sc 99999995 (-1))) := same_exact rfl
  have hd : dg 99999995 = 8 := dg_of 7 (by decide) (by decide)
  have hK : (cK 7 99999995 (-1)).toNat = 1 := by unfold cK; rw [hd]; decide
  unfold aRes
  rw [okOr_zero _ (ck2_of (by decide) h1 h3), hN, pr_m, ← hS.eq 0]
  have ho : od 10000000 = 1 := by
    have := od_mul (n := 1) 7 (by decide)
    rw [od_none (n := 1) (by decide)] at this
    exact this
  have hz : tz 10000000 = 7 := by
    have := tz_mul (n := 1) 7 (by decide)
    rw [tz_none (n := 1) (by decide)] at this
    exact this
  rw [res_in (by decide) (by decide) (by decide) (by intro h; cases h) 1 10000000 1 7 8 hK ?_ (by decide) (dg_of 7 (by decide) (by decide)) (by decide) ho hz]
  · rfl
  · unfold cQ
    rw [hK]
    decide
theorem exm_sqrt : sRes 0 0 2 0 = ⟨14142135623731, -13, 0⟩ := by
  have h1 : vld 0 2 0 = true := vld_of (by decide) (by decide) rfl dg2 (by decide) (by rw [pr_z]; decide) (by decide) (by rw [pr_z]; decide)
  have hD : rtD 2 0 = 36 := by unfold rtD; rw [dg2]; decide
  have hN : rtN 2 0 = 2000000000000000000000000000000000000 := by unfold rtN; rw [hD]
  have hF : rtF 2 0 = -18 := by unfold rtF; rw [hD]; decide
  have hi : isq 2000000000000000000000000000000000000 = 1414213562373095048 := isq_of (by decide) (by decide)
  have hm : sMo 2 0 = true := by unfold sMo; rw [hN, hi]; decide
  have hd : dg 1414213562373095048 = 19 := dg_of 18 (by decide) (by decide)
  have hK : (cK 15 1414213562373095048 (-18)).toNat = 4 := by unfold cK; rw [hd]; decide
  unfold sRes
  rw [okOr_zero _ (ck1_of (by decide) h1), if_neg (by decide), if_neg (by decide), show mag 2 = 2 from rfl, hm, hN, hF, hi, pr_z]
  have ho : od 141421356237310 = 14142135623731 := by
    have := od_mul (n := 14142135623731) 1 (by decide)
    rw [od_none (n := 14142135623731) (by decide)] at this
    exact this
  have hz : tz 141421356237310 = 1 := by
    have := tz_mul (n := 14142135623731) 1 (by decide)
    rw [tz_none (n := 14142135623731) (by decide)] at this
    exact this
  rw [res_in (by decide) (by decide) (by decide) (by rw [hd]; decide) 4 141421356237310 14142135623731 1 15 hK ?_ (by decide) (dg_of 14 (by decide) (by decide)) (by decide) ho hz]
  · rfl
  · unfold cQ
    rw [hK]
    decide
end Go.Proofs.YtanfhlkfmmglhaaDoor
/- The law file's examples hold. Condition: the tables hold what their initialisers lay. -/
namespace Go.Proofs.YtanfhlkfmmglhaaDoor
open Go.ChangeShapes Go.WideShapes Go.ChangeAt Go.RowKit
attribute [local go_sem ↓] Go.wp_at_zero Go.wp_at_succ

theorem gives_out {r : Res} {M E X : Int} (hr : r = ⟨M, E, X⟩) {P : Program} {f : Nat} {args : Array Value} {w : World} (h : Calls P f args w (Gives r w)) :
    Calls P f args w fun x w' => x = .returned (.tuple #[.agg #[.int .i64 M, .int .i64 E], .int .i64 X]) ∧ Kept w w' := by subst hr; exact h
set_option maxRecDepth 100000 in
set_option maxHeartbeats 4000000 in
theorem awake_any (w : World) (ht : Tab w) : Calls Tryd.prog 5 #[] w fun x w' => x = .returned (.bool true) ∧ Kept w w' := by
  have hlt := ht.lt
  have hlt0 := ht.lt0
  have H1 := Lib.hid (fun w ht => gives_out exm_make (make_any 0 0 1000 (-3) w ht (by decide) (by decide)))
  have H2 := Lib.hid (fun w ht => gives_out exm_div (div_any (-1) 1 1 0 3 0 w ht (by decide) (by decide) (by decide) (by decide)))
  have H3 := Lib.hid (fun w ht => gives_out exm_add (add_any (-1) 0 9999999 0 5 (-1) w ht (by decide) (by decide) (by decide) (by decide)))
  have H4 := Lib.hid (fun w ht => gives_out exm_sqrt (sqrt_any 0 0 2 0 w ht (by decide) (by decide)))
  go_enter Tryd.func5, Tryd.ntmps5
  go_upto_region 5 with (first | (go_at_call 31; (with_reducible refine (H1.out _ (by repeat' (first | (with_reducible assumption) | (with_reducible refine Tab.alloc ?_ _) | (with_reducible refine Tab.drew ?_) | (with_reducible refine Tab.drewN ?_ _) | (with_reducible refine Tab.setCell ?_ ?_ ?_ _) | omega | (simp; done) | (simp; omega)))).mono ?_); rintro e w1 ⟨rfl, hk1⟩; obtain ⟨hc1, hf1⟩ := bcell hk1.2; have ht1 := hk1.1; have hz1 := hk1.2.size; (try simp only [World.size_alloc] at hz1); (try simp only [sz_drew] at hz1); (try simp only [sz_drewN] at hz1); (try simp only [World.size_alloc] at hz1); (try simp only [sz_drew] at hc1 hf1); (try simp only [sz_drewN] at hc1 hf1); (try have hw1 : w.heap.size < w1.heap.size := by omega); (try have hv1 : w.heap.size + 1 < w1.heap.size := by omega); (try have hu1 : w.heap.size + 2 < w1.heap.size := by omega)) | (go_at_call 13; (with_reducible refine (H2.out _ (by repeat' (first | (with_reducible assumption) | (with_reducible refine Tab.alloc ?_ _) | (with_reducible refine Tab.drew ?_) | (with_reducible refine Tab.drewN ?_ _) | (with_reducible refine Tab.setCell ?_ ?_ ?_ _) | omega | (simp; done) | (simp; omega)))).mono ?_); rintro e w2 ⟨rfl, hk2⟩; obtain ⟨hc2, hf2⟩ := bcell hk2.2; have ht2 := hk2.1; have hz2 := hk2.2.size; (try simp only [World.size_alloc] at hz2); (try simp only [sz_drew] at hz2); (try simp only [sz_drewN] at hz2); (try simp only [World.size_alloc] at hz2); (try simp only [sz_drew] at hc2 hf2); (try simp only [sz_drewN] at hc2 hf2); (try have hw2 : w.heap.size < w2.heap.size := by omega); (try have hv2 : w.heap.size + 1 < w2.heap.size := by omega); (try have hu2 : w.heap.size + 2 < w2.heap.size := by omega)) | (go_at_call 7; (with_reducible refine (H3.out _ (by repeat' (first | (with_reducible assumption) | (with_reducible refine Tab.alloc ?_ _) | (with_reducible refine Tab.drew ?_) | (with_reducible refine Tab.drewN ?_ _) | (with_reducible refine Tab.setCell ?_ ?_ ?_ _) | omega | (simp; done) | (simp; omega)))).mono ?_); rintro e w3 ⟨rfl, hk3⟩; obtain ⟨hc3, hf3⟩ := bcell hk3.2; have ht3 := hk3.1; have hz3 := hk3.2.size; (try simp only [World.size_alloc] at hz3); (try simp only [sz_drew] at hz3); (try simp only [sz_drewN] at hz3); (try simp only [World.size_alloc] at hz3); (try simp only [sz_drew] at hc3 hf3); (try simp only [sz_drewN] at hc3 hf3); (try have hw3 : w.heap.size < w3.heap.size := by omega); (try have hv3 : w.heap.size + 1 < w3.heap.size := by omega); (try have hu3 : w.heap.size + 2 < w3.heap.size := by omega)) | (go_at_call 15; (with_reducible refine (H4.out _ (by repeat' (first | (with_reducible assumption) | (with_reducible refine Tab.alloc ?_ _) | (with_reducible refine Tab.drew ?_) | (with_reducible refine Tab.drewN ?_ _) | (with_reducible refine Tab.setCell ?_ ?_ ?_ _) | omega | (simp; done) | (simp; omega)))).mono ?_); rintro e w4 ⟨rfl, hk4⟩; obtain ⟨hc4, hf4⟩ := bcell hk4.2; have ht4 := hk4.1; have hz4 := hk4.2.size; (try simp only [World.size_alloc] at hz4); (try simp only [sz_drew] at hz4); (try simp only [sz_drewN] at hz4); (try simp only [World.size_alloc] at hz4); (try simp only [sz_drew] at hc4 hf4); (try simp only [sz_drewN] at hc4 hf4); (try have hw4 : w.heap.size < w4.heap.size := by omega); (try have hv4 : w.heap.size + 1 < w4.heap.size := by omega); (try have hu4 : w.heap.size + 2 < w4.heap.size := by omega)))
  have o1 := ((((((Own.new w1 25 [.int .i64 1, .int .i64 0]).call hk2).alloc (.cells #[.int .i64 3333334, .int .i64 (-7)] 25)).call hk3).alloc (.cells #[.int .i64 1, .int .i64 7] 25)).call hk4).alloc (.cells #[.int .i64 14142135623731, .int .i64 (-13)] 25)
  have c10 : _ = some (Value.int .i64 1) := o1.cell 0
  have c11 : _ = some (Value.int .i64 0) := o1.cell 1
  have l1 := o1.lt
  have o2 := ((((Own.new w2 25 [.int .i64 3333334, .int .i64 (-7)]).call hk3).alloc (.cells #[.int .i64 1, .int .i64 7] 25)).call hk4).alloc (.cells #[.int .i64 14142135623731, .int .i64 (-13)] 25)
  have c20 : _ = some (Value.int .i64 3333334) := o2.cell 0
  have c21 : _ = some (Value.int .i64 (-7)) := o2.cell 1
  have l2 := o2.lt
  have o3 := ((Own.new w3 25 [.int .i64 1, .int .i64 7]).call hk4).alloc (.cells #[.int .i64 14142135623731, .int .i64 (-13)] 25)
  have c30 : _ = some (Value.int .i64 1) := o3.cell 0
  have c31 : _ = some (Value.int .i64 7) := o3.cell 1
  have l3 := o3.lt
  have o4 := Own.new w4 25 [.int .i64 14142135623731, .int .i64 (-13)]
  have c40 : _ = some (Value.int .i64 14142135623731) := o4.cell 0
  have c41 : _ = some (Value.int .i64 (-13)) := o4.cell 1
  have l4 := o4.lt
  have hK : Kept w (w4.alloc (.cells #[.int .i64 14142135623731, .int .i64 (-13)] 25)) := (by repeat' (first | (with_reducible assumption) | (with_reducible exact Kept.refl ht) | (with_reducible refine Kept.alloc ?_ _) | (with_reducible refine Kept.drew ?_) | (with_reducible refine Kept.drewN ?_ _) | (with_reducible refine Kept.setCell ?_ ?_ _ ?_ ?_) | (with_reducible refine Kept.trans ?_ (by assumption)) | omega | (simp; done) | (simp; omega)))
  clear o1 o2 o3 o4 hc1 hc2 hc3 hc4 hf1 hf2 hf3 hf4 hk1 hk2 hk3 hk4 ht1 ht2 ht3 ht4 hz1 hz2 hz3 hz4
  go_wp2
  go_returns
  exact ⟨rfl, hK⟩
end Go.Proofs.YtanfhlkfmmglhaaDoor
/- The law file's comparison of two results, and blocks that a walk adds. Condition: the tables hold what their initialisers lay. -/
namespace Go.Proofs.YtanfhlkfmmglhaaDoor
open Go.ChangeShapes Go.WideShapes Go.ChangeAt Go.RowKit
attribute [local go_sem ↓] Go.wp_at_zero Go.wp_at_succ

theorem Inv.grow {w w' : World} {bs : List (Nat × TypeId × List Value)} (h : Inv w bs w') (t : TypeId) (l : List Value) : Inv w (bs ++ [(w'.heap.size, t, l)]) (w'.alloc (.cells l.toArray t)) := by
  refine ⟨h.kept.alloc _, fun i x hx => ?_⟩
  rcases Nat.lt_or_ge i bs.length with hl | hl
  · rw [List.getElem?_append_left hl] at hx
    exact (h.own i x hx).alloc _
  · rw [List.getElem?_append_right hl] at hx
    have hk : x = (w'.heap.size, t, l) := by
      match hk : i - bs.length, hx with
      | 0, hx => exact (Option.some.inj hx).symm
      | k + 1, hx => simp at hx
    subst hk
    exact Own.new w' t l
theorem one_any (m e x : Int) (w : World) (ht : Tab w) :
    Calls Tryd.prog 6 #[.agg #[.int .i64 m, .int .i64 e], .int .i64 x] w fun r w' => ∃ B C : Nat, r = .returned (.func (.func 32) #[] #[.pointer (some ⟨B, 0, none⟩), .pointer (some ⟨C, 0, none⟩)]) ∧
      Own w' B 25 [.int .i64 m, .int .i64 e] ∧ Own w' C 29 [.int .i64 x] ∧ Kept w w' := by
  have hlt := ht.lt
  have hlt0 := ht.lt0
  go_enter Tryd.func6, Tryd.ntmps6
  go_wp2
  go_returns
  exact ⟨_, _, rfl, (Own.new w _ [_, _]).alloc _, Own.new1 w _ _ [_], (by repeat' (first | (with_reducible assumption) | (with_reducible exact Kept.refl ht) | (with_reducible refine Kept.alloc ?_ _) | (with_reducible refine Kept.drew ?_) | (with_reducible refine Kept.drewN ?_ _) | (with_reducible refine Kept.setCell ?_ ?_ _ ?_ ?_) | (with_reducible refine Kept.trans ?_ (by assumption)) | omega | (simp; done) | (simp; omega)))⟩
theorem same_any (m e x : Int) (B C : Nat) (w : World) (ht : Tab w) (h1 : Own w B 25 [.int .i64 m, .int .i64 e]) (h2 : Own w C 29 [.int .i64 x]) :
    Calls Tryd.prog 32 #[.agg #[.int .i64 m, .int .i64 e], .int .i64 x, .pointer (some ⟨B, 0, none⟩), .pointer (some ⟨C, 0, none⟩)] w fun r w' => r = .returned (.bool true) ∧ Kept w w' := by
  have hlt := ht.lt
  have hlt0 := ht.lt0
  have c0 : w.cell? ⟨B, 0, none⟩ = some (.int .i64 m) := h1.cell 0
  have c1 : w.cell? ⟨B, 1, none⟩ = some (.int .i64 e) := h1.cell 1
  have l1 := h1.lt
  have c2 : w.cell? ⟨C, 0, none⟩ = some (.int .i64 x) := h2.cell 0
  have l2 := h2.lt
  clear h1 h2
  go_enter Tryd.func32, Tryd.ntmps32
  go_wp2
  go_returns
  exact ⟨by simp, (by repeat' (first | (with_reducible assumption) | (with_reducible exact Kept.refl ht) | (with_reducible refine Kept.alloc ?_ _) | (with_reducible refine Kept.drew ?_) | (with_reducible refine Kept.drewN ?_ _) | (with_reducible refine Kept.setCell ?_ ?_ _ ?_ ?_) | (with_reducible refine Kept.trans ?_ (by assumption)) | omega | (simp; done) | (simp; omega)))⟩
end Go.Proofs.YtanfhlkfmmglhaaDoor
/- Digits in slices: what a slice reads as; the reference's Of and trim. Condition: the tables hold what their initialisers lay. -/
namespace Go.Proofs.YtanfhlkfmmglhaaDoor
open Go.ChangeShapes Go.WideShapes Go.ChangeAt Go.RowKit
attribute [local go_sem ↓] Go.wp_at_zero Go.wp_at_succ

/-- The decimal digits, the last one first. -/
def ds (n : Nat) : List Int := if h : n = 0 then [] else ((n % 10 : Nat) : Int) :: ds (n / 10)
termination_by n
decreasing_by omega
theorem ds_zero : ds 0 = [] := by rw [ds, dif_pos rfl]
theorem ds_step {n : Nat} (h : n ≠ 0) : ds n = ((n % 10 : Nat) : Int) :: ds (n / 10) := by rw [ds, dif_neg h]
theorem ds_len (n : Nat) : (ds n).length = dg n := by
  induction n using Nat.strongRecOn with
  | ind n ih =>
    by_cases h : n = 0
    · subst h; rw [ds_zero, dg_zero]; rfl
    · rw [ds_step h, dg_step h, List.length_cons, ih (n / 10) (by omega)]
/-- A slice that reads as a list of numbers. -/
def Sl (w : World) (v : Value) (l : List Int) : Prop :=
  ∃ b off cap : Nat, v = .slice (some ⟨b, off, none⟩) l.length cap ∧ l.length ≤ cap ∧ cap ≤ maxLen ∧ b < w.heap.size ∧ ∀ j u, l[j]? = some u → w.cell? ⟨b, off + j, none⟩ = some (.int .i64 u)
theorem Sl.below {w w' : World} {v : Value} {l : List Int} (h : Sl w v l) (hb : Below w.heap.size w w') : Sl w' v l := by
  obtain ⟨b, off, cap, h1, h2, h3, h4, h5⟩ := h
  exact ⟨b, off, cap, h1, h2, h3, Nat.lt_of_lt_of_le h4 hb.size, fun j u hj => (hb.cell (p := ⟨b, off + j, none⟩) h4).trans (h5 j u hj)⟩
theorem Sl.call {w w' : World} {v : Value} {l : List Int} (h : Sl w v l) (k : Kept w w') : Sl w' v l := h.below k.2
theorem Sl.alloc {w : World} {v : Value} {l : List Int} (h : Sl w v l) (o : Obj) : Sl (w.alloc o) v l := h.below ((Below.refl _ _).alloc (Nat.le_refl _) o)
theorem Sl.drew {w : World} {v : Value} {l : List Int} (h : Sl w v l) : Sl w.drew v l := h
theorem Sl.drewN {w : World} {v : Value} {l : List Int} (h : Sl w v l) (n : Nat) : Sl (w.drewN n) v l := h
/-- An owned row reads as its list. -/
theorem Sl.of_own {w : World} {base g cap : Nat} {l : List Int} (h : w.ownsRow base 3 1 (.slice (some ⟨g, 0, none⟩) l.length cap) l.length (l.map (Value.int .i64))) : Sl w (.slice (some ⟨g, 0, none⟩) l.length cap) l := by
  have hlt := (h.lt g rfl).2
  have hc := h.cells (g := g) rfl
  rcases h.2 with ⟨he, _⟩ | ⟨g', cap', cur, he, _, _, hn, hm, _, _⟩
  · cases he
  · obtain ⟨rfl, rfl⟩ : g = g' ∧ cap = cap' := by
      have := he
      simp at this
      exact ⟨this.1, this.2⟩
    refine ⟨g, 0, cap, rfl, hn, hm, hlt, fun j u hj => ?_⟩
    have := hc j (.int .i64 u) (by rw [List.getElem?_map, hj]; rfl)
    by_cases h0 : j = 0
    · subst h0; simpa [Addr.add] using this
    · simpa [Addr.add, h0] using this
theorem info_int : (Tryd.prog.info? 3).map (fun i => (i.zero, i.size, i.bytes)) = some (some (.int .i64 0), 1, 8) := by kernel_rfl

/-- A slice of the call's own: where it grows, it reads on. -/
def Ow (w : World) (base : Nat) (v : Value) (l : List Int) : Prop := w.ownsRow base 3 1 v l.length (l.map (Value.int .i64)) ∧ v ≠ .slice none 0 0
theorem Ow.form {w : World} {base : Nat} {v : Value} {l : List Int} (h : Ow w base v l) : ∃ g cap, v = .slice (some ⟨g, 0, none⟩) l.length cap ∧ base ≤ g ∧ g < w.heap.size := by
  obtain ⟨h1, h2⟩ := h
  rcases h1.2 with ⟨he, _⟩ | ⟨g, cap, cur, he, hb, hg, _⟩
  · exact absurd (by simpa [he] using he) (fun _ => h2 (by
      rcases h1.2 with ⟨he', h0⟩ | ⟨g', cap', cur', he', _⟩
      · exact he'
      · rw [he] at he'; cases he'))
  · exact ⟨g, cap, he, hb, (Array.getElem?_eq_some_iff.1 hg).1⟩
theorem Ow.sl {w : World} {base : Nat} {v : Value} {l : List Int} (h : Ow w base v l) : Sl w v l := by
  obtain ⟨g, cap, rfl, _⟩ := h.form
  exact Sl.of_own h.1
theorem Ow.alloc {w : World} {base : Nat} {v : Value} {l : List Int} (h : Ow w base v l) (o : Obj) : Ow (w.alloc o) base v l := ⟨h.1.alloc o, h.2⟩
theorem Ow.new (w : World) {base : Nat} (hb : base ≤ w.heap.size) : Ow (w.alloc (.cells #[] 3)) base (.slice (some ⟨w.heap.size, 0, none⟩) 0 0) [] :=
  ⟨World.ownsRow_made w #[] 0 hb (Nat.zero_le _) rfl, by simp⟩
/-- A slice whose block is none of the first ones. -/
def Nw (base : Nat) (v : Value) : Prop := ∀ (b off n c : Nat), v = .slice (some ⟨b, off, none⟩) n c → base ≤ b
theorem Ow.nw {w : World} {base : Nat} {v : Value} {l : List Int} (h : Ow w base v l) : Nw base v := by
  obtain ⟨g, cap, rfl, hg, _⟩ := h.form
  intro b off n c he
  simp at he
  omega
/-- append of one number to a slice of the call's own. -/
theorem app1 {ops : Array Oper} {rest : List Oper} {o : Oper} {a : Act} {Q : Exit → Act → World → Prop} (hgd : o.guard = none) (s x : Operand)
    (ho : o.op = .call { callee := .builtin .append, args := #[s, x], argTypes := #[51, 51] })
    (W : World) (base : Nat) (v : Value) (l : List Int) (d : Int) (hs : a.eval s = v) (hx : a.eval x = .slice (some ⟨W.heap.size, 0, none⟩) 1 1) (hown : Ow W base v l) (hl : l.length ≤ 1000000) (hbase : base ≤ W.heap.size)
    (h : ∀ v' w', Ow w' base v' (l ++ [d]) → Below base W w' → wpList Tryd.prog ops Q rest (a.put o.dst v') w') : wpList Tryd.prog ops Q (o :: rest) a (W.alloc (.cells #[.int .i64 d] 3)) := by
  obtain ⟨i0, hi, hz0, hz1, hz2⟩ := info_parts info_int
  obtain ⟨g, cap, hv, hg, _⟩ := hown.form
  refine wpList_append_own _ hgd s x 51 ho base 3 i0 (.int .i64 0) 1 8 Tryd.underlying51 hi hz0 hz1 hz2 rfl (by decide) v l.length (l.map (Value.int .i64)) hs (hown.alloc _).1 ⟨W.heap.size, 0, none⟩ 1 1 [.int .i64 d] hx rfl ?_ ?_ ?_ ?_ ?_ ?_
  · intro j u hj
    match j, hj with
    | 0, hj => obtain rfl := Option.some.inj hj; simp [Addr.add]
    | j + 1, hj => simp at hj
  · intro u hu; simp at hu; subst hu; rfl
  · unfold maxLen; omega
  · omega
  · simp; omega
  · intro v' w' h1 h2 h3
    refine h v' w' ⟨?_, ?_⟩ ?_
    · simpa using h1
    · intro he
      exact hown.2 (h3.1 he).1
    · refine (((Below.refl base W).alloc hbase _).grown h2 (by simp; omega) ?_)
      intro k hk
      rw [hv] at hk
      simp [Value.ownBlock] at hk
      omega

theorem Tab.of_below {w w' : World} (h : Tab w) (hb : Below w.heap.size w w') : Tab w' := h.below hb h.lt h.lt0
/-- What holds at each round's head of Of. -/
def OfRel (m : Int) (w : World) (u v : Value) (wr : World) : Prop :=
  ∃ (x : Int) (l : List Int) (z : Value), u = .int .i64 x ∧ z = v ∧ Ow wr w.heap.size z l ∧ Below w.heap.size w wr ∧ l ++ ds (mag x) = ds (mag m) ∧ l.length + dg (mag x) ≤ 20 ∧ -9223372036854775808 ≤ x ∧ x ≤ 9223372036854775807
theorem of_step {x q : Int} {d : Int} (h0 : x ≠ 0) (hq : mag q = mag x / 10) (hd : d = ((mag x % 10 : Nat) : Int)) {l L : List Int} (h : l ++ ds (mag x) = L) (hl : l.length + dg (mag x) ≤ 20) : (l ++ [d]) ++ ds (mag q) = L ∧ (l ++ [d]).length + dg (mag q) ≤ 20 := by
  have hm : mag x ≠ 0 := by unfold mag; omega
  subst hd
  rw [hq]
  refine ⟨?_, ?_⟩
  · rw [← h, ds_step hm, List.append_assoc]; rfl
  · rw [dg_step hm] at hl
    rw [List.length_append, List.length_singleton]
    omega
theorem neg_parts {x r q : Int} (hx : x < 0) (hr : ((mag x % 10 : Nat) : Int) = r) (hq : ((mag x / 10 : Nat) : Int) = q) : x.tmod 10 = -r ∧ x.tdiv 10 = -q := by
  have h : x = -((mag x : Nat) : Int) := by unfold mag; omega
  rw [← hr, ← hq]
  generalize mag x = n at h
  subst h
  rw [Int.neg_tmod, Int.neg_tdiv]
  exact ⟨rfl, rfl⟩
set_option maxRecDepth 100000 in
set_option maxHeartbeats 4000000 in
theorem Of_any (m : Int) (w : World) (ht : Tab w) (lo : -9223372036854775808 ≤ m) (hi : m ≤ 9223372036854775807) :
    Calls Tryd.prog 44 #[.int .i64 m] w fun e w' => ∃ v, e = .returned v ∧ Sl w' v (ds (mag m)) ∧ Kept w w' ∧ Nw w.heap.size v := by
  have hlt := ht.lt
  have hlt0 := ht.lt0
  have hdm : dg (mag m) ≤ 20 := (dg_iff _ _).2 (by have : (10 : Nat) ^ 20 = 100000000000000000000 := by decide
                                                   rw [this]; unfold mag; omega)
  go_enter Tryd.func44, Tryd.ntmps44
  go_wp2_with fail
  go_loopw [0, 3] (OfRel m w) (fun u _ _ => mag (intOf u))
  case atStart => exact ⟨m, [], _, rfl, rfl, Ow.new w (Nat.le_refl _), (Below.refl _ _).alloc (Nat.le_refl _) _, rfl, by simpa using hdm, lo, hi⟩
  case round =>
    obtain ⟨x, l, v, rfl, rfl, hown, hb, hL, hl, x1, x2⟩ := hrel
    clear hdm
    by_cases h0 : x = 0
    · subst h0
      have hL' : l = ds (mag m) := by rw [← hL, show mag 0 = 0 from rfl, ds_zero, List.append_nil]
      have HL := Lib.hid hL'
      have HO := Lib.hid (And.intro hown.sl hown.nw)
      clear hL hL' hown
      go_wp2_with fail
      go_ret
      exact ⟨_, rfl, by rw [← HL.out]; exact HO.out.1, ⟨ht.of_below hb, hb⟩, HO.out.2⟩
    · have hbs := hb.size
      rcases (by omega : 0 < x ∨ x < 0) with hp | hp
      · have hx1 : 1 ≤ x := hp
        have HS := Lib.hid (fun d hd => of_step (q := x / 10) (d := d) h0 (by unfold mag; omega) hd hL hl)
        have hll : l.length ≤ 20 := by omega
        clear hL
        go_wp2_with (at_builtin; refine app1 rfl _ _ rfl wr w.heap.size v l (x % 10) ?_ ?_ hown (by omega) hbs ?_; rfl; rfl; intro v' w1 hown' hb')
        clear hown
        go_wp2
        go_roundw
        case rel => exact ⟨x / 10, l ++ [x % 10], _, rfl, rfl, hown', hb.trans hb', (HS.out _ (by unfold mag; omega)).1, (HS.out _ (by unfold mag; omega)).2, by omega, by omega⟩
        case measure => simp [intOf]; unfold mag; omega
      · obtain ⟨r, hr⟩ : ∃ r : Int, ((mag x % 10 : Nat) : Int) = r := ⟨_, rfl⟩
        obtain ⟨q, hq⟩ : ∃ q : Int, ((mag x / 10 : Nat) : Int) = q := ⟨_, rfl⟩
        obtain ⟨e1, e2⟩ := neg_parts hp hr hq
        obtain ⟨t, ht'⟩ : ∃ t, -q = t := ⟨_, rfl⟩
        rw [ht'] at e2
        have HS := Lib.hid (of_step (q := t) (d := r) h0 (by unfold mag at *; omega) hr.symm hL hl)
        have HQ := Lib.hid (show mag t < mag x from by unfold mag at *; omega)
        have t1 : -9223372036854775808 ≤ t := by unfold mag at hq; omega
        have t2 : t ≤ 9223372036854775807 := by unfold mag at hq; omega
        have hll : l.length ≤ 20 := by omega
        have r0 : 0 ≤ r := by omega
        have r9 : r ≤ 9 := by omega
        clear hL hr hq ht'
        by_cases hz : r = 0
        · subst hz
          rw [Int.neg_zero] at e1
          go_wp2_with (at_builtin; refine app1 rfl _ _ rfl wr w.heap.size v l 0 ?_ ?_ hown (by omega) hbs ?_; rfl; rfl; intro v' w1 hown' hb')
          clear hown
          go_wp2
          go_roundw
          case rel => exact ⟨t, l ++ [0], _, rfl, rfl, hown', hb.trans hb', HS.out.1, HS.out.2, t1, t2⟩
          case measure => exact HQ.out
        · have r1 : 0 < r := by omega
          go_wp2_with (at_builtin; refine app1 rfl _ _ rfl wr w.heap.size v l r ?_ ?_ hown (by omega) hbs ?_; rfl; rfl; intro v' w1 hown' hb')
          clear hown
          go_wp2
          go_roundw
          case rel => exact ⟨t, l ++ [r], _, rfl, rfl, hown', hb.trans hb', HS.out.1, HS.out.2, t1, t2⟩
          case measure => exact HQ.out
end Go.Proofs.YtanfhlkfmmglhaaDoor
/- Lists of decimal digits and the numbers that they are: plain mathematics. No condition. -/
namespace Go.Proofs.YtanfhlkfmmglhaaDoor

/-- The number that digits are, the last one first. -/
def lv : List Int → Nat
  | [] => 0
  | d :: l => d.toNat + 10 * lv l
/-- Decimal digits. -/
def Dl (l : List Int) : Prop := ∀ d ∈ l, 0 ≤ d ∧ d ≤ 9
theorem Dl.nil : Dl [] := fun d h => by cases h
theorem Dl.cons {d : Int} {l : List Int} (h : Dl (d :: l)) : (0 ≤ d ∧ d ≤ 9) ∧ Dl l := ⟨h d (by simp), fun x hx => h x (by simp [hx])⟩
theorem Dl.mk {d : Int} {l : List Int} (h0 : 0 ≤ d) (h9 : d ≤ 9) (h : Dl l) : Dl (d :: l) := fun x hx => by
  rcases List.mem_cons.1 hx with rfl | hx
  · exact ⟨h0, h9⟩
  · exact h x hx
theorem Dl.snoc {d : Int} {l : List Int} (h : Dl l) (h0 : 0 ≤ d) (h9 : d ≤ 9) : Dl (l ++ [d]) := fun x hx => by
  rcases List.mem_append.1 hx with hx | hx
  · exact h x hx
  · obtain rfl := List.mem_singleton.1 hx; exact ⟨h0, h9⟩
theorem Dl.take {l : List Int} (h : Dl l) (k : Nat) : Dl (l.take k) := fun x hx => h x (List.mem_of_mem_take hx)
theorem Dl.drop {l : List Int} (h : Dl l) (k : Nat) : Dl (l.drop k) := fun x hx => h x (List.mem_of_mem_drop hx)
theorem Dl.get {l : List Int} (h : Dl l) {k : Nat} {d : Int} (hk : l[k]? = some d) : 0 ≤ d ∧ d ≤ 9 := h d (List.mem_of_getElem? hk)
theorem lv_append (l m : List Int) : lv (l ++ m) = lv l + 10 ^ l.length * lv m := by
  induction l with
  | nil => simp [lv]
  | cons d l ih =>
    show d.toNat + 10 * lv (l ++ m) = d.toNat + 10 * lv l + 10 ^ (l.length + 1) * lv m
    rw [ih, Nat.pow_succ, Nat.mul_add, Nat.mul_comm (10 ^ l.length) 10, Nat.mul_assoc]
    omega
theorem lv_snoc (l : List Int) (d : Int) : lv (l ++ [d]) = lv l + 10 ^ l.length * d.toNat := by rw [lv_append]; rfl
theorem lv_lt {l : List Int} (h : Dl l) : lv l < 10 ^ l.length := by
  induction l with
  | nil => simp [lv]
  | cons d l ih =>
    obtain ⟨⟨h0, h9⟩, hl⟩ := h.cons
    have := ih hl
    show d.toNat + 10 * lv l < 10 ^ (l.length + 1)
    rw [Nat.pow_succ]
    omega
theorem ds_dl (n : Nat) : Dl (ds n) := by
  induction n using Nat.strongRecOn with
  | ind n ih =>
    by_cases h : n = 0
    · subst h; rw [ds_zero]; exact Dl.nil
    · rw [ds_step h]; exact Dl.mk (by omega) (by omega) (ih (n / 10) (by omega))
theorem lv_ds (n : Nat) : lv (ds n) = n := by
  induction n using Nat.strongRecOn with
  | ind n ih =>
    by_cases h : n = 0
    · subst h; rw [ds_zero]; rfl
    · rw [ds_step h]
      show ((n % 10 : Nat) : Int).toNat + 10 * lv (ds (n / 10)) = n
      rw [ih (n / 10) (by omega)]
      omega
theorem ds_ne {n : Nat} (h : n ≠ 0) : ∃ l d, ds n = l ++ [d] ∧ d ≠ 0 := by
  induction n using Nat.strongRecOn with
  | ind n ih =>
    rw [ds_step h]
    by_cases h1 : n / 10 = 0
    · rw [h1, ds_zero]
      exact ⟨[], _, rfl, by omega⟩
    · obtain ⟨l, d, hl, hd⟩ := ih (n / 10) (by omega) h1
      rw [hl]
      exact ⟨((n % 10 : Nat) : Int) :: l, d, rfl, hd⟩
/-- Digits without a 0 at the end are the digits of their number. -/
theorem ds_lv {l : List Int} (h : Dl l) (hz : l = [] ∨ ∃ m d, l = m ++ [d] ∧ d ≠ 0) : ds (lv l) = l := by
  induction l with
  | nil => exact ds_zero
  | cons d l ih =>
    obtain ⟨⟨h0, h9⟩, hl⟩ := h.cons
    have hz' : l = [] ∨ ∃ m x, l = m ++ [x] ∧ x ≠ 0 := by
      rcases hz with hz | ⟨m, x, hm, hx⟩
      · cases hz
      · cases m with
        | nil => simp at hm; exact Or.inl hm.2
        | cons y m => simp at hm; exact Or.inr ⟨m, x, hm.2, hx⟩
    have hi := ih hl hz'
    have hn : lv (d :: l) ≠ 0 := by
      show d.toNat + 10 * lv l ≠ 0
      rcases hz' with rfl | ⟨m, x, rfl, hx⟩
      · rcases hz with hz | ⟨m, x, hm, hx⟩
        · cases hz
        · cases m with
          | nil => simp at hm; subst hm; simp [lv]; omega
          | cons y m => simp at hm
      · have hx' := (hl x (by simp)).1
        rw [lv_snoc]
        have : 0 < 10 ^ m.length * x.toNat := Nat.mul_pos (p10 _) (by omega)
        omega
    rw [ds_step hn]
    have e1 : (lv (d :: l)) % 10 = d.toNat := by show (d.toNat + 10 * lv l) % 10 = _; omega
    have e2 : (lv (d :: l)) / 10 = lv l := by show (d.toNat + 10 * lv l) / 10 = _; omega
    rw [e1, e2, hi]
    congr 1
    omega
theorem take_snoc {l : List Int} {k : Nat} {d : Int} (h : l[k]? = some d) : l.take (k + 1) = l.take k ++ [d] := by
  have hk : k < l.length := by
    rcases Nat.lt_or_ge k l.length with h1 | h1
    · exact h1
    · rw [List.getElem?_eq_none h1] at h; cases h
  rw [List.take_succ_eq_append_getElem hk]
  rw [List.getElem?_eq_getElem hk] at h
  rw [Option.some.inj h]
theorem lv_take {l : List Int} {k : Nat} {d : Int} (h : l[k]? = some d) : lv (l.take (k + 1)) = lv (l.take k) + 10 ^ k * d.toNat := by
  have hk : k < l.length := by
    rcases Nat.lt_or_ge k l.length with h1 | h1
    · exact h1
    · rw [List.getElem?_eq_none h1] at h; cases h
  rw [take_snoc h, lv_snoc, List.length_take, Nat.min_eq_left (by omega)]
/-- What a trimmed list is. -/
theorem trimmed {l : List Int} {k : Nat} (h : Dl l) (hk : k ≤ l.length) (hv : lv (l.take k) = lv l) (hz : k = 0 ∨ ∃ d, l[k - 1]? = some d ∧ d ≠ 0) : l.take k = ds (lv l) := by
  rw [← hv]
  refine (ds_lv (h.take k) ?_).symm
  rcases hz with rfl | ⟨d, hd, h0⟩
  · left; simp
  · by_cases hk0 : k = 0
    · subst hk0; left; simp
    · right
      have := take_snoc hd
      rw [show k - 1 + 1 = k by omega] at this
      exact ⟨_, _, this, h0⟩
end Go.Proofs.YtanfhlkfmmglhaaDoor
/- The reference's trim and compare. Condition: the tables hold what their initialisers lay. -/
namespace Go.Proofs.YtanfhlkfmmglhaaDoor
open Go.ChangeShapes Go.WideShapes Go.ChangeAt Go.RowKit
attribute [local go_sem ↓] Go.wp_at_zero Go.wp_at_succ

theorem get_lt {l : List Int} {k : Nat} (h : k < l.length) : ∃ d, l[k]? = some d := ⟨_, List.getElem?_eq_getElem h⟩
set_option maxRecDepth 100000 in
set_option maxHeartbeats 4000000 in
theorem trim_at (b off cap : Nat) (L : List Int) (w : World) (hD : Dl L) (hc : L.length ≤ cap) (_hm : cap ≤ maxLen) (hl : L.length ≤ 1000000) (_hb : b < w.heap.size) (hg : ∀ j u, L[j]? = some u → w.cell? ⟨b, off + j, none⟩ = some (.int .i64 u)) :
    Calls Tryd.prog 81 #[.slice (some ⟨b, off, none⟩) L.length cap] w fun e w' => ∃ k : Nat, e = .returned (.slice (some ⟨b, off, none⟩) k cap) ∧ L.take k = ds (lv L) ∧ k ≤ L.length ∧ w = w' := by
  have HG := Lib.hid hg
  have HD := Lib.hid hD
  unfold maxLen at _hm
  clear hg hD
  go_enter Tryd.func81, Tryd.ntmps81
  go_wp2_with fail
  go_loop [0] (fun v => ∃ k : Nat, v = .slice (some ⟨b, off, none⟩) k cap ∧ k ≤ L.length ∧ Hid (lv (L.take k) = lv L)) (fun v => match v with | .slice _ n _ => n | _ => 0)
  case atStart => exact ⟨L.length, rfl, Nat.le_refl _, Lib.hid (by rw [List.take_length])⟩
  case round =>
    obtain ⟨k, rfl, hk, hv⟩ := hrel
    by_cases h0 : k = 0
    · subst h0
      go_wp2
      go_ret
      exact ⟨0, rfl, trimmed HD.out (by omega) hv.out (Or.inl rfl), by omega, rfl⟩
    · obtain ⟨d, hd⟩ := get_lt (show k - 1 < L.length by omega)
      have hcell := HG.out _ _ hd
      have hk1 : 1 ≤ k := by omega
      have h9 := HD.out.get hd
      have HX := Lib.hid hd
      clear hd h0
      by_cases hz : d = 0
      · subst hz
        clear h9
        go_wp2_with fail
        go_round
        case rel =>
          refine ⟨k - 1, by go_num, by omega, Lib.hid ?_⟩
          have := lv_take HX.out
          rw [show k - 1 + 1 = k by omega, hv.out] at this
          simpa using this.symm
        case measure => simp; omega
      · have hzb : (d == 0) = false := by simpa using hz
        go_wp2_with fail
        go_ret
        exact ⟨k, rfl, trimmed HD.out hk hv.out (Or.inr ⟨d, HX.out, hz⟩), hk, rfl⟩
/-- trim, of a slice that reads as digits. -/
theorem trim_any (v : Value) (L : List Int) (w : World) (ht : Tab w) (hD : Dl L) (hl : L.length ≤ 1000000) (h : Sl w v L) :
    Calls Tryd.prog 81 #[v] w fun e w' => ∃ v', e = .returned v' ∧ Sl w' v' (ds (lv L)) ∧ Kept w w' := by
  obtain ⟨b, off, cap, rfl, hc, hm, hb, hg⟩ := h
  refine (trim_at b off cap L w hD hc hm hl hb hg).mono fun e w' ⟨k, he, hk, hkl, hw⟩ => ?_
  subst hw
  refine ⟨_, he, ⟨b, off, cap, ?_, ?_, hm, hb, fun j u hj => ?_⟩, Kept.refl ht⟩
  · rw [← hk, List.length_take, Nat.min_eq_left hkl]
  · rw [← hk, List.length_take]; omega
  · rw [← hk] at hj
    refine hg j u ?_
    rw [List.getElem?_take] at hj
    split at hj
    · exact hj
    · cases hj

theorem cmp_top {A B : List Int} {k : Nat} {x y : Int} (hA : Dl A) (hB : Dl B) (hd : A.drop (k + 1) = B.drop (k + 1)) (hx : A[k]? = some x) (hy : B[k]? = some y) (h : x < y) (hl : A.length = B.length) : lv A < lv B := by
  have e : ∀ L : List Int, k + 1 ≤ L.length → lv L = lv (L.take (k + 1)) + 10 ^ (k + 1) * lv (L.drop (k + 1)) := fun L hL => by
    conv => lhs; rw [← List.take_append_drop (k + 1) L]
    rw [lv_append, List.length_take, Nat.min_eq_left hL]
  have ka : k < A.length := by
    rcases Nat.lt_or_ge k A.length with h1 | h1
    · exact h1
    · rw [List.getElem?_eq_none h1] at hx; cases hx
  rw [e A ka, e B (by omega), hd, lv_take hx, lv_take hy]
  have h1 := lv_lt (hA.take k)
  rw [List.length_take, Nat.min_eq_left (by omega)] at h1
  have h2 := (hA.get hx).1
  have h3 := (hB.get hy).1
  have h4 : 10 ^ k * (x.toNat + 1) ≤ 10 ^ k * y.toNat := Nat.mul_le_mul_left _ (by omega)
  rw [Nat.mul_add, Nat.mul_one] at h4
  omega
theorem drewN_add (w : World) (a b : Nat) : (w.drewN a).drewN b = w.drewN (a + b) := by unfold World.drewN; simp [Nat.add_assoc]
set_option maxRecDepth 100000 in
set_option maxHeartbeats 4000000 in
theorem compare_at (b off cap c off2 cap2 : Nat) (A B : List Int) (w : World) (hA : Dl A) (hB : Dl B) (hl : A.length = B.length) (hn : A.length ≤ 1000000) (_ha : A.length ≤ cap) (_hb : A.length ≤ cap2)
    (h1 : b < w.heap.size) (h2 : c < w.heap.size) (g1 : ∀ j u, A[j]? = some u → w.cell? ⟨b, off + j, none⟩ = some (.int .i64 u)) (g2 : ∀ j u, B[j]? = some u → w.cell? ⟨c, off2 + j, none⟩ = some (.int .i64 u)) :
    Calls Tryd.prog 79 #[.slice (some ⟨b, off, none⟩) A.length cap, .slice (some ⟨c, off2, none⟩) A.length cap2] w fun e w' => e = .returned (.int .i64 (cmpN (lv A) (lv B))) ∧ ∃ n, w' = w.drewN n := by
  have G1 := Lib.hid g1
  have G2 := Lib.hid g2
  have HL := Lib.hid hl
  clear g1 g2 hl
  obtain ⟨r, hr⟩ : ∃ r, cmpN (lv A) (lv B) = r := ⟨_, rfl⟩
  rw [hr]
  have HR := Lib.hid hr
  clear hr
  go_enter Tryd.func79, Tryd.ntmps79
  go_wp2_with fail
  go_loopw [5] (fun v wr => ∃ (k : Nat) (t : Int), v = .int .i64 t ∧ Hid (t = (k : Int) - 1) ∧ k ≤ A.length ∧ Hid (A.drop k = B.drop k) ∧ ∃ n, wr = w.drewN n) (fun v _ => (intOf v + 1).toNat)
  case atStart => exact ⟨A.length, _, rfl, Lib.hid rfl, Nat.le_refl _, Lib.hid (by rw [List.drop_length, HL.out, List.drop_length]), 0, rfl⟩
  case round =>
    obtain ⟨k, t, rfl, htk, hk, hv, n, hw⟩ := hrel
    have hb1 : b < wr.heap.size := by rw [hw]; exact h1
    have hc1 : c < wr.heap.size := by rw [hw]; exact h2
    have HW := Lib.hid hw
    by_cases h0 : k = 0
    · subst h0
      obtain rfl : t = -1 := by have := htk.out; omega
      have hr0 : r = 0 := by
        have := hv.out
        rw [List.drop_zero, List.drop_zero] at this
        rw [← HR.out, this]
        unfold cmpN
        rw [if_neg (by omega), if_neg (by omega)]
      clear hw
      subst hr0
      go_wp2_with fail
      go_returns
      exact ⟨rfl, n, HW.out⟩
    · obtain ⟨i, rfl⟩ : ∃ i, k = i + 1 := ⟨k - 1, by omega⟩
      obtain rfl : t = (i : Int) := by have := htk.out; omega
      obtain ⟨x, hx⟩ := get_lt (show i < A.length by omega)
      obtain ⟨y, hy⟩ := get_lt (l := B) (show i < B.length by rw [← HL.out]; omega)
      have c1 : wr.cell? ⟨b, off + i, none⟩ = some (.int .i64 x) := by rw [hw]; exact G1.out i x hx
      have c2 : wr.cell? ⟨c, off2 + i, none⟩ = some (.int .i64 y) := by rw [hw]; exact G2.out i y hy
      have i0 : (0 : Int) ≤ (i : Int) := by omega
      have i1 : (i : Int) < (A.length : Int) := by omega
      have HX := Lib.hid hx
      have HY := Lib.hid hy
      clear hx hy h0 hw htk
      rcases (by omega : x < y ∨ y < x ∨ x = y) with h | h | h
      · have hd : decide (x < y) = true := decide_eq_true h
        have HF : Hid (r = -1) := Lib.hid (by
          have := cmp_top hA hB hv.out HX.out HY.out h HL.out
          rw [← HR.out]
          unfold cmpN
          rw [if_pos this])
        clear h
        go_upto_region 8 with fail
        go_quiet (fail)
        go_wp2_with fail
        go_returns
        exact ⟨by rw [HF.out]; rfl, _, by rw [HW.out, drewN_add]⟩
      · have hd : decide (x < y) = false := decide_eq_false (by omega)
        have hd' : decide (y < x) = true := decide_eq_true h
        have HF : Hid (r = 1) := Lib.hid (by
          have := cmp_top hB hA hv.out.symm HY.out HX.out h HL.out.symm
          rw [← HR.out]
          unfold cmpN
          rw [if_neg (by omega), if_pos this])
        clear h
        go_upto_region 8 with fail
        go_quiet (fail)
        go_upto_region 10 with fail
        go_quiet (fail)
        go_wp2_with fail
        go_returns
        exact ⟨by rw [HF.out]; rfl, _, by rw [HW.out, drewN_add, drewN_add]⟩
      · subst h
        have hd : decide (x < x) = false := decide_eq_false (by omega)
        go_upto_region 8 with fail
        go_quiet (fail)
        go_upto_region 10 with fail
        go_quiet (fail)
        go_wp2_with fail
        go_roundw
        case rel =>
          refine ⟨i, _, rfl, Lib.hid rfl, by omega, Lib.hid ?_, _, by rw [HW.out, drewN_add]⟩
          have e : ∀ (L : List Int), L[i]? = some x → L.drop i = x :: L.drop (i + 1) := fun L hL => by
            have hi : i < L.length := by
              rcases Nat.lt_or_ge i L.length with h1 | h1
              · exact h1
              · rw [List.getElem?_eq_none h1] at hL; cases hL
            rw [List.getElem?_eq_getElem hi] at hL
            rw [List.drop_eq_getElem_cons hi, Option.some.inj hL]
          rw [e A HX.out, e B HY.out, hv.out]
        case measure => simp [intOf]
theorem cmp_len {a b : Nat} : (dg a < dg b → cmpN a b = -1) ∧ (dg b < dg a → cmpN a b = 1) := by
  have h : ∀ x y, dg x < dg y → x < y := fun x y h => by
    rcases Nat.lt_or_ge x y with h1 | h1
    · exact h1
    · have := dg_mono h1; omega
  unfold cmpN
  refine ⟨fun hh => if_pos (h a b hh), fun hh => ?_⟩
  have := h b a hh
  rw [if_neg (by omega), if_pos this]
theorem compare_lt (a b : Option Addr) (n m cap cap2 : Nat) (w : World) (h : n < m) : Calls Tryd.prog 79 #[.slice a n cap, .slice b m cap2] w fun e w' => e = .returned (.int .i64 (-1)) ∧ w = w' := by
  have h1 : decide (n < m) = true := decide_eq_true h
  have h2 : ((n : Int) != (m : Int)) = true := by simp; omega
  have h3 : ¬ n = m := by omega
  go_enter Tryd.func79, Tryd.ntmps79
  go_wp2_with fail
  go_returns
  exact ⟨rfl, rfl⟩
theorem compare_gt (a b : Option Addr) (n m cap cap2 : Nat) (w : World) (h : m < n) : Calls Tryd.prog 79 #[.slice a n cap, .slice b m cap2] w fun e w' => e = .returned (.int .i64 1) ∧ w = w' := by
  have h1 : decide (n < m) = false := decide_eq_false (by omega)
  have h2 : ((n : Int) != (m : Int)) = true := by simp; omega
  have h3 : ¬ n = m := by omega
  go_enter Tryd.func79, Tryd.ntmps79
  go_wp2_with fail
  go_returns
  exact ⟨rfl, rfl⟩
theorem Kept.of_drewN {w : World} (ht : Tab w) (n : Nat) : Kept w (w.drewN n) := (Kept.refl ht).drewN n
/-- compare, of slices that read as the digits of numbers. -/
theorem refcmp (v u : Value) (a b : Nat) (w : World) (ht : Tab w) (h1 : Sl w v (ds a)) (h2 : Sl w u (ds b)) (ha : dg a ≤ 1000000) :
    Calls Tryd.prog 79 #[v, u] w fun e w' => e = .returned (.int .i64 (cmpN a b)) ∧ Kept w w' := by
  obtain ⟨b1, o1, c1, rfl, p1, q1, r1, s1⟩ := h1
  obtain ⟨b2, o2, c2, rfl, p2, q2, r2, s2⟩ := h2
  rw [ds_len] at p1 p2
  rw [ds_len, ds_len]
  rcases (by omega : dg a < dg b ∨ dg b < dg a ∨ dg a = dg b) with h | h | h
  · rw [cmp_len.1 h]
    exact (compare_lt _ _ _ _ _ _ w h).mono fun e w' ⟨he, hw⟩ => ⟨he, hw ▸ Kept.refl ht⟩
  · rw [cmp_len.2 h]
    exact (compare_gt _ _ _ _ _ _ w h).mono fun e w' ⟨he, hw⟩ => ⟨he, hw ▸ Kept.refl ht⟩
  · have hl : (ds a).length = (ds b).length := by rw [ds_len, ds_len, h]
    have := compare_at b1 o1 c1 b2 o2 c2 (ds a) (ds b) w (ds_dl a) (ds_dl b) hl (by rw [ds_len]; exact ha) (by rw [ds_len]; exact p1) (by rw [ds_len]; omega) r1 r2 s1 s2
    rw [ds_len, lv_ds, lv_ds] at this
    rw [← h]
    exact this.mono fun e w' ⟨he, n, hw⟩ => ⟨he, hw ▸ Kept.of_drewN ht n⟩
end Go.Proofs.YtanfhlkfmmglhaaDoor
