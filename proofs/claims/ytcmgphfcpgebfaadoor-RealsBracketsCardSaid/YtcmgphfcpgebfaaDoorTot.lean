/- The program's operations on reals, for every input: their results as plain functions. Condition: the tables hold what their initialisers lay. -/
import Derived.Test.YtcmgphfcpgebfaaDoorCany
import Derived.Test.YtcmgphfcpgebfaaDoorAddo
import Derived.Test.YtcmgphfcpgebfaaDoorDivo
import Derived.Test.YtcmgphfcpgebfaaDoorTwo
import Derived.Test.YtcmgphfcpgebfaaDoorMk
import Derived.Test.YtcmgphfcpgebfaaDoorXz
import Derived.Test.YtcmgphfcpgebfaaDoorYroot
import Derived.Test.YtcmgphfcpgebfaaDoorRts
namespace Go.Proofs.YtcmgphfcpgebfaaDoor
open Go.ChangeShapes Go.WideShapes Go.ChangeAt Go.RowKit

/-- A contract of the sum, for some result that is rounded like the signed sum. -/
def SumOf (a b : Bool) (n k : Nat) (e f : Int) (N : Int) : Prop :=
  ∃ (neg : Bool) (Q : Nat) (T : Int) (mo : Bool), (∀ w, Tab w → Calls Tryd.prog 56 #[.agg #[.bool a, .int .u64 (hiW n : Int), .int .u64 (loW n : Int), .int .i64 e, .bool false], .agg #[.bool b, .int .u64 (hiW k : Int), .int .u64 (loW k : Int), .int .i64 f, .bool false]] w fun x w' => x = .returned (.agg #[.bool neg, .int .u64 (hiW Q : Int), .int .u64 (loW Q : Int), .int .i64 T, .bool mo]) ∧ Kept w w') ∧
    Q < 340282366920938463463374607431768211456 ∧ -1100 ≤ T ∧ T ≤ 5000 ∧ (mo = true → 18 < dg Q) ∧ ∀ p, p ≤ 18 → Same p neg (sc Q T) mo N

theorem sum_two (a b A B : Bool) (n k N K : Nat) (e f E F : Int) (hT : Turn a b n k e f A B N K E F) (hEF : F ≤ E) (hn0 : n ≠ 0) (hk0 : k ≠ 0) (hN0 : N ≠ 0) (hN : N < 10 ^ 18) (hK : K < 10 ^ 18)
    (he1 : -420 ≤ e) (he2 : e ≤ 420) (hf1 : -420 ≤ f) (hf2 : f ≤ 420) (hE1 : -420 ≤ E) (hE2 : E ≤ 420) (hF1 : -420 ≤ F) (hF2 : F ≤ 420) : SumOf a b n k e f (sg A (sc N E) + sg B (sc K F)) := by
  obtain ⟨d, hd⟩ : ∃ d : Nat, min (E - F) 19 = (d : Int) := ⟨(min (E - F) 19).toNat, by omega⟩
  have e18 : (10 : Nat) ^ 18 = 1000000000000000000 := by decide
  have hd19 : d ≤ 19 := by omega
  have htd : tn d ≤ 10000000000000000000 := Nat.le_trans (p10_le hd19) (by decide)
  have hXb : N * 10 ^ d < 10000000000000000000000000000000000000 := by
    have := Nat.mul_le_mul (show N ≤ 999999999999999999 by omega) htd
    unfold tn at this
    omega
  have hQ : shN K (E - d - F) ≤ K := Nat.div_le_self _ _
  have hsh := fun w ht => shorter_any B K F false (E - d - F) w ht (by omega) (by omega) (by omega) (by omega) (by omega)
  have core := fun neg R RE RM hres w ht => sum_core a b A B n k N K (N * 10 ^ d) (shN K (E - d - F)) e f E F (E - d - F) (E - d) (F + (E - d - F)) (shM K (E - d - F) false) d neg R RE RM w ht hn0 hk0 (Lib.hid hT) (by omega) (by omega) (by omega) (by omega) (by omega) (by omega) (by omega) (by omega) hd (by omega) rfl rfl (by omega) rfl rfl hsh hres
  have hF2' : F + (E - d - F) = E - d := by omega
  cases hAB : (A == B)
  · have hB : B = !A := by cases A <;> cases B <;> simp_all
    have hA : A = !B := by rw [hB, Bool.not_not]
    cases hm : shM K (E - d - F) false
    · obtain ⟨s1, s2⟩ := same_exact_minus (p := 18) (n := N) (k := K) (A := A) (E := E) (F := F) (d := d) (by omega) hd hEF hm
      rcases Nat.le_total (shN K (E - d - F)) (N * 10 ^ d) with h | h
      · refine ⟨A, N * 10 ^ d - shN K (E - d - F), E - d, false, core _ _ _ _ (Or.inr ⟨hA, ?_⟩), by omega, by omega, by omega, by simp, fun p hp => ?_⟩
        · intro w ht
          rw [hm]
          exact difference_ge A B false _ _ _ _ _ w ht h (by omega) rfl
        · rw [hB]
          exact (same_exact_minus (by omega) hd hEF hm).1 h
      · rcases Nat.lt_or_ge (N * 10 ^ d) (shN K (E - d - F)) with h' | h'
        · refine ⟨B, shN K (E - d - F) - N * 10 ^ d, E - d, false, core _ _ _ _ (Or.inr ⟨hA, ?_⟩), by omega, by omega, by omega, by simp, fun p hp => ?_⟩
          · intro w ht
            rw [hm, hF2']
            exact difference_lt A B _ _ _ _ _ w ht h' (by omega) rfl
          · rw [hB]
            exact (same_exact_minus (by omega) hd hEF hm).2 h
        · refine ⟨A, N * 10 ^ d - shN K (E - d - F), E - d, false, core _ _ _ _ (Or.inr ⟨hA, ?_⟩), by omega, by omega, by omega, by simp, fun p hp => ?_⟩
          · intro w ht
            rw [hm]
            exact difference_ge A B false _ _ _ _ _ w ht h' (by omega) rfl
          · rw [hB]
            exact (same_exact_minus (by omega) hd hEF hm).1 h'
    · obtain ⟨c1, _, c3⟩ := same_minus (p := 18) (n := N) (k := K) (A := A) (E := E) (F := F) (d := d) (by omega) hN0 hK (by omega) hd hEF hm
      refine ⟨A, N * 10 ^ d - shN K (E - d - F) - 1, E - d, true, core _ _ _ _ (Or.inr ⟨hA, ?_⟩), by omega, by omega, by omega, fun _ => c3, fun p hp => ?_⟩
      · intro w ht
        rw [hm]
        exact difference_part A B false _ _ _ _ _ w ht (by omega) (by omega) rfl _ (by omega) rfl
      · rw [hB]
        exact (same_minus hp hN0 hK (by omega) hd hEF hm).2.1
  · obtain rfl : A = B := by simpa using hAB
    obtain ⟨_, c2⟩ := same_plus (p := 18) (n := N) (k := K) (A := A) (E := E) (F := F) (d := d) (by omega) hN0 (by omega) hd hEF
    refine ⟨A, N * 10 ^ d + shN K (E - d - F), E - d, shM K (E - d - F) false, core _ _ _ _ (Or.inl ⟨rfl, rfl, by omega, rfl, rfl, rfl⟩), by omega, by omega, by omega, c2, fun p hp => ?_⟩
    exact (same_plus hp hN0 (by omega) hd hEF).1
/-- The sum of any two exact numbers without parts. -/
theorem sum_any (a b : Bool) (n k : Nat) (e f : Int) (hn : n < 10 ^ 18) (hk : k < 10 ^ 18) (he1 : -420 ≤ e) (he2 : e ≤ 420) (hf1 : -420 ≤ f) (hf2 : f ≤ 420) : SumOf a b n k e f (sg a (sc n e) + sg b (sc k f)) := by
  have hz : ∀ e, sc 0 e = 0 := fun e => by unfold sc; rw [Nat.zero_mul]
  have hb : (10 : Nat) ^ 18 < 340282366920938463463374607431768211456 := by decide
  by_cases hn0 : n = 0
  · subst hn0
    refine ⟨b, k, f, false, sum_left a b k e f, by omega, by omega, by omega, by simp, fun p _ => same_exact ?_⟩
    rw [hz, sg_zero]
    omega
  · by_cases hk0 : k = 0
    · subst hk0
      refine ⟨a, n, e, false, fun w ht => sum_right a b n e f w ht hn0, by omega, by omega, by omega, by simp, fun p _ => same_exact ?_⟩
      rw [hz, sg_zero]
      omega
    · by_cases h : e < f
      · have := sum_two a b b a n k k n e f f e (Or.inr ⟨h, rfl, rfl, rfl, rfl, rfl, rfl⟩) (by omega) hn0 hk0 hk0 hk hn he1 he2 hf1 hf2 hf1 hf2 he1 he2
        rwa [Int.add_comm] at this
      · exact sum_two a b a b n k n k e f e f (Or.inl ⟨h, rfl, rfl, rfl, rfl, rfl, rfl⟩) (by omega) hn0 hk0 hn0 hn hk he1 he2 hf1 hf2 he1 he2 hf1 hf2

/-- A result: the real and the error. -/
structure Res where
  M : Int
  E : Int
  X : Int
/-- A result, or an error that came before. -/
def okOr (c : Int) (r : Res) : Res := if c = 0 then r else ⟨0, 0, c⟩
def nRes (p : Nat) (how N : Int) : Res := ⟨nM p how N, nE p how N, nX p how N⟩
def rRes (p : Nat) (how : Int) (neg : Bool) (V : Nat) (m : Bool) : Res := ⟨rM p how neg V m, rE p how neg V m, rX p how neg V m⟩
theorem Same.eq {p : Nat} {neg : Bool} {V : Nat} {m : Bool} {N : Int} (h : Same p neg V m N) (how : Int) : rRes p how neg V m = nRes p how N := by
  obtain ⟨a, b, c⟩ := h.res how
  unfold rRes nRes
  rw [a, b, c]
def pv (a e b f : Int) : Int := sg (decide (a < 0) != decide (b < 0)) (sc (mag a * mag b) (e + f))
def aRes (s how a e b f : Int) : Res := okOr (ckR s how [(a, e), (b, f)]) (nRes (pr s) how (sv a e + sv b f))
def bRes (s how a e b f : Int) : Res := okOr (ckR s how [(a, e), (b, f)]) (nRes (pr s) how (sv a e + sv (-b) f))
def mRes (s how a e b f : Int) : Res := okOr (ckR s how [(a, e), (b, f)]) (nRes (pr s) how (pv a e b f))
def dRes (s how a e b f : Int) : Res := okOr (ckR s how [(a, e), (b, f)]) (if b = 0 then ⟨0, 0, 11⟩ else if a = 0 then ⟨0, 0, 0⟩ else rRes (pr s) how (decide (a < 0) != decide (b < 0)) (sc (qN (mag a) (mag b)) (qT (mag a) e f)) (qM (mag a) (mag b)))
def sMo (n : Nat) (e : Int) : Bool := decide (isq (rtN n e) * isq (rtN n e) ≠ rtN n e)
def sRes (s how a e : Int) : Res := okOr (ckR s how [(a, e)]) (if a < 0 then ⟨0, 0, 11⟩ else if a = 0 then ⟨0, 0, 0⟩ else rRes (pr s) how false (sc (isq (rtN (mag a) e)) (rtF (mag a) e)) (sMo (mag a) e))
/-- What the call of an operation leaves. -/
def Gives (r : Res) (w : World) (x : Ending) (w' : World) : Prop := x = .returned (.tuple #[.agg #[.int .i64 r.M, .int .i64 r.E], .int .i64 r.X]) ∧ Kept w w'

theorem gives_mk (M E X : Int) {P : Program} {f : Nat} {args : Array Value} {w : World} (h : Calls P f args w fun x w' => x = .returned (.tuple #[.agg #[.int .i64 M, .int .i64 E], .int .i64 X]) ∧ Kept w w') : Calls P f args w (Gives ⟨M, E, X⟩ w) := h
theorem ck_cases {c : Int} : c = 0 ∨ (c != 0) = true := by
  by_cases h : c = 0
  · exact Or.inl h
  · right; simpa using h
theorem okOr_zero {c : Int} (r : Res) (h : c = 0) : okOr c r = r := by unfold okOr; rw [if_pos h]
theorem okOr_ne {c : Int} (r : Res) (h : (c != 0) = true) : okOr c r = ⟨0, 0, c⟩ := by unfold okOr; rw [if_neg (by simpa using h)]
theorem pr18 (s : Int) : pr s ≤ 18 := (pr_pos s).2

theorem add_any (s how a e b f : Int) (w : World) (ht : Tab w) (la : -9223372036854775808 ≤ a) (ha : a ≤ 9223372036854775807) (lb : -9223372036854775808 ≤ b) (hb : b ≤ 9223372036854775807) :
    Calls Tryd.prog 19 #[.int .i64 s, .int .i64 how, .agg #[.int .i64 a, .int .i64 e], .agg #[.int .i64 b, .int .i64 f]] w (Gives (aRes s how a e b f) w) := by
  unfold aRes
  rcases ck_cases (c := ckR s how [(a, e), (b, f)]) with hc | hc
  · rw [okOr_zero _ hc]
    obtain ⟨_, v1, v2⟩ := ck_facts hc
    obtain ⟨_, a1, a2, a3, _⟩ := vld_facts v1
    obtain ⟨_, b1, b2, b3, _⟩ := vld_facts v2
    obtain ⟨neg, Q, T, mo, h1, h2, h3, h4, h5, h6⟩ := sum_any (decide (a < 0)) (decide (b < 0)) (mag a) (mag b) e f a1 b1 (by omega) (by omega) (by omega) (by omega)
    have hs := (h6 (pr s) (pr18 s)).eq how
    show Calls _ _ _ w (Gives (nRes (pr s) how (sg (decide (a < 0)) (sc (mag a) e) + sg (decide (b < 0)) (sc (mag b) f))) w)
    rw [← hs]
    unfold rRes
    exact gives_mk _ _ _ (add_good s how a e b f w ht hc _ _ _ neg Q T mo h1 h2 h3 h4 (fun h => Nat.lt_of_le_of_lt (pr18 s) (h5 h)) rfl rfl rfl)
  · rw [okOr_ne _ hc]
    exact gives_mk _ _ _ (add_bad s how a e b f _ w ht la ha lb hb rfl hc)
theorem sub_any (s how a e b f : Int) (w : World) (ht : Tab w) (la : -9223372036854775808 ≤ a) (ha : a ≤ 9223372036854775807) (lb : -9223372036854775808 ≤ b) (hb : b ≤ 9223372036854775807) :
    Calls Tryd.prog 21 #[.int .i64 s, .int .i64 how, .agg #[.int .i64 a, .int .i64 e], .agg #[.int .i64 b, .int .i64 f]] w (Gives (bRes s how a e b f) w) := by
  unfold bRes
  rcases ck_cases (c := ckR s how [(a, e), (b, f)]) with hc | hc
  · rw [okOr_zero _ hc]
    obtain ⟨_, v1, v2⟩ := ck_facts hc
    obtain ⟨_, a1, a2, a3, _⟩ := vld_facts v1
    obtain ⟨_, b1, b2, b3, _⟩ := vld_facts v2
    have hmb : mag (-b) = mag b := by unfold mag; omega
    obtain ⟨neg, Q, T, mo, h1, h2, h3, h4, h5, h6⟩ := sum_any (decide (a < 0)) (decide (-b < 0)) (mag a) (mag (-b)) e f a1 (by rw [hmb]; exact b1) (by omega) (by omega) (by omega) (by omega)
    have hs := (h6 (pr s) (pr18 s)).eq how
    show Calls _ _ _ w (Gives (nRes (pr s) how (sg (decide (a < 0)) (sc (mag a) e) + sg (decide (-b < 0)) (sc (mag (-b)) f))) w)
    rw [← hs]
    unfold rRes
    exact gives_mk _ _ _ (sub_good s how a e b f w ht hc _ _ _ (decide (-b < 0)) (mag (-b)) rfl rfl neg Q T mo h1 h2 h3 h4 (fun h => Nat.lt_of_le_of_lt (pr18 s) (h5 h)) rfl rfl rfl)
  · rw [okOr_ne _ hc]
    exact gives_mk _ _ _ (sub_bad s how a e b f _ w ht la ha lb hb rfl hc)
theorem mul_any (s how a e b f : Int) (w : World) (ht : Tab w) (la : -9223372036854775808 ≤ a) (ha : a ≤ 9223372036854775807) (lb : -9223372036854775808 ≤ b) (hb : b ≤ 9223372036854775807) :
    Calls Tryd.prog 23 #[.int .i64 s, .int .i64 how, .agg #[.int .i64 a, .int .i64 e], .agg #[.int .i64 b, .int .i64 f]] w (Gives (mRes s how a e b f) w) := by
  unfold mRes
  rcases ck_cases (c := ckR s how [(a, e), (b, f)]) with hc | hc
  · rw [okOr_zero _ hc]
    have hS : Same (pr s) (decide (a < 0) != decide (b < 0)) (sc (mag a * mag b) (e + f)) false (pv a e b f) := same_exact rfl
    rw [← hS.eq how]
    unfold rRes
    exact gives_mk _ _ _ (mul_good s how a e b f w ht hc _ _ _ _ rfl rfl rfl rfl)
  · rw [okOr_ne _ hc]
    exact gives_mk _ _ _ (mul_bad s how a e b f _ w ht la ha lb hb rfl hc)
theorem dg18 {n : Nat} (h : n < 1000000000000000000) : dg n ≤ 18 := (dg_iff n 18).2 h
theorem div_any (s how a e b f : Int) (w : World) (ht : Tab w) (la : -9223372036854775808 ≤ a) (ha : a ≤ 9223372036854775807) (lb : -9223372036854775808 ≤ b) (hb : b ≤ 9223372036854775807) :
    Calls Tryd.prog 25 #[.int .i64 s, .int .i64 how, .agg #[.int .i64 a, .int .i64 e], .agg #[.int .i64 b, .int .i64 f]] w (Gives (dRes s how a e b f) w) := by
  unfold dRes
  rcases ck_cases (c := ckR s how [(a, e), (b, f)]) with hc | hc
  · rw [okOr_zero _ hc]
    obtain ⟨_, v1, v2⟩ := ck_facts hc
    obtain ⟨_, a1, a2, a3, _⟩ := vld_facts v1
    obtain ⟨_, b1, b2, b3, _⟩ := vld_facts v2
    by_cases hb0 : b = 0
    · rw [if_pos hb0]
      exact gives_mk _ _ _ (div_zero s how a e b f w ht hc hb0)
    · rw [if_neg hb0]
      have hbm : mag b ≠ 0 := by unfold mag; omega
      by_cases ha0 : a = 0
      · rw [if_pos ha0]
        subst ha0
        have h0 : mag 0 = 0 := rfl
        obtain ⟨r1, r2, r3⟩ := zero_res (pr s) how (decide ((0 : Int) < 0))
        have hz : sc 0 e = 0 := by unfold sc; rw [Nat.zero_mul]
        rw [← hz] at r1 r2 r3
        refine gives_mk _ _ _ (div_good s how 0 e b f w ht hc hb0 _ _ _ (decide ((0 : Int) < 0)) 0 e false ?_ (by omega) (by omega) (by omega) (by simp) r1 r2 r3)
        intro w ht
        exact quotient_zero _ _ _ _ _ _ _ w ht
      · rw [if_neg ha0]
        have ham : mag a ≠ 0 := by unfold mag; omega
        obtain ⟨q1, q2⟩ := q_facts ham (dg18 a1) hbm b1
        unfold rRes
        have hd : 37 - dg (mag a) ≤ 37 := Nat.sub_le _ _
        refine gives_mk _ _ _ (div_good s how a e b f w ht hc hb0 _ _ _ (decide (a < 0) != decide (b < 0)) (qN (mag a) (mag b)) (qT (mag a) e f) (qM (mag a) (mag b)) ?_ q1 (by unfold qT; omega) (by unfold qT; omega) (fun _ => Nat.lt_of_le_of_lt (pr18 s) q2) rfl rfl rfl)
        intro w ht
        exact quotient_any _ _ _ _ (mag a) (mag b) e f w ht ham (by omega) (by omega) (by omega) (by omega) (by omega) (by omega) (by omega) _ _ _ _ rfl rfl rfl rfl
  · rw [okOr_ne _ hc]
    exact gives_mk _ _ _ (div_bad s how a e b f _ w ht la ha lb hb rfl hc)
theorem xroot_any (neg m : Bool) (n : Nat) (e : Int) (w : World) (ht : Tab w) (hn0 : n ≠ 0) (hn : n < 1000000000000000000) (he : -1000 ≤ e) (he' : e ≤ 1000) :
    Calls Tryd.prog 64 #[.agg #[.bool neg, .int .u64 (hiW n : Int), .int .u64 (loW n : Int), .int .i64 e, .bool m]] w fun x w' => x = .returned (.agg #[.bool false, .int .u64 (hiW (isq (rtN n e)) : Int), .int .u64 (loW (isq (rtN n e)) : Int), .int .i64 (rtF n e), .bool (sMo n e)]) ∧ Kept w w' := by
  have hd := dg18 hn
  unfold sMo rtN rtF rtD
  by_cases h : (e - ((37 - dg n : Nat) : Int)) % 2 = 0
  · rw [if_pos h]
    exact xroot_even neg m n e w ht hn0 (by omega) (by omega) (by omega) _ _ _ rfl rfl (by omega)
  · rw [if_neg h]
    have h38 : 38 - dg n = (37 - dg n) + 1 := by omega
    have hN2 : n * 10 ^ (37 - dg n) * 10 = n * 10 ^ (38 - dg n) := by rw [h38, Nat.pow_succ, Nat.mul_assoc]
    exact xroot_odd neg m n e w ht hn0 (by omega) (by omega) (by omega) _ _ _ _ rfl rfl hN2 (by omega)
theorem sqrt_any (s how a e : Int) (w : World) (ht : Tab w) (la : -9223372036854775808 ≤ a) (ha : a ≤ 9223372036854775807) :
    Calls Tryd.prog 27 #[.int .i64 s, .int .i64 how, .agg #[.int .i64 a, .int .i64 e]] w (Gives (sRes s how a e) w) := by
  unfold sRes
  rcases ck_cases (c := ckR s how [(a, e)]) with hc | hc
  · rw [okOr_zero _ hc]
    obtain ⟨_, v1⟩ := ck1_facts hc
    obtain ⟨_, a1, a2, a3, _⟩ := vld_facts v1
    by_cases hn : a < 0
    · rw [if_pos hn]
      exact gives_mk _ _ _ (sqrt_neg s how a e w ht hc (decide_eq_true hn))
    · rw [if_neg hn]
      by_cases ha0 : a = 0
      · rw [if_pos ha0]
        subst ha0
        obtain ⟨r1, r2, r3⟩ := zero_res (pr s) how (decide ((0 : Int) < 0))
        have hz : sc 0 e = 0 := by unfold sc; rw [Nat.zero_mul]
        rw [← hz] at r1 r2 r3
        refine gives_mk _ _ _ (sqrt_good s how 0 e w ht hc (by simp) _ _ _ (decide ((0 : Int) < 0)) 0 e false ?_ (by omega) (by omega) (by omega) (by simp) r1 r2 r3)
        intro w ht
        exact xroot_zero _ _ _ w ht
      · rw [if_neg ha0]
        have ham : mag a ≠ 0 := by unfold mag; omega
        obtain ⟨t1, t2, t3, t4⟩ := rt_facts e ham (dg18 a1)
        obtain ⟨i1, i2⟩ := isq_facts t3 t4
        unfold rRes
        have hb : (10 : Nat) ^ 19 < 340282366920938463463374607431768211456 := by decide
        refine gives_mk _ _ _ (sqrt_good s how a e w ht hc (decide_eq_false hn) _ _ _ false (isq (rtN (mag a) e)) (rtF (mag a) e) (sMo (mag a) e) ?_ (by omega) (by omega) (by omega) (fun _ => Nat.lt_of_le_of_lt (pr18 s) i2) rfl rfl rfl)
        intro w ht
        exact xroot_any _ _ _ _ w ht ham a1 (by omega) (by omega)
  · rw [okOr_ne _ hc]
    exact gives_mk _ _ _ (sqrt_bad s how a e _ w ht la ha rfl hc)
def gRes (s a e : Int) : Res := okOr (ckR s 0 [(a, e)]) ⟨-a, e, 0⟩
def absI (a : Int) : Int := if a < 0 then -a else a
def hRes (s a e : Int) : Res := okOr (ckR s 0 [(a, e)]) ⟨absI a, e, 0⟩
def lRes (s a e : Int) : Res := if s = 1 then ⟨0, 0, 1⟩ else okOr (ckR s 0 [(a, e)]) ⟨a, e, 0⟩
def tRes (s how a e : Int) : Res := if s = -1 then ⟨0, 0, 1⟩ else okOr (ckR s how [(a, e)]) (nRes (pr (s - 1)) how (sv a e))
def kRes (s how m e : Int) : Res := if (isSz s && isDir how) = true then nRes (pr s) how (sv m (max (-1000) (min e 1000))) else ⟨0, 0, 1⟩
theorem neg_any (s a e : Int) (w : World) (ht : Tab w) (la : -9223372036854775808 ≤ a) (ha : a ≤ 9223372036854775807) :
    Calls Tryd.prog 29 #[.int .i64 s, .agg #[.int .i64 a, .int .i64 e]] w (Gives (gRes s a e) w) := by
  unfold gRes
  rcases ck_cases (c := ckR s 0 [(a, e)]) with hc | hc
  · rw [okOr_zero _ hc]; exact gives_mk _ _ _ (neg_good s a e w ht hc)
  · rw [okOr_ne _ hc]; exact gives_mk _ _ _ (neg_bad s a e _ w ht la ha rfl hc)
theorem abs_any (s a e : Int) (w : World) (ht : Tab w) (la : -9223372036854775808 ≤ a) (ha : a ≤ 9223372036854775807) :
    Calls Tryd.prog 31 #[.int .i64 s, .agg #[.int .i64 a, .int .i64 e]] w (Gives (hRes s a e) w) := by
  unfold hRes absI
  rcases ck_cases (c := ckR s 0 [(a, e)]) with hc | hc
  · rw [okOr_zero _ hc]
    by_cases hn : a < 0
    · rw [if_pos hn]; exact gives_mk _ _ _ (abs_neg s a e w ht hc (decide_eq_true hn))
    · rw [if_neg hn]; exact gives_mk _ _ _ (abs_pos s a e w ht hc (decide_eq_false hn))
  · rw [okOr_ne _ hc]; exact gives_mk _ _ _ (abs_bad s a e _ w ht la ha rfl hc)
theorem leng_any (s a e : Int) (w : World) (ht : Tab w) (la : -9223372036854775808 ≤ a) (ha : a ≤ 9223372036854775807) :
    Calls Tryd.prog 41 #[.int .i64 s, .agg #[.int .i64 a, .int .i64 e]] w (Gives (lRes s a e) w) := by
  unfold lRes
  by_cases h1 : s = 1
  · rw [if_pos h1]; subst h1; exact gives_mk _ _ _ (leng_size a e w ht)
  · rw [if_neg h1]
    have h2 : (s == 1) = false := by simpa using h1
    rcases ck_cases (c := ckR s 0 [(a, e)]) with hc | hc
    · rw [okOr_zero _ hc]; exact gives_mk _ _ _ (leng_good s a e w ht h2 hc)
    · rw [okOr_ne _ hc]; exact gives_mk _ _ _ (leng_bad s a e _ w ht h2 la ha rfl hc)
theorem shorten_any (s how a e : Int) (w : World) (ht : Tab w) (la : -9223372036854775808 ≤ a) (ha : a ≤ 9223372036854775807) :
    Calls Tryd.prog 43 #[.int .i64 s, .int .i64 how, .agg #[.int .i64 a, .int .i64 e]] w (Gives (tRes s how a e) w) := by
  unfold tRes
  by_cases h1 : s = -1
  · rw [if_pos h1]; subst h1; exact gives_mk _ _ _ (shorten_size how a e w ht)
  · rw [if_neg h1]
    have h2 : (s == -1) = false := by simpa using h1
    rcases ck_cases (c := ckR s how [(a, e)]) with hc | hc
    · rw [okOr_zero _ hc]
      have hS : Same (pr (s - 1)) (decide (a < 0)) (sc (mag a) e) false (sv a e) := same_exact rfl
      rw [← hS.eq how]
      unfold rRes
      exact gives_mk _ _ _ (shorten_good s how a e w ht h2 hc _ _ _ _ rfl rfl rfl rfl)
    · rw [okOr_ne _ hc]; exact gives_mk _ _ _ (shorten_bad s how a e _ w ht h2 la ha rfl hc)
theorem make_any (s how m e : Int) (w : World) (ht : Tab w) (la : -9223372036854775808 ≤ m) (ha : m ≤ 9223372036854775807) :
    Calls Tryd.prog 17 #[.int .i64 s, .int .i64 how, .int .i64 m, .int .i64 e] w (Gives (kRes s how m e) w) := by
  unfold kRes
  cases h : (isSz s && isDir how)
  · rw [if_neg (by simp)]
    exact gives_mk _ _ _ (make_bad s how m e w ht h)
  · rw [if_pos rfl]
    have hS : Same (pr s) (decide (m < 0)) (sc (mag m) (max (-1000) (min e 1000))) false (sv m (max (-1000) (min e 1000))) := same_exact rfl
    rw [← hS.eq how]
    unfold rRes
    exact gives_mk _ _ _ (make_good s how m e w ht h la ha _ rfl _ _ _ rfl rfl rfl)
end Go.Proofs.YtcmgphfcpgebfaaDoor
