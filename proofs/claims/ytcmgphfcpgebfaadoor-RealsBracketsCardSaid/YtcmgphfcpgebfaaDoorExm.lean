/- The examples of the chapter: plain mathematics. No condition. -/
import Derived.Test.YtcmgphfcpgebfaaDoorTot
namespace Go.Proofs.YtcmgphfcpgebfaaDoor

theorem dg_of {n : Nat} (k : Nat) (h1 : 10 ^ k ≤ n) (h2 : n < 10 ^ (k + 1)) : dg n = k + 1 := dg_eq h1 h2
theorem res_in {p n : Nat} {how e : Int} {neg m : Bool} (hn : n ≠ 0) (he : -1100 ≤ e) (hp : 1 ≤ p) (hm : m = true → p < dg n) (k q o z D : Nat) (hk : (cK p n e).toNat = k) (hq : cQ p how neg n e m = q) (h0 : q ≠ 0) (hD : dg q = D) (h : e + (k : Int) + (D : Int) ≤ 400 + (p : Int)) (ho : od q = o) (hz : tz q = z) :
    rRes p how neg (sc n e) m = ⟨sg neg o, e + k + z, 0⟩ := by
  obtain ⟨a, _, c⟩ := round_in (how := how) (neg := neg) (m := m) hn he hp hm (by rw [hk, hq, hD]; exact h)
  obtain ⟨c1, c2⟩ := c (by rw [hq]; exact h0)
  unfold rRes
  rw [a, c1, c2, hq, hk, ho, hz]
theorem dg1 : dg 1 = 1 := dg_of 0 (by decide) (by decide)
theorem dg2 : dg 2 = 1 := dg_of 0 (by decide) (by decide)
theorem dg3 : dg 3 = 1 := dg_of 0 (by decide) (by decide)
theorem dg5 : dg 5 = 1 := dg_of 0 (by decide) (by decide)
theorem dgn : dg 9999999 = 7 := dg_of 6 (by decide) (by decide)
theorem vld_of {s m e : Int} {n D : Nat} (hs : isSz s = true) (h0 : m ≠ 0) (hm : mag m = n) (hD : dg n = D) (h1 : m % 10 ≠ 0) (h2 : D ≤ pr s) (h3 : -400 ≤ e) (h4 : e ≤ 400 + (pr s : Int) - (D : Int)) : vld s m e = true := by
  unfold vld
  rw [hs, if_neg h0, hm, hD, Bool.true_and]
  exact decide_eq_true ⟨h1, h2, h3, h4⟩
theorem ck2_of {s how a e b f : Int} (h : (isSz s && isDir how) = true) (h1 : vld s a e = true) (h2 : vld s b f = true) : ckR s how [(a, e), (b, f)] = 0 := by
  unfold ckR ckO
  rw [if_pos h, if_pos (by simp [h1, h2])]
theorem ck1_of {s how a e : Int} (h : (isSz s && isDir how) = true) (h1 : vld s a e = true) : ckR s how [(a, e)] = 0 := by
  unfold ckR ckO
  rw [if_pos h, if_pos (by simp [h1])]
theorem pr_m : pr (-1) = 7 := rfl
theorem pr_z : pr 0 = 15 := rfl

theorem sc_lift (n : Nat) (e : Int) (d N : Nat) (E : Int) (h : -1100 ≤ e) (hE : e + d = E) (hN : n * 10 ^ d = N) : sc n E = sc N e := by
  subst hE hN
  have := sc_up (n := n) (E := e + d) d (by omega)
  rw [this]
  unfold sc
  rw [show e + d - d = e by omega]
theorem sc_add (x y : Nat) (e : Int) : sc x e + sc y e = sc (x + y) e := by unfold sc; rw [Nat.add_mul]

theorem exm_make : kRes 0 0 1000 (-3) = ⟨1, 0, 0⟩ := by
  have hv : vld 0 1 0 = true := vld_of (by decide) (by decide) rfl dg1 (by decide) (by rw [pr_z]; decide) (by decide) (by rw [pr_z]; decide)
  obtain ⟨a, b, c⟩ := nM_vld 0 hv
  have hs : sv 1000 (max (-1000) (min (-3) 1000)) = sv 1 0 := by
    rw [show max (-1000 : Int) (min (-3) 1000) = -3 by decide]
    have h := sc_lift 1 (-3) 3 1000 0 (by decide) (by decide) (by decide)
    unfold sv
    rw [show mag 1000 = 1000 from rfl, show mag 1 = 1 from rfl, h, show decide ((1000 : Int) < 0) = decide ((1 : Int) < 0) by decide]
  unfold kRes nRes
  rw [if_pos (by decide), hs, a, b, c]
theorem exm_div : dRes (-1) 1 1 0 3 0 = ⟨3333334, -7, 0⟩ := by
  have h1 : vld (-1) 1 0 = true := vld_of (by decide) (by decide) rfl dg1 (by decide) (by rw [pr_m]; decide) (by decide) (by rw [pr_m]; decide)
  have h3 : vld (-1) 3 0 = true := vld_of (by decide) (by decide) rfl dg3 (by decide) (by rw [pr_m]; decide) (by decide) (by rw [pr_m]; decide)
  have hq : qN (mag 1) (mag 3) = 333333333333333333333333333333333333 := by
    unfold qN
    rw [show mag 1 = 1 from rfl, show mag 3 = 3 from rfl, dg1]
  have ht : qT (mag 1) 0 0 = -36 := by
    unfold qT
    rw [show mag 1 = 1 from rfl, dg1]
    rfl
  have hm : qM (mag 1) (mag 3) = true := by
    unfold qM
    rw [show mag 1 = 1 from rfl, show mag 3 = 3 from rfl, dg1]
    decide
  have hd : dg 333333333333333333333333333333333333 = 36 := dg_of 35 (by decide) (by decide)
  have hK : (cK 7 333333333333333333333333333333333333 (-36)).toNat = 29 := by unfold cK; rw [hd]; decide
  unfold dRes
  rw [okOr_zero _ (ck2_of (by decide) h1 h3), if_neg (by decide), if_neg (by decide), hq, ht, hm, pr_m, show (decide ((1 : Int) < 0) != decide ((3 : Int) < 0)) = false by decide]
  rw [res_in (by decide) (by decide) (by decide) (by rw [hd]; decide) 29 3333334 3333334 0 7 hK ?_ (by decide) (dg_of 6 (by decide) (by decide)) (by decide) (od_none (by decide)) (tz_none (by decide))]
  · rfl
  · unfold cQ
    rw [hK]
    decide
theorem exm_add : aRes (-1) 0 9999999 0 5 (-1) = ⟨1, 7, 0⟩ := by
  have h1 : vld (-1) 9999999 0 = true := vld_of (by decide) (by decide) rfl dgn (by decide) (by rw [pr_m]; decide) (by decide) (by rw [pr_m]; decide)
  have h3 : vld (-1) 5 (-1) = true := vld_of (by decide) (by decide) rfl dg5 (by decide) (by rw [pr_m]; decide) (by decide) (by rw [pr_m]; decide)
  have hN : sv 9999999 0 + sv 5 (-1) = sg false (sc 99999995 (-1)) := by
    have h := sc_lift 9999999 (-1) 1 99999990 0 (by decide) (by decide) (by decide)
    unfold sv
    rw [show mag 9999999 = 9999999 from rfl, show mag 5 = 5 from rfl, show decide ((9999999 : Int) < 0) = false by decide, show decide ((5 : Int) < 0) = false by decide, sg_same, h, sc_add]
  have hS : Same 7 false (sc 99999995 (-1)) false (sg false (sc 99999995 (-1))) := same_exact rfl
  have hd : dg 99999995 = 8 := dg_of 7 (by decide) (by decide)
  have hK : (cK 7 99999995 (-1)).toNat = 1 := by unfold cK; rw [hd]; decide
  unfold aRes
  rw [okOr_zero _ (ck2_of (by decide) h1 h3), hN, pr_m, ← hS.eq 0]
  have ho : od 10000000 = 1 := by
    have := od_mul (n := 1) 7 (by decide)
    rw [od_none (n := 1) (by decide)] at this
    exact this
  have hz : tz 10000000 = 7 := by
    have := tz_mul (n := 1) 7 (by decide)
    rw [tz_none (n := 1) (by decide)] at this
    exact this
  rw [res_in (by decide) (by decide) (by decide) (by intro h; cases h) 1 10000000 1 7 8 hK ?_ (by decide) (dg_of 7 (by decide) (by decide)) (by decide) ho hz]
  · rfl
  · unfold cQ
    rw [hK]
    decide
theorem exm_sqrt : sRes 0 0 2 0 = ⟨14142135623731, -13, 0⟩ := by
  have h1 : vld 0 2 0 = true := vld_of (by decide) (by decide) rfl dg2 (by decide) (by rw [pr_z]; decide) (by decide) (by rw [pr_z]; decide)
  have hD : rtD 2 0 = 36 := by unfold rtD; rw [dg2]; decide
  have hN : rtN 2 0 = 2000000000000000000000000000000000000 := by unfold rtN; rw [hD]
  have hF : rtF 2 0 = -18 := by unfold rtF; rw [hD]; decide
  have hi : isq 2000000000000000000000000000000000000 = 1414213562373095048 := isq_of (by decide) (by decide)
  have hm : sMo 2 0 = true := by unfold sMo; rw [hN, hi]; decide
  have hd : dg 1414213562373095048 = 19 := dg_of 18 (by decide) (by decide)
  have hK : (cK 15 1414213562373095048 (-18)).toNat = 4 := by unfold cK; rw [hd]; decide
  unfold sRes
  rw [okOr_zero _ (ck1_of (by decide) h1), if_neg (by decide), if_neg (by decide), show mag 2 = 2 from rfl, hm, hN, hF, hi, pr_z]
  have ho : od 141421356237310 = 14142135623731 := by
    have := od_mul (n := 14142135623731) 1 (by decide)
    rw [od_none (n := 14142135623731) (by decide)] at this
    exact this
  have hz : tz 141421356237310 = 1 := by
    have := tz_mul (n := 14142135623731) 1 (by decide)
    rw [tz_none (n := 14142135623731) (by decide)] at this
    exact this
  rw [res_in (by decide) (by decide) (by decide) (by rw [hd]; decide) 4 141421356237310 14142135623731 1 15 hK ?_ (by decide) (dg_of 14 (by decide) (by decide)) (by decide) ho hz]
  · rfl
  · unfold cQ
    rw [hK]
    decide
end Go.Proofs.YtcmgphfcpgebfaaDoor
