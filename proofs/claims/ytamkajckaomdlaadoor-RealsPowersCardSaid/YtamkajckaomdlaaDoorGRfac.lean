/- What the laws on roots, on orders and on turns say of results: plain mathematics. No condition. -/
import Derived.Test.YtamkajckaomdlaaDoorGBrk
import Derived.Test.YtamkajckaomdlaaDoorGRm
namespace Go.Proofs.YtamkajckaomdlaaDoor

/-- A real that fits its variables, with exponents as reals have them. -/
def Bd (r : Res) : Prop := -9223372036854775808 ≤ r.M ∧ r.M ≤ 9223372036854775807 ∧ -9223372036854775808 ≤ r.E ∧ r.E ≤ 9223372036854775807
theorem bd_zero (c : Int) : Bd ⟨0, 0, c⟩ := by unfold Bd; simp
theorem bd_vld {s : Int} {r : Res} (h : vld s r.M r.E = true) : Bd r := by
  obtain ⟨_, _, a, b, c, d⟩ := vld_facts h
  unfold Bd
  omega
theorem bd_mk {s M E X : Int} (h : vld s M E = true) : Bd ⟨M, E, X⟩ := bd_vld (s := s) (r := ⟨M, E, X⟩) h
theorem isSz_of {s m e : Int} (h : vld s m e = true) : isSz s = true := by
  unfold vld at h
  rw [Bool.and_eq_true] at h
  exact h.1
theorem bd_r {s how : Int} {neg : Bool} {V : Nat} {m : Bool} (hs : isSz s = true) : Bd (rRes (pr s) how neg V m) := by
  unfold rRes
  exact bd_mk (res_vld hs)
theorem bd_n {s how N : Int} (hs : isSz s = true) : Bd (nRes (pr s) how N) := by
  unfold nRes nM nE
  exact bd_mk (res_vld hs)
theorem bd_ok {c : Int} {r : Res} (h : c = 0 → Bd r) : Bd (okOr c r) := by
  unfold okOr
  split
  · rename_i hc; exact h hc
  · exact bd_zero c
theorem bd_m (s how a e b f : Int) : Bd (mRes s how a e b f) := bd_ok fun hc => bd_n (isSz_of (ck_facts hc).2.1)
theorem bd_a (s how a e b f : Int) : Bd (aRes s how a e b f) := bd_ok fun hc => bd_n (isSz_of (ck_facts hc).2.1)
theorem bd_b (s how a e b f : Int) : Bd (bRes s how a e b f) := bd_ok fun hc => bd_n (isSz_of (ck_facts hc).2.1)
theorem bd_d (s how a e b f : Int) : Bd (dRes s how a e b f) := bd_ok fun hc => by
  split
  · exact bd_zero _
  · split
    · exact bd_zero _
    · exact bd_r (isSz_of (ck_facts hc).2.1)
theorem bd_s (s how a e : Int) : Bd (sRes s how a e) := bd_ok fun hc => by
  split
  · exact bd_zero _
  · split
    · exact bd_zero _
    · exact bd_r (isSz_of (ck1_facts hc).2)
theorem bd_g (s a e : Int) : Bd (gRes s a e) := bd_ok fun hc => by
  obtain ⟨_, _, h1, h2, h3, h4⟩ := vld_facts (ck1_facts hc).2
  unfold Bd
  simp only
  omega
theorem bd_h (s a e : Int) : Bd (hRes s a e) := bd_ok fun hc => by
  obtain ⟨_, _, h1, h2, h3, h4⟩ := vld_facts (ck1_facts hc).2
  unfold Bd absI
  simp only
  split <;> omega
theorem bd_l (s a e : Int) : Bd (lRes s a e) := by
  unfold lRes
  split
  · exact bd_zero _
  · exact bd_ok fun hc => bd_vld (s := s) (ck1_facts hc).2

/-- An operation whose result is no error had operands that are right. -/
theorem ok_ck {c : Int} {r : Res} (h : (okOr c r).X = 0) : c = 0 ∧ okOr c r = r := by
  unfold okOr at *
  split
  · rename_i hc; exact ⟨hc, rfl⟩
  · rename_i hc; rw [if_neg hc] at h; exact absurd h hc
theorem ck_sz {s how a e b f : Int} (h : ckR s how [(a, e), (b, f)] = 0) : (isSz s && isDir how) = true := by
  obtain ⟨h1, h2, _⟩ := ck_facts h
  rw [isSz_of h2, h1]; rfl
theorem ck1_sz {s how a e : Int} (h : ckR s how [(a, e)] = 0) : (isSz s && isDir how) = true := by
  obtain ⟨h1, h2⟩ := ck1_facts h
  rw [isSz_of h2, h1]; rfl
theorem ck2_mk {s how a e b f : Int} (h : (isSz s && isDir how) = true) (h1 : vld s a e = true) (h2 : vld s b f = true) : ckR s how [(a, e), (b, f)] = 0 := by
  unfold ckR ckO
  rw [if_pos h, if_pos (by simp [h1, h2])]
theorem ck1_mk {s how a e : Int} (h : (isSz s && isDir how) = true) (h1 : vld s a e = true) : ckR s how [(a, e)] = 0 := by
  unfold ckR ckO
  rw [if_pos h, if_pos (by simp [h1])]
theorem dirs {s how k : Int} (h : (isSz s && isDir how) = true) (hk : isDir k = true) : (isSz s && isDir k) = true := by
  rw [Bool.and_eq_true] at h
  rw [h.1, hk]; rfl
theorem mag_sq (a : Int) : (decide (a < 0) != decide (a < 0)) = false := by simp
theorem sv_pos {a e : Int} (h : ¬ a < 0) : sv a e = (sc (mag a) e : Int) := by unfold sv sg; rw [decide_eq_false h, if_neg (by simp)]
theorem sc_zero (e : Int) : sc 0 e = 0 := by unfold sc; rw [Nat.zero_mul]

theorem roots_down {s a e M E : Int} (h : sRes s 2 a e = ⟨M, E, 0⟩) :
    (mRes s 2 M E M E).X = 0 ∧ cmpR (mRes s 2 M E M E).M (mRes s 2 M E M E).E a e ≤ 0 := by
  have hX : (sRes s 2 a e).X = 0 := by rw [h]
  obtain ⟨hc, hr⟩ := ok_ck hX
  obtain ⟨_, hv⟩ := ck1_facts hc
  obtain ⟨_, a1, a2, a3, _⟩ := vld_facts hv
  have hz := isSz_of hv
  unfold sRes at h
  rw [okOr_zero _ hc] at h
  have hna : ¬ a < 0 := by
    intro hn
    rw [if_pos hn] at h
    have := congrArg Res.X h
    simp at this
  rw [if_neg hna] at h
  have hvM : vld s M E = true := by
    by_cases h0 : a = 0
    · rw [if_pos h0] at h
      have h1 := congrArg Res.M h
      have h2 := congrArg Res.E h
      simp only at h1 h2
      subst h1 h2
      unfold vld
      rw [hz]; rfl
    · rw [if_neg h0] at h
      have h1 := congrArg Res.M h
      have h2 := congrArg Res.E h
      unfold rRes at h1 h2
      simp only at h1 h2
      rw [← h1, ← h2]
      exact res_vld hz
  have hle : sc (mag M * mag M) (E + E) ≤ sc (mag a) e := by
    by_cases h0 : a = 0
    · rw [if_pos h0] at h
      have h1 := congrArg Res.M h
      simp only at h1
      subst h1
      rw [show mag 0 = 0 from rfl, Nat.mul_zero, sc_zero]
      exact Nat.zero_le _
    · rw [if_neg h0] at h
      have h1 := congrArg Res.M h
      have h2 := congrArg Res.E h
      unfold rRes at h1 h2
      simp only at h1 h2
      exact root_down hz (by unfold mag; omega) (dg18 a1) a2 (by omega) _ h1 h2
  have hcm := ck2_mk (s := s) (how := 2) (a := M) (e := E) (b := M) (f := E) (by rw [hz]; rfl) hvM hvM
  have hm : mRes s 2 M E M E = rRes (pr s) 2 false (sc (mag M * mag M) (E + E)) false := by
    have hS : Same (pr s) false (sc (mag M * mag M) (E + E)) false (pv M E M E) := same_exact (by unfold pv; rw [mag_sq])
    unfold mRes
    rw [okOr_zero _ hcm, hS.eq 2]
  rw [hm]
  unfold rRes
  simp only
  refine ⟨rX_down (by decide), ?_⟩
  rw [cmpR_vld (res_vld hz) hv, cmpI_le, sv_res', sv_pos hna]
  have := oV_down (p := pr s) (V := sc (mag M * mag M) (E + E)) (how := 2) (neg := false) (m := false) (by decide) (by decide)
  unfold sg
  simp only [Bool.false_eq_true, if_false]
  omega

theorem absI_mag (a : Int) : absI a = (mag a : Int) := by unfold absI mag; split <;> omega
theorem vld_abs {s a e : Int} (h : vld s a e = true) : vld s (absI a) e = true := by
  unfold absI
  split
  · unfold vld at *
    have : mag (-a) = mag a := by unfold mag; omega
    rw [this]
    have h2 : (-a = 0) ↔ a = 0 := by omega
    have h3 : (-a) % 10 ≠ 0 ↔ a % 10 ≠ 0 := by omega
    simp only [h2, h3]
    exact h
  · exact h
theorem roots_sq {s a e M E : Int} (h1 : mRes s 2 a e a e = ⟨M, E, 0⟩) (h2 : mRes s 1 a e a e = ⟨M, E, 0⟩) : ∃ y f : Int, hRes s a e = ⟨y, f, 0⟩ ∧ sRes s 0 M E = ⟨y, f, 0⟩ := by
  have hX : (mRes s 2 a e a e).X = 0 := by rw [h1]
  obtain ⟨hc, _⟩ := ok_ck hX
  have hX1 : (mRes s 1 a e a e).X = 0 := by rw [h2]
  obtain ⟨hc1, _⟩ := ok_ck hX1
  obtain ⟨_, hv, _⟩ := ck_facts hc
  obtain ⟨_, a1, a2, a3, _⟩ := vld_facts hv
  have hz := isSz_of hv
  have hS : Same (pr s) false (sc (mag a * mag a) (e + e)) false (pv a e a e) := same_exact (by unfold pv; rw [mag_sq])
  unfold mRes at h1 h2
  rw [okOr_zero _ hc, ← hS.eq 2] at h1
  rw [okOr_zero _ hc1, ← hS.eq 1] at h2
  have e1 := congrArg Res.M h1
  have e2 := congrArg Res.E h1
  have f1 := congrArg Res.M h2
  have f2 := congrArg Res.E h2
  have f3 := congrArg Res.X h2
  unfold rRes at e1 e2 f1 f2 f3
  simp only at e1 e2 f1 f2 f3
  have hV := exact_sq f3 (e1.trans f1.symm) (e2.trans f2.symm)
  have hvM : vld s M E = true := by rw [← e1, ← e2]; exact res_vld hz
  obtain ⟨_, m1, m2, m3, _⟩ := vld_facts hvM
  have hval : sc (mag M) E = sc (mag a * mag a) (e + e) := by
    rw [← e1, ← e2, res_val, hV]
  have hMp : ¬ M < 0 := by
    rw [← e1]
    unfold rM fM sg
    simp
  have hcs := ck1_mk (s := s) (how := 0) (a := M) (e := E) (by rw [hz]; rfl) hvM
  have hca := ck1_mk (s := s) (how := 0) (a := a) (e := e) (by rw [hz]; rfl) hv
  refine ⟨absI a, e, by unfold hRes; rw [okOr_zero _ hca], ?_⟩
  unfold sRes
  rw [okOr_zero _ hcs, if_neg hMp]
  by_cases h0 : M = 0
  · rw [if_pos h0]
    subst h0
    rw [show mag 0 = 0 from rfl, sc_zero] at hval
    have ha0 : a = 0 := by
      rcases Nat.eq_zero_or_pos (mag a) with h | h
      · unfold mag at h; omega
      · have := sc_pos (x := mag a * mag a) (e + e) (by have := Nat.mul_pos h h; omega)
        omega
    subst ha0
    unfold vld at hv
    rw [Bool.and_eq_true, if_pos rfl] at hv
    have := of_decide_eq_true hv.2
    subst this
    rfl
  · rw [if_neg h0]
    have hM0 : mag M ≠ 0 := by unfold mag; omega
    obtain ⟨g1, g2⟩ := root_sq hM0 (dg18 m1) m2 (by omega) a1 a2 hval
    have hmo : sMo (mag M) E = false := by unfold sMo; rw [decide_eq_false]; omega
    rw [hmo, g2]
    have hab : mag a = mag (absI a) := by rw [absI_mag]; rfl
    obtain ⟨r1, r2, r3⟩ := vld_res 0 (vld_abs hv)
    have hn : decide (absI a < 0) = false := by rw [absI_mag]; exact decide_eq_false (by omega)
    rw [hn, ← hab] at r1 r2 r3
    unfold rRes
    rw [r1, r2, r3]
end Go.Proofs.YtamkajckaomdlaaDoor
/- Powers, on both sides. Condition: the tables hold what their initialisers lay. -/
namespace Go.Proofs.YtamkajckaomdlaaDoor
open Go.ChangeShapes Go.WideShapes Go.ChangeAt Go.RowKit
attribute [local go_sem ↓] Go.wp_at_zero Go.wp_at_succ

/-- k multiplications by a number, each rounded. -/
def pwN (s a e : Int) : Nat → Int → Int → Res
  | 0, M, E => ⟨M, E, 0⟩
  | k + 1, M, E => if (mRes s 0 M E a e).X = 0 then pwN s a e k (mRes s 0 M E a e).M (mRes s 0 M E a e).E else ⟨0, 0, (mRes s 0 M E a e).X⟩
theorem pwN_zero (s a e M E : Int) : pwN s a e 0 M E = ⟨M, E, 0⟩ := rfl
theorem pwN_step {s a e M E M' E' : Int} {k : Nat} (h : mRes s 0 M E a e = ⟨M', E', 0⟩) : pwN s a e (k + 1) M E = pwN s a e k M' E' := by
  show (if (mRes s 0 M E a e).X = 0 then _ else _) = _
  rw [h]
  rfl
theorem pwN_stop {s a e M E M' E' X : Int} {k : Nat} (h : mRes s 0 M E a e = ⟨M', E', X⟩) (hx : X ≠ 0) : pwN s a e (k + 1) M E = ⟨0, 0, X⟩ := by
  show (if (mRes s 0 M E a e).X = 0 then _ else _) = _
  rw [h, if_neg hx]
theorem pwN_bd (s a e : Int) (k : Nat) : ∀ M E, Bd ⟨M, E, 0⟩ → Bd (pwN s a e k M E) := by
  induction k with
  | zero => intro M E h; exact h
  | succ k ih =>
    intro M E _
    obtain ⟨⟨M', E', X'⟩, h⟩ : ∃ r, mRes s 0 M E a e = r := ⟨_, rfl⟩
    have hb := bd_m s 0 M E a e
    rw [h] at hb
    by_cases hx : X' = 0
    · subst hx
      rw [pwN_step h]
      exact ih M' E' hb
    · rw [pwN_stop h hx]
      exact bd_zero _
def PmRel (s a e : Int) (n : Nat) (r : Res) (w : World) (i : Value) (wr : World) : Prop :=
  ∃ (k : Nat) (M E : Int), i = .int .i64 (k : Int) ∧ k ≤ n ∧ Hid (pwN s a e (n - k) M E = r) ∧ Hid (Bd ⟨M, E, 0⟩) ∧ Hid (Inv w [(w.heap.size, 29, [.int .i64 M, .int .i64 E]), (w.heap.size + 1, 29, [.int .i64 a, .int .i64 e]), (w.heap.size + 1 + 1, 29, [.int .i64 0, .int .i64 0])] wr)
set_option maxRecDepth 100000 in
set_option maxHeartbeats 8000000 in
theorem multiply_any (s M0 E0 a e : Int) (n : Nat) (r : Res) (w : World) (ht : Tab w) (la : -9223372036854775808 ≤ a) (ha : a ≤ 9223372036854775807) (hn : n ≤ 1000) (hb0 : Bd ⟨M0, E0, 0⟩) (hr : pwN s a e n M0 E0 = r) :
    Calls Tryd.prog 61 #[.int .i64 s, .agg #[.int .i64 M0, .int .i64 E0], .agg #[.int .i64 a, .int .i64 e], .int .i64 (n : Int)] w fun x w' => x = .returned (.tuple #[.agg #[.int .i64 r.M, .int .i64 r.E], .int .i64 r.X]) ∧ Kept w w' := by
  have hlt := ht.lt
  have hlt0 := ht.lt0
  have HB := Lib.hid (And.intro la ha)
  have HB0 := Lib.hid hb0
  have HR := Lib.hid hr
  clear la ha hb0 hr
  go_enter Tryd.func61, Tryd.ntmps61
  go_wp2_with fail
  go_loopw [12] (PmRel s a e n r w) (fun i _ => n - (intOf i).toNat)
  case atStart => exact ⟨0, M0, E0, rfl, Nat.zero_le _, HR, HB0, Lib.hid (Inv.three ht 29 [.int .i64 M0, .int .i64 E0] 29 [.int .i64 a, .int .i64 e] 29 [.int .i64 0, .int .i64 0])⟩
  case round =>
    obtain ⟨k, M, E, rfl, hk, hp, hbd, HI⟩ := hrel
    have hI := HI.out
    (have p0 : wr.cell? ⟨w.heap.size, 0, none⟩ = some (.int .i64 M) := (hI.own 0 _ rfl).cell 0; have p1 : wr.cell? ⟨w.heap.size, 1, none⟩ = some (.int .i64 E) := (hI.own 0 _ rfl).cell 1; have pf := fun i => (hI.own 0 _ rfl).frozen i; have pl : w.heap.size < wr.heap.size := (hI.own 0 _ rfl).lt)
    (have x0 : wr.cell? ⟨w.heap.size + 1, 0, none⟩ = some (.int .i64 a) := (hI.own 1 _ rfl).cell 0; have x1 : wr.cell? ⟨w.heap.size + 1, 1, none⟩ = some (.int .i64 e) := (hI.own 1 _ rfl).cell 1; have xf := fun i => (hI.own 1 _ rfl).frozen i; have xl : w.heap.size + 1 < wr.heap.size := (hI.own 1 _ rfl).lt)
    (have z0 : wr.cell? ⟨w.heap.size + 1 + 1, 0, none⟩ = some (.int .i64 0) := (hI.own 2 _ rfl).cell 0; have z1 : wr.cell? ⟨w.heap.size + 1 + 1, 1, none⟩ = some (.int .i64 0) := (hI.own 2 _ rfl).cell 1; have zf := fun i => (hI.own 2 _ rfl).frozen i; have zl : w.heap.size + 1 + 1 < wr.heap.size := (hI.own 2 _ rfl).lt)
    have hkr := hI.kept
    have htr := hkr.1
    have hzr := hkr.2.size
    clear hI
    by_cases hkn : k < n
    · have hkn' : (k : Int) < (n : Int) := by omega
      obtain ⟨⟨M2, E2, X2⟩, h2⟩ : ∃ r, mRes s 0 M E a e = r := ⟨_, rfl⟩
      have hb2 := bd_m s 0 M E a e
      rw [h2] at hb2
      have HB2 := Lib.hid hb2
      have HM := Lib.hid (fun w ht => gives_out2 h2 (mul_any s 0 M E a e w ht hbd.out.1 hbd.out.2.1 HB.out.1 HB.out.2))
      by_cases hx : X2 = 0
      · subst hx
        have HP2 : Hid (pwN s a e (n - (k + 1)) M2 E2 = r) := Lib.hid (by
          have := hp.out
          rw [show n - k = (n - (k + 1)) + 1 by omega, pwN_step h2] at this
          exact this)
        clear h2 hb2
        go_wp2_with (first | (go_at_call 19; (with_reducible refine (HM.out _ (by repeat' (first | (with_reducible assumption) | (with_reducible refine Tab.alloc ?_ _) | (with_reducible refine Tab.drew ?_) | (with_reducible refine Tab.drewN ?_ _) | (with_reducible refine Tab.setCell ?_ ?_ ?_ _) | omega | (simp; done) | (simp; omega)))).mono ?_); rintro e w2 ⟨rfl, hk2⟩; obtain ⟨hc2, hf2⟩ := bcell hk2.2; have ht2 := hk2.1; have hz2 := hk2.2.size; (try simp only [World.size_alloc] at hz2); (try simp only [sz_drew] at hz2); (try simp only [sz_drewN] at hz2); (try simp only [World.size_alloc] at hz2); (try simp only [sz_drew] at hc2 hf2); (try simp only [sz_drewN] at hc2 hf2); (try have hw2 : w.heap.size < w2.heap.size := by omega); (try have hv2 : w.heap.size + 1 < w2.heap.size := by omega); (try have hu2 : w.heap.size + 2 < w2.heap.size := by omega)))
        have hI2 := HI.out.call hk2
        have hI3 := hI2.put 0 rfl 0 (.int .i64 M2) (by simp; omega) (by simp) (by omega) (by omega)
        have hI4 := hI3.put 0 rfl 1 (.int .i64 E2) (by simp; omega) (by simp) (by omega) (by omega)
        have HI4 := Lib.hid hI4
        clear hI2 hI3 hI4
        go_roundw
        case rel => exact ⟨k + 1, M2, E2, by go_num, by omega, HP2, HB2, HI4⟩
        case measure => simp [intOf]; omega
      · have hxb : (X2 != 0) = true := by simpa using hx
        have HV : Hid (r = ⟨0, 0, X2⟩) := Lib.hid (by
          have := hp.out
          rw [show n - k = (n - (k + 1)) + 1 by omega, pwN_stop h2 hx] at this
          exact this.symm)
        clear h2 hb2 hx
        go_wp2_with (first | (go_at_call 19; (with_reducible refine (HM.out _ (by repeat' (first | (with_reducible assumption) | (with_reducible refine Tab.alloc ?_ _) | (with_reducible refine Tab.drew ?_) | (with_reducible refine Tab.drewN ?_ _) | (with_reducible refine Tab.setCell ?_ ?_ ?_ _) | omega | (simp; done) | (simp; omega)))).mono ?_); rintro e w2 ⟨rfl, hk2⟩; obtain ⟨hc2, hf2⟩ := bcell hk2.2; have ht2 := hk2.1; have hz2 := hk2.2.size; (try simp only [World.size_alloc] at hz2); (try simp only [sz_drew] at hz2); (try simp only [sz_drewN] at hz2); (try simp only [World.size_alloc] at hz2); (try simp only [sz_drew] at hc2 hf2); (try simp only [sz_drewN] at hc2 hf2); (try have hw2 : w.heap.size < w2.heap.size := by omega); (try have hv2 : w.heap.size + 1 < w2.heap.size := by omega); (try have hu2 : w.heap.size + 2 < w2.heap.size := by omega)))
        have hI2 := HI.out.call hk2
        have hI3 := hI2.put 0 rfl 0 (.int .i64 M2) (by simp; omega) (by simp) (by omega) (by omega)
        have hI4 := hI3.put 0 rfl 1 (.int .i64 E2) (by simp; omega) (by simp) (by omega) (by omega)
        have hF := ((hI4.own 2 _ rfl).put 0 (.int .i64 0)).put 1 (.int .i64 0)
        refine bodyPost_ret (ret_own_tmp rfl hF rfl Tryd.underlying29 rfl (by kernel_rfl)) rfl ?_
        exact ⟨by have h := HV.out; subst h; rfl, (by repeat' (first | (with_reducible assumption) | (with_reducible exact Kept.refl ht) | (with_reducible refine Kept.alloc ?_ _) | (with_reducible refine Kept.drew ?_) | (with_reducible refine Kept.drewN ?_ _) | (with_reducible refine Kept.setCell ?_ ?_ _ ?_ ?_) | (with_reducible refine Kept.trans ?_ (by assumption)) | omega | (simp; done) | (simp; omega)))⟩
    · obtain rfl : k = n := by omega
      have HV : Hid (r = ⟨M, E, 0⟩) := Lib.hid (by have := hp.out; rw [Nat.sub_self, pwN_zero] at this; exact this.symm)
      go_wp2_with fail
      have hF := ((HI.out.own 2 _ rfl).put 0 (.int .i64 M)).put 1 (.int .i64 E)
      refine bodyPost_ret (ret_own_tmp rfl hF rfl Tryd.underlying29 rfl (by kernel_rfl)) rfl ?_
      exact ⟨by have h := HV.out; subst h; rfl, (by repeat' (first | (with_reducible assumption) | (with_reducible exact Kept.refl ht) | (with_reducible refine Kept.alloc ?_ _) | (with_reducible refine Kept.drew ?_) | (with_reducible refine Kept.drewN ?_ _) | (with_reducible refine Kept.setCell ?_ ?_ _ ?_ ?_) | (with_reducible refine Kept.trans ?_ (by assumption)) | omega | (simp; done) | (simp; omega)))⟩
def pwR (s a e n : Int) : Res :=
  okOr (ckR s 0 [(a, e)]) (if n < -1000 ∨ 1000 < n then ⟨0, 0, 11⟩ else if n < 0 then (if (pwN s a e n.natAbs 1 0).X = 0 then dRes s 0 1 0 (pwN s a e n.natAbs 1 0).M (pwN s a e n.natAbs 1 0).E else ⟨0, 0, (pwN s a e n.natAbs 1 0).X⟩) else pwN s a e n.natAbs 1 0)
theorem bd_one : Bd ⟨1, 0, 0⟩ := by unfold Bd; simp
set_option maxRecDepth 100000 in
set_option maxHeartbeats 8000000 in
theorem pow_far (s a e n : Int) (w : World) (ht : Tab w) (hc : ckR s 0 [(a, e)] = 0) (hn : n < -1000 ∨ 1000 < n) :
    Calls Tryd.prog 29 #[.int .i64 s, .agg #[.int .i64 a, .int .i64 e], .int .i64 n] w fun x w' => x = .returned (.tuple #[.agg #[.int .i64 0, .int .i64 0], .int .i64 11]) ∧ Kept w w' := by
  have hlt := ht.lt
  have hlt0 := ht.lt0
  obtain ⟨_, v1⟩ := ck1_facts hc
  obtain ⟨_, _, _, _, a4, a5⟩ := vld_facts v1
  have hck := fun o1 o2 => check_one s 0 a e w ht o1 o2 (by omega) (by omega)
  rw [hc] at hck
  have HC := Lib.hid hck
  clear hck hc v1
  have hn2 : (n < -1000) ∨ (¬ n < -1000 ∧ 1000 < n) := by omega
  clear hn
  rcases hn2 with hn | ⟨hn, hn'⟩
  all_goals
    go_enter Tryd.func29, Tryd.ntmps29
    go_wp2_with (first | (go_at_call 45; (with_reducible refine (HC.out _ _).mono ?_); rintro e w1 ⟨rfl, hk1⟩; obtain ⟨hc1, hf1⟩ := bcell hk1.2; have ht1 := hk1.1; have hz1 := hk1.2.size; (try simp only [World.size_alloc] at hz1); (try simp only [sz_drew] at hz1); (try simp only [sz_drewN] at hz1); (try simp only [World.size_alloc] at hz1); (try simp only [sz_drew] at hc1 hf1); (try simp only [sz_drewN] at hc1 hf1); (try have hw1 : w.heap.size < w1.heap.size := by omega); (try have hv1 : w.heap.size + 1 < w1.heap.size := by omega); (try have hu1 : w.heap.size + 2 < w1.heap.size := by omega)))
    have hI := ((Inv.two ht 29 [.int .i64 a, .int .i64 e] 29 [.int .i64 0, .int .i64 0]).alloc _).call hk1
    have hF := ((hI.own 1 _ rfl).put 0 (.int .i64 0)).put 1 (.int .i64 0)
    refine bodyPost_ret (ret_own_tmp rfl hF rfl Tryd.underlying29 rfl (by kernel_rfl)) rfl ?_
    exact ⟨rfl, (by repeat' (first | (with_reducible assumption) | (with_reducible exact Kept.refl ht) | (with_reducible refine Kept.alloc ?_ _) | (with_reducible refine Kept.drew ?_) | (with_reducible refine Kept.drewN ?_ _) | (with_reducible refine Kept.setCell ?_ ?_ _ ?_ ?_) | (with_reducible refine Kept.trans ?_ (by assumption)) | omega | (simp; done) | (simp; omega)))⟩
set_option maxRecDepth 100000 in
set_option maxHeartbeats 8000000 in
theorem rpow_far (s a e n : Int) (w : World) (ht : Tab w) (hc : ckR s 0 [(a, e)] = 0) (hn : n < -1000 ∨ 1000 < n) :
    Calls Tryd.prog 30 #[.int .i64 s, .agg #[.int .i64 a, .int .i64 e], .int .i64 n] w fun x w' => x = .returned (.tuple #[.agg #[.int .i64 0, .int .i64 0], .int .i64 11]) ∧ Kept w w' := by
  have hlt := ht.lt
  have hlt0 := ht.lt0
  obtain ⟨_, v1⟩ := ck1_facts hc
  obtain ⟨_, _, _, _, a4, a5⟩ := vld_facts v1
  have hck := fun w ht => right_one s 0 a e w ht (by omega) (by omega)
  rw [hc] at hck
  have HC := Lib.hid hck
  clear hck hc v1
  have hn2 : (n < -1000) ∨ (¬ n < -1000 ∧ 1000 < n) := by omega
  clear hn
  rcases hn2 with hn | ⟨hn, hn'⟩
  all_goals
    go_enter Tryd.func30, Tryd.ntmps30
    go_wp2_with (first | (go_at_call 48; (with_reducible refine (HC.out _ (by repeat' (first | (with_reducible assumption) | (with_reducible refine Tab.alloc ?_ _) | (with_reducible refine Tab.drew ?_) | (with_reducible refine Tab.drewN ?_ _) | (with_reducible refine Tab.setCell ?_ ?_ ?_ _) | omega | (simp; done) | (simp; omega)))).mono ?_); rintro e w1 ⟨rfl, hk1⟩; obtain ⟨hc1, hf1⟩ := bcell hk1.2; have ht1 := hk1.1; have hz1 := hk1.2.size; (try simp only [World.size_alloc] at hz1); (try simp only [sz_drew] at hz1); (try simp only [sz_drewN] at hz1); (try simp only [World.size_alloc] at hz1); (try simp only [sz_drew] at hc1 hf1); (try simp only [sz_drewN] at hc1 hf1); (try have hw1 : w.heap.size < w1.heap.size := by omega); (try have hv1 : w.heap.size + 1 < w1.heap.size := by omega); (try have hu1 : w.heap.size + 2 < w1.heap.size := by omega)))
    have hI := ((Inv.two ht 29 [.int .i64 a, .int .i64 e] 29 [.int .i64 0, .int .i64 0])).call hk1
    have hF := ((hI.own 1 _ rfl).put 0 (.int .i64 0)).put 1 (.int .i64 0)
    refine bodyPost_ret (ret_own_tmp rfl hF rfl Tryd.underlying29 rfl (by kernel_rfl)) rfl ?_
    exact ⟨rfl, (by repeat' (first | (with_reducible assumption) | (with_reducible exact Kept.refl ht) | (with_reducible refine Kept.alloc ?_ _) | (with_reducible refine Kept.drew ?_) | (with_reducible refine Kept.drewN ?_ _) | (with_reducible refine Kept.setCell ?_ ?_ _ ?_ ?_) | (with_reducible refine Kept.trans ?_ (by assumption)) | omega | (simp; done) | (simp; omega)))⟩
end Go.Proofs.YtamkajckaomdlaaDoor
