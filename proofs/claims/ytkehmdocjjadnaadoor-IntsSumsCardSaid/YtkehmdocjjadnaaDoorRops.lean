/- What the reference's arithmetic on integers of a size returns, for every size and numbers. No condition. -/
import Derived.Test.YtkehmdocjjadnaaDoorCkA
namespace Go.Proofs.YtkehmdocjjadnaaDoor
open Go.ChangeShapes Go.WideShapes Go.ChangeAt Go.RowKit

theorem neg_eq (s a : Int) : u2 s 0 a (0 - a) = one s a (-a) := by
  cases hs : isSz s
  · rw [u2_no hs, one_no hs]
  · rw [u2_y hs, one_y hs, isI_zero hs, Int.zero_sub]
    cases ha : isI s a
    · rfl
    · rw [fit_y (by rw [isI_neg]; exact ha)]; rfl
theorem rAdd_any (s a b : Int) (w : World) :
    Calls Tryd.prog 32 #[.int .i64 s, .int .i64 a, .int .i64 b] w fun e w' => e = .returned (.tuple #[.int .i64 (u2 s a b (a + b)).1, .int .i64 (u2 s a b (a + b)).2]) ∧ w = w' := by
  cases hs : isSz s
  · rw [u2_no hs]
    have hm := fun ok => ck_no (ok := ok) hs
    go_enter Tryd.func32, Tryd.ntmps32
    go_wp2_with (first | (go_at_call 64; refine (right_any _ _ _ _).mono ?_; rintro e w' ⟨rfl, rfl⟩) | (go_at_call 69; refine (within_any _ _ _).mono ?_; rintro e w' ⟨rfl, rfl⟩))
    go_returns
    exact ⟨by simp, rfl⟩
  · have hm1 := ck_t hs
    have hm2 := ck_f hs
    rcases isI_or s a with ⟨ha, la, ua⟩ | ha <;> rcases isI_or s b with ⟨hb, lb, ub⟩ | hb
    all_goals
      rw [u2_y hs, ha, hb]
      go_enter Tryd.func32, Tryd.ntmps32
      go_wp2_with (first | (go_at_call 64; refine (right_any _ _ _ _).mono ?_; rintro e w' ⟨rfl, rfl⟩) | (go_at_call 69; refine (within_any _ _ _).mono ?_; rintro e w' ⟨rfl, rfl⟩))
      go_returns
      exact ⟨by simp, rfl⟩
theorem rSub_any (s a b : Int) (w : World) :
    Calls Tryd.prog 34 #[.int .i64 s, .int .i64 a, .int .i64 b] w fun e w' => e = .returned (.tuple #[.int .i64 (u2 s a b (a - b)).1, .int .i64 (u2 s a b (a - b)).2]) ∧ w = w' := by
  cases hs : isSz s
  · rw [u2_no hs]
    have hm := fun ok => ck_no (ok := ok) hs
    go_enter Tryd.func34, Tryd.ntmps34
    go_wp2_with (first | (go_at_call 64; refine (right_any _ _ _ _).mono ?_; rintro e w' ⟨rfl, rfl⟩) | (go_at_call 69; refine (within_any _ _ _).mono ?_; rintro e w' ⟨rfl, rfl⟩))
    go_returns
    exact ⟨by simp, rfl⟩
  · have hm1 := ck_t hs
    have hm2 := ck_f hs
    rcases isI_or s a with ⟨ha, la, ua⟩ | ha <;> rcases isI_or s b with ⟨hb, lb, ub⟩ | hb
    all_goals
      rw [u2_y hs, ha, hb]
      go_enter Tryd.func34, Tryd.ntmps34
      go_wp2_with (first | (go_at_call 64; refine (right_any _ _ _ _).mono ?_; rintro e w' ⟨rfl, rfl⟩) | (go_at_call 69; refine (within_any _ _ _).mono ?_; rintro e w' ⟨rfl, rfl⟩))
      go_returns
      exact ⟨by simp, rfl⟩
theorem rMul_any (s a b : Int) (w : World) :
    Calls Tryd.prog 36 #[.int .i64 s, .int .i64 a, .int .i64 b] w fun e w' => e = .returned (.tuple #[.int .i64 (u2 s a b (a * b)).1, .int .i64 (u2 s a b (a * b)).2]) ∧ w = w' := by
  cases hs : isSz s
  · rw [u2_no hs]
    have hm := fun ok => ck_no (ok := ok) hs
    go_enter Tryd.func36, Tryd.ntmps36
    go_wp2_with (first | (go_at_call 64; refine (right_any _ _ _ _).mono ?_; rintro e w' ⟨rfl, rfl⟩) | (go_at_call 11; refine (rMax_any _ _).mono ?_; rintro e w' ⟨rfl, rfl⟩) | (go_at_call 67; refine (abs_any _ _ (by assumption) (by assumption)).mono ?_; rintro e w' ⟨rfl, rfl⟩))
    go_returns
    exact ⟨by simp, rfl⟩
  · have hm1 := ck_t hs
    have hm2 := ck_f hs
    rcases isI_or s a with ⟨ha, la, ua⟩ | ha <;> rcases isI_or s b with ⟨hb, lb, ub⟩ | hb
    · rw [u2_y hs, ha, hb]
      by_cases h0 : a = 0
      · subst h0
        rw [Int.zero_mul, fit_y (isI_zero hs)]
        go_enter Tryd.func36, Tryd.ntmps36
        go_wp2_with (first | (go_at_call 64; refine (right_any _ _ _ _).mono ?_; rintro e w' ⟨rfl, rfl⟩) | (go_at_call 11; refine (rMax_any _ _).mono ?_; rintro e w' ⟨rfl, rfl⟩) | (go_at_call 67; refine (abs_any _ _ (by assumption) (by assumption)).mono ?_; rintro e w' ⟨rfl, rfl⟩))
        go_returns
        exact ⟨by simp, rfl⟩
      · have hb0 : (a == 0) = false := by simpa using h0
        have hb1 : (a != 0) = true := by simpa using h0
        have n1 := mx_nn s
        have n2 := mx_le s
        have m1 : 1 ≤ mag a := by unfold mag; split <;> omega
        have m2 : mag a ≤ 999999999999999999 := by unfold mag; split <;> omega
        have hd0 := Int.ediv_nonneg n1 (by omega : 0 ≤ mag a)
        have hd1 : mx s / mag a ≤ mx s := Int.ediv_le_self _ n1
        have hm0 : (mag a == 0) = false := by rw [beq_eq_false_iff_ne]; omega
        have hdv : (mx s).tdiv (mag a) = mx s / mag a := Int.tdiv_eq_ediv_of_nonneg n1
        have hwr : IntKind.i64.wrap (mx s / mag a) = mx s / mag a := IntWalk.i64_in _ (by omega)
        cases hi : isI s (a * b)
        · have hlt : mx s / mag a < mag b := by
            have := mul_fits (a := b) hs h0
            rw [Int.mul_comm, hi] at this
            simpa using this
          rw [fit_n hi]
          go_enter Tryd.func36, Tryd.ntmps36
          go_wp2_with (first | (go_at_call 64; refine (right_any _ _ _ _).mono ?_; rintro e w' ⟨rfl, rfl⟩) | (go_at_call 11; refine (rMax_any _ _).mono ?_; rintro e w' ⟨rfl, rfl⟩) | (go_at_call 67; refine (abs_any _ _ (by assumption) (by assumption)).mono ?_; rintro e w' ⟨rfl, rfl⟩))
          go_returns
          exact ⟨by simp, rfl⟩
        · have hle : ¬ mx s / mag a < mag b := by
            have := (mul_fits (a := b) hs h0).1 (by rw [Int.mul_comm]; exact hi)
            omega
          have hv := (isI_iff hs).1 hi
          have hv1 : -999999999999999999 ≤ a * b := by omega
          have hv2 : a * b ≤ 999999999999999999 := by omega
          rw [fit_y hi]
          go_enter Tryd.func36, Tryd.ntmps36
          go_wp2_with (first | (go_at_call 64; refine (right_any _ _ _ _).mono ?_; rintro e w' ⟨rfl, rfl⟩) | (go_at_call 11; refine (rMax_any _ _).mono ?_; rintro e w' ⟨rfl, rfl⟩) | (go_at_call 67; refine (abs_any _ _ (by assumption) (by assumption)).mono ?_; rintro e w' ⟨rfl, rfl⟩))
          go_returns
          exact ⟨by simp, rfl⟩
    all_goals
      rw [u2_y hs, ha, hb]
      go_enter Tryd.func36, Tryd.ntmps36
      go_wp2_with (first | (go_at_call 64; refine (right_any _ _ _ _).mono ?_; rintro e w' ⟨rfl, rfl⟩) | (go_at_call 11; refine (rMax_any _ _).mono ?_; rintro e w' ⟨rfl, rfl⟩) | (go_at_call 67; refine (abs_any _ _ (by assumption) (by assumption)).mono ?_; rintro e w' ⟨rfl, rfl⟩))
      go_returns
      exact ⟨by simp, rfl⟩
theorem rOver_any (s a b : Int) (w : World) :
    Calls Tryd.prog 38 #[.int .i64 s, .int .i64 a, .int .i64 b] w fun e w' => e = .returned (.tuple #[.int .i64 (d2 s a b (a.tdiv b)).1, .int .i64 (d2 s a b (a.tdiv b)).2]) ∧ w = w' := by
  cases hs : isSz s
  · rw [d2_no hs]
    have hm := fun ok => ck_no (ok := ok) hs
    go_enter Tryd.func38, Tryd.ntmps38
    go_wp2_with (first | (go_at_call 64; refine (right_any _ _ _ _).mono ?_; rintro e w' ⟨rfl, rfl⟩))
    go_returns
    exact ⟨by simp, rfl⟩
  · have hm1 := ck_t hs
    have hm2 := ck_f hs
    rcases isI_or s a with ⟨ha, la, ua⟩ | ha <;> rcases isI_or s b with ⟨hb, lb, ub⟩ | hb
    · by_cases h0 : b = 0
      · subst h0
        rw [d2_z hs ha hb rfl]
        go_enter Tryd.func38, Tryd.ntmps38
        go_wp2_with (first | (go_at_call 64; refine (right_any _ _ _ _).mono ?_; rintro e w' ⟨rfl, rfl⟩))
        go_returns
        exact ⟨by simp, rfl⟩
      · have hb0 : (b == 0) = false := by simpa using h0
        rw [d2_nz hs ha hb h0]
        obtain ⟨q1, q2⟩ := tdiv_bd (b := b) la ua
        go_enter Tryd.func38, Tryd.ntmps38
        go_wp2_with (first | (go_at_call 64; refine (right_any _ _ _ _).mono ?_; rintro e w' ⟨rfl, rfl⟩))
        go_returns
        exact ⟨by simp, rfl⟩
    all_goals
      rw [d2_n hs (by simp [ha, hb])]
      go_enter Tryd.func38, Tryd.ntmps38
      go_wp2_with (first | (go_at_call 64; refine (right_any _ _ _ _).mono ?_; rintro e w' ⟨rfl, rfl⟩))
      go_returns
      exact ⟨by simp, rfl⟩
theorem rMod_any (s a b : Int) (w : World) :
    Calls Tryd.prog 40 #[.int .i64 s, .int .i64 a, .int .i64 b] w fun e w' => e = .returned (.tuple #[.int .i64 (d2 s a b (modV a b)).1, .int .i64 (d2 s a b (modV a b)).2]) ∧ w = w' := by
  cases hs : isSz s
  · rw [d2_no hs]
    have hm := fun ok => ck_no (ok := ok) hs
    go_enter Tryd.func40, Tryd.ntmps40
    go_wp2_with (first | (go_at_call 64; refine (right_any _ _ _ _).mono ?_; rintro e w' ⟨rfl, rfl⟩) | (go_at_call 67; refine (abs_any _ _ (by assumption) (by assumption)).mono ?_; rintro e w' ⟨rfl, rfl⟩))
    go_returns
    exact ⟨by simp, rfl⟩
  · have hm1 := ck_t hs
    have hm2 := ck_f hs
    rcases isI_or s a with ⟨ha, la, ua⟩ | ha <;> rcases isI_or s b with ⟨hb, lb, ub⟩ | hb
    · by_cases h0 : b = 0
      · subst h0
        rw [d2_z hs ha hb rfl]
        go_enter Tryd.func40, Tryd.ntmps40
        go_wp2_with (first | (go_at_call 64; refine (right_any _ _ _ _).mono ?_; rintro e w' ⟨rfl, rfl⟩) | (go_at_call 67; refine (abs_any _ _ (by assumption) (by assumption)).mono ?_; rintro e w' ⟨rfl, rfl⟩))
        go_returns
        exact ⟨by simp, rfl⟩
      · have hb0 : (b == 0) = false := by simpa using h0
        rw [d2_nz hs ha hb h0]
        obtain ⟨q1, q2⟩ := tmod_bd (a := a) h0
        have q3 : -999999999999999999 ≤ a.tmod b := by omega
        have q4 : a.tmod b ≤ 999999999999999999 := by omega
        clear q1 q2
        by_cases hn : a.tmod b < 0
        · rw [modV_neg hn]
          have m1 := mag_nn b
          have m2 : mag b ≤ 999999999999999999 := by unfold mag; split <;> omega
          go_enter Tryd.func40, Tryd.ntmps40
          go_wp2_with (first | (go_at_call 64; refine (right_any _ _ _ _).mono ?_; rintro e w' ⟨rfl, rfl⟩) | (go_at_call 67; refine (abs_any _ _ (by assumption) (by assumption)).mono ?_; rintro e w' ⟨rfl, rfl⟩))
          go_returns
          exact ⟨by simp, rfl⟩
        · rw [modV_pos hn]
          go_enter Tryd.func40, Tryd.ntmps40
          go_wp2_with (first | (go_at_call 64; refine (right_any _ _ _ _).mono ?_; rintro e w' ⟨rfl, rfl⟩) | (go_at_call 67; refine (abs_any _ _ (by assumption) (by assumption)).mono ?_; rintro e w' ⟨rfl, rfl⟩))
          go_returns
          exact ⟨by simp, rfl⟩
    all_goals
      rw [d2_n hs (by simp [ha, hb])]
      go_enter Tryd.func40, Tryd.ntmps40
      go_wp2_with (first | (go_at_call 64; refine (right_any _ _ _ _).mono ?_; rintro e w' ⟨rfl, rfl⟩) | (go_at_call 67; refine (abs_any _ _ (by assumption) (by assumption)).mono ?_; rintro e w' ⟨rfl, rfl⟩))
      go_returns
      exact ⟨by simp, rfl⟩
theorem rNeg_any (s a : Int) (w : World) :
    Calls Tryd.prog 22 #[.int .i64 s, .int .i64 a] w fun e w' => e = .returned (.tuple #[.int .i64 (one s a (-a)).1, .int .i64 (one s a (-a)).2]) ∧ w = w' := by
  rw [← neg_eq]
  go_enter Tryd.func22, Tryd.ntmps22
  go_wp2_with (first | (go_at_call 34; refine (rSub_any _ _ _ _).mono ?_; rintro e w' ⟨rfl, rfl⟩))
  go_returns
  exact ⟨by simp, rfl⟩
theorem rAbs_any (s a : Int) (w : World) :
    Calls Tryd.prog 24 #[.int .i64 s, .int .i64 a] w fun e w' => e = .returned (.tuple #[.int .i64 (one s a (mag a)).1, .int .i64 (one s a (mag a)).2]) ∧ w = w' := by
  cases hs : isSz s
  · rw [one_no hs]
    have hm := fun ok => ck_no (ok := ok) hs
    go_enter Tryd.func24, Tryd.ntmps24
    go_wp2_with (first | (go_at_call 64; refine (right_any _ _ _ _).mono ?_; rintro e w' ⟨rfl, rfl⟩) | (go_at_call 67; refine (abs_any _ _ (by assumption) (by assumption)).mono ?_; rintro e w' ⟨rfl, rfl⟩))
    go_returns
    exact ⟨by simp, rfl⟩
  · have hm1 := ck_t hs
    have hm2 := ck_f hs
    have hz := isI_zero hs
    rcases isI_or s a with ⟨ha, la, ua⟩ | ha
    all_goals
      rw [one_y hs, ha]
      go_enter Tryd.func24, Tryd.ntmps24
      go_wp2_with (first | (go_at_call 64; refine (right_any _ _ _ _).mono ?_; rintro e w' ⟨rfl, rfl⟩) | (go_at_call 67; refine (abs_any _ _ (by assumption) (by assumption)).mono ?_; rintro e w' ⟨rfl, rfl⟩))
      go_returns
      exact ⟨by simp, rfl⟩
theorem rSign_any (s a : Int) (w : World) :
    Calls Tryd.prog 26 #[.int .i64 s, .int .i64 a] w fun e w' => e = .returned (.tuple #[.int .i64 (one s a (sgn a)).1, .int .i64 (one s a (sgn a)).2]) ∧ w = w' := by
  cases hs : isSz s
  · rw [one_no hs]
    have hm := fun ok => ck_no (ok := ok) hs
    go_enter Tryd.func26, Tryd.ntmps26
    go_wp2_with (first | (go_at_call 64; refine (right_any _ _ _ _).mono ?_; rintro e w' ⟨rfl, rfl⟩))
    go_returns
    exact ⟨by simp, rfl⟩
  · have hm1 := ck_t hs
    have hm2 := ck_f hs
    have hz := isI_zero hs
    rcases isI_or s a with ⟨ha, la, ua⟩ | ha
    · rw [one_y hs, ha]
      rcases (by omega : a < 0 ∨ a = 0 ∨ 0 < a) with h | rfl | h
      · rw [sgn_neg h]
        go_enter Tryd.func26, Tryd.ntmps26
        go_wp2_with (first | (go_at_call 64; refine (right_any _ _ _ _).mono ?_; rintro e w' ⟨rfl, rfl⟩))
        go_returns
        exact ⟨by simp, rfl⟩
      · rw [sgn_z]
        go_enter Tryd.func26, Tryd.ntmps26
        go_wp2_with (first | (go_at_call 64; refine (right_any _ _ _ _).mono ?_; rintro e w' ⟨rfl, rfl⟩))
        go_returns
        exact ⟨by simp, rfl⟩
      · rw [sgn_pos h]
        have h' : ¬ a < 0 := by omega
        go_enter Tryd.func26, Tryd.ntmps26
        go_wp2_with (first | (go_at_call 64; refine (right_any _ _ _ _).mono ?_; rintro e w' ⟨rfl, rfl⟩))
        go_returns
        exact ⟨by simp, rfl⟩
    · rw [one_y hs, ha]
      go_enter Tryd.func26, Tryd.ntmps26
      go_wp2_with (first | (go_at_call 64; refine (right_any _ _ _ _).mono ?_; rintro e w' ⟨rfl, rfl⟩))
      go_returns
      exact ⟨by simp, rfl⟩
theorem rOdd_any (s a : Int) (w : World) :
    Calls Tryd.prog 19 #[.int .i64 s, .int .i64 a] w fun e w' => e = .returned (.tuple #[.bool (od s a).1, .int .i64 (od s a).2]) ∧ w = w' := by
  cases hs : isSz s
  · rw [od_no hs]
    have hm := fun ok => ck_no (ok := ok) hs
    go_enter Tryd.func19, Tryd.ntmps19
    go_wp2_with (first | (go_at_call 64; refine (right_any _ _ _ _).mono ?_; rintro e w' ⟨rfl, rfl⟩))
    go_returns
    exact ⟨by simp, rfl⟩
  · have hm1 := ck_t hs
    have hm2 := ck_f hs
    have hz := isI_zero hs
    rcases isI_or s a with ⟨ha, la, ua⟩ | ha
    all_goals
      rw [od_y hs, ha]
      go_enter Tryd.func19, Tryd.ntmps19
      go_wp2_with (first | (go_at_call 64; refine (right_any _ _ _ _).mono ?_; rintro e w' ⟨rfl, rfl⟩))
      go_returns
      exact ⟨by simp [odd_eq], rfl⟩
theorem rLeng_any (s a : Int) (w : World) :
    Calls Tryd.prog 28 #[.int .i64 s, .int .i64 a] w fun e w' => e = .returned (.tuple #[.int .i64 (leng s a).1, .int .i64 (leng s a).2]) ∧ w = w' := by
  by_cases h1 : s = 1
  · subst h1
    rw [leng_x]
    go_enter Tryd.func28, Tryd.ntmps28
    go_wp2_with (first | (go_at_call 64; refine (right_any _ _ _ _).mono ?_; rintro e w' ⟨rfl, rfl⟩))
    go_returns
    exact ⟨by simp, rfl⟩
  · have h2 : (s == 1) = false := by simpa using h1
    cases hs : isSz s
    · rw [leng_no h1 hs]
      have hm := fun ok => ck_no (ok := ok) hs
      go_enter Tryd.func28, Tryd.ntmps28
      go_wp2_with (first | (go_at_call 64; refine (right_any _ _ _ _).mono ?_; rintro e w' ⟨rfl, rfl⟩))
      go_returns
      exact ⟨by simp, rfl⟩
    · have hm1 := ck_t hs
      have hm2 := ck_f hs
      have hs1 := isSz_bd hs
      have hz := isI_zero hs
      rcases isI_or s a with ⟨ha, la, ua⟩ | ha
      all_goals
        rw [leng_y h1 hs, ha]
        go_enter Tryd.func28, Tryd.ntmps28
        go_wp2_with (first | (go_at_call 64; refine (right_any _ _ _ _).mono ?_; rintro e w' ⟨rfl, rfl⟩))
        go_returns
        exact ⟨by simp, rfl⟩
theorem rShorten_any (s a : Int) (w : World) :
    Calls Tryd.prog 30 #[.int .i64 s, .int .i64 a] w fun e w' => e = .returned (.tuple #[.int .i64 (shorten s a).1, .int .i64 (shorten s a).2]) ∧ w = w' := by
  by_cases h1 : s = -1
  · subst h1
    rw [shorten_x]
    go_enter Tryd.func30, Tryd.ntmps30
    go_wp2_with (first | (go_at_call 64; refine (right_any _ _ _ _).mono ?_; rintro e w' ⟨rfl, rfl⟩) | (go_at_call 69; refine (within_any _ _ _).mono ?_; rintro e w' ⟨rfl, rfl⟩))
    go_returns
    exact ⟨by simp, rfl⟩
  · have h2 : (s == -1) = false := by simpa using h1
    cases hs : isSz s
    · rw [shorten_no h1 hs]
      have hm := fun ok => ck_no (ok := ok) hs
      go_enter Tryd.func30, Tryd.ntmps30
      go_wp2_with (first | (go_at_call 64; refine (right_any _ _ _ _).mono ?_; rintro e w' ⟨rfl, rfl⟩) | (go_at_call 69; refine (within_any _ _ _).mono ?_; rintro e w' ⟨rfl, rfl⟩))
      go_returns
      exact ⟨by simp, rfl⟩
    · have hm1 := ck_t hs
      have hm2 := ck_f hs
      have hs1 := isSz_bd hs
      have hz := isI_zero hs
      rcases isI_or s a with ⟨ha, la, ua⟩ | ha
      all_goals
        rw [shorten_y h1 hs, ha]
        go_enter Tryd.func30, Tryd.ntmps30
        go_wp2_with (first | (go_at_call 64; refine (right_any _ _ _ _).mono ?_; rintro e w' ⟨rfl, rfl⟩) | (go_at_call 69; refine (within_any _ _ _).mono ?_; rintro e w' ⟨rfl, rfl⟩))
        go_returns
        exact ⟨by simp, rfl⟩
end Go.Proofs.YtkehmdocjjadnaaDoor
