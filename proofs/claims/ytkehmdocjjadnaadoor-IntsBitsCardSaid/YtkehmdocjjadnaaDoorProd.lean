/- What the program's multiplication of two integers of a size returns. Condition: the table holds what its initialiser lays; both are integers of the size. -/
import Derived.Test.YtkehmdocjjadnaaDoorDefs3
namespace Go.Proofs.YtkehmdocjjadnaaDoor
open Go.ChangeShapes Go.WideShapes Go.ChangeAt Go.RowKit

theorem mag_q (a : Int) (w : World) (n : Nat) (lo : -999999999999999999 ≤ a) (hi : a ≤ 999999999999999999) :
    Calls Tryd.prog 66 #[.int .i64 a] (w.drewN n) fun e w' => e = .returned (.int .i64 (mag a)) ∧ ∃ m, w' = w.drewN m :=
  (magnitude_any a _ lo hi).mono fun _ _ ⟨he, hm⟩ => ⟨he, n, hm.symm⟩

theorem product_any (s a b : Int) (w : World) (ht : Tab w) (hs : isSz s = true) (la : -999999999999999999 ≤ a) (ua : a ≤ 999999999999999999) (lb : -999999999999999999 ≤ b) (ub : b ≤ 999999999999999999) :
    Calls Tryd.prog 70 #[.int .i64 s, .int .i64 a, .int .i64 b] w fun e w' => e = .returned (.tuple #[.int .i64 (fit s (a * b)).1, .int .i64 (fit s (a * b)).2]) ∧ Kept w w' := by
  have hlt := ht.lt
  have n1 := mx_nn s
  have n2 := mx_le s
  by_cases hb : b = 0
  · subst hb
    rw [Int.mul_zero, fit_y (isI_zero hs)]
    go_enter Tryd.func70, Tryd.ntmps70
    go_wp2_with (first | (go_at_call 61; refine (limits_any _ _ (by assumption)).mono ?_; rintro e w1 ⟨rfl, hk1⟩; obtain ⟨hc1, hf1⟩ := bcell hk1.2; have ht1 := hk1.1; have hz1 := hk1.2.size))
    go_quiet ((go_at_call 66; exact mag_q _ _ _ (by omega) (by omega)))
    go_wp2
    go_returns
    exact ⟨by simp, ((hk1.alloc _ _).drewN _)⟩
  · have hb0 : (b == 0) = false := by simpa using hb
    have hb1 : (b != 0) = true := by simpa using hb
    have m1 : 1 ≤ mag b := by unfold mag; split <;> omega
    have m2 : mag b ≤ 999999999999999999 := by unfold mag; split <;> omega
    have hd0 := Int.ediv_nonneg n1 (by omega : 0 ≤ mag b)
    have hd1 : mx s / mag b ≤ mx s := Int.ediv_le_self _ n1
    have hm0 : (mag b == 0) = false := by rw [beq_eq_false_iff_ne]; omega
    have hdv : (mx s).tdiv (mag b) = mx s / mag b := Int.tdiv_eq_ediv_of_nonneg n1
    have hwr : IntKind.i64.wrap (mx s / mag b) = mx s / mag b := IntWalk.i64_in _ (by omega)
    cases hi : isI s (a * b)
    · have hlt : mx s / mag b < mag a := by
        have := mul_fits (a := a) hs hb
        rw [hi] at this
        simpa using this
      rw [fit_n hi]
      go_enter Tryd.func70, Tryd.ntmps70
      go_wp2_with (first | (go_at_call 61; refine (limits_any _ _ (by assumption)).mono ?_; rintro e w1 ⟨rfl, hk1⟩; obtain ⟨hc1, hf1⟩ := bcell hk1.2; have ht1 := hk1.1; have hz1 := hk1.2.size))
      go_quiet ((go_at_call 66; exact mag_q _ _ _ (by omega) (by omega)))
      go_outline
      go_wp2
      go_returns
      exact ⟨rfl, ((hk1.alloc _ _).drewN _)⟩
    · have hle : ¬ mx s / mag b < mag a := by
        have := (mul_fits (a := a) hs hb).1 hi
        omega
      have hv := (isI_iff hs).1 hi
      have hv1 : -999999999999999999 ≤ a * b := by omega
      have hv2 : a * b ≤ 999999999999999999 := by omega
      rw [fit_y hi]
      go_enter Tryd.func70, Tryd.ntmps70
      go_wp2_with (first | (go_at_call 61; refine (limits_any _ _ (by assumption)).mono ?_; rintro e w1 ⟨rfl, hk1⟩; obtain ⟨hc1, hf1⟩ := bcell hk1.2; have ht1 := hk1.1; have hz1 := hk1.2.size))
      go_quiet ((go_at_call 66; exact mag_q _ _ _ (by omega) (by omega)))
      go_outline
      go_wp2
      go_returns
      exact ⟨rfl, ((hk1.alloc _ _).drewN _)⟩
end Go.Proofs.YtkehmdocjjadnaaDoor
