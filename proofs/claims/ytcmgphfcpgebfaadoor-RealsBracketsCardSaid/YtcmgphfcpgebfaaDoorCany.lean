/- The program's comparison of any two reals. Condition: the tables hold what their initialisers lay. -/
import Derived.Test.YtcmgphfcpgebfaaDoorCnear
import Derived.Test.YtcmgphfcpgebfaaDoorOrd
namespace Go.Proofs.YtcmgphfcpgebfaaDoor
open Go.ChangeShapes Go.WideShapes Go.ChangeAt Go.RowKit

theorem cmpmag_ge (a e b f : Int) (w : World) (ht : Tab w) (la : -9223372036854775808 ≤ a) (ha : a ≤ 9223372036854775807) (lb : -9223372036854775808 ≤ b) (hb : b ≤ 9223372036854775807)
    (le : -9223372036854775808 ≤ e) (he : e ≤ 9223372036854775807) (lf : -9223372036854775808 ≤ f) (hf : f ≤ 9223372036854775807) (h : f ≤ e) :
    Calls Tryd.prog 74 #[.agg #[.int .i64 a, .int .i64 e], .agg #[.int .i64 b, .int .i64 f]] w fun x w' => x = .returned (.int .i64 (cmG (mag a) (mag b) (e - f))) ∧ Kept w w' := by
  by_cases hg : 19 < e - f
  · exact cmpmag_far a e b f (e - f) w ht rfl hg (by omega)
  · have hX : cmG (mag a) (mag b) (e - f) = cmpN (mag a * 10 ^ (e - f).toNat) (mag b) := by unfold cmG; rw [if_neg hg]
    rw [hX]
    exact cmpmag_near a e b f (e - f).toNat _ _ w ht la ha lb hb (by omega) (by omega) rfl rfl
theorem cmG_bd (x y : Nat) (g : Int) : -1 ≤ cmG x y g ∧ cmG x y g ≤ 1 := by
  unfold cmG cmpN
  repeat' split
  all_goals omega
theorem cmpmag_any (a e b f : Int) (w : World) (ht : Tab w) (la : -9223372036854775808 ≤ a) (ha : a ≤ 9223372036854775807) (lb : -9223372036854775808 ≤ b) (hb : b ≤ 9223372036854775807)
    (le : -9223372036854775808 ≤ e) (he : e ≤ 9223372036854775807) (lf : -9223372036854775808 ≤ f) (hf : f ≤ 9223372036854775807) :
    Calls Tryd.prog 74 #[.agg #[.int .i64 a, .int .i64 e], .agg #[.int .i64 b, .int .i64 f]] w fun x w' => x = .returned (.int .i64 (cm a e b f)) ∧ Kept w w' := by
  unfold cm
  by_cases h : e < f
  · rw [if_pos h]
    obtain ⟨h1, h2⟩ := cmG_bd (mag b) (mag a) (f - e)
    exact cmpmag_lt a e b f (cmG (mag b) (mag a) (f - e)) _ w ht h h1 h2 rfl (fun w ht => cmpmag_ge b f a e w ht lb hb la ha lf hf le he (by omega))
  · rw [if_neg h]
    exact cmpmag_ge a e b f w ht la ha lb hb le he lf hf (by omega)
theorem compare_any (a e b f : Int) (w : World) (ht : Tab w) (la : -9223372036854775808 ≤ a) (ha : a ≤ 9223372036854775807) (lb : -9223372036854775808 ≤ b) (hb : b ≤ 9223372036854775807)
    (le : -9223372036854775808 ≤ e) (he : e ≤ 9223372036854775807) (lf : -9223372036854775808 ≤ f) (hf : f ≤ 9223372036854775807) :
    Calls Tryd.prog 39 #[.agg #[.int .i64 a, .int .i64 e], .agg #[.int .i64 b, .int .i64 f]] w fun x w' => x = .returned (.int .i64 (cmpR a e b f)) ∧ Kept w w' := by
  unfold cmpR
  by_cases h1 : sgn a < sgn b
  · rw [if_pos h1]
    exact comp_lt a e b f w ht (decide_eq_true h1)
  · rw [if_neg h1]
    by_cases h2 : sgn b < sgn a
    · rw [if_pos h2]
      exact comp_gt a e b f w ht (decide_eq_false h1) (decide_eq_true h2)
    · rw [if_neg h2]
      by_cases h3 : sgn a < 0
      · rw [if_pos h3]
        exact comp_neg a e b f _ w ht (decide_eq_false h1) (decide_eq_false h2) (decide_eq_true h3) (fun w ht => cmpmag_any b f a e w ht lb hb la ha lf hf le he)
      · rw [if_neg h3]
        by_cases h4 : 0 < sgn a
        · rw [if_pos h4]
          exact comp_pos a e b f _ w ht (decide_eq_false h1) (decide_eq_false h2) (decide_eq_false h3) (decide_eq_true h4) (fun w ht => cmpmag_any a e b f w ht la ha lb hb le he lf hf)
        · rw [if_neg h4]
          exact comp_zero a e b f w ht (decide_eq_false h1) (decide_eq_false h2) (decide_eq_false h3) (decide_eq_false h4)
end Go.Proofs.YtcmgphfcpgebfaaDoor
