/- What the helpers return: absolute values, results that must fit, the checks of the reference. Condition (of the program's): the table holds what its initialiser lays. -/
import Derived.Test.YtkehmdocjjadnaaDoorCk
import Derived.Test.YtkehmdocjjadnaaDoorRef
namespace Go.Proofs.YtkehmdocjjadnaaDoor
open Go.ChangeShapes Go.WideShapes Go.ChangeAt Go.RowKit

theorem magnitude_any (a : Int) (w : World) (lo : -999999999999999999 ≤ a) (hi : a ≤ 999999999999999999) :
    Calls Tryd.prog 66 #[.int .i64 a] w fun e w' => e = .returned (.int .i64 (mag a)) ∧ w = w' := by
  by_cases h : a < 0
  · rw [mag_neg h]
    go_enter Tryd.func66, Tryd.ntmps66
    go_wp2
    go_returns
    exact ⟨rfl, rfl⟩
  · rw [mag_pos (by omega)]
    go_enter Tryd.func66, Tryd.ntmps66
    go_wp2
    go_returns
    exact ⟨rfl, rfl⟩
theorem abs_any (a : Int) (w : World) (lo : -999999999999999999 ≤ a) (hi : a ≤ 999999999999999999) :
    Calls Tryd.prog 67 #[.int .i64 a] w fun e w' => e = .returned (.int .i64 (mag a)) ∧ w = w' := by
  by_cases h : a < 0
  · rw [mag_neg h]
    go_enter Tryd.func67, Tryd.ntmps67
    go_wp2
    go_returns
    exact ⟨rfl, rfl⟩
  · rw [mag_pos (by omega)]
    go_enter Tryd.func67, Tryd.ntmps67
    go_wp2
    go_returns
    exact ⟨rfl, rfl⟩
theorem integer_any (s n : Int) (w : World) (ht : Tab w) :
    Calls Tryd.prog 68 #[.int .i64 s, .int .i64 n] w fun e w' => e = .returned (.tuple #[.int .i64 (fit s n).1, .int .i64 (fit s n).2]) ∧ Kept w w' := by
  have hlt := ht.lt
  unfold fit
  cases h : isI s n
  all_goals
    go_enter Tryd.func68, Tryd.ntmps68
    go_wp2_with (first | (go_at_call 14; refine (Is_any _ _ _ (by repeat (first | assumption | refine Tab.alloc ?_ _))).mono ?_; rintro e w1 ⟨rfl, hk1⟩; obtain ⟨hc1, hf1⟩ := bcell hk1.2; have ht1 := hk1.1; have hz1 := hk1.2.size; (try simp only [World.size_alloc] at hz1)))
    go_returns
    exact ⟨rfl, (by repeat (first | assumption | exact Kept.refl ht | refine Kept.alloc ?_ _ _ | refine Kept.trans ?_ (by assumption)))⟩
theorem within_any (s n : Int) (w : World) :
    Calls Tryd.prog 69 #[.int .i64 s, .int .i64 n] w fun e w' => e = .returned (.tuple #[.int .i64 (fit s n).1, .int .i64 (fit s n).2]) ∧ w = w' := by
  unfold fit
  cases h : isI s n
  all_goals
    go_enter Tryd.func69, Tryd.ntmps69
    go_wp2_with (first | (go_at_call 15; refine (rIs_any _ _ _).mono ?_; rintro e w' ⟨rfl, rfl⟩))
    go_returns
    exact ⟨rfl, rfl⟩
theorem right_any (s a b : Int) (w : World) :
    Calls Tryd.prog 64 #[.int .i64 s, .int .i64 a, .int .i64 b] w fun e w' => e = .returned (.int .i64 (ck s (isI s a && isI s b))) ∧ w = w' := by
  cases hs : isSz s
  · rw [ck_no hs]
    have hm := ck_no (ok := true) hs
    go_enter Tryd.func64, Tryd.ntmps64
    go_wp2_with (first | (go_at_call 11; refine (rMax_any _ _).mono ?_; rintro e w' ⟨rfl, rfl⟩))
    go_returns
    exact ⟨rfl, rfl⟩
  · rw [ck_yes hs]
    have hm := ck_yes (ok := true) hs
    cases ha : isI s a <;> cases hb : isI s b
    all_goals
      go_enter Tryd.func64, Tryd.ntmps64
      go_wp2_with (first | (go_at_call 11; refine (rMax_any _ _).mono ?_; rintro e w' ⟨rfl, rfl⟩) | (go_at_call 15; refine (rIs_any _ _ _).mono ?_; rintro e w' ⟨rfl, rfl⟩))
      go_returns
      exact ⟨rfl, rfl⟩
theorem words_any (s a b : Int) (w : World) :
    Calls Tryd.prog 73 #[.int .i64 s, .int .i64 a, .int .i64 b] w fun e w' => e = .returned (.int .i64 (ck s (isW s a && isW s b))) ∧ w = w' := by
  cases hs : isSz s
  · rw [ck_no hs]
    have hm := ck_no (ok := true) hs
    go_enter Tryd.func73, Tryd.ntmps73
    go_wp2_with (first | (go_at_call 13; refine (rWidth_any _ _).mono ?_; rintro e w' ⟨rfl, rfl⟩))
    go_returns
    exact ⟨rfl, rfl⟩
  · rw [ck_yes hs]
    have hm := ck_yes (ok := true) hs
    cases ha : isW s a <;> cases hb : isW s b
    all_goals
      go_enter Tryd.func73, Tryd.ntmps73
      go_wp2_with (first | (go_at_call 13; refine (rWidth_any _ _).mono ?_; rintro e w' ⟨rfl, rfl⟩) | (go_at_call 17; refine (rIsWord_any _ _ _).mono ?_; rintro e w' ⟨rfl, rfl⟩))
      go_returns
      exact ⟨rfl, rfl⟩
end Go.Proofs.YtkehmdocjjadnaaDoor
