/- What the tests for integers and words return, in the program and in the reference. Condition: the table holds what its initialiser lays. -/
import Derived.Test.YtkehmdocjjadnaaDoorLim
namespace Go.Proofs.YtkehmdocjjadnaaDoor
open Go.ChangeShapes Go.WideShapes Go.ChangeAt Go.RowKit

theorem Is_any (s n : Int) (w : World) (ht : Tab w) :
    Calls Tryd.prog 14 #[.int .i64 s, .int .i64 n] w fun e w' => e = .returned (.bool (isI s n)) ∧ Kept w w' := by
  have hlt := ht.lt
  obtain ⟨c0, c1, c2, c3, c4, c5⟩ := id ht
  rcases sz_cases s with rfl | rfl | rfl | h | h
  · rw [isI_a]
    rcases (by omega : n < -32767 ∨ (-32767 ≤ n ∧ n ≤ 32767) ∨ 32767 < n) with h | ⟨h, h'⟩ | h
    all_goals
      go_enter Tryd.func14, Tryd.ntmps14
      go_wp2
      go_returns
      exact ⟨by simp; try omega, Kept.mk ht (by go_grown) (by go_grown)⟩
  · rw [isI_b]
    rcases (by omega : n < -2147483647 ∨ (-2147483647 ≤ n ∧ n ≤ 2147483647) ∨ 2147483647 < n) with h | ⟨h, h'⟩ | h
    all_goals
      go_enter Tryd.func14, Tryd.ntmps14
      go_wp2
      go_returns
      exact ⟨by simp; try omega, Kept.mk ht (by go_grown) (by go_grown)⟩
  · rw [isI_c]
    rcases (by omega : n < -999999999999999999 ∨ (-999999999999999999 ≤ n ∧ n ≤ 999999999999999999) ∨ 999999999999999999 < n) with h | ⟨h, h'⟩ | h
    all_goals
      go_enter Tryd.func14, Tryd.ntmps14
      go_wp2
      go_returns
      exact ⟨by simp; try omega, Kept.mk ht (by go_grown) (by go_grown)⟩
  · rw [isI_lo h]
    go_enter Tryd.func14, Tryd.ntmps14
    go_wp2
    go_returns
    exact ⟨rfl, Kept.mk ht (by go_grown) (by go_grown)⟩
  · rw [isI_hi h]
    have h' : ¬ s < -1 := by omega
    go_enter Tryd.func14, Tryd.ntmps14
    go_wp2
    go_returns
    exact ⟨rfl, Kept.mk ht (by go_grown) (by go_grown)⟩
end Go.Proofs.YtkehmdocjjadnaaDoor
