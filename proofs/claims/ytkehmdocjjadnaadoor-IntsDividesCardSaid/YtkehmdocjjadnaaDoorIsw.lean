/- What the program's test for words returns, for every size and number. Condition: the table holds what its initialiser lays. -/
import Derived.Test.YtkehmdocjjadnaaDoorLim
namespace Go.Proofs.YtkehmdocjjadnaaDoor
open Go.ChangeShapes Go.WideShapes Go.ChangeAt Go.RowKit

theorem IsWord_any (s n : Int) (w : World) (ht : Tab w) :
    Calls Tryd.prog 16 #[.int .i64 s, .int .i64 n] w fun e w' => e = .returned (.bool (isW s n)) ∧ Kept w w' := by
  have hlt := ht.lt
  obtain ⟨c0, c1, c2, c3, c4, c5⟩ := id ht
  rcases sz_cases s with rfl | rfl | rfl | h | h
  · rw [isW_a]
    rcases (by omega : n < 0 ∨ (0 ≤ n ∧ n ≤ 65535) ∨ 65535 < n) with h | ⟨h, h'⟩ | h
    all_goals
      go_enter Tryd.func16, Tryd.ntmps16
      go_wp2
      go_returns
      exact ⟨by simp; try omega, Kept.mk ht (by go_grown) (by go_grown)⟩
  · rw [isW_b]
    rcases (by omega : n < 0 ∨ (0 ≤ n ∧ n ≤ 4294967295) ∨ 4294967295 < n) with h | ⟨h, h'⟩ | h
    all_goals
      go_enter Tryd.func16, Tryd.ntmps16
      go_wp2
      go_returns
      exact ⟨by simp; try omega, Kept.mk ht (by go_grown) (by go_grown)⟩
  · rw [isW_c]
    rcases (by omega : n < 0 ∨ (0 ≤ n ∧ n ≤ 1152921504606846975) ∨ 1152921504606846975 < n) with h | ⟨h, h'⟩ | h
    all_goals
      go_enter Tryd.func16, Tryd.ntmps16
      go_wp2
      go_returns
      exact ⟨by simp; try omega, Kept.mk ht (by go_grown) (by go_grown)⟩
  · rw [isW_lo h]
    go_enter Tryd.func16, Tryd.ntmps16
    go_wp2
    go_returns
    exact ⟨rfl, Kept.mk ht (by go_grown) (by go_grown)⟩
  · rw [isW_hi h]
    have h' : ¬ s < -1 := by omega
    go_enter Tryd.func16, Tryd.ntmps16
    go_wp2
    go_returns
    exact ⟨rfl, Kept.mk ht (by go_grown) (by go_grown)⟩
end Go.Proofs.YtkehmdocjjadnaaDoor
