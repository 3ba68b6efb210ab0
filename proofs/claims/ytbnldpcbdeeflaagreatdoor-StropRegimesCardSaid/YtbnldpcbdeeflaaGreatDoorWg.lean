/- StropRegimes' walk at any arguments. Condition: the tables hold what they are laid with. -/
import Derived.Test.YtbnldpcbdeeflaaGreatDoorWr
namespace Go.Proofs.YtbnldpcbdeeflaaGreatDoor
open Go.ChangeShapes Go.WideShapes Go.ChangeAt Go.RowKit

set_option maxRecDepth 100000 in
set_option maxHeartbeats 8000000 in
theorem rg_out (t : ByteArray) (r q : Int) (w : World) (h : Wo w) (hn : ¬ (t.size ≤ 300 ∧ (0 ≤ r ∧ r ≤ 2) ∧ 0 ≤ q ∧ q ≤ 2)) : Calls Tryz.prog 8 #[.string t, .int .i64 r, .int .i64 q] w fun e w' => e = .returned (.bool true) ∧ Below w.heap.size w w' := by
  have HA := Lib.hid (awake_any w h)
  clear h
  have hx : (decide ((t.size : Int) > 300) = true) ∨ (decide ((t.size : Int) > 300) = false ∧ decide (r < 0) = true) ∨ (decide ((t.size : Int) > 300) = false ∧ decide (r < 0) = false ∧ decide (r > 2) = true) ∨ (decide ((t.size : Int) > 300) = false ∧ decide (r < 0) = false ∧ decide (r > 2) = false ∧ decide (q < 0) = true) ∨ (decide ((t.size : Int) > 300) = false ∧ decide (r < 0) = false ∧ decide (r > 2) = false ∧ decide (q < 0) = false ∧ decide (q > 2) = true) := by
    simp only [decide_eq_true_eq, decide_eq_false_iff_not]
    omega
  clear hn
  rcases hx with b1 | ⟨b1, b2⟩ | ⟨b1, b2, b3⟩ | ⟨b1, b2, b3, b4⟩ | ⟨b1, b2, b3, b4, b5⟩
  all_goals
    go_enter Tryz.func8, Tryz.ntmps8
    go_wp2_with (go_at_call 9; (with_reducible refine HA.out.mono ?_); (rintro e w1 ⟨rfl, hb1⟩))
    go_returns
    exact ⟨rfl, hb1⟩
theorem StropRegimes_walk (t : ByteArray) (r q : Int) (w : World) (h : Wo w) : Calls Tryz.prog 8 #[.string t, .int .i64 r, .int .i64 q] w fun e w' => e = .returned (.bool true) ∧ Below w.heap.size w w' := by
  by_cases hn : t.size ≤ 300 ∧ (0 ≤ r ∧ r ≤ 2) ∧ 0 ≤ q ∧ q ≤ 2
  · obtain ⟨hz, hr, hq⟩ := hn
    rcases (by omega : r = 0 ∨ r = 1 ∨ r = 2) with rfl | rfl | rfl <;> rcases (by omega : q = 0 ∨ q = 1 ∨ q = 2) with rfl | rfl | rfl
    · exact rg_00 t hz w h
    · exact rg_01 t hz w h
    · exact rg_02 t hz w h
    · exact rg_10 t hz w h
    · exact rg_11 t hz w h
    · exact rg_12 t hz w h
    · exact rg_20 t hz w h
    · exact rg_21 t hz w h
    · exact rg_22 t hz w h
  · exact rg_out t r q w h hn
end Go.Proofs.YtbnldpcbdeeflaaGreatDoor
