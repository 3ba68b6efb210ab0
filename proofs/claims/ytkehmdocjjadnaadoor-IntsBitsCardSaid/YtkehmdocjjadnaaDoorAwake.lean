/- The law's own example call, and its comparison of two results. Condition: the table holds what its initialiser lays. -/
import Derived.Test.YtkehmdocjjadnaaDoorOps
import Derived.Test.YtkehmdocjjadnaaDoorPow
import Derived.Test.YtkehmdocjjadnaaDoorRpow
import Derived.Test.YtkehmdocjjadnaaDoorRwords
namespace Go.Proofs.YtkehmdocjjadnaaDoor
open Go.ChangeShapes Go.WideShapes Go.ChangeAt Go.RowKit

theorem over_at (w : World) (ht : Tab w) : Calls Tryd.prog 37 #[.int .i64 0, .int .i64 (-7), .int .i64 2] w fun e w' => e = .returned (.tuple #[.int .i64 (-3), .int .i64 0]) ∧ Kept w w' := Over_any 0 (-7) 2 w ht
theorem mod_at (w : World) (ht : Tab w) : Calls Tryd.prog 39 #[.int .i64 0, .int .i64 7, .int .i64 (-2)] w fun e w' => e = .returned (.tuple #[.int .i64 1, .int .i64 0]) ∧ Kept w w' := Mod_any 0 7 (-2) w ht
theorem pow_at (w : World) (ht : Tab w) : Calls Tryd.prog 41 #[.int .i64 0, .int .i64 2, .int .i64 30] w fun e w' => e = .returned (.tuple #[.int .i64 1073741824, .int .i64 0]) ∧ Kept w w' := by
  have h := Pow_any 0 2 30 w ht (by omega) (by omega)
  rw [show powR 0 2 30 = (1073741824, 0) from by decide +kernel] at h
  exact h
theorem shift_at (w : World) (ht : Tab w) : Calls Tryd.prog 51 #[.int .i64 (-1), .int .i64 32769, .int .i64 1] w fun e w' => e = .returned (.tuple #[.int .i64 2, .int .i64 0]) ∧ Kept w w' := by
  have h := Shift_any (-1) 32769 1 w ht
  rw [show w1 (-1) 32769 (shV (-1) 32769 1) = (2, 0) from by decide +kernel] at h
  exact h
theorem awake_any (w : World) (ht : Tab w) : Calls Tryd.prog 9 #[] w fun e w' => e = .returned (.bool true) ∧ Kept w w' := by
  have hlt := ht.lt
  go_enter Tryd.func9, Tryd.ntmps9
  go_wp2_with (first | (go_at_call 37; refine (over_at _ (by repeat (first | assumption | refine Tab.alloc ?_ _))).mono ?_; rintro e w4 ⟨rfl, hk4⟩; obtain ⟨hc4, hf4⟩ := bcell hk4.2; have ht4 := hk4.1; have hz4 := hk4.2.size; (try simp only [World.size_alloc] at hz4)) | (go_at_call 39; refine (mod_at _ (by repeat (first | assumption | refine Tab.alloc ?_ _))).mono ?_; rintro e w5 ⟨rfl, hk5⟩; obtain ⟨hc5, hf5⟩ := bcell hk5.2; have ht5 := hk5.1; have hz5 := hk5.2.size; (try simp only [World.size_alloc] at hz5)) | (go_at_call 41; refine (pow_at _ (by repeat (first | assumption | refine Tab.alloc ?_ _))).mono ?_; rintro e w6 ⟨rfl, hk6⟩; obtain ⟨hc6, hf6⟩ := bcell hk6.2; have ht6 := hk6.1; have hz6 := hk6.2.size; (try simp only [World.size_alloc] at hz6)) | (go_at_call 51; refine (shift_at _ (by repeat (first | assumption | refine Tab.alloc ?_ _))).mono ?_; rintro e w7 ⟨rfl, hk7⟩; obtain ⟨hc7, hf7⟩ := bcell hk7.2; have ht7 := hk7.1; have hz7 := hk7.2.size; (try simp only [World.size_alloc] at hz7)))
  go_returns
  exact ⟨rfl, (by repeat (first | assumption | exact Kept.refl ht | refine Kept.alloc ?_ _ _ | refine Kept.trans ?_ (by assumption)))⟩
theorem same_any (a c : Int) (B C : Nat) (w : World) (h1 : w.cell? ⟨B, 0, none⟩ = some (.int .i64 a)) (h2 : w.cell? ⟨C, 0, none⟩ = some (.int .i64 c)) :
    Calls Tryd.prog 65 #[.int .i64 a, .int .i64 c, .pointer (some ⟨B, 0, none⟩), .pointer (some ⟨C, 0, none⟩)] w fun e w' => e = .returned (.bool true) ∧ w = w' := by
  go_enter Tryd.func65, Tryd.ntmps65
  go_wp2
  go_returns
  exact ⟨by simp, rfl⟩
theorem same_at (a c : Int) (T U : TypeId) (w : World) :
    Calls Tryd.prog 65 #[.int .i64 a, .int .i64 c, .pointer (some ⟨w.heap.size, 0, none⟩), .pointer (some ⟨w.heap.size + 1, 0, none⟩)] ((w.alloc (.cells #[.int .i64 a] T)).alloc (.cells #[.int .i64 c] U)) fun e w' => e = .returned (.bool true) ∧ (w.alloc (.cells #[.int .i64 a] T)).alloc (.cells #[.int .i64 c] U) = w' :=
  same_any a c _ _ _ (by simp [go_sem]) (by simp [go_sem])
end Go.Proofs.YtkehmdocjjadnaaDoor
