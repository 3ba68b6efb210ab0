/- What the program's mask returns. No condition. -/
import Derived.Test.YtkehmdocjjadnaaDoorBitM
namespace Go.Proofs.YtkehmdocjjadnaaDoor
open Go.ChangeShapes Go.WideShapes Go.ChangeAt Go.RowKit

theorem mask16 (w : World) : Calls Tryd.prog 62 #[.int .i64 16] w fun e w' => e = .returned (.int .i64 65535) ∧ w = w' := by
  go_enter Tryd.func62, Tryd.ntmps62
  go_wp2
  go_returns
  exact ⟨rfl, rfl⟩
theorem mask16q (w : World) (n : Nat) : Calls Tryd.prog 62 #[.int .i64 16] (w.drewN n) fun e w' => e = .returned (.int .i64 65535) ∧ ∃ k, w' = w.drewN k :=
  (mask16 _).mono fun _ _ ⟨he, hm⟩ => ⟨he, n, hm.symm⟩
theorem mask32 (w : World) : Calls Tryd.prog 62 #[.int .i64 32] w fun e w' => e = .returned (.int .i64 4294967295) ∧ w = w' := by
  go_enter Tryd.func62, Tryd.ntmps62
  go_wp2
  go_returns
  exact ⟨rfl, rfl⟩
theorem mask32q (w : World) (n : Nat) : Calls Tryd.prog 62 #[.int .i64 32] (w.drewN n) fun e w' => e = .returned (.int .i64 4294967295) ∧ ∃ k, w' = w.drewN k :=
  (mask32 _).mono fun _ _ ⟨he, hm⟩ => ⟨he, n, hm.symm⟩
theorem mask60 (w : World) : Calls Tryd.prog 62 #[.int .i64 60] w fun e w' => e = .returned (.int .i64 1152921504606846975) ∧ w = w' := by
  go_enter Tryd.func62, Tryd.ntmps62
  go_wp2
  go_returns
  exact ⟨rfl, rfl⟩
theorem mask60q (w : World) (n : Nat) : Calls Tryd.prog 62 #[.int .i64 60] (w.drewN n) fun e w' => e = .returned (.int .i64 1152921504606846975) ∧ ∃ k, w' = w.drewN k :=
  (mask60 _).mono fun _ _ ⟨he, hm⟩ => ⟨he, n, hm.symm⟩
end Go.Proofs.YtkehmdocjjadnaaDoor
