/- What the function that looks a size up returns, for every size. Condition: the table holds what its initialiser lays. -/
import Derived.Test.YtkehmdocjjadnaaDoorDefs
namespace Go.Proofs.YtkehmdocjjadnaaDoor
open Go.ChangeShapes Go.WideShapes Go.ChangeAt Go.RowKit

theorem limits_any (s : Int) (w : World) (ht : Tab w) :
    Calls Tryd.prog 61 #[.int .i64 s] w fun e w' => e = .returned (.tuple #[.agg #[.int .i64 (mx s), .int .i64 (wd s)], .bool (isSz s)]) ∧ Kept w w' := by
  have hlt := ht.lt
  obtain ⟨c0, c1, c2, c3, c4, c5⟩ := id ht
  rcases sz_cases s with rfl | rfl | rfl | h | h
  · go_enter Tryd.func61, Tryd.ntmps61
    go_wp2
    go_returns
    exact ⟨rfl, Kept.mk ht (by go_grown) (by go_grown)⟩
  · go_enter Tryd.func61, Tryd.ntmps61
    go_wp2
    go_returns
    exact ⟨rfl, Kept.mk ht (by go_grown) (by go_grown)⟩
  · go_enter Tryd.func61, Tryd.ntmps61
    go_wp2
    go_returns
    exact ⟨rfl, Kept.mk ht (by go_grown) (by go_grown)⟩
  · rw [isSz_lo h, mx_lo h, wd_lo h]
    go_enter Tryd.func61, Tryd.ntmps61
    go_wp2
    go_returns
    exact ⟨rfl, Kept.mk ht (by go_grown) (by go_grown)⟩
  · rw [isSz_hi h, mx_hi h, wd_hi h]
    have h' : ¬ s < -1 := by omega
    go_enter Tryd.func61, Tryd.ntmps61
    go_wp2
    go_returns
    exact ⟨rfl, Kept.mk ht (by go_grown) (by go_grown)⟩
end Go.Proofs.YtkehmdocjjadnaaDoor
