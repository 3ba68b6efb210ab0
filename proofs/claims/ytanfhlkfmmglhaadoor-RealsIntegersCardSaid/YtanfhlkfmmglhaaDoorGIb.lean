/- The test for integers of the plain size. Condition: the tables hold what their initialisers lay. -/
import Derived.Test.YtanfhlkfmmglhaaDoorGIa
namespace Go.Proofs.YtanfhlkfmmglhaaDoor
open Go.ChangeShapes Go.WideShapes Go.ChangeAt Go.RowKit
attribute [local go_sem ↓] Go.wp_at_zero Go.wp_at_succ

set_option maxRecDepth 100000 in
set_option maxHeartbeats 4000000 in
theorem Is_b (n : Int) (w : World) (ht : Tab w) (hs : Szs w) :
    Calls Tryd.prog 87 #[.int .i64 0, .int .i64 n] w fun e w' => e = .returned (.bool (isI 0 n)) ∧ Kept w w' := by
  have hlt := ht.lt
  have hlt0 := ht.lt0
  have hlts := hs.lt
  obtain ⟨c0, c1, c2, c3, c4, c5⟩ := id hs
  rw [isI_b]
  rcases (by omega : (n < -2147483647 ∧ n ≤ 2147483647) ∨ (-2147483647 ≤ n ∧ n ≤ 2147483647) ∨ (2147483647 < n ∧ -2147483647 ≤ n)) with ⟨h, h'⟩ | ⟨h, h'⟩ | ⟨h, h'⟩
  all_goals
    go_enter Tryd.func87, Tryd.ntmps87
    go_wp2
    go_returns
    exact ⟨by simp; try omega, (by repeat' (first | (with_reducible assumption) | (with_reducible exact Kept.refl ht) | (with_reducible refine Kept.alloc ?_ _) | (with_reducible refine Kept.drew ?_) | (with_reducible refine Kept.drewN ?_ _) | (with_reducible refine Kept.setCell ?_ ?_ _ ?_ ?_) | (with_reducible refine Kept.trans ?_ (by assumption)) | omega | (simp; done) | (simp; omega)))⟩
end Go.Proofs.YtanfhlkfmmglhaaDoor
