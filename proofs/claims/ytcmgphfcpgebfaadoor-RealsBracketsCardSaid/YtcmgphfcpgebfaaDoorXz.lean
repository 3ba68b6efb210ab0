/- The program's root of 0. Condition: the tables hold what their initialisers lay. -/
import Derived.Test.YtcmgphfcpgebfaaDoorQuo
namespace Go.Proofs.YtcmgphfcpgebfaaDoor
open Go.ChangeShapes Go.WideShapes Go.ChangeAt Go.RowKit
attribute [local go_sem ↓] Go.wp_at_zero Go.wp_at_succ

set_option maxRecDepth 100000 in
set_option maxHeartbeats 4000000 in
theorem xroot_zero (a m : Bool) (e : Int) (w : World) (ht : Tab w) :
    Calls Tryd.prog 64 #[.agg #[.bool a, .int .u64 (hiW 0 : Int), .int .u64 (loW 0 : Int), .int .i64 e, .bool m]] w fun x w' => x = .returned (.agg #[.bool a, .int .u64 (hiW 0 : Int), .int .u64 (loW 0 : Int), .int .i64 e, .bool m]) ∧ Kept w w' := by
  have hlt := ht.lt
  have hlt0 := ht.lt0
  go_enter Tryd.func64, Tryd.ntmps64
  go_wp2_with (first | (go_at_call 78; (with_reducible refine (isZero_any 0 _ (by repeat' (first | (with_reducible assumption) | (with_reducible refine Tab.alloc ?_ _) | (with_reducible refine Tab.drew ?_) | (with_reducible refine Tab.drewN ?_ _) | (with_reducible refine Tab.setCell ?_ ?_ ?_ _) | omega | (simp; done) | (simp; omega)))).mono ?_); rintro e w1 ⟨rfl, hk1⟩; obtain ⟨hc1, hf1⟩ := bcell hk1.2; have ht1 := hk1.1; have hz1 := hk1.2.size; (try simp only [World.size_alloc] at hz1); (try simp only [sz_drew] at hz1); (try simp only [sz_drewN] at hz1); (try simp only [World.size_alloc] at hz1); (try simp only [sz_drew] at hc1 hf1); (try simp only [sz_drewN] at hc1 hf1); (try have hw1 : w.heap.size < w1.heap.size := by omega); (try have hv1 : w.heap.size + 1 < w1.heap.size := by omega); (try have hu1 : w.heap.size + 2 < w1.heap.size := by omega)))
  have hF := (((((((Inv.two ht 64 [.bool a, .int .u64 (hiW 0 : Int), .int .u64 (loW 0 : Int), .int .i64 e, .bool m] 64 [.bool false, .int .u64 0, .int .u64 0, .int .i64 0, .bool false]).call hk1).own 1 _ rfl).put 0 (.bool a)).put 1 (.int .u64 (hiW 0 : Int))).put 2 (.int .u64 (loW 0 : Int))).put 3 (.int .i64 e)).put 4 (.bool m)
  refine bodyPost_ret (ret_own rfl hF rfl Tryd.underlying64 rfl (by kernel_rfl)) rfl ?_
  exact ⟨rfl, (by repeat' (first | (with_reducible assumption) | (with_reducible exact Kept.refl ht) | (with_reducible refine Kept.alloc ?_ _) | (with_reducible refine Kept.drew ?_) | (with_reducible refine Kept.drewN ?_ _) | (with_reducible refine Kept.setCell ?_ ?_ _ ?_ ?_) | (with_reducible refine Kept.trans ?_ (by assumption)) | omega | (simp; done) | (simp; omega)))⟩
end Go.Proofs.YtcmgphfcpgebfaaDoor
