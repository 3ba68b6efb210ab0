/- The law file's examples hold. Condition: the tables hold what their initialisers lay. -/
import Derived.Test.YtcmgphfcpgebfaaDoorExm
namespace Go.Proofs.YtcmgphfcpgebfaaDoor
open Go.ChangeShapes Go.WideShapes Go.ChangeAt Go.RowKit
attribute [local go_sem ↓] Go.wp_at_zero Go.wp_at_succ

theorem gives_out {r : Res} {M E X : Int} (hr : r = ⟨M, E, X⟩) {P : Program} {f : Nat} {args : Array Value} {w : World} (h : Calls P f args w (Gives r w)) :
    Calls P f args w fun x w' => x = .returned (.tuple #[.agg #[.int .i64 M, .int .i64 E], .int .i64 X]) ∧ Kept w w' := by subst hr; exact h
set_option maxRecDepth 100000 in
set_option maxHeartbeats 4000000 in
theorem awake_any (w : World) (ht : Tab w) : Calls Tryd.prog 11 #[] w fun x w' => x = .returned (.bool true) ∧ Kept w w' := by
  have hlt := ht.lt
  have hlt0 := ht.lt0
  have H1 := Lib.hid (fun w ht => gives_out exm_make (make_any 0 0 1000 (-3) w ht (by decide) (by decide)))
  have H2 := Lib.hid (fun w ht => gives_out exm_div (div_any (-1) 1 1 0 3 0 w ht (by decide) (by decide) (by decide) (by decide)))
  have H3 := Lib.hid (fun w ht => gives_out exm_add (add_any (-1) 0 9999999 0 5 (-1) w ht (by decide) (by decide) (by decide) (by decide)))
  have H4 := Lib.hid (fun w ht => gives_out exm_sqrt (sqrt_any 0 0 2 0 w ht (by decide) (by decide)))
  go_enter Tryd.func11, Tryd.ntmps11
  go_upto_region 5 with (first | (go_at_call 17; (with_reducible refine (H1.out _ (by repeat' (first | (with_reducible assumption) | (with_reducible refine Tab.alloc ?_ _) | (with_reducible refine Tab.drew ?_) | (with_reducible refine Tab.drewN ?_ _) | (with_reducible refine Tab.setCell ?_ ?_ ?_ _) | omega | (simp; done) | (simp; omega)))).mono ?_); rintro e w1 ⟨rfl, hk1⟩; obtain ⟨hc1, hf1⟩ := bcell hk1.2; have ht1 := hk1.1; have hz1 := hk1.2.size; (try simp only [World.size_alloc] at hz1); (try simp only [sz_drew] at hz1); (try simp only [sz_drewN] at hz1); (try simp only [World.size_alloc] at hz1); (try simp only [sz_drew] at hc1 hf1); (try simp only [sz_drewN] at hc1 hf1); (try have hw1 : w.heap.size < w1.heap.size := by omega); (try have hv1 : w.heap.size + 1 < w1.heap.size := by omega); (try have hu1 : w.heap.size + 2 < w1.heap.size := by omega)) | (go_at_call 25; (with_reducible refine (H2.out _ (by repeat' (first | (with_reducible assumption) | (with_reducible refine Tab.alloc ?_ _) | (with_reducible refine Tab.drew ?_) | (with_reducible refine Tab.drewN ?_ _) | (with_reducible refine Tab.setCell ?_ ?_ ?_ _) | omega | (simp; done) | (simp; omega)))).mono ?_); rintro e w2 ⟨rfl, hk2⟩; obtain ⟨hc2, hf2⟩ := bcell hk2.2; have ht2 := hk2.1; have hz2 := hk2.2.size; (try simp only [World.size_alloc] at hz2); (try simp only [sz_drew] at hz2); (try simp only [sz_drewN] at hz2); (try simp only [World.size_alloc] at hz2); (try simp only [sz_drew] at hc2 hf2); (try simp only [sz_drewN] at hc2 hf2); (try have hw2 : w.heap.size < w2.heap.size := by omega); (try have hv2 : w.heap.size + 1 < w2.heap.size := by omega); (try have hu2 : w.heap.size + 2 < w2.heap.size := by omega)) | (go_at_call 19; (with_reducible refine (H3.out _ (by repeat' (first | (with_reducible assumption) | (with_reducible refine Tab.alloc ?_ _) | (with_reducible refine Tab.drew ?_) | (with_reducible refine Tab.drewN ?_ _) | (with_reducible refine Tab.setCell ?_ ?_ ?_ _) | omega | (simp; done) | (simp; omega)))).mono ?_); rintro e w3 ⟨rfl, hk3⟩; obtain ⟨hc3, hf3⟩ := bcell hk3.2; have ht3 := hk3.1; have hz3 := hk3.2.size; (try simp only [World.size_alloc] at hz3); (try simp only [sz_drew] at hz3); (try simp only [sz_drewN] at hz3); (try simp only [World.size_alloc] at hz3); (try simp only [sz_drew] at hc3 hf3); (try simp only [sz_drewN] at hc3 hf3); (try have hw3 : w.heap.size < w3.heap.size := by omega); (try have hv3 : w.heap.size + 1 < w3.heap.size := by omega); (try have hu3 : w.heap.size + 2 < w3.heap.size := by omega)) | (go_at_call 27; (with_reducible refine (H4.out _ (by repeat' (first | (with_reducible assumption) | (with_reducible refine Tab.alloc ?_ _) | (with_reducible refine Tab.drew ?_) | (with_reducible refine Tab.drewN ?_ _) | (with_reducible refine Tab.setCell ?_ ?_ ?_ _) | omega | (simp; done) | (simp; omega)))).mono ?_); rintro e w4 ⟨rfl, hk4⟩; obtain ⟨hc4, hf4⟩ := bcell hk4.2; have ht4 := hk4.1; have hz4 := hk4.2.size; (try simp only [World.size_alloc] at hz4); (try simp only [sz_drew] at hz4); (try simp only [sz_drewN] at hz4); (try simp only [World.size_alloc] at hz4); (try simp only [sz_drew] at hc4 hf4); (try simp only [sz_drewN] at hc4 hf4); (try have hw4 : w.heap.size < w4.heap.size := by omega); (try have hv4 : w.heap.size + 1 < w4.heap.size := by omega); (try have hu4 : w.heap.size + 2 < w4.heap.size := by omega)))
  have o1 := ((((((Own.new w1 29 [.int .i64 1, .int .i64 0]).call hk2).alloc (.cells #[.int .i64 3333334, .int .i64 (-7)] 29)).call hk3).alloc (.cells #[.int .i64 1, .int .i64 7] 29)).call hk4).alloc (.cells #[.int .i64 14142135623731, .int .i64 (-13)] 29)
  have c10 : _ = some (Value.int .i64 1) := o1.cell 0
  have c11 : _ = some (Value.int .i64 0) := o1.cell 1
  have l1 := o1.lt
  have o2 := ((((Own.new w2 29 [.int .i64 3333334, .int .i64 (-7)]).call hk3).alloc (.cells #[.int .i64 1, .int .i64 7] 29)).call hk4).alloc (.cells #[.int .i64 14142135623731, .int .i64 (-13)] 29)
  have c20 : _ = some (Value.int .i64 3333334) := o2.cell 0
  have c21 : _ = some (Value.int .i64 (-7)) := o2.cell 1
  have l2 := o2.lt
  have o3 := ((Own.new w3 29 [.int .i64 1, .int .i64 7]).call hk4).alloc (.cells #[.int .i64 14142135623731, .int .i64 (-13)] 29)
  have c30 : _ = some (Value.int .i64 1) := o3.cell 0
  have c31 : _ = some (Value.int .i64 7) := o3.cell 1
  have l3 := o3.lt
  have o4 := Own.new w4 29 [.int .i64 14142135623731, .int .i64 (-13)]
  have c40 : _ = some (Value.int .i64 14142135623731) := o4.cell 0
  have c41 : _ = some (Value.int .i64 (-13)) := o4.cell 1
  have l4 := o4.lt
  have hK : Kept w (w4.alloc (.cells #[.int .i64 14142135623731, .int .i64 (-13)] 29)) := (by repeat' (first | (with_reducible assumption) | (with_reducible exact Kept.refl ht) | (with_reducible refine Kept.alloc ?_ _) | (with_reducible refine Kept.drew ?_) | (with_reducible refine Kept.drewN ?_ _) | (with_reducible refine Kept.setCell ?_ ?_ _ ?_ ?_) | (with_reducible refine Kept.trans ?_ (by assumption)) | omega | (simp; done) | (simp; omega)))
  clear o1 o2 o3 o4 hc1 hc2 hc3 hc4 hf1 hf2 hf3 hf4 hk1 hk2 hk3 hk4 ht1 ht2 ht3 ht4 hz1 hz2 hz3 hz4
  go_wp2
  go_returns
  exact ⟨rfl, hK⟩
end Go.Proofs.YtcmgphfcpgebfaaDoor
