/- The program's Make, and its root of 0. Condition: the tables hold what their initialisers lay. -/
import Derived.Test.YtcmgphfcpgebfaaDoorMul
namespace Go.Proofs.YtcmgphfcpgebfaaDoor
open Go.ChangeShapes Go.WideShapes Go.ChangeAt Go.RowKit
attribute [local go_sem ↓] Go.wp_at_zero Go.wp_at_succ

set_option maxHeartbeats 2000000 in
theorem check_nil (s how : Int) (w : World) (ht : Tab w) (h : (isSz s && isDir how) = true) :
    Calls Tryd.prog 50 #[.int .i64 s, .int .i64 how, .slice none 0 0] w fun e w' => e = .returned (.int .i64 0) ∧ Kept w w' := by
  have hlt := ht.lt
  have hlt0 := ht.lt0
  rw [Bool.and_eq_true] at h
  obtain ⟨h1, h2⟩ := h
  have hD := fun w ht => Digits_any s w ht
  unfold dz sx at hD
  rw [h1] at hD
  simp only [if_true] at hD
  have HD := Lib.hid hD
  clear hD h1
  go_enter Tryd.func50, Tryd.ntmps50
  go_wp2_with (first | (go_at_call 12; (with_reducible refine (HD.out _ (by repeat' (first | (with_reducible assumption) | (with_reducible refine Tab.alloc ?_ _) | (with_reducible refine Tab.drew ?_) | (with_reducible refine Tab.drewN ?_ _) | (with_reducible refine Tab.setCell ?_ ?_ ?_ _) | omega | (simp; done) | (simp; omega)))).mono ?_); rintro e w' ⟨rfl, rfl⟩) | (go_at_call 77; (with_reducible refine (isDirection_any how _).mono ?_); rintro e w' ⟨rfl, rfl⟩))
  go_loopw [25] (fun v wr => v = .int .i64 0 ∧ wr = w) (fun _ _ => 0)
  case atStart => exact ⟨rfl, rfl⟩
  case round =>
    obtain ⟨rfl, rfl⟩ := hrel
    go_wp2_with fail
    go_returns
    exact ⟨rfl, Kept.refl ht⟩
set_option maxRecDepth 100000 in
set_option maxHeartbeats 4000000 in
theorem make_bad (s how m e : Int) (w : World) (ht : Tab w) (h : (isSz s && isDir how) = false) :
    Calls Tryd.prog 17 #[.int .i64 s, .int .i64 how, .int .i64 m, .int .i64 e] w fun x w' => x = .returned (.tuple #[.agg #[.int .i64 0, .int .i64 0], .int .i64 1]) ∧ Kept w w' := by
  have hlt := ht.lt
  have hlt0 := ht.lt0
  have HC := Lib.hid (fun w ht => check_bad s how (.slice none 0 0) w ht h)
  clear h
  go_enter Tryd.func17, Tryd.ntmps17
  go_wp2_with (first | (go_at_call 50; (with_reducible refine (HC.out _ (by repeat' (first | (with_reducible assumption) | (with_reducible refine Tab.alloc ?_ _) | (with_reducible refine Tab.drew ?_) | (with_reducible refine Tab.drewN ?_ _) | (with_reducible refine Tab.setCell ?_ ?_ ?_ _) | omega | (simp; done) | (simp; omega)))).mono ?_); rintro e w1 ⟨rfl, hk1⟩; obtain ⟨hc1, hf1⟩ := bcell hk1.2; have ht1 := hk1.1; have hz1 := hk1.2.size; (try simp only [World.size_alloc] at hz1); (try simp only [sz_drew] at hz1); (try simp only [sz_drewN] at hz1); (try simp only [World.size_alloc] at hz1); (try simp only [sz_drew] at hc1 hf1); (try simp only [sz_drewN] at hc1 hf1); (try have hw1 : w.heap.size < w1.heap.size := by omega); (try have hv1 : w.heap.size + 1 < w1.heap.size := by omega); (try have hu1 : w.heap.size + 2 < w1.heap.size := by omega)))
  have hF := (((Own.new w 29 [.int .i64 0, .int .i64 0]).call hk1).put 0 (.int .i64 0)).put 1 (.int .i64 0)
  refine bodyPost_ret (ret_own_tmp rfl hF rfl Tryd.underlying29 rfl (by kernel_rfl)) rfl ?_
  exact ⟨rfl, (by repeat' (first | (with_reducible assumption) | (with_reducible exact Kept.refl ht) | (with_reducible refine Kept.alloc ?_ _) | (with_reducible refine Kept.drew ?_) | (with_reducible refine Kept.drewN ?_ _) | (with_reducible refine Kept.setCell ?_ ?_ _ ?_ ?_) | (with_reducible refine Kept.trans ?_ (by assumption)) | omega | (simp; done) | (simp; omega)))⟩
set_option maxRecDepth 100000 in
set_option maxHeartbeats 4000000 in
theorem make_good (s how m e : Int) (w : World) (ht : Tab w) (h : (isSz s && isDir how) = true) (lm : -9223372036854775808 ≤ m) (hm : m ≤ 9223372036854775807) (g : Int) (hg : max (-1000) (min e 1000) = g)
    (M E X : Int) (hM : rM (pr s) how (decide (m < 0)) (sc (mag m) g) false = M) (hE : rE (pr s) how (decide (m < 0)) (sc (mag m) g) false = E) (hX : rX (pr s) how (decide (m < 0)) (sc (mag m) g) false = X) :
    Calls Tryd.prog 17 #[.int .i64 s, .int .i64 how, .int .i64 m, .int .i64 e] w fun x w' => x = .returned (.tuple #[.agg #[.int .i64 M, .int .i64 E], .int .i64 X]) ∧ Kept w w' := by
  have hlt := ht.lt
  have hlt0 := ht.lt0
  have hs : s = -1 ∨ s = 0 ∨ s = 1 := by
    rw [Bool.and_eq_true] at h
    exact of_decide_eq_true h.1
  have hn : mag m < 340282366920938463463374607431768211456 := by unfold mag; omega
  subst hg
  have h4 := fun w ht => round_any (decide (m < 0)) (mag m) (max (-1000) (min e 1000)) false s how w ht hs hn (by omega) (by omega) (by intro h; cases h)
  rw [hM, hE, hX] at h4
  have HC := Lib.hid (fun w ht => check_nil s how w ht h)
  have H1 := Lib.hid (fun w ht => exactOf_any m (max (-1000) (min e 1000)) w ht lm hm)
  have H4 := Lib.hid h4
  clear h h4 hM hE hX hs hn
  go_enter Tryd.func17, Tryd.ntmps17
  go_wp2_with (first | (go_at_call 50; (with_reducible refine (HC.out _ (by repeat' (first | (with_reducible assumption) | (with_reducible refine Tab.alloc ?_ _) | (with_reducible refine Tab.drew ?_) | (with_reducible refine Tab.drewN ?_ _) | (with_reducible refine Tab.setCell ?_ ?_ ?_ _) | omega | (simp; done) | (simp; omega)))).mono ?_); rintro e w1 ⟨rfl, hk1⟩; obtain ⟨hc1, hf1⟩ := bcell hk1.2; have ht1 := hk1.1; have hz1 := hk1.2.size; (try simp only [World.size_alloc] at hz1); (try simp only [sz_drew] at hz1); (try simp only [sz_drewN] at hz1); (try simp only [World.size_alloc] at hz1); (try simp only [sz_drew] at hc1 hf1); (try simp only [sz_drewN] at hc1 hf1); (try have hw1 : w.heap.size < w1.heap.size := by omega); (try have hv1 : w.heap.size + 1 < w1.heap.size := by omega); (try have hu1 : w.heap.size + 2 < w1.heap.size := by omega)) | (go_at_call 51; (with_reducible refine (H1.out _ (by repeat' (first | (with_reducible assumption) | (with_reducible refine Tab.alloc ?_ _) | (with_reducible refine Tab.drew ?_) | (with_reducible refine Tab.drewN ?_ _) | (with_reducible refine Tab.setCell ?_ ?_ ?_ _) | omega | (simp; done) | (simp; omega)))).mono ?_); rintro e w2 ⟨rfl, hk2⟩; obtain ⟨hc2, hf2⟩ := bcell hk2.2; have ht2 := hk2.1; have hz2 := hk2.2.size; (try simp only [World.size_alloc] at hz2); (try simp only [sz_drew] at hz2); (try simp only [sz_drewN] at hz2); (try simp only [World.size_alloc] at hz2); (try simp only [sz_drew] at hc2 hf2); (try simp only [sz_drewN] at hc2 hf2); (try have hw2 : w.heap.size < w2.heap.size := by omega); (try have hv2 : w.heap.size + 1 < w2.heap.size := by omega); (try have hu2 : w.heap.size + 2 < w2.heap.size := by omega)) | (go_at_call 52; (with_reducible refine (H4.out _ (by repeat' (first | (with_reducible assumption) | (with_reducible refine Tab.alloc ?_ _) | (with_reducible refine Tab.drew ?_) | (with_reducible refine Tab.drewN ?_ _) | (with_reducible refine Tab.setCell ?_ ?_ ?_ _) | omega | (simp; done) | (simp; omega)))).mono ?_); rintro e w3 ⟨rfl, hk3⟩; obtain ⟨hc3, hf3⟩ := bcell hk3.2; have ht3 := hk3.1; have hz3 := hk3.2.size; (try simp only [World.size_alloc] at hz3); (try simp only [sz_drew] at hz3); (try simp only [sz_drewN] at hz3); (try simp only [World.size_alloc] at hz3); (try simp only [sz_drew] at hc3 hf3); (try simp only [sz_drewN] at hc3 hf3); (try have hw3 : w.heap.size < w3.heap.size := by omega); (try have hv3 : w.heap.size + 1 < w3.heap.size := by omega); (try have hu3 : w.heap.size + 2 < w3.heap.size := by omega)))
  have hF := (((((Own.new w 29 [.int .i64 0, .int .i64 0]).call hk1).call hk2).call hk3).put 0 (.int .i64 M)).put 1 (.int .i64 E)
  refine bodyPost_ret (ret_own_tmp rfl hF rfl Tryd.underlying29 rfl (by kernel_rfl)) rfl ?_
  exact ⟨rfl, (by repeat' (first | (with_reducible assumption) | (with_reducible exact Kept.refl ht) | (with_reducible refine Kept.alloc ?_ _) | (with_reducible refine Kept.drew ?_) | (with_reducible refine Kept.drewN ?_ _) | (with_reducible refine Kept.setCell ?_ ?_ _ ?_ ?_) | (with_reducible refine Kept.trans ?_ (by assumption)) | omega | (simp; done) | (simp; omega)))⟩
set_option maxRecDepth 100000 in
set_option maxHeartbeats 4000000 in
theorem div_zero (s how a e b f : Int) (w : World) (ht : Tab w) (hc : ckR s how [(a, e), (b, f)] = 0) (hb0 : b = 0) :
    Calls Tryd.prog 25 #[.int .i64 s, .int .i64 how, .agg #[.int .i64 a, .int .i64 e], .agg #[.int .i64 b, .int .i64 f]] w fun x w' => x = .returned (.tuple #[.agg #[.int .i64 0, .int .i64 0], .int .i64 11]) ∧ Kept w w' := by
  have hlt := ht.lt
  have hlt0 := ht.lt0
  obtain ⟨_, v1, v2⟩ := ck_facts hc
  obtain ⟨_, _, _, _, a4, a5⟩ := vld_facts v1
  have hck := fun o1 o2 o3 => check_two s how a e b f w ht o1 o2 o3 (by omega) (by omega) (by omega) (by omega)
  rw [hc] at hck
  subst hb0
  have HC := Lib.hid hck
  clear hck hc v1 v2
  go_enter Tryd.func25, Tryd.ntmps25
  go_upto_region 4 with (first | (go_at_call 50; (with_reducible refine (HC.out _ _ _).mono ?_); rintro e w1 ⟨rfl, hk1⟩; obtain ⟨hc1, hf1⟩ := bcell hk1.2; have ht1 := hk1.1; have hz1 := hk1.2.size; (try simp only [World.size_alloc] at hz1); (try simp only [sz_drew] at hz1); (try simp only [sz_drewN] at hz1); (try simp only [World.size_alloc] at hz1); (try simp only [sz_drew] at hc1 hf1); (try simp only [sz_drewN] at hc1 hf1); (try have hw1 : w.heap.size < w1.heap.size := by omega); (try have hv1 : w.heap.size + 1 < w1.heap.size := by omega); (try have hu1 : w.heap.size + 2 < w1.heap.size := by omega)))
  have hI := ((Inv.three ht 29 [.int .i64 a, .int .i64 e] 29 [.int .i64 0, .int .i64 f] 29 [.int .i64 0, .int .i64 0]).alloc _).call hk1
  clear hc1 hf1
  have HZ : Hid (Own w1 (w.heap.size + 1 + 1) 29 [.int .i64 0, .int .i64 0]) := Lib.hid (hI.own 2 _ rfl)
  (have y0 : w1.cell? ⟨w.heap.size + 1, 0, none⟩ = some (.int .i64 0) := (hI.own 1 _ rfl).cell 0; have y1 : w1.cell? ⟨w.heap.size + 1, 1, none⟩ = some (.int .i64 f) := (hI.own 1 _ rfl).cell 1; have yf := fun i => (hI.own 1 _ rfl).frozen i; have yl : w.heap.size + 1 < w1.heap.size := (hI.own 1 _ rfl).lt)
  (have z0 : w1.cell? ⟨w.heap.size + 1 + 1, 0, none⟩ = some (.int .i64 0) := (hI.own 2 _ rfl).cell 0; have z1 : w1.cell? ⟨w.heap.size + 1 + 1, 1, none⟩ = some (.int .i64 0) := (hI.own 2 _ rfl).cell 1; have zf := fun i => (hI.own 2 _ rfl).frozen i; have zl : w.heap.size + 1 + 1 < w1.heap.size := (hI.own 2 _ rfl).lt)
  clear hI
  go_wp2
  have hF := (HZ.out.put 0 (.int .i64 0)).put 1 (.int .i64 0)
  refine bodyPost_ret (ret_own_tmp rfl hF rfl Tryd.underlying29 rfl (by kernel_rfl)) rfl ?_
  exact ⟨rfl, (by repeat' (first | (with_reducible assumption) | (with_reducible exact Kept.refl ht) | (with_reducible refine Kept.alloc ?_ _) | (with_reducible refine Kept.drew ?_) | (with_reducible refine Kept.drewN ?_ _) | (with_reducible refine Kept.setCell ?_ ?_ _ ?_ ?_) | (with_reducible refine Kept.trans ?_ (by assumption)) | omega | (simp; done) | (simp; omega)))⟩
end Go.Proofs.YtcmgphfcpgebfaaDoor
