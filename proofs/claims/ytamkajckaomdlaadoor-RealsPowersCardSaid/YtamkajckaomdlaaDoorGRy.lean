/- Pow of the reference, for negative exponents. Condition: the tables hold what their initialisers lay. -/
import Derived.Test.YtamkajckaomdlaaDoorGRx
import Derived.Test.YtamkajckaomdlaaDoorGBrk
namespace Go.Proofs.YtamkajckaomdlaaDoor
open Go.ChangeShapes Go.WideShapes Go.ChangeAt Go.RowKit
attribute [local go_sem ↓] Go.wp_at_zero Go.wp_at_succ

set_option maxRecDepth 100000 in
set_option maxHeartbeats 8000000 in
theorem rpow_negx (s a e M E X : Int) (N : Nat) (w : World) (ht : Tab w) (hc : ckR s 0 [(a, e)] = 0) (hN : N ≤ 1000) (hr : pwN s a e N 1 0 = ⟨M, E, X⟩) (hN0 : 0 < N) (hx : X ≠ 0) :
    Calls Tryd.prog 30 #[.int .i64 s, .agg #[.int .i64 a, .int .i64 e], .int .i64 (-(N : Int))] w fun x w' => x = .returned (.tuple #[.agg #[.int .i64 0, .int .i64 0], .int .i64 X]) ∧ Kept w w' := by
  have hlt := ht.lt
  have hlt0 := ht.lt0
  obtain ⟨_, v1⟩ := ck1_facts hc
  obtain ⟨_, _, _, _, a4, a5⟩ := vld_facts v1
  have hck := fun w ht => right_one s 0 a e w ht (by omega) (by omega)
  rw [hc] at hck
  have HC := Lib.hid hck
  clear hck hc v1
  have HR := Lib.hid hr
  have hxx := Lib.hid hx
  have n1 : ¬ (-(N : Int)) < -1000 := by omega
  have n2 : ¬ 1000 < (-(N : Int)) := by omega
  have n3 : (-(N : Int)) < 0 := by omega
  clear hr hx
  have n4 := n3
  clear n4
  go_enter Tryd.func30, Tryd.ntmps30
  go_upto_region 6 with (first | (go_at_call 48; (with_reducible refine (HC.out _ (by repeat' (first | (with_reducible assumption) | (with_reducible refine Tab.alloc ?_ _) | (with_reducible refine Tab.drew ?_) | (with_reducible refine Tab.drewN ?_ _) | (with_reducible refine Tab.setCell ?_ ?_ ?_ _) | omega | (simp; done) | (simp; omega)))).mono ?_); rintro e w1 ⟨rfl, hk1⟩; obtain ⟨hc1, hf1⟩ := bcell hk1.2; have ht1 := hk1.1; have hz1 := hk1.2.size; (try simp only [World.size_alloc] at hz1); (try simp only [sz_drew] at hz1); (try simp only [sz_drewN] at hz1); (try simp only [World.size_alloc] at hz1); (try simp only [sz_drew] at hc1 hf1); (try simp only [sz_drewN] at hc1 hf1); (try have hw1 : w.heap.size < w1.heap.size := by omega); (try have hv1 : w.heap.size + 1 < w1.heap.size := by omega); (try have hu1 : w.heap.size + 2 < w1.heap.size := by omega)))
  have hI := ((Inv.two ht 29 [.int .i64 a, .int .i64 e] 29 [.int .i64 0, .int .i64 0])).call hk1
  clear hc1 hf1
  have HZ : Hid (Own w1 (w.heap.size + 1) 29 [.int .i64 0, .int .i64 0]) := Lib.hid (hI.own 1 _ rfl)
  (have x0 : w1.cell? ⟨w.heap.size, 0, none⟩ = some (.int .i64 a) := (hI.own 0 _ rfl).cell 0; have x1 : w1.cell? ⟨w.heap.size, 1, none⟩ = some (.int .i64 e) := (hI.own 0 _ rfl).cell 1; have xf := fun i => (hI.own 0 _ rfl).frozen i; have xl : w.heap.size < w1.heap.size := (hI.own 0 _ rfl).lt)
  (have z0 : w1.cell? ⟨w.heap.size + 1, 0, none⟩ = some (.int .i64 0) := (hI.own 1 _ rfl).cell 0; have z1 : w1.cell? ⟨w.heap.size + 1, 1, none⟩ = some (.int .i64 0) := (hI.own 1 _ rfl).cell 1; have zf := fun i => (hI.own 1 _ rfl).frozen i; have zl : w.heap.size + 1 < w1.heap.size := (hI.own 1 _ rfl).lt)
  clear z0 z1 zf zl x0 x1 xf xl HZ
  go_upto_region 8 with fail
  have hI1 := hI.grow 29 [.int .i64 1, .int .i64 0]
  have hA1 : w.heap.size + 1 < w1.heap.size := (hI.own 1 _ rfl).lt
  change Inv w [(w.heap.size, 29, [.int .i64 a, .int .i64 e]), (w.heap.size + 1, 29, [.int .i64 0, .int .i64 0]), (w1.heap.size, 29, [.int .i64 1, .int .i64 0])] _ at hI1
  clear hk1 ht1 hz1 hI
  (try clear hw1)
  (try clear hv1)
  (try clear hu1)
  generalize w1.alloc (.cells #[.int .i64 1, .int .i64 0] 29) = W at hI1 ⊢
  generalize w1.heap.size = A1 at hI1 hA1 ⊢
  have HI1 := Lib.hid hI1
  clear hI1
  go_wp2_with fail
  go_loopw [10] (RpRel s a e A1 N ⟨M, E, X⟩ w) (fun i _ => (intOf i).toNat)
  case atStart => exact ⟨N, 1, 0, rfl, Nat.le_refl _, HR, Lib.hid bd_one, HI1⟩
  case round =>
    clear HI1
    obtain ⟨k, m, g, rfl, hk, hp, hbd, HI⟩ := hrel
    have hI := HI.out
    (have x0 : wr.cell? ⟨w.heap.size, 0, none⟩ = some (.int .i64 a) := (hI.own 0 _ rfl).cell 0; have x1 : wr.cell? ⟨w.heap.size, 1, none⟩ = some (.int .i64 e) := (hI.own 0 _ rfl).cell 1; have xf := fun i => (hI.own 0 _ rfl).frozen i; have xl : w.heap.size < wr.heap.size := (hI.own 0 _ rfl).lt)
    (have z0 : wr.cell? ⟨w.heap.size + 1, 0, none⟩ = some (.int .i64 0) := (hI.own 1 _ rfl).cell 0; have z1 : wr.cell? ⟨w.heap.size + 1, 1, none⟩ = some (.int .i64 0) := (hI.own 1 _ rfl).cell 1; have zf := fun i => (hI.own 1 _ rfl).frozen i; have zl : w.heap.size + 1 < wr.heap.size := (hI.own 1 _ rfl).lt)
    (have p0 : wr.cell? ⟨A1, 0, none⟩ = some (.int .i64 m) := (hI.own 2 _ rfl).cell 0; have p1 : wr.cell? ⟨A1, 1, none⟩ = some (.int .i64 g) := (hI.own 2 _ rfl).cell 1; have pf := fun i => (hI.own 2 _ rfl).frozen i; have pl : A1 < wr.heap.size := (hI.own 2 _ rfl).lt)
    have hkr := hI.kept
    have htr := hkr.1
    have hzr := hkr.2.size
    clear hI
    by_cases hk0 : 0 < k
    · obtain ⟨j, rfl⟩ : ∃ j, k = j + 1 := ⟨k - 1, by omega⟩
      obtain ⟨⟨M2, E2, X2⟩, h2⟩ : ∃ r, mRes s 0 m g a e = r := ⟨_, rfl⟩
      have hb2 := bd_m s 0 m g a e
      rw [h2] at hb2
      have HB2 := Lib.hid hb2
      have HMU := Lib.hid (fun w ht => gives_out2 h2 (rmul_any s 0 m g a e w ht hbd.out.1 hbd.out.2.1 (by omega) (by omega)))
      have hj1 : ((j + 1 : Nat) : Int) = (j : Int) + 1 := by omega
      rw [hj1]
      clear hj1
      by_cases hx : X2 = 0
      · subst hx
        have HP2 : Hid (pwN s a e j M2 E2 = ⟨M, E, X⟩) := Lib.hid (by
          have := hp.out
          rw [pwN_step h2] at this
          exact this)
        clear h2 hb2
        go_wp2_with (first | ((go_at_call 20; (with_reducible refine (HMU.out _ (by repeat' (first | (with_reducible assumption) | (with_reducible refine Tab.alloc ?_ _) | (with_reducible refine Tab.drew ?_) | (with_reducible refine Tab.drewN ?_ _) | (with_reducible refine Tab.setCell ?_ ?_ ?_ _) | omega | (simp; done) | (simp; omega)))).mono ?_); rintro e w2 ⟨rfl, hk2⟩; obtain ⟨hc2, hf2⟩ := bcell hk2.2; have ht2 := hk2.1; have hz2 := hk2.2.size; (try simp only [World.size_alloc] at hz2); (try simp only [sz_drew] at hz2); (try simp only [sz_drewN] at hz2); (try simp only [World.size_alloc] at hz2); (try simp only [sz_drew] at hc2 hf2); (try simp only [sz_drewN] at hc2 hf2); (try have hw2 : w.heap.size < w2.heap.size := by omega); (try have hv2 : w.heap.size + 1 < w2.heap.size := by omega); (try have hu2 : w.heap.size + 2 < w2.heap.size := by omega)); (have hA2 : A1 < w2.heap.size := by omega)))
        have hI2 := HI.out.call hk2
        have hI3 := hI2.put 2 rfl 0 (.int .i64 M2) (by simp; omega) (by omega) (by omega) (by omega)
        have hI4 := hI3.put 2 rfl 1 (.int .i64 E2) (by simp; omega) (by omega) (by omega) (by omega)
        have HI4 := Lib.hid (hI4.alloc (.cells #[.int .i64 M2, .int .i64 E2] 29))
        clear hI2 hI3 hI4
        go_roundw
        case rel => exact ⟨j, M2, E2, by first | rfl | go_num | (simp; done), by omega, HP2, HB2, HI4⟩
        case measure => first | (simp [intOf]; done) | (simp [intOf]; omega)
      · have hxb : (X2 != 0) = true := by simpa using hx
        have HV : Hid ((⟨0, 0, X2⟩ : Res) = ⟨M, E, X⟩) := Lib.hid (by
          have := hp.out
          rw [pwN_stop h2 hx] at this
          exact this)
        clear h2 hb2
        obtain ⟨rfl, rfl, rfl⟩ : M = 0 ∧ E = 0 ∧ X = X2 := by have h := HV.out; cases h; exact ⟨rfl, rfl, rfl⟩
        clear hx
        go_wp2_with (first | (go_at_call 20; (with_reducible refine (HMU.out _ (by repeat' (first | (with_reducible assumption) | (with_reducible refine Tab.alloc ?_ _) | (with_reducible refine Tab.drew ?_) | (with_reducible refine Tab.drewN ?_ _) | (with_reducible refine Tab.setCell ?_ ?_ ?_ _) | omega | (simp; done) | (simp; omega)))).mono ?_); rintro e w2 ⟨rfl, hk2⟩; obtain ⟨hc2, hf2⟩ := bcell hk2.2; have ht2 := hk2.1; have hz2 := hk2.2.size; (try simp only [World.size_alloc] at hz2); (try simp only [sz_drew] at hz2); (try simp only [sz_drewN] at hz2); (try simp only [World.size_alloc] at hz2); (try simp only [sz_drew] at hc2 hf2); (try simp only [sz_drewN] at hc2 hf2); (try have hw2 : w.heap.size < w2.heap.size := by omega); (try have hv2 : w.heap.size + 1 < w2.heap.size := by omega); (try have hu2 : w.heap.size + 2 < w2.heap.size := by omega)))
        have hI2 := HI.out.call hk2
        have hF := (((hI2.own 1 _ rfl).put 0 (.int .i64 0)).put 1 (.int .i64 0)).alloc (.cells #[.int .i64 M2, .int .i64 E2] 29)
        refine bodyPost_ret (ret_own_tmp rfl hF rfl Tryd.underlying29 rfl (by kernel_rfl)) rfl ?_
        exact ⟨rfl, (by repeat' (first | (with_reducible assumption) | (with_reducible exact Kept.refl ht) | (with_reducible refine Kept.alloc ?_ _) | (with_reducible refine Kept.drew ?_) | (with_reducible refine Kept.drewN ?_ _) | (with_reducible refine Kept.setCell ?_ ?_ _ ?_ ?_) | (with_reducible refine Kept.trans ?_ (by assumption)) | omega | (simp; done) | (simp; omega)))⟩
    · obtain rfl : k = 0 := by omega
      have HV : Hid ((⟨m, g, 0⟩ : Res) = ⟨M, E, X⟩) := Lib.hid (by have := hp.out; rw [pwN_zero] at this; exact this)
      exact absurd (by have h := HV.out; cases h; rfl) hxx.out
end Go.Proofs.YtamkajckaomdlaaDoor
