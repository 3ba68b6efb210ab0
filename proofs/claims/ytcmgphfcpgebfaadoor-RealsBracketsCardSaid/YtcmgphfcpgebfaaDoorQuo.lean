/- The program's quotient of exact numbers. Conditions: the tables hold what their initialisers lay; the divisor is not 0. -/
import Derived.Test.YtcmgphfcpgebfaaDoorProd
namespace Go.Proofs.YtcmgphfcpgebfaaDoor
open Go.ChangeShapes Go.WideShapes Go.ChangeAt Go.RowKit
attribute [local go_sem ↓] Go.wp_at_zero Go.wp_at_succ

theorem bne0 (R : Nat) : ((R : Int) != 0) = !decide (R = 0) := by
  rw [Bool.eq_iff_iff]
  simp
set_option maxRecDepth 100000 in
set_option maxHeartbeats 2000000 in
theorem quotient_zero (a b m1 m2 : Bool) (k : Nat) (e f : Int) (w : World) (ht : Tab w) :
    Calls Tryd.prog 61 #[.agg #[.bool a, .int .u64 (hiW 0 : Int), .int .u64 (loW 0 : Int), .int .i64 e, .bool m1], .agg #[.bool b, .int .u64 (hiW k : Int), .int .u64 (loW k : Int), .int .i64 f, .bool m2]] w fun x w' => x = .returned (.agg #[.bool a, .int .u64 (hiW 0 : Int), .int .u64 (loW 0 : Int), .int .i64 e, .bool m1]) ∧ Kept w w' := by
  have hlt := ht.lt
  have hlt0 := ht.lt0
  go_enter Tryd.func61, Tryd.ntmps61
  go_wp2_with (first | (go_at_call 78; (with_reducible refine (isZero_any 0 _ (by repeat' (first | (with_reducible assumption) | (with_reducible refine Tab.alloc ?_ _) | (with_reducible refine Tab.drew ?_) | (with_reducible refine Tab.drewN ?_ _) | (with_reducible refine Tab.setCell ?_ ?_ ?_ _) | omega | (simp; done) | (simp; omega)))).mono ?_); rintro e w1 ⟨rfl, hk1⟩; obtain ⟨hc1, hf1⟩ := bcell hk1.2; have ht1 := hk1.1; have hz1 := hk1.2.size; (try simp only [World.size_alloc] at hz1); (try simp only [sz_drew] at hz1); (try simp only [sz_drewN] at hz1); (try simp only [World.size_alloc] at hz1); (try simp only [sz_drew] at hc1 hf1); (try simp only [sz_drewN] at hc1 hf1); (try have hw1 : w.heap.size < w1.heap.size := by omega); (try have hv1 : w.heap.size + 1 < w1.heap.size := by omega); (try have hu1 : w.heap.size + 2 < w1.heap.size := by omega)))
  have hF := (((((((Inv.three ht 64 [.bool a, .int .u64 (hiW 0 : Int), .int .u64 (loW 0 : Int), .int .i64 e, .bool m1] 64 [.bool b, .int .u64 (hiW k : Int), .int .u64 (loW k : Int), .int .i64 f, .bool m2] 64 [.bool false, .int .u64 0, .int .u64 0, .int .i64 0, .bool false]).call hk1).own 2 _ rfl).put 0 (.bool a)).put 1 (.int .u64 (hiW 0 : Int))).put 2 (.int .u64 (loW 0 : Int))).put 3 (.int .i64 e)).put 4 (.bool m1)
  refine bodyPost_ret (ret_own rfl hF rfl Tryd.underlying64 rfl (by kernel_rfl)) rfl ?_
  exact ⟨rfl, (by repeat' (first | (with_reducible assumption) | (with_reducible exact Kept.refl ht) | (with_reducible refine Kept.alloc ?_ _) | (with_reducible refine Kept.drew ?_) | (with_reducible refine Kept.drewN ?_ _) | (with_reducible refine Kept.setCell ?_ ?_ _ ?_ ?_) | (with_reducible refine Kept.trans ?_ (by assumption)) | omega | (simp; done) | (simp; omega)))⟩

set_option maxRecDepth 100000 in
set_option maxHeartbeats 2000000 in
theorem quotient_any (a b m1 m2 : Bool) (n k : Nat) (e f : Int) (w : World) (ht : Tab w) (hn0 : n ≠ 0) (hn : n < 18446744073709551616) (hk0 : 0 < k) (hk : k < 18446744073709551616) (he : -100000 ≤ e) (he' : e ≤ 100000) (hf : -100000 ≤ f) (hf' : f ≤ 100000)
    (N Q R : Nat) (d : Int) (hN : n * 10 ^ (37 - dg n) = N) (hd : ((37 - dg n : Nat) : Int) = d) (hQ : N / k = Q) (hR : N % k = R) :
    Calls Tryd.prog 61 #[.agg #[.bool a, .int .u64 (hiW n : Int), .int .u64 (loW n : Int), .int .i64 e, .bool m1], .agg #[.bool b, .int .u64 (hiW k : Int), .int .u64 (loW k : Int), .int .i64 f, .bool m2]] w fun x w' => x = .returned (.agg #[.bool (a != b), .int .u64 (hiW Q : Int), .int .u64 (loW Q : Int), .int .i64 (e - d - f), .bool (decide (R ≠ 0))]) ∧ Kept w w' := by
  have hlt := ht.lt
  have hlt0 := ht.lt0
  have hd0 : decide (n = 0) = false := decide_eq_false hn0
  have hlo : loW k = k := by unfold loW; omega
  have hNb : N < 340282366920938463463374607431768211456 := by
    rw [← hN]
    exact lo_bound (D := 37) (by omega) (by omega)
  have hlg := fun w ht => longer_any a n e m1 37 w ht (by omega) (by omega) (by omega) (by omega) (by omega)
  rw [show (37 : Int).toNat = 37 by decide, hN, hd] at hlg
  have hov := fun w ht => over_any N k w ht hNb hk0 hk
  rw [hQ, hR] at hov
  have hRb : R < 18446744073709551616 := by rw [← hR]; exact Nat.lt_trans (Nat.mod_lt _ hk0) hk
  have HL := Lib.hid hlg
  have HO := Lib.hid (show ∀ w, Tab w → Calls Tryd.prog 96 #[.agg #[.int .u64 (hiW N : Int), .int .u64 (loW N : Int)], .int .u64 (loW k : Int)] w fun e w' => e = .returned (.tuple #[.agg #[.int .u64 (hiW Q : Int), .int .u64 (loW Q : Int)], .int .u64 (R : Int)]) ∧ Kept w w' by
    intro w ht
    have := hov w ht
    rw [hlo]
    exact this)
  have hdb : 0 ≤ d := by omega
  have hdb' : d ≤ 37 := by omega
  clear hQ hR hlg hov hlo hn0 hn hk0 hk hNb hN hd
  go_enter Tryd.func61, Tryd.ntmps61
  go_upto_region 3 with (first | (go_at_call 78; (with_reducible refine (isZero_any n _ (by repeat' (first | (with_reducible assumption) | (with_reducible refine Tab.alloc ?_ _) | (with_reducible refine Tab.drew ?_) | (with_reducible refine Tab.drewN ?_ _) | (with_reducible refine Tab.setCell ?_ ?_ ?_ _) | omega | (simp; done) | (simp; omega)))).mono ?_); rintro e w1 ⟨rfl, hk1⟩; obtain ⟨hc1, hf1⟩ := bcell hk1.2; have ht1 := hk1.1; have hz1 := hk1.2.size; (try simp only [World.size_alloc] at hz1); (try simp only [sz_drew] at hz1); (try simp only [sz_drewN] at hz1); (try simp only [World.size_alloc] at hz1); (try simp only [sz_drew] at hc1 hf1); (try simp only [sz_drewN] at hc1 hf1); (try have hw1 : w.heap.size < w1.heap.size := by omega); (try have hv1 : w.heap.size + 1 < w1.heap.size := by omega); (try have hu1 : w.heap.size + 2 < w1.heap.size := by omega)))
  have hI := (Inv.three ht 64 [.bool a, .int .u64 (hiW n : Int), .int .u64 (loW n : Int), .int .i64 e, .bool m1] 64 [.bool b, .int .u64 (hiW k : Int), .int .u64 (loW k : Int), .int .i64 f, .bool m2] 64 [.bool false, .int .u64 0, .int .u64 0, .int .i64 0, .bool false]).call hk1
  clear hc1 hf1
  (have x0 : w1.cell? ⟨w.heap.size, 0, none⟩ = some (.bool a) := (hI.own 0 _ rfl).cell 0; have x1 : w1.cell? ⟨w.heap.size, 1, none⟩ = some (.int .u64 (hiW n : Int)) := (hI.own 0 _ rfl).cell 1; have x2 : w1.cell? ⟨w.heap.size, 2, none⟩ = some (.int .u64 (loW n : Int)) := (hI.own 0 _ rfl).cell 2; have x3 : w1.cell? ⟨w.heap.size, 3, none⟩ = some (.int .i64 e) := (hI.own 0 _ rfl).cell 3; have x4 : w1.cell? ⟨w.heap.size, 4, none⟩ = some (.bool m1) := (hI.own 0 _ rfl).cell 4; have xf := fun i => (hI.own 0 _ rfl).frozen i; have xl : w.heap.size < w1.heap.size := (hI.own 0 _ rfl).lt)
  (have w1t := hI.kept.1; have w1k := hI.kept; have w1g := hI.kept.1.lt; have w1g0 := hI.kept.1.lt0; have w1z := hI.kept.2.size)
  have HI := Lib.hid hI
  clear hI
  go_cut [] (fun wx => Inv w [(w.heap.size, 64, [.bool a, .int .u64 (hiW N : Int), .int .u64 (loW N : Int), .int .i64 (e - d), .bool m1]), (w.heap.size + 1, 64, [.bool b, .int .u64 (hiW k : Int), .int .u64 (loW k : Int), .int .i64 f, .bool m2]), (w.heap.size + 2, 64, [.bool false, .int .u64 0, .int .u64 0, .int .i64 0, .bool false])] wx)
  case first =>
    go_wp2_with (first | (go_at_call 95; (with_reducible refine (HL.out _ (by repeat' (first | (with_reducible assumption) | (with_reducible refine Tab.alloc ?_ _) | (with_reducible refine Tab.drew ?_) | (with_reducible refine Tab.drewN ?_ _) | (with_reducible refine Tab.setCell ?_ ?_ ?_ _) | omega | (simp; done) | (simp; omega)))).mono ?_); rintro e w2 ⟨rfl, hk2⟩; obtain ⟨hc2, hf2⟩ := bcell hk2.2; have ht2 := hk2.1; have hz2 := hk2.2.size; (try simp only [World.size_alloc] at hz2); (try simp only [sz_drew] at hz2); (try simp only [sz_drewN] at hz2); (try simp only [World.size_alloc] at hz2); (try simp only [sz_drew] at hc2 hf2); (try simp only [sz_drewN] at hc2 hf2); (try have hw2 : w.heap.size < w2.heap.size := by omega); (try have hv2 : w.heap.size + 1 < w2.heap.size := by omega); (try have hu2 : w.heap.size + 2 < w2.heap.size := by omega)))
    go_meet
    exact (((((HI.out.call hk2).put 0 rfl 0 _ (by simp) (by omega) hlt hlt0).put 0 rfl 1 _ (by simp) (by omega) hlt hlt0).put 0 rfl 2 _ (by simp) (by omega) hlt hlt0).put 0 rfl 3 _ (by simp) (by omega) hlt hlt0).put 0 rfl 4 _ (by simp) (by omega) hlt hlt0
  case rest =>
    clear HI x0 x1 x2 x3 x4 xf xl
    (have x0 : wc.cell? ⟨w.heap.size, 0, none⟩ = some (.bool a) := (hcut.own 0 _ rfl).cell 0; have x1 : wc.cell? ⟨w.heap.size, 1, none⟩ = some (.int .u64 (hiW N : Int)) := (hcut.own 0 _ rfl).cell 1; have x2 : wc.cell? ⟨w.heap.size, 2, none⟩ = some (.int .u64 (loW N : Int)) := (hcut.own 0 _ rfl).cell 2; have x3 : wc.cell? ⟨w.heap.size, 3, none⟩ = some (.int .i64 (e - d)) := (hcut.own 0 _ rfl).cell 3; have x4 : wc.cell? ⟨w.heap.size, 4, none⟩ = some (.bool m1) := (hcut.own 0 _ rfl).cell 4; have xf := fun i => (hcut.own 0 _ rfl).frozen i; have xl : w.heap.size < wc.heap.size := (hcut.own 0 _ rfl).lt)
    (have y0 : wc.cell? ⟨w.heap.size + 1, 0, none⟩ = some (.bool b) := (hcut.own 1 _ rfl).cell 0; have y1 : wc.cell? ⟨w.heap.size + 1, 1, none⟩ = some (.int .u64 (hiW k : Int)) := (hcut.own 1 _ rfl).cell 1; have y2 : wc.cell? ⟨w.heap.size + 1, 2, none⟩ = some (.int .u64 (loW k : Int)) := (hcut.own 1 _ rfl).cell 2; have y3 : wc.cell? ⟨w.heap.size + 1, 3, none⟩ = some (.int .i64 f) := (hcut.own 1 _ rfl).cell 3; have y4 : wc.cell? ⟨w.heap.size + 1, 4, none⟩ = some (.bool m2) := (hcut.own 1 _ rfl).cell 4; have yf := fun i => (hcut.own 1 _ rfl).frozen i; have yl : w.heap.size + 1 < wc.heap.size := (hcut.own 1 _ rfl).lt)
    (have wct := hcut.kept.1; have wck := hcut.kept; have wcg := hcut.kept.1.lt; have wcg0 := hcut.kept.1.lt0; have wcz := hcut.kept.2.size)
    have HI := Lib.hid hcut
    clear hcut
    go_upto_region 4 with fail
    go_cut [5, 6] (fun s5 s6 wx => ∃ B : Nat, s5 = .pointer (some ⟨B, 0, none⟩) ∧ s6 = .int .u64 (R : Int) ∧ w.heap.size + 2 < B ∧ Inv w [(w.heap.size, 64, [.bool a, .int .u64 (hiW N : Int), .int .u64 (loW N : Int), .int .i64 (e - d), .bool m1]), (w.heap.size + 1, 64, [.bool b, .int .u64 (hiW k : Int), .int .u64 (loW k : Int), .int .i64 f, .bool m2]), (w.heap.size + 2, 64, [.bool false, .int .u64 0, .int .u64 0, .int .i64 0, .bool false]), (B, 62, [.int .u64 (hiW Q : Int), .int .u64 (loW Q : Int)])] wx)
    case first =>
      have hzl : w.heap.size + 2 < wc.heap.size := (HI.out.own 2 _ rfl).lt
      go_wp2_with (first | (go_at_call 96; (with_reducible refine (HO.out _ (by repeat' (first | (with_reducible assumption) | (with_reducible refine Tab.alloc ?_ _) | (with_reducible refine Tab.drew ?_) | (with_reducible refine Tab.drewN ?_ _) | (with_reducible refine Tab.setCell ?_ ?_ ?_ _) | omega | (simp; done) | (simp; omega)))).mono ?_); rintro e w3 ⟨rfl, hk3⟩; obtain ⟨hc3, hf3⟩ := bcell hk3.2; have ht3 := hk3.1; have hz3 := hk3.2.size; (try simp only [World.size_alloc] at hz3); (try simp only [sz_drew] at hz3); (try simp only [sz_drewN] at hz3); (try simp only [World.size_alloc] at hz3); (try simp only [sz_drew] at hc3 hf3); (try simp only [sz_drewN] at hc3 hf3); (try have hw3 : w.heap.size < w3.heap.size := by omega); (try have hv3 : w.heap.size + 1 < w3.heap.size := by omega); (try have hu3 : w.heap.size + 2 < w3.heap.size := by omega)))
      go_meet
      exact ⟨_, rfl, rfl, by omega, ((HI.out.call hk3).alloc _).more (bs := [_, _, _]) (Own.new w3 _ [_, _])⟩
    case rest =>
      obtain ⟨B, rfl, rfl, hB, hI⟩ := hcut
      clear HI x0 x1 x2 x3 x4 xf xl y0 y1 y2 y3 y4 yf yl
      (have x0 : wc.cell? ⟨w.heap.size, 0, none⟩ = some (.bool a) := (hI.own 0 _ rfl).cell 0; have x1 : wc.cell? ⟨w.heap.size, 1, none⟩ = some (.int .u64 (hiW N : Int)) := (hI.own 0 _ rfl).cell 1; have x2 : wc.cell? ⟨w.heap.size, 2, none⟩ = some (.int .u64 (loW N : Int)) := (hI.own 0 _ rfl).cell 2; have x3 : wc.cell? ⟨w.heap.size, 3, none⟩ = some (.int .i64 (e - d)) := (hI.own 0 _ rfl).cell 3; have x4 : wc.cell? ⟨w.heap.size, 4, none⟩ = some (.bool m1) := (hI.own 0 _ rfl).cell 4; have xf := fun i => (hI.own 0 _ rfl).frozen i; have xl : w.heap.size < wc.heap.size := (hI.own 0 _ rfl).lt)
      (have y0 : wc.cell? ⟨w.heap.size + 1, 0, none⟩ = some (.bool b) := (hI.own 1 _ rfl).cell 0; have y1 : wc.cell? ⟨w.heap.size + 1, 1, none⟩ = some (.int .u64 (hiW k : Int)) := (hI.own 1 _ rfl).cell 1; have y2 : wc.cell? ⟨w.heap.size + 1, 2, none⟩ = some (.int .u64 (loW k : Int)) := (hI.own 1 _ rfl).cell 2; have y3 : wc.cell? ⟨w.heap.size + 1, 3, none⟩ = some (.int .i64 f) := (hI.own 1 _ rfl).cell 3; have y4 : wc.cell? ⟨w.heap.size + 1, 4, none⟩ = some (.bool m2) := (hI.own 1 _ rfl).cell 4; have yf := fun i => (hI.own 1 _ rfl).frozen i; have yl : w.heap.size + 1 < wc.heap.size := (hI.own 1 _ rfl).lt)
      (have z0 : wc.cell? ⟨w.heap.size + 2, 0, none⟩ = some (.bool false) := (hI.own 2 _ rfl).cell 0; have z1 : wc.cell? ⟨w.heap.size + 2, 1, none⟩ = some (.int .u64 0) := (hI.own 2 _ rfl).cell 1; have z2 : wc.cell? ⟨w.heap.size + 2, 2, none⟩ = some (.int .u64 0) := (hI.own 2 _ rfl).cell 2; have z3 : wc.cell? ⟨w.heap.size + 2, 3, none⟩ = some (.int .i64 0) := (hI.own 2 _ rfl).cell 3; have z4 : wc.cell? ⟨w.heap.size + 2, 4, none⟩ = some (.bool false) := (hI.own 2 _ rfl).cell 4; have zf := fun i => (hI.own 2 _ rfl).frozen i; have zl : w.heap.size + 2 < wc.heap.size := (hI.own 2 _ rfl).lt)
      (have q0 : wc.cell? ⟨B, 0, none⟩ = some (.int .u64 (hiW Q : Int)) := (hI.own 3 _ rfl).cell 0; have q1 : wc.cell? ⟨B, 1, none⟩ = some (.int .u64 (loW Q : Int)) := (hI.own 3 _ rfl).cell 1; have qf := fun i => (hI.own 3 _ rfl).frozen i; have ql : B < wc.heap.size := (hI.own 3 _ rfl).lt)
      (have wct := hI.kept.1; have wck := hI.kept; have wcg := hI.kept.1.lt; have wcg0 := hI.kept.1.lt0; have wcz := hI.kept.2.size)
      have HZ := Lib.hid (hI.own 2 _ rfl)
      clear hI
      go_wp2_with fail
      have hF := ((((HZ.out.put 0 (.bool (a != b))).put 1 (.int .u64 (hiW Q : Int))).put 2 (.int .u64 (loW Q : Int))).put 3 (.int .i64 (e - d - f))).put 4 (.bool ((R : Int) != 0))
      refine bodyPost_ret (ret_own rfl hF rfl Tryd.underlying64 rfl (by kernel_rfl)) rfl ?_
      exact ⟨ex_eq rfl rfl (bne0 R) _, (by repeat' (first | (with_reducible assumption) | (with_reducible exact Kept.refl ht) | (with_reducible refine Kept.alloc ?_ _) | (with_reducible refine Kept.drew ?_) | (with_reducible refine Kept.drewN ?_ _) | (with_reducible refine Kept.setCell ?_ ?_ _ ?_ ?_) | (with_reducible refine Kept.trans ?_ (by assumption)) | omega | (simp; done) | (simp; omega)))⟩
end Go.Proofs.YtcmgphfcpgebfaaDoor
