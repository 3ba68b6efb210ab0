/- The program's difference of exact numbers of one exponent. Conditions: the tables hold what their initialisers lay; if the second one has a part, the first one is greater. -/
import Derived.Test.YtanfhlkfmmglhaaDoorGLaw
namespace Go.Proofs.YtanfhlkfmmglhaaDoor
open Go.ChangeShapes Go.WideShapes Go.ChangeAt Go.RowKit
attribute [local go_sem ↓] Go.wp_at_zero Go.wp_at_succ

theorem minus1 (n : Nat) (w : World) (ht : Tab w) (h1 : 1 ≤ n) (h : n < 340282366920938463463374607431768211456) (q : Nat) (hq : n - 1 = q) : Calls Tryd.prog 92 #[.agg #[.int .u64 (hiW n : Int), .int .u64 (loW n : Int)], .agg #[.int .u64 0, .int .u64 1]] w fun e w' => e = .returned (.agg #[.int .u64 (hiW q : Int), .int .u64 (loW q : Int)]) ∧ Kept w w' := by
  subst hq
  have := minus_any n 1 w ht h1 h
  have e1 : ((hiW 1 : Nat) : Int) = 0 := by decide
  have e2 : ((loW 1 : Nat) : Int) = 1 := by decide
  rw [e1, e2] at this
  exact this

set_option maxRecDepth 100000 in
set_option maxHeartbeats 4000000 in
theorem difference_ge (a b m1 : Bool) (n k q : Nat) (e f : Int) (w : World) (ht : Tab w) (hkn : k ≤ n) (hn : n < 340282366920938463463374607431768211456) (hq : n - k = q) :
    Calls Tryd.prog 66 #[.agg #[.bool a, .int .u64 (hiW n : Int), .int .u64 (loW n : Int), .int .i64 e, .bool m1], .agg #[.bool b, .int .u64 (hiW k : Int), .int .u64 (loW k : Int), .int .i64 f, .bool false]] w fun x w' => x = .returned (.agg #[.bool a, .int .u64 (hiW q : Int), .int .u64 (loW q : Int), .int .i64 e, .bool false]) ∧ Kept w w' := by
  have hlt := ht.lt
  have hlt0 := ht.lt0
  have hd : decide (n < k) = false := decide_eq_false (by omega)
  have hmi := fun w ht => minus_any n k w ht hkn hn
  rw [hq] at hmi
  have HM := Lib.hid hmi
  have hle := fun w ht => less_any n k w ht
  rw [hd] at hle
  have HL := Lib.hid hle
  clear hmi hle hd hkn hn hq
  go_enter Tryd.func66, Tryd.ntmps66
  go_upto_region 3 with (first | (go_at_call 89; (with_reducible refine (HL.out _ (by repeat' (first | (with_reducible assumption) | (with_reducible refine Tab.alloc ?_ _) | (with_reducible refine Tab.drew ?_) | (with_reducible refine Tab.drewN ?_ _) | (with_reducible refine Tab.setCell ?_ ?_ ?_ _) | omega | (simp; done) | (simp; omega)))).mono ?_); rintro e w1 ⟨rfl, hk1⟩; obtain ⟨hc1, hf1⟩ := bcell hk1.2; have ht1 := hk1.1; have hz1 := hk1.2.size; (try simp only [World.size_alloc] at hz1); (try simp only [sz_drew] at hz1); (try simp only [sz_drewN] at hz1); (try simp only [World.size_alloc] at hz1); (try simp only [sz_drew] at hc1 hf1); (try simp only [sz_drewN] at hc1 hf1); (try have hw1 : w.heap.size < w1.heap.size := by omega); (try have hv1 : w.heap.size + 1 < w1.heap.size := by omega); (try have hu1 : w.heap.size + 2 < w1.heap.size := by omega)))
  have hI := (Inv.three ht 44 [.bool a, .int .u64 (hiW n : Int), .int .u64 (loW n : Int), .int .i64 e, .bool m1] 44 [.bool b, .int .u64 (hiW k : Int), .int .u64 (loW k : Int), .int .i64 f, .bool false] 44 [.bool false, .int .u64 0, .int .u64 0, .int .i64 0, .bool false]).call hk1
  clear hc1 hf1
  (have x0 : w1.cell? ⟨w.heap.size, 0, none⟩ = some (.bool a) := (hI.own 0 _ rfl).cell 0; have x1 : w1.cell? ⟨w.heap.size, 1, none⟩ = some (.int .u64 (hiW n : Int)) := (hI.own 0 _ rfl).cell 1; have x2 : w1.cell? ⟨w.heap.size, 2, none⟩ = some (.int .u64 (loW n : Int)) := (hI.own 0 _ rfl).cell 2; have x3 : w1.cell? ⟨w.heap.size, 3, none⟩ = some (.int .i64 e) := (hI.own 0 _ rfl).cell 3; have x4 : w1.cell? ⟨w.heap.size, 4, none⟩ = some (.bool m1) := (hI.own 0 _ rfl).cell 4; have xf := fun i => (hI.own 0 _ rfl).frozen i; have xl : w.heap.size < w1.heap.size := (hI.own 0 _ rfl).lt)
  (have y0 : w1.cell? ⟨w.heap.size + 1, 0, none⟩ = some (.bool b) := (hI.own 1 _ rfl).cell 0; have y1 : w1.cell? ⟨w.heap.size + 1, 1, none⟩ = some (.int .u64 (hiW k : Int)) := (hI.own 1 _ rfl).cell 1; have y2 : w1.cell? ⟨w.heap.size + 1, 2, none⟩ = some (.int .u64 (loW k : Int)) := (hI.own 1 _ rfl).cell 2; have y3 : w1.cell? ⟨w.heap.size + 1, 3, none⟩ = some (.int .i64 f) := (hI.own 1 _ rfl).cell 3; have y4 : w1.cell? ⟨w.heap.size + 1, 4, none⟩ = some (.bool false) := (hI.own 1 _ rfl).cell 4; have yf := fun i => (hI.own 1 _ rfl).frozen i; have yl : w.heap.size + 1 < w1.heap.size := (hI.own 1 _ rfl).lt)
  (have w1t := hI.kept.1; have w1k := hI.kept; have w1g := hI.kept.1.lt; have w1g0 := hI.kept.1.lt0; have w1z := hI.kept.2.size)
  have HI := Lib.hid hI
  clear hI
  go_cut [] (fun wx => Inv w [(w.heap.size, 44, [.bool a, .int .u64 (hiW q : Int), .int .u64 (loW q : Int), .int .i64 e, .bool false]), (w.heap.size + 1, 44, [.bool b, .int .u64 (hiW k : Int), .int .u64 (loW k : Int), .int .i64 f, .bool false]), (w.heap.size + 2, 44, [.bool false, .int .u64 0, .int .u64 0, .int .i64 0, .bool false])] wx)
  case first =>
    go_region_with (first | (go_at_call 92; (with_reducible refine (HM.out _ (by repeat' (first | (with_reducible assumption) | (with_reducible refine Tab.alloc ?_ _) | (with_reducible refine Tab.drew ?_) | (with_reducible refine Tab.drewN ?_ _) | (with_reducible refine Tab.setCell ?_ ?_ ?_ _) | omega | (simp; done) | (simp; omega)))).mono ?_); rintro e w2 ⟨rfl, hk2⟩; obtain ⟨hc2, hf2⟩ := bcell hk2.2; have ht2 := hk2.1; have hz2 := hk2.2.size; (try simp only [World.size_alloc] at hz2); (try simp only [sz_drew] at hz2); (try simp only [sz_drewN] at hz2); (try simp only [World.size_alloc] at hz2); (try simp only [sz_drew] at hc2 hf2); (try simp only [sz_drewN] at hc2 hf2); (try have hw2 : w.heap.size < w2.heap.size := by omega); (try have hv2 : w.heap.size + 1 < w2.heap.size := by omega); (try have hu2 : w.heap.size + 2 < w2.heap.size := by omega)))
    all_goals
      go_wp2_with fail
      go_meet
      exact (((HI.out.drew.call hk2).put 0 rfl 1 _ (by simp) (by omega) hlt hlt0).put 0 rfl 2 _ (by simp) (by omega) hlt hlt0).put 0 rfl 4 _ (by simp) (by omega) hlt hlt0
  case rest =>
    (have x0 : wc.cell? ⟨w.heap.size, 0, none⟩ = some (.bool a) := (hcut.own 0 _ rfl).cell 0; have x1 : wc.cell? ⟨w.heap.size, 1, none⟩ = some (.int .u64 (hiW q : Int)) := (hcut.own 0 _ rfl).cell 1; have x2 : wc.cell? ⟨w.heap.size, 2, none⟩ = some (.int .u64 (loW q : Int)) := (hcut.own 0 _ rfl).cell 2; have x3 : wc.cell? ⟨w.heap.size, 3, none⟩ = some (.int .i64 e) := (hcut.own 0 _ rfl).cell 3; have x4 : wc.cell? ⟨w.heap.size, 4, none⟩ = some (.bool false) := (hcut.own 0 _ rfl).cell 4; have xf := fun i => (hcut.own 0 _ rfl).frozen i; have xl : w.heap.size < wc.heap.size := (hcut.own 0 _ rfl).lt)
    (have y0 : wc.cell? ⟨w.heap.size + 1, 0, none⟩ = some (.bool b) := (hcut.own 1 _ rfl).cell 0; have y1 : wc.cell? ⟨w.heap.size + 1, 1, none⟩ = some (.int .u64 (hiW k : Int)) := (hcut.own 1 _ rfl).cell 1; have y2 : wc.cell? ⟨w.heap.size + 1, 2, none⟩ = some (.int .u64 (loW k : Int)) := (hcut.own 1 _ rfl).cell 2; have y3 : wc.cell? ⟨w.heap.size + 1, 3, none⟩ = some (.int .i64 f) := (hcut.own 1 _ rfl).cell 3; have y4 : wc.cell? ⟨w.heap.size + 1, 4, none⟩ = some (.bool false) := (hcut.own 1 _ rfl).cell 4; have yf := fun i => (hcut.own 1 _ rfl).frozen i; have yl : w.heap.size + 1 < wc.heap.size := (hcut.own 1 _ rfl).lt)
    (have z0 : wc.cell? ⟨w.heap.size + 2, 0, none⟩ = some (.bool false) := (hcut.own 2 _ rfl).cell 0; have z1 : wc.cell? ⟨w.heap.size + 2, 1, none⟩ = some (.int .u64 0) := (hcut.own 2 _ rfl).cell 1; have z2 : wc.cell? ⟨w.heap.size + 2, 2, none⟩ = some (.int .u64 0) := (hcut.own 2 _ rfl).cell 2; have z3 : wc.cell? ⟨w.heap.size + 2, 3, none⟩ = some (.int .i64 0) := (hcut.own 2 _ rfl).cell 3; have z4 : wc.cell? ⟨w.heap.size + 2, 4, none⟩ = some (.bool false) := (hcut.own 2 _ rfl).cell 4; have zf := fun i => (hcut.own 2 _ rfl).frozen i; have zl : w.heap.size + 2 < wc.heap.size := (hcut.own 2 _ rfl).lt)
    have hK := hcut.kept
    have HZ := Lib.hid (hcut.own 2 _ rfl)
    clear hcut
    go_wp2_with fail
    have hF := ((((HZ.out.put 0 (.bool a)).put 1 (.int .u64 (hiW q : Int))).put 2 (.int .u64 (loW q : Int))).put 3 (.int .i64 e)).put 4 (.bool false)
    refine bodyPost_ret (ret_own rfl hF rfl Tryd.underlying44 rfl (by kernel_rfl)) rfl ?_
    exact ⟨rfl, (by repeat' (first | (with_reducible assumption) | (with_reducible exact Kept.refl ht) | (with_reducible refine Kept.alloc ?_ _) | (with_reducible refine Kept.drew ?_) | (with_reducible refine Kept.drewN ?_ _) | (with_reducible refine Kept.setCell ?_ ?_ _ ?_ ?_) | (with_reducible refine Kept.trans ?_ (by assumption)) | omega | (simp; done) | (simp; omega)))⟩
set_option maxRecDepth 100000 in
set_option maxHeartbeats 8000000 in
theorem difference_lt (a b : Bool) (n k q : Nat) (e f : Int) (w : World) (ht : Tab w) (hkn : n < k) (hn : k < 340282366920938463463374607431768211456) (hq : k - n = q) :
    Calls Tryd.prog 66 #[.agg #[.bool a, .int .u64 (hiW n : Int), .int .u64 (loW n : Int), .int .i64 e, .bool false], .agg #[.bool b, .int .u64 (hiW k : Int), .int .u64 (loW k : Int), .int .i64 f, .bool false]] w fun x w' => x = .returned (.agg #[.bool b, .int .u64 (hiW q : Int), .int .u64 (loW q : Int), .int .i64 f, .bool false]) ∧ Kept w w' := by
  have hlt := ht.lt
  have hlt0 := ht.lt0
  have hd : decide (n < k) = true := decide_eq_true hkn
  have hmi := fun w ht => minus_any k n w ht (by omega) hn
  rw [hq] at hmi
  have HM := Lib.hid hmi
  have hle := fun w ht => less_any n k w ht
  rw [hd] at hle
  have HL := Lib.hid hle
  clear hmi hle hd hkn hn hq
  go_enter Tryd.func66, Tryd.ntmps66
  go_upto_region 2 with (first | (go_at_call 89; (with_reducible refine (HL.out _ (by repeat' (first | (with_reducible assumption) | (with_reducible refine Tab.alloc ?_ _) | (with_reducible refine Tab.drew ?_) | (with_reducible refine Tab.drewN ?_ _) | (with_reducible refine Tab.setCell ?_ ?_ ?_ _) | omega | (simp; done) | (simp; omega)))).mono ?_); rintro e w1 ⟨rfl, hk1⟩; obtain ⟨hc1, hf1⟩ := bcell hk1.2; have ht1 := hk1.1; have hz1 := hk1.2.size; (try simp only [World.size_alloc] at hz1); (try simp only [sz_drew] at hz1); (try simp only [sz_drewN] at hz1); (try simp only [World.size_alloc] at hz1); (try simp only [sz_drew] at hc1 hf1); (try simp only [sz_drewN] at hc1 hf1); (try have hw1 : w.heap.size < w1.heap.size := by omega); (try have hv1 : w.heap.size + 1 < w1.heap.size := by omega); (try have hu1 : w.heap.size + 2 < w1.heap.size := by omega)))
  have hI := (Inv.three ht 44 [.bool a, .int .u64 (hiW n : Int), .int .u64 (loW n : Int), .int .i64 e, .bool false] 44 [.bool b, .int .u64 (hiW k : Int), .int .u64 (loW k : Int), .int .i64 f, .bool false] 44 [.bool false, .int .u64 0, .int .u64 0, .int .i64 0, .bool false]).call hk1
  clear hc1 hf1
  (have x0 : w1.cell? ⟨w.heap.size, 0, none⟩ = some (.bool a) := (hI.own 0 _ rfl).cell 0; have x1 : w1.cell? ⟨w.heap.size, 1, none⟩ = some (.int .u64 (hiW n : Int)) := (hI.own 0 _ rfl).cell 1; have x2 : w1.cell? ⟨w.heap.size, 2, none⟩ = some (.int .u64 (loW n : Int)) := (hI.own 0 _ rfl).cell 2; have x3 : w1.cell? ⟨w.heap.size, 3, none⟩ = some (.int .i64 e) := (hI.own 0 _ rfl).cell 3; have x4 : w1.cell? ⟨w.heap.size, 4, none⟩ = some (.bool false) := (hI.own 0 _ rfl).cell 4; have xf := fun i => (hI.own 0 _ rfl).frozen i; have xl : w.heap.size < w1.heap.size := (hI.own 0 _ rfl).lt)
  (have y0 : w1.cell? ⟨w.heap.size + 1, 0, none⟩ = some (.bool b) := (hI.own 1 _ rfl).cell 0; have y1 : w1.cell? ⟨w.heap.size + 1, 1, none⟩ = some (.int .u64 (hiW k : Int)) := (hI.own 1 _ rfl).cell 1; have y2 : w1.cell? ⟨w.heap.size + 1, 2, none⟩ = some (.int .u64 (loW k : Int)) := (hI.own 1 _ rfl).cell 2; have y3 : w1.cell? ⟨w.heap.size + 1, 3, none⟩ = some (.int .i64 f) := (hI.own 1 _ rfl).cell 3; have y4 : w1.cell? ⟨w.heap.size + 1, 4, none⟩ = some (.bool false) := (hI.own 1 _ rfl).cell 4; have yf := fun i => (hI.own 1 _ rfl).frozen i; have yl : w.heap.size + 1 < w1.heap.size := (hI.own 1 _ rfl).lt)
  (have w1t := hI.kept.1; have w1k := hI.kept; have w1g := hI.kept.1.lt; have w1g0 := hI.kept.1.lt0; have w1z := hI.kept.2.size)
  have HI := Lib.hid hI
  clear hI
  go_cut [] (fun wx => Inv w [(w.heap.size, 44, [.bool b, .int .u64 (hiW k : Int), .int .u64 (loW k : Int), .int .i64 f, .bool false]), (w.heap.size + 1, 44, [.bool a, .int .u64 (hiW n : Int), .int .u64 (loW n : Int), .int .i64 e, .bool false]), (w.heap.size + 2, 44, [.bool false, .int .u64 0, .int .u64 0, .int .i64 0, .bool false])] wx)
  case first =>
    go_wp2_with fail
    go_meet
    exact (((((((((HI.out.put 0 rfl 0 _ (by simp) (by omega) hlt hlt0).put 0 rfl 1 _ (by simp) (by omega) hlt hlt0).put 0 rfl 2 _ (by simp) (by omega) hlt hlt0).put 0 rfl 3 _ (by simp) (by omega) hlt hlt0).put 0 rfl 4 _ (by simp) (by omega) hlt hlt0).put 1 rfl 0 _ (by simp) (by omega) hlt hlt0).put 1 rfl 1 _ (by simp) (by omega) hlt hlt0).put 1 rfl 2 _ (by simp) (by omega) hlt hlt0).put 1 rfl 3 _ (by simp) (by omega) hlt hlt0).put 1 rfl 4 _ (by simp) (by omega) hlt hlt0
  case rest =>
    clear HI x0 x1 x2 x3 x4 xf xl y0 y1 y2 y3 y4 yf yl
    (have x0 : wc.cell? ⟨w.heap.size, 0, none⟩ = some (.bool b) := (hcut.own 0 _ rfl).cell 0; have x1 : wc.cell? ⟨w.heap.size, 1, none⟩ = some (.int .u64 (hiW k : Int)) := (hcut.own 0 _ rfl).cell 1; have x2 : wc.cell? ⟨w.heap.size, 2, none⟩ = some (.int .u64 (loW k : Int)) := (hcut.own 0 _ rfl).cell 2; have x3 : wc.cell? ⟨w.heap.size, 3, none⟩ = some (.int .i64 f) := (hcut.own 0 _ rfl).cell 3; have x4 : wc.cell? ⟨w.heap.size, 4, none⟩ = some (.bool false) := (hcut.own 0 _ rfl).cell 4; have xf := fun i => (hcut.own 0 _ rfl).frozen i; have xl : w.heap.size < wc.heap.size := (hcut.own 0 _ rfl).lt)
    (have y0 : wc.cell? ⟨w.heap.size + 1, 0, none⟩ = some (.bool a) := (hcut.own 1 _ rfl).cell 0; have y1 : wc.cell? ⟨w.heap.size + 1, 1, none⟩ = some (.int .u64 (hiW n : Int)) := (hcut.own 1 _ rfl).cell 1; have y2 : wc.cell? ⟨w.heap.size + 1, 2, none⟩ = some (.int .u64 (loW n : Int)) := (hcut.own 1 _ rfl).cell 2; have y3 : wc.cell? ⟨w.heap.size + 1, 3, none⟩ = some (.int .i64 e) := (hcut.own 1 _ rfl).cell 3; have y4 : wc.cell? ⟨w.heap.size + 1, 4, none⟩ = some (.bool false) := (hcut.own 1 _ rfl).cell 4; have yf := fun i => (hcut.own 1 _ rfl).frozen i; have yl : w.heap.size + 1 < wc.heap.size := (hcut.own 1 _ rfl).lt)
    (have wct := hcut.kept.1; have wck := hcut.kept; have wcg := hcut.kept.1.lt; have wcg0 := hcut.kept.1.lt0; have wcz := hcut.kept.2.size)
    have HI := Lib.hid hcut
    clear hcut
    go_upto_region 3 with fail
    go_cut [] (fun wx => Inv w [(w.heap.size, 44, [.bool b, .int .u64 (hiW q : Int), .int .u64 (loW q : Int), .int .i64 f, .bool false]), (w.heap.size + 1, 44, [.bool a, .int .u64 (hiW n : Int), .int .u64 (loW n : Int), .int .i64 e, .bool false]), (w.heap.size + 2, 44, [.bool false, .int .u64 0, .int .u64 0, .int .i64 0, .bool false])] wx)
    case first =>
      go_region_with (first | (go_at_call 92; (with_reducible refine (HM.out _ (by repeat' (first | (with_reducible assumption) | (with_reducible refine Tab.alloc ?_ _) | (with_reducible refine Tab.drew ?_) | (with_reducible refine Tab.drewN ?_ _) | (with_reducible refine Tab.setCell ?_ ?_ ?_ _) | omega | (simp; done) | (simp; omega)))).mono ?_); rintro e w2 ⟨rfl, hk2⟩; obtain ⟨hc2, hf2⟩ := bcell hk2.2; have ht2 := hk2.1; have hz2 := hk2.2.size; (try simp only [World.size_alloc] at hz2); (try simp only [sz_drew] at hz2); (try simp only [sz_drewN] at hz2); (try simp only [World.size_alloc] at hz2); (try simp only [sz_drew] at hc2 hf2); (try simp only [sz_drewN] at hc2 hf2); (try have hw2 : w.heap.size < w2.heap.size := by omega); (try have hv2 : w.heap.size + 1 < w2.heap.size := by omega); (try have hu2 : w.heap.size + 2 < w2.heap.size := by omega)))
      all_goals
        go_wp2_with fail
        go_meet
        exact (((HI.out.drew.call hk2).put 0 rfl 1 _ (by simp) (by omega) hlt hlt0).put 0 rfl 2 _ (by simp) (by omega) hlt hlt0).put 0 rfl 4 _ (by simp) (by omega) hlt hlt0
    case rest =>
      clear HI x0 x1 x2 x3 x4 xf xl y0 y1 y2 y3 y4 yf yl
      (have x0 : wc.cell? ⟨w.heap.size, 0, none⟩ = some (.bool b) := (hcut.own 0 _ rfl).cell 0; have x1 : wc.cell? ⟨w.heap.size, 1, none⟩ = some (.int .u64 (hiW q : Int)) := (hcut.own 0 _ rfl).cell 1; have x2 : wc.cell? ⟨w.heap.size, 2, none⟩ = some (.int .u64 (loW q : Int)) := (hcut.own 0 _ rfl).cell 2; have x3 : wc.cell? ⟨w.heap.size, 3, none⟩ = some (.int .i64 f) := (hcut.own 0 _ rfl).cell 3; have x4 : wc.cell? ⟨w.heap.size, 4, none⟩ = some (.bool false) := (hcut.own 0 _ rfl).cell 4; have xf := fun i => (hcut.own 0 _ rfl).frozen i; have xl : w.heap.size < wc.heap.size := (hcut.own 0 _ rfl).lt)
      (have y0 : wc.cell? ⟨w.heap.size + 1, 0, none⟩ = some (.bool a) := (hcut.own 1 _ rfl).cell 0; have y1 : wc.cell? ⟨w.heap.size + 1, 1, none⟩ = some (.int .u64 (hiW n : Int)) := (hcut.own 1 _ rfl).cell 1; have y2 : wc.cell? ⟨w.heap.size + 1, 2, none⟩ = some (.int .u64 (loW n : Int)) := (hcut.own 1 _ rfl).cell 2; have y3 : wc.cell? ⟨w.heap.size + 1, 3, none⟩ = some (.int .i64 e) := (hcut.own 1 _ rfl).cell 3; have y4 : wc.cell? ⟨w.heap.size + 1, 4, none⟩ = some (.bool false) := (hcut.own 1 _ rfl).cell 4; have yf := fun i => (hcut.own 1 _ rfl).frozen i; have yl : w.heap.size + 1 < wc.heap.size := (hcut.own 1 _ rfl).lt)
      (have z0 : wc.cell? ⟨w.heap.size + 2, 0, none⟩ = some (.bool false) := (hcut.own 2 _ rfl).cell 0; have z1 : wc.cell? ⟨w.heap.size + 2, 1, none⟩ = some (.int .u64 0) := (hcut.own 2 _ rfl).cell 1; have z2 : wc.cell? ⟨w.heap.size + 2, 2, none⟩ = some (.int .u64 0) := (hcut.own 2 _ rfl).cell 2; have z3 : wc.cell? ⟨w.heap.size + 2, 3, none⟩ = some (.int .i64 0) := (hcut.own 2 _ rfl).cell 3; have z4 : wc.cell? ⟨w.heap.size + 2, 4, none⟩ = some (.bool false) := (hcut.own 2 _ rfl).cell 4; have zf := fun i => (hcut.own 2 _ rfl).frozen i; have zl : w.heap.size + 2 < wc.heap.size := (hcut.own 2 _ rfl).lt)
      have hK := hcut.kept
      have HZ := Lib.hid (hcut.own 2 _ rfl)
      clear hcut
      go_wp2_with fail
      have hF := ((((HZ.out.put 0 (.bool b)).put 1 (.int .u64 (hiW q : Int))).put 2 (.int .u64 (loW q : Int))).put 3 (.int .i64 f)).put 4 (.bool false)
      refine bodyPost_ret (ret_own rfl hF rfl Tryd.underlying44 rfl (by kernel_rfl)) rfl ?_
      exact ⟨rfl, (by repeat' (first | (with_reducible assumption) | (with_reducible exact Kept.refl ht) | (with_reducible refine Kept.alloc ?_ _) | (with_reducible refine Kept.drew ?_) | (with_reducible refine Kept.drewN ?_ _) | (with_reducible refine Kept.setCell ?_ ?_ _ ?_ ?_) | (with_reducible refine Kept.trans ?_ (by assumption)) | omega | (simp; done) | (simp; omega)))⟩

set_option maxRecDepth 100000 in
set_option maxHeartbeats 4000000 in
theorem difference_part (a b m1 : Bool) (n k q : Nat) (e f : Int) (w : World) (ht : Tab w) (hkn : k ≤ n) (hn : n < 340282366920938463463374607431768211456) (hq : n - k = q) (q1 : Nat) (h1 : 1 ≤ q) (hq1 : q - 1 = q1) :
    Calls Tryd.prog 66 #[.agg #[.bool a, .int .u64 (hiW n : Int), .int .u64 (loW n : Int), .int .i64 e, .bool m1], .agg #[.bool b, .int .u64 (hiW k : Int), .int .u64 (loW k : Int), .int .i64 f, .bool true]] w fun x w' => x = .returned (.agg #[.bool a, .int .u64 (hiW q1 : Int), .int .u64 (loW q1 : Int), .int .i64 e, .bool true]) ∧ Kept w w' := by
  have hlt := ht.lt
  have hlt0 := ht.lt0
  have hd : decide (n < k) = false := decide_eq_false (by omega)
  have hmi := fun w ht => minus_any n k w ht hkn hn
  rw [hq] at hmi
  have HM1 := Lib.hid (fun w ht => minus1 q w ht h1 (by omega) q1 hq1)
  have HM := Lib.hid hmi
  have hle := fun w ht => less_any n k w ht
  rw [hd] at hle
  have HL := Lib.hid hle
  clear hmi hle hd hkn hn hq h1 hq1
  go_enter Tryd.func66, Tryd.ntmps66
  go_upto_region 3 with (first | (go_at_call 89; (with_reducible refine (HL.out _ (by repeat' (first | (with_reducible assumption) | (with_reducible refine Tab.alloc ?_ _) | (with_reducible refine Tab.drew ?_) | (with_reducible refine Tab.drewN ?_ _) | (with_reducible refine Tab.setCell ?_ ?_ ?_ _) | omega | (simp; done) | (simp; omega)))).mono ?_); rintro e w1 ⟨rfl, hk1⟩; obtain ⟨hc1, hf1⟩ := bcell hk1.2; have ht1 := hk1.1; have hz1 := hk1.2.size; (try simp only [World.size_alloc] at hz1); (try simp only [sz_drew] at hz1); (try simp only [sz_drewN] at hz1); (try simp only [World.size_alloc] at hz1); (try simp only [sz_drew] at hc1 hf1); (try simp only [sz_drewN] at hc1 hf1); (try have hw1 : w.heap.size < w1.heap.size := by omega); (try have hv1 : w.heap.size + 1 < w1.heap.size := by omega); (try have hu1 : w.heap.size + 2 < w1.heap.size := by omega)))
  have hI := (Inv.three ht 44 [.bool a, .int .u64 (hiW n : Int), .int .u64 (loW n : Int), .int .i64 e, .bool m1] 44 [.bool b, .int .u64 (hiW k : Int), .int .u64 (loW k : Int), .int .i64 f, .bool true] 44 [.bool false, .int .u64 0, .int .u64 0, .int .i64 0, .bool false]).call hk1
  clear hc1 hf1
  (have x0 : w1.cell? ⟨w.heap.size, 0, none⟩ = some (.bool a) := (hI.own 0 _ rfl).cell 0; have x1 : w1.cell? ⟨w.heap.size, 1, none⟩ = some (.int .u64 (hiW n : Int)) := (hI.own 0 _ rfl).cell 1; have x2 : w1.cell? ⟨w.heap.size, 2, none⟩ = some (.int .u64 (loW n : Int)) := (hI.own 0 _ rfl).cell 2; have x3 : w1.cell? ⟨w.heap.size, 3, none⟩ = some (.int .i64 e) := (hI.own 0 _ rfl).cell 3; have x4 : w1.cell? ⟨w.heap.size, 4, none⟩ = some (.bool m1) := (hI.own 0 _ rfl).cell 4; have xf := fun i => (hI.own 0 _ rfl).frozen i; have xl : w.heap.size < w1.heap.size := (hI.own 0 _ rfl).lt)
  (have y0 : w1.cell? ⟨w.heap.size + 1, 0, none⟩ = some (.bool b) := (hI.own 1 _ rfl).cell 0; have y1 : w1.cell? ⟨w.heap.size + 1, 1, none⟩ = some (.int .u64 (hiW k : Int)) := (hI.own 1 _ rfl).cell 1; have y2 : w1.cell? ⟨w.heap.size + 1, 2, none⟩ = some (.int .u64 (loW k : Int)) := (hI.own 1 _ rfl).cell 2; have y3 : w1.cell? ⟨w.heap.size + 1, 3, none⟩ = some (.int .i64 f) := (hI.own 1 _ rfl).cell 3; have y4 : w1.cell? ⟨w.heap.size + 1, 4, none⟩ = some (.bool true) := (hI.own 1 _ rfl).cell 4; have yf := fun i => (hI.own 1 _ rfl).frozen i; have yl : w.heap.size + 1 < w1.heap.size := (hI.own 1 _ rfl).lt)
  (have w1t := hI.kept.1; have w1k := hI.kept; have w1g := hI.kept.1.lt; have w1g0 := hI.kept.1.lt0; have w1z := hI.kept.2.size)
  have HI := Lib.hid hI
  clear hI
  go_cut [] (fun wx => Inv w [(w.heap.size, 44, [.bool a, .int .u64 (hiW q : Int), .int .u64 (loW q : Int), .int .i64 e, .bool true]), (w.heap.size + 1, 44, [.bool b, .int .u64 (hiW k : Int), .int .u64 (loW k : Int), .int .i64 f, .bool true]), (w.heap.size + 2, 44, [.bool false, .int .u64 0, .int .u64 0, .int .i64 0, .bool false])] wx)
  case first =>
    go_region_with (first | (go_at_call 92; (with_reducible refine (HM.out _ (by repeat' (first | (with_reducible assumption) | (with_reducible refine Tab.alloc ?_ _) | (with_reducible refine Tab.drew ?_) | (with_reducible refine Tab.drewN ?_ _) | (with_reducible refine Tab.setCell ?_ ?_ ?_ _) | omega | (simp; done) | (simp; omega)))).mono ?_); rintro e w2 ⟨rfl, hk2⟩; obtain ⟨hc2, hf2⟩ := bcell hk2.2; have ht2 := hk2.1; have hz2 := hk2.2.size; (try simp only [World.size_alloc] at hz2); (try simp only [sz_drew] at hz2); (try simp only [sz_drewN] at hz2); (try simp only [World.size_alloc] at hz2); (try simp only [sz_drew] at hc2 hf2); (try simp only [sz_drewN] at hc2 hf2); (try have hw2 : w.heap.size < w2.heap.size := by omega); (try have hv2 : w.heap.size + 1 < w2.heap.size := by omega); (try have hu2 : w.heap.size + 2 < w2.heap.size := by omega)))
    all_goals
      go_wp2_with fail
      go_meet
      exact (((HI.out.drew.call hk2).put 0 rfl 1 _ (by simp) (by omega) hlt hlt0).put 0 rfl 2 _ (by simp) (by omega) hlt hlt0).put 0 rfl 4 _ (by simp) (by omega) hlt hlt0
  case rest =>
    clear HI x0 x1 x2 x3 x4 xf xl y0 y1 y2 y3 y4 yf yl
    (have x0 : wc.cell? ⟨w.heap.size, 0, none⟩ = some (.bool a) := (hcut.own 0 _ rfl).cell 0; have x1 : wc.cell? ⟨w.heap.size, 1, none⟩ = some (.int .u64 (hiW q : Int)) := (hcut.own 0 _ rfl).cell 1; have x2 : wc.cell? ⟨w.heap.size, 2, none⟩ = some (.int .u64 (loW q : Int)) := (hcut.own 0 _ rfl).cell 2; have x3 : wc.cell? ⟨w.heap.size, 3, none⟩ = some (.int .i64 e) := (hcut.own 0 _ rfl).cell 3; have x4 : wc.cell? ⟨w.heap.size, 4, none⟩ = some (.bool true) := (hcut.own 0 _ rfl).cell 4; have xf := fun i => (hcut.own 0 _ rfl).frozen i; have xl : w.heap.size < wc.heap.size := (hcut.own 0 _ rfl).lt)
    (have y0 : wc.cell? ⟨w.heap.size + 1, 0, none⟩ = some (.bool b) := (hcut.own 1 _ rfl).cell 0; have y1 : wc.cell? ⟨w.heap.size + 1, 1, none⟩ = some (.int .u64 (hiW k : Int)) := (hcut.own 1 _ rfl).cell 1; have y2 : wc.cell? ⟨w.heap.size + 1, 2, none⟩ = some (.int .u64 (loW k : Int)) := (hcut.own 1 _ rfl).cell 2; have y3 : wc.cell? ⟨w.heap.size + 1, 3, none⟩ = some (.int .i64 f) := (hcut.own 1 _ rfl).cell 3; have y4 : wc.cell? ⟨w.heap.size + 1, 4, none⟩ = some (.bool true) := (hcut.own 1 _ rfl).cell 4; have yf := fun i => (hcut.own 1 _ rfl).frozen i; have yl : w.heap.size + 1 < wc.heap.size := (hcut.own 1 _ rfl).lt)
    (have wct := hcut.kept.1; have wck := hcut.kept; have wcg := hcut.kept.1.lt; have wcg0 := hcut.kept.1.lt0; have wcz := hcut.kept.2.size)
    have HI := Lib.hid hcut
    clear hcut
    go_upto_region 5 with fail
    go_cut [] (fun wx => Inv w [(w.heap.size, 44, [.bool a, .int .u64 (hiW q1 : Int), .int .u64 (loW q1 : Int), .int .i64 e, .bool true]), (w.heap.size + 1, 44, [.bool b, .int .u64 (hiW k : Int), .int .u64 (loW k : Int), .int .i64 f, .bool true]), (w.heap.size + 2, 44, [.bool false, .int .u64 0, .int .u64 0, .int .i64 0, .bool false])] wx)
    case first =>
      go_wp2_with (first | (go_at_call 92; (with_reducible refine (HM1.out _ (by repeat' (first | (with_reducible assumption) | (with_reducible refine Tab.alloc ?_ _) | (with_reducible refine Tab.drew ?_) | (with_reducible refine Tab.drewN ?_ _) | (with_reducible refine Tab.setCell ?_ ?_ ?_ _) | omega | (simp; done) | (simp; omega)))).mono ?_); rintro e w3 ⟨rfl, hk3⟩; obtain ⟨hc3, hf3⟩ := bcell hk3.2; have ht3 := hk3.1; have hz3 := hk3.2.size; (try simp only [World.size_alloc] at hz3); (try simp only [sz_drew] at hz3); (try simp only [sz_drewN] at hz3); (try simp only [World.size_alloc] at hz3); (try simp only [sz_drew] at hc3 hf3); (try simp only [sz_drewN] at hc3 hf3); (try have hw3 : w.heap.size < w3.heap.size := by omega); (try have hv3 : w.heap.size + 1 < w3.heap.size := by omega); (try have hu3 : w.heap.size + 2 < w3.heap.size := by omega)))
      go_meet
      exact ((HI.out.call hk3).put 0 rfl 1 _ (by simp) (by omega) hlt hlt0).put 0 rfl 2 _ (by simp) (by omega) hlt hlt0
    case rest =>
      clear HI x0 x1 x2 x3 x4 xf xl y0 y1 y2 y3 y4 yf yl
      (have x0 : wc.cell? ⟨w.heap.size, 0, none⟩ = some (.bool a) := (hcut.own 0 _ rfl).cell 0; have x1 : wc.cell? ⟨w.heap.size, 1, none⟩ = some (.int .u64 (hiW q1 : Int)) := (hcut.own 0 _ rfl).cell 1; have x2 : wc.cell? ⟨w.heap.size, 2, none⟩ = some (.int .u64 (loW q1 : Int)) := (hcut.own 0 _ rfl).cell 2; have x3 : wc.cell? ⟨w.heap.size, 3, none⟩ = some (.int .i64 e) := (hcut.own 0 _ rfl).cell 3; have x4 : wc.cell? ⟨w.heap.size, 4, none⟩ = some (.bool true) := (hcut.own 0 _ rfl).cell 4; have xf := fun i => (hcut.own 0 _ rfl).frozen i; have xl : w.heap.size < wc.heap.size := (hcut.own 0 _ rfl).lt)
      (have z0 : wc.cell? ⟨w.heap.size + 2, 0, none⟩ = some (.bool false) := (hcut.own 2 _ rfl).cell 0; have z1 : wc.cell? ⟨w.heap.size + 2, 1, none⟩ = some (.int .u64 0) := (hcut.own 2 _ rfl).cell 1; have z2 : wc.cell? ⟨w.heap.size + 2, 2, none⟩ = some (.int .u64 0) := (hcut.own 2 _ rfl).cell 2; have z3 : wc.cell? ⟨w.heap.size + 2, 3, none⟩ = some (.int .i64 0) := (hcut.own 2 _ rfl).cell 3; have z4 : wc.cell? ⟨w.heap.size + 2, 4, none⟩ = some (.bool false) := (hcut.own 2 _ rfl).cell 4; have zf := fun i => (hcut.own 2 _ rfl).frozen i; have zl : w.heap.size + 2 < wc.heap.size := (hcut.own 2 _ rfl).lt)
      have hK := hcut.kept
      have HZ := Lib.hid (hcut.own 2 _ rfl)
      clear hcut
      go_wp2_with fail
      have hF := ((((HZ.out.put 0 (.bool a)).put 1 (.int .u64 (hiW q1 : Int))).put 2 (.int .u64 (loW q1 : Int))).put 3 (.int .i64 e)).put 4 (.bool true)
      refine bodyPost_ret (ret_own rfl hF rfl Tryd.underlying44 rfl (by kernel_rfl)) rfl ?_
      exact ⟨rfl, (by repeat' (first | (with_reducible assumption) | (with_reducible exact Kept.refl ht) | (with_reducible refine Kept.alloc ?_ _) | (with_reducible refine Kept.drew ?_) | (with_reducible refine Kept.drewN ?_ _) | (with_reducible refine Kept.setCell ?_ ?_ _ ?_ ?_) | (with_reducible refine Kept.trans ?_ (by assumption)) | omega | (simp; done) | (simp; omega)))⟩

end Go.Proofs.YtanfhlkfmmglhaaDoor
