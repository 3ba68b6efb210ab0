/- The program's sum of exact numbers. Conditions: the tables hold what their initialisers lay; the numbers have no parts and at most 18 digits. -/
import Derived.Test.YtanfhlkfmmglhaaDoorGDiff
namespace Go.Proofs.YtanfhlkfmmglhaaDoor
open Go.ChangeShapes Go.WideShapes Go.ChangeAt Go.RowKit
attribute [local go_sem ↓] Go.wp_at_zero Go.wp_at_succ

set_option maxRecDepth 100000 in
set_option maxHeartbeats 4000000 in
theorem sum_left (a b : Bool) (k : Nat) (e f : Int) (w : World) (ht : Tab w) :
    Calls Tryd.prog 34 #[.agg #[.bool a, .int .u64 (hiW 0 : Int), .int .u64 (loW 0 : Int), .int .i64 e, .bool false], .agg #[.bool b, .int .u64 (hiW k : Int), .int .u64 (loW k : Int), .int .i64 f, .bool false]] w fun x w' => x = .returned (.agg #[.bool b, .int .u64 (hiW k : Int), .int .u64 (loW k : Int), .int .i64 f, .bool false]) ∧ Kept w w' := by
  have hlt := ht.lt
  have hlt0 := ht.lt0
  go_enter Tryd.func34, Tryd.ntmps34
  go_wp2_with (first | (go_at_call 62; (with_reducible refine (isZero_any 0 _ (by repeat' (first | (with_reducible assumption) | (with_reducible refine Tab.alloc ?_ _) | (with_reducible refine Tab.drew ?_) | (with_reducible refine Tab.drewN ?_ _) | (with_reducible refine Tab.setCell ?_ ?_ ?_ _) | omega | (simp; done) | (simp; omega)))).mono ?_); rintro e w1 ⟨rfl, hk1⟩; obtain ⟨hc1, hf1⟩ := bcell hk1.2; have ht1 := hk1.1; have hz1 := hk1.2.size; (try simp only [World.size_alloc] at hz1); (try simp only [sz_drew] at hz1); (try simp only [sz_drewN] at hz1); (try simp only [World.size_alloc] at hz1); (try simp only [sz_drew] at hc1 hf1); (try simp only [sz_drewN] at hc1 hf1); (try have hw1 : w.heap.size < w1.heap.size := by omega); (try have hv1 : w.heap.size + 1 < w1.heap.size := by omega); (try have hu1 : w.heap.size + 2 < w1.heap.size := by omega)))
  have hF := (((((((Inv.three ht 44 [.bool a, .int .u64 (hiW 0 : Int), .int .u64 (loW 0 : Int), .int .i64 e, .bool false] 44 [.bool b, .int .u64 (hiW k : Int), .int .u64 (loW k : Int), .int .i64 f, .bool false] 44 [.bool false, .int .u64 0, .int .u64 0, .int .i64 0, .bool false]).call hk1).own 2 _ rfl).put 0 (.bool b)).put 1 (.int .u64 (hiW k : Int))).put 2 (.int .u64 (loW k : Int))).put 3 (.int .i64 f)).put 4 (.bool false)
  refine bodyPost_ret (ret_own rfl hF rfl Tryd.underlying44 rfl (by kernel_rfl)) rfl ?_
  exact ⟨rfl, (by repeat' (first | (with_reducible assumption) | (with_reducible exact Kept.refl ht) | (with_reducible refine Kept.alloc ?_ _) | (with_reducible refine Kept.drew ?_) | (with_reducible refine Kept.drewN ?_ _) | (with_reducible refine Kept.setCell ?_ ?_ _ ?_ ?_) | (with_reducible refine Kept.trans ?_ (by assumption)) | omega | (simp; done) | (simp; omega)))⟩

set_option maxRecDepth 100000 in
set_option maxHeartbeats 4000000 in
theorem sum_right (a b : Bool) (n : Nat) (e f : Int) (w : World) (ht : Tab w) (hn : n ≠ 0) :
    Calls Tryd.prog 34 #[.agg #[.bool a, .int .u64 (hiW n : Int), .int .u64 (loW n : Int), .int .i64 e, .bool false], .agg #[.bool b, .int .u64 (hiW 0 : Int), .int .u64 (loW 0 : Int), .int .i64 f, .bool false]] w fun x w' => x = .returned (.agg #[.bool a, .int .u64 (hiW n : Int), .int .u64 (loW n : Int), .int .i64 e, .bool false]) ∧ Kept w w' := by
  have hlt := ht.lt
  have hlt0 := ht.lt0
  have hi := fun w ht => isZero_any n w ht
  rw [decide_eq_false hn] at hi
  have HI := Lib.hid hi
  have hj := fun w ht => isZero_any 0 w ht
  rw [decide_eq_true rfl] at hj
  have HJ := Lib.hid hj
  clear hi hj hn
  go_enter Tryd.func34, Tryd.ntmps34
  go_upto_region 3 with (first | (go_at_call 62; (with_reducible refine (HI.out _ (by repeat' (first | (with_reducible assumption) | (with_reducible refine Tab.alloc ?_ _) | (with_reducible refine Tab.drew ?_) | (with_reducible refine Tab.drewN ?_ _) | (with_reducible refine Tab.setCell ?_ ?_ ?_ _) | omega | (simp; done) | (simp; omega)))).mono ?_); rintro e w1 ⟨rfl, hk1⟩; obtain ⟨hc1, hf1⟩ := bcell hk1.2; have ht1 := hk1.1; have hz1 := hk1.2.size; (try simp only [World.size_alloc] at hz1); (try simp only [sz_drew] at hz1); (try simp only [sz_drewN] at hz1); (try simp only [World.size_alloc] at hz1); (try simp only [sz_drew] at hc1 hf1); (try simp only [sz_drewN] at hc1 hf1); (try have hw1 : w.heap.size < w1.heap.size := by omega); (try have hv1 : w.heap.size + 1 < w1.heap.size := by omega); (try have hu1 : w.heap.size + 2 < w1.heap.size := by omega)))
  have hI := (Inv.three ht 44 [.bool a, .int .u64 (hiW n : Int), .int .u64 (loW n : Int), .int .i64 e, .bool false] 44 [.bool b, .int .u64 (hiW 0 : Int), .int .u64 (loW 0 : Int), .int .i64 f, .bool false] 44 [.bool false, .int .u64 0, .int .u64 0, .int .i64 0, .bool false]).call hk1
  clear hc1 hf1
  (have x0 : w1.cell? ⟨w.heap.size, 0, none⟩ = some (.bool a) := (hI.own 0 _ rfl).cell 0; have x1 : w1.cell? ⟨w.heap.size, 1, none⟩ = some (.int .u64 (hiW n : Int)) := (hI.own 0 _ rfl).cell 1; have x2 : w1.cell? ⟨w.heap.size, 2, none⟩ = some (.int .u64 (loW n : Int)) := (hI.own 0 _ rfl).cell 2; have x3 : w1.cell? ⟨w.heap.size, 3, none⟩ = some (.int .i64 e) := (hI.own 0 _ rfl).cell 3; have x4 : w1.cell? ⟨w.heap.size, 4, none⟩ = some (.bool false) := (hI.own 0 _ rfl).cell 4; have xf := fun i => (hI.own 0 _ rfl).frozen i; have xl : w.heap.size < w1.heap.size := (hI.own 0 _ rfl).lt)
  (have y0 : w1.cell? ⟨w.heap.size + 1, 0, none⟩ = some (.bool b) := (hI.own 1 _ rfl).cell 0; have y1 : w1.cell? ⟨w.heap.size + 1, 1, none⟩ = some (.int .u64 (hiW 0 : Int)) := (hI.own 1 _ rfl).cell 1; have y2 : w1.cell? ⟨w.heap.size + 1, 2, none⟩ = some (.int .u64 (loW 0 : Int)) := (hI.own 1 _ rfl).cell 2; have y3 : w1.cell? ⟨w.heap.size + 1, 3, none⟩ = some (.int .i64 f) := (hI.own 1 _ rfl).cell 3; have y4 : w1.cell? ⟨w.heap.size + 1, 4, none⟩ = some (.bool false) := (hI.own 1 _ rfl).cell 4; have yf := fun i => (hI.own 1 _ rfl).frozen i; have yl : w.heap.size + 1 < w1.heap.size := (hI.own 1 _ rfl).lt)
  (have w1t := hI.kept.1; have w1k := hI.kept; have w1g := hI.kept.1.lt; have w1g0 := hI.kept.1.lt0; have w1z := hI.kept.2.size)
  have hK := hI.kept
  (have z0 : w1.cell? ⟨w.heap.size + 1 + 1, 0, none⟩ = some (.bool false) := (hI.own 2 _ rfl).cell 0; have z1 : w1.cell? ⟨w.heap.size + 1 + 1, 1, none⟩ = some (.int .u64 0) := (hI.own 2 _ rfl).cell 1; have z2 : w1.cell? ⟨w.heap.size + 1 + 1, 2, none⟩ = some (.int .u64 0) := (hI.own 2 _ rfl).cell 2; have z3 : w1.cell? ⟨w.heap.size + 1 + 1, 3, none⟩ = some (.int .i64 0) := (hI.own 2 _ rfl).cell 3; have z4 : w1.cell? ⟨w.heap.size + 1 + 1, 4, none⟩ = some (.bool false) := (hI.own 2 _ rfl).cell 4; have zf := fun i => (hI.own 2 _ rfl).frozen i; have zl : w.heap.size + 1 + 1 < w1.heap.size := (hI.own 2 _ rfl).lt)
  have HZ : Hid (Own w1 (w.heap.size + 1 + 1) 44 [.bool false, .int .u64 0, .int .u64 0, .int .i64 0, .bool false]) := Lib.hid (hI.own 2 _ rfl)
  clear hI
  go_wp2_with (first | (go_at_call 62; (with_reducible refine (HJ.out _ (by repeat' (first | (with_reducible assumption) | (with_reducible refine Tab.alloc ?_ _) | (with_reducible refine Tab.drew ?_) | (with_reducible refine Tab.drewN ?_ _) | (with_reducible refine Tab.setCell ?_ ?_ ?_ _) | omega | (simp; done) | (simp; omega)))).mono ?_); rintro e w2 ⟨rfl, hk2⟩; obtain ⟨hc2, hf2⟩ := bcell hk2.2; have ht2 := hk2.1; have hz2 := hk2.2.size; (try simp only [World.size_alloc] at hz2); (try simp only [sz_drew] at hz2); (try simp only [sz_drewN] at hz2); (try simp only [World.size_alloc] at hz2); (try simp only [sz_drew] at hc2 hf2); (try simp only [sz_drewN] at hc2 hf2); (try have hw2 : w.heap.size < w2.heap.size := by omega); (try have hv2 : w.heap.size + 1 < w2.heap.size := by omega); (try have hu2 : w.heap.size + 2 < w2.heap.size := by omega)))
  have hF := (((((HZ.out.call hk2).put 0 (.bool a)).put 1 (.int .u64 (hiW n : Int))).put 2 (.int .u64 (loW n : Int))).put 3 (.int .i64 e)).put 4 (.bool false)
  refine bodyPost_ret (ret_own rfl hF rfl Tryd.underlying44 rfl (by kernel_rfl)) rfl ?_
  exact ⟨rfl, (by repeat' (first | (with_reducible assumption) | (with_reducible exact Kept.refl ht) | (with_reducible refine Kept.alloc ?_ _) | (with_reducible refine Kept.drew ?_) | (with_reducible refine Kept.drewN ?_ _) | (with_reducible refine Kept.setCell ?_ ?_ _ ?_ ?_) | (with_reducible refine Kept.trans ?_ (by assumption)) | omega | (simp; done) | (simp; omega)))⟩

/-- Which of the two numbers has the greater exponent. -/
def Turn (a b : Bool) (n k : Nat) (e f : Int) (A B : Bool) (N K : Nat) (E F : Int) : Prop :=
  (¬ e < f ∧ A = a ∧ B = b ∧ N = n ∧ K = k ∧ E = e ∧ F = f) ∨ (e < f ∧ A = b ∧ B = a ∧ N = k ∧ K = n ∧ E = f ∧ F = e)

set_option maxRecDepth 100000 in
set_option maxHeartbeats 16000000 in
theorem sum_core (a b A B : Bool) (n k N K X Q : Nat) (e f E F kk E2 F2 : Int) (M : Bool) (d : Nat) (neg : Bool) (R : Nat) (RE : Int) (RM : Bool) (w : World) (ht : Tab w) (hn0 : n ≠ 0) (hk0 : k ≠ 0) (hT : Hid (Turn a b n k e f A B N K E F))
    (hE1 : -100000 ≤ E) (hE2 : E ≤ 100000) (hF1 : -100000 ≤ F) (hF2 : F ≤ 100000) (he1 : -100000 ≤ e) (he2 : e ≤ 100000) (hf1 : -100000 ≤ f) (hf2 : f ≤ 100000)
    (hd : min (E - F) 19 = (d : Int)) (hd20 : d < 20) (hkk : E2 - F = kk) (hX : N * tn d = X) (hXb : X < 340282366920938463463374607431768211456) (hE3 : E - d = E2) (hF3 : F + kk = F2)
    (hsh : ∀ w, Tab w → Calls Tryd.prog 63 #[.agg #[.bool B, .int .u64 (hiW K : Int), .int .u64 (loW K : Int), .int .i64 F, .bool false], .int .i64 kk] w fun x w' => x = .returned (.agg #[.bool B, .int .u64 (hiW Q : Int), .int .u64 (loW Q : Int), .int .i64 F2, .bool M]) ∧ Kept w w')
    (hres : (A = B ∧ X + Q = R ∧ R < 340282366920938463463374607431768211456 ∧ neg = A ∧ RE = E2 ∧ RM = M) ∨ (A = (!B) ∧ ∀ w, Tab w → Calls Tryd.prog 66 #[.agg #[.bool A, .int .u64 (hiW X : Int), .int .u64 (loW X : Int), .int .i64 E2, .bool false], .agg #[.bool B, .int .u64 (hiW Q : Int), .int .u64 (loW Q : Int), .int .i64 F2, .bool M]] w fun x w' => x = .returned (.agg #[.bool neg, .int .u64 (hiW R : Int), .int .u64 (loW R : Int), .int .i64 RE, .bool RM]) ∧ Kept w w')) :
    Calls Tryd.prog 34 #[.agg #[.bool a, .int .u64 (hiW n : Int), .int .u64 (loW n : Int), .int .i64 e, .bool false], .agg #[.bool b, .int .u64 (hiW k : Int), .int .u64 (loW k : Int), .int .i64 f, .bool false]] w fun x w' => x = .returned (.agg #[.bool neg, .int .u64 (hiW R : Int), .int .u64 (loW R : Int), .int .i64 RE, .bool RM]) ∧ Kept w w' := by
  have hlt := ht.lt
  have hlt0 := ht.lt0
  have hi := fun w ht => isZero_any n w ht
  rw [decide_eq_false hn0] at hi
  have H1 := Lib.hid hi
  have hj := fun w ht => isZero_any k w ht
  rw [decide_eq_false hk0] at hj
  have H2 := Lib.hid hj
  have hTd : tn d < 18446744073709551616 := Nat.lt_of_le_of_lt (p10_le (show d ≤ 19 by omega)) (by decide)
  have htm := fun w ht => times_any N (tn d) w ht hTd (by rw [hX]; exact hXb)
  rw [hX] at htm
  have H3 := Lib.hid htm
  have H4 := Lib.hid hsh
  have H5 := Lib.hid hres
  have hdi : (d : Int) < 20 := by omega
  have hdn : (0 : Int) ≤ (d : Int) := by omega
  clear hi hj htm hsh hres hTd hX hXb hn0 hk0
  go_enter Tryd.func34, Tryd.ntmps34
  go_upto_region 5 with (first | (go_at_call 62; (with_reducible refine (H1.out _ (by repeat' (first | (with_reducible assumption) | (with_reducible refine Tab.alloc ?_ _) | (with_reducible refine Tab.drew ?_) | (with_reducible refine Tab.drewN ?_ _) | (with_reducible refine Tab.setCell ?_ ?_ ?_ _) | omega | (simp; done) | (simp; omega)))).mono ?_); rintro e w1 ⟨rfl, hk1⟩; obtain ⟨hc1, hf1⟩ := bcell hk1.2; have ht1 := hk1.1; have hz1 := hk1.2.size; (try simp only [World.size_alloc] at hz1); (try simp only [sz_drew] at hz1); (try simp only [sz_drewN] at hz1); (try simp only [World.size_alloc] at hz1); (try simp only [sz_drew] at hc1 hf1); (try simp only [sz_drewN] at hc1 hf1); (try have hw1 : w.heap.size < w1.heap.size := by omega); (try have hv1 : w.heap.size + 1 < w1.heap.size := by omega); (try have hu1 : w.heap.size + 2 < w1.heap.size := by omega)) | (go_at_call 62; (with_reducible refine (H2.out _ (by repeat' (first | (with_reducible assumption) | (with_reducible refine Tab.alloc ?_ _) | (with_reducible refine Tab.drew ?_) | (with_reducible refine Tab.drewN ?_ _) | (with_reducible refine Tab.setCell ?_ ?_ ?_ _) | omega | (simp; done) | (simp; omega)))).mono ?_); rintro e w2 ⟨rfl, hk2⟩; obtain ⟨hc2, hf2⟩ := bcell hk2.2; have ht2 := hk2.1; have hz2 := hk2.2.size; (try simp only [World.size_alloc] at hz2); (try simp only [sz_drew] at hz2); (try simp only [sz_drewN] at hz2); (try simp only [World.size_alloc] at hz2); (try simp only [sz_drew] at hc2 hf2); (try simp only [sz_drewN] at hc2 hf2); (try have hw2 : w.heap.size < w2.heap.size := by omega); (try have hv2 : w.heap.size + 1 < w2.heap.size := by omega); (try have hu2 : w.heap.size + 2 < w2.heap.size := by omega)))
  have hI := ((Inv.three ht 44 [.bool a, .int .u64 (hiW n : Int), .int .u64 (loW n : Int), .int .i64 e, .bool false] 44 [.bool b, .int .u64 (hiW k : Int), .int .u64 (loW k : Int), .int .i64 f, .bool false] 44 [.bool false, .int .u64 0, .int .u64 0, .int .i64 0, .bool false]).call hk1).call hk2
  clear hc1 hf1 hc2 hf2
  (have x0 : w2.cell? ⟨w.heap.size, 0, none⟩ = some (.bool a) := (hI.own 0 _ rfl).cell 0; have x1 : w2.cell? ⟨w.heap.size, 1, none⟩ = some (.int .u64 (hiW n : Int)) := (hI.own 0 _ rfl).cell 1; have x2 : w2.cell? ⟨w.heap.size, 2, none⟩ = some (.int .u64 (loW n : Int)) := (hI.own 0 _ rfl).cell 2; have x3 : w2.cell? ⟨w.heap.size, 3, none⟩ = some (.int .i64 e) := (hI.own 0 _ rfl).cell 3; have x4 : w2.cell? ⟨w.heap.size, 4, none⟩ = some (.bool false) := (hI.own 0 _ rfl).cell 4; have xf := fun i => (hI.own 0 _ rfl).frozen i; have xl : w.heap.size < w2.heap.size := (hI.own 0 _ rfl).lt)
  (have y0 : w2.cell? ⟨w.heap.size + 1, 0, none⟩ = some (.bool b) := (hI.own 1 _ rfl).cell 0; have y1 : w2.cell? ⟨w.heap.size + 1, 1, none⟩ = some (.int .u64 (hiW k : Int)) := (hI.own 1 _ rfl).cell 1; have y2 : w2.cell? ⟨w.heap.size + 1, 2, none⟩ = some (.int .u64 (loW k : Int)) := (hI.own 1 _ rfl).cell 2; have y3 : w2.cell? ⟨w.heap.size + 1, 3, none⟩ = some (.int .i64 f) := (hI.own 1 _ rfl).cell 3; have y4 : w2.cell? ⟨w.heap.size + 1, 4, none⟩ = some (.bool false) := (hI.own 1 _ rfl).cell 4; have yf := fun i => (hI.own 1 _ rfl).frozen i; have yl : w.heap.size + 1 < w2.heap.size := (hI.own 1 _ rfl).lt)
  (have w2t := hI.kept.1; have w2k := hI.kept; have w2g := hI.kept.1.lt; have w2g0 := hI.kept.1.lt0; have w2z := hI.kept.2.size)
  have HI := Lib.hid hI
  clear hI
  go_upto_if 18 with fail
  go_cut [] (fun wx => Inv w [(w.heap.size, 44, [.bool A, .int .u64 (hiW N : Int), .int .u64 (loW N : Int), .int .i64 E, .bool false]), (w.heap.size + 1, 44, [.bool B, .int .u64 (hiW K : Int), .int .u64 (loW K : Int), .int .i64 F, .bool false]), (w.heap.size + 2, 44, [.bool false, .int .u64 0, .int .u64 0, .int .i64 0, .bool false])] wx)
  case first =>
    rcases hT.out with ⟨c, rfl, rfl, rfl, rfl, rfl, rfl⟩ | ⟨c, rfl, rfl, rfl, rfl, rfl, rfl⟩
    · go_wp2_with fail
      go_meet
      exact HI.out
    · go_wp2_with fail
      go_meet
      exact ((((((((((HI.out).put 0 rfl 0 _ (by simp) (by omega) hlt hlt0).put 0 rfl 1 _ (by simp) (by omega) hlt hlt0).put 0 rfl 2 _ (by simp) (by omega) hlt hlt0).put 0 rfl 3 _ (by simp) (by omega) hlt hlt0).put 0 rfl 4 _ (by simp) (by omega) hlt hlt0).put 1 rfl 0 _ (by simp) (by omega) hlt hlt0).put 1 rfl 1 _ (by simp) (by omega) hlt hlt0).put 1 rfl 2 _ (by simp) (by omega) hlt hlt0).put 1 rfl 3 _ (by simp) (by omega) hlt hlt0).put 1 rfl 4 _ (by simp) (by omega) hlt hlt0
  case rest =>
    clear HI x0 x1 x2 x3 x4 xf xl y0 y1 y2 y3 y4 yf yl
    (have x0 : wc.cell? ⟨w.heap.size, 0, none⟩ = some (.bool A) := (hcut.own 0 _ rfl).cell 0; have x1 : wc.cell? ⟨w.heap.size, 1, none⟩ = some (.int .u64 (hiW N : Int)) := (hcut.own 0 _ rfl).cell 1; have x2 : wc.cell? ⟨w.heap.size, 2, none⟩ = some (.int .u64 (loW N : Int)) := (hcut.own 0 _ rfl).cell 2; have x3 : wc.cell? ⟨w.heap.size, 3, none⟩ = some (.int .i64 E) := (hcut.own 0 _ rfl).cell 3; have x4 : wc.cell? ⟨w.heap.size, 4, none⟩ = some (.bool false) := (hcut.own 0 _ rfl).cell 4; have xf := fun i => (hcut.own 0 _ rfl).frozen i; have xl : w.heap.size < wc.heap.size := (hcut.own 0 _ rfl).lt)
    (have y0 : wc.cell? ⟨w.heap.size + 1, 0, none⟩ = some (.bool B) := (hcut.own 1 _ rfl).cell 0; have y1 : wc.cell? ⟨w.heap.size + 1, 1, none⟩ = some (.int .u64 (hiW K : Int)) := (hcut.own 1 _ rfl).cell 1; have y2 : wc.cell? ⟨w.heap.size + 1, 2, none⟩ = some (.int .u64 (loW K : Int)) := (hcut.own 1 _ rfl).cell 2; have y3 : wc.cell? ⟨w.heap.size + 1, 3, none⟩ = some (.int .i64 F) := (hcut.own 1 _ rfl).cell 3; have y4 : wc.cell? ⟨w.heap.size + 1, 4, none⟩ = some (.bool false) := (hcut.own 1 _ rfl).cell 4; have yf := fun i => (hcut.own 1 _ rfl).frozen i; have yl : w.heap.size + 1 < wc.heap.size := (hcut.own 1 _ rfl).lt)
    (have wct := hcut.kept.1; have wck := hcut.kept; have wcg := hcut.kept.1.lt; have wcg0 := hcut.kept.1.lt0; have wcz := hcut.kept.2.size)
    have HI := Lib.hid hcut
    clear hcut
    go_upto_region 8 with fail
    go_cut [] (fun wx => Inv w [(w.heap.size, 44, [.bool A, .int .u64 (hiW N : Int), .int .u64 (loW N : Int), .int .i64 E, .bool false]), (w.heap.size + 1, 44, [.bool B, .int .u64 (hiW Q : Int), .int .u64 (loW Q : Int), .int .i64 F2, .bool M]), (w.heap.size + 2, 44, [.bool false, .int .u64 0, .int .u64 0, .int .i64 0, .bool false])] wx)
    case first =>
      go_wp2_with (first | (go_at_call 63; (with_reducible refine (H4.out _ (by repeat' (first | (with_reducible assumption) | (with_reducible refine Tab.alloc ?_ _) | (with_reducible refine Tab.drew ?_) | (with_reducible refine Tab.drewN ?_ _) | (with_reducible refine Tab.setCell ?_ ?_ ?_ _) | omega | (simp; done) | (simp; omega)))).mono ?_); rintro e w3 ⟨rfl, hk3⟩; obtain ⟨hc3, hf3⟩ := bcell hk3.2; have ht3 := hk3.1; have hz3 := hk3.2.size; (try simp only [World.size_alloc] at hz3); (try simp only [sz_drew] at hz3); (try simp only [sz_drewN] at hz3); (try simp only [World.size_alloc] at hz3); (try simp only [sz_drew] at hc3 hf3); (try simp only [sz_drewN] at hc3 hf3); (try have hw3 : w.heap.size < w3.heap.size := by omega); (try have hv3 : w.heap.size + 1 < w3.heap.size := by omega); (try have hu3 : w.heap.size + 2 < w3.heap.size := by omega)))
      go_meet
      exact (((((HI.out.call hk3).put 1 rfl 0 _ (by simp) (by omega) hlt hlt0).put 1 rfl 1 _ (by simp) (by omega) hlt hlt0).put 1 rfl 2 _ (by simp) (by omega) hlt hlt0).put 1 rfl 3 _ (by simp) (by omega) hlt hlt0).put 1 rfl 4 _ (by simp) (by omega) hlt hlt0
    case rest =>
      clear HI x0 x1 x2 x3 x4 xf xl y0 y1 y2 y3 y4 yf yl
      (have x0 : wc.cell? ⟨w.heap.size, 0, none⟩ = some (.bool A) := (hcut.own 0 _ rfl).cell 0; have x1 : wc.cell? ⟨w.heap.size, 1, none⟩ = some (.int .u64 (hiW N : Int)) := (hcut.own 0 _ rfl).cell 1; have x2 : wc.cell? ⟨w.heap.size, 2, none⟩ = some (.int .u64 (loW N : Int)) := (hcut.own 0 _ rfl).cell 2; have x3 : wc.cell? ⟨w.heap.size, 3, none⟩ = some (.int .i64 E) := (hcut.own 0 _ rfl).cell 3; have x4 : wc.cell? ⟨w.heap.size, 4, none⟩ = some (.bool false) := (hcut.own 0 _ rfl).cell 4; have xf := fun i => (hcut.own 0 _ rfl).frozen i; have xl : w.heap.size < wc.heap.size := (hcut.own 0 _ rfl).lt)
      (have y0 : wc.cell? ⟨w.heap.size + 1, 0, none⟩ = some (.bool B) := (hcut.own 1 _ rfl).cell 0; have y1 : wc.cell? ⟨w.heap.size + 1, 1, none⟩ = some (.int .u64 (hiW Q : Int)) := (hcut.own 1 _ rfl).cell 1; have y2 : wc.cell? ⟨w.heap.size + 1, 2, none⟩ = some (.int .u64 (loW Q : Int)) := (hcut.own 1 _ rfl).cell 2; have y3 : wc.cell? ⟨w.heap.size + 1, 3, none⟩ = some (.int .i64 F2) := (hcut.own 1 _ rfl).cell 3; have y4 : wc.cell? ⟨w.heap.size + 1, 4, none⟩ = some (.bool M) := (hcut.own 1 _ rfl).cell 4; have yf := fun i => (hcut.own 1 _ rfl).frozen i; have yl : w.heap.size + 1 < wc.heap.size := (hcut.own 1 _ rfl).lt)
      (have wct := hcut.kept.1; have wck := hcut.kept; have wcg := hcut.kept.1.lt; have wcg0 := hcut.kept.1.lt0; have wcz := hcut.kept.2.size)
      have tc := wct.tens d hd20
      have hwr : IntKind.i64.wrap (E - (d : Int)) = E2 := by rw [hE3]; exact IntWalk.i64_in _ (by omega)
      have hwr2 : IntKind.i64.wrap E2 = E2 := IntWalk.i64_in _ (by omega)
      have HI := Lib.hid hcut
      clear hcut
      go_upto_region 9 with fail
      go_cut [] (fun wx => Inv w [(w.heap.size, 44, [.bool A, .int .u64 (hiW X : Int), .int .u64 (loW X : Int), .int .i64 E2, .bool false]), (w.heap.size + 1, 44, [.bool B, .int .u64 (hiW Q : Int), .int .u64 (loW Q : Int), .int .i64 F2, .bool M]), (w.heap.size + 2, 44, [.bool false, .int .u64 0, .int .u64 0, .int .i64 0, .bool false])] wx)
      case first =>
        go_region_with (first | (go_at_call 64; (with_reducible refine (H3.out _ (by repeat' (first | (with_reducible assumption) | (with_reducible refine Tab.alloc ?_ _) | (with_reducible refine Tab.drew ?_) | (with_reducible refine Tab.drewN ?_ _) | (with_reducible refine Tab.setCell ?_ ?_ ?_ _) | omega | (simp; done) | (simp; omega)))).mono ?_); rintro e w4 ⟨rfl, hk4⟩; obtain ⟨hc4, hf4⟩ := bcell hk4.2; have ht4 := hk4.1; have hz4 := hk4.2.size; (try simp only [World.size_alloc] at hz4); (try simp only [sz_drew] at hz4); (try simp only [sz_drewN] at hz4); (try simp only [World.size_alloc] at hz4); (try simp only [sz_drew] at hc4 hf4); (try simp only [sz_drewN] at hc4 hf4); (try have hw4 : w.heap.size < w4.heap.size := by omega); (try have hv4 : w.heap.size + 1 < w4.heap.size := by omega); (try have hu4 : w.heap.size + 2 < w4.heap.size := by omega)))
        all_goals
          go_wp2_with fail
          go_meet
          exact (((HI.out.drew.call hk4).put 0 rfl 1 _ (by simp) (by omega) hlt hlt0).put 0 rfl 2 _ (by simp) (by omega) hlt hlt0).put 0 rfl 3 _ (by simp) (by omega) hlt hlt0
      case rest =>
        clear HI x0 x1 x2 x3 x4 xf xl y0 y1 y2 y3 y4 yf yl tc
        (have x0 : wc.cell? ⟨w.heap.size, 0, none⟩ = some (.bool A) := (hcut.own 0 _ rfl).cell 0; have x1 : wc.cell? ⟨w.heap.size, 1, none⟩ = some (.int .u64 (hiW X : Int)) := (hcut.own 0 _ rfl).cell 1; have x2 : wc.cell? ⟨w.heap.size, 2, none⟩ = some (.int .u64 (loW X : Int)) := (hcut.own 0 _ rfl).cell 2; have x3 : wc.cell? ⟨w.heap.size, 3, none⟩ = some (.int .i64 E2) := (hcut.own 0 _ rfl).cell 3; have x4 : wc.cell? ⟨w.heap.size, 4, none⟩ = some (.bool false) := (hcut.own 0 _ rfl).cell 4; have xf := fun i => (hcut.own 0 _ rfl).frozen i; have xl : w.heap.size < wc.heap.size := (hcut.own 0 _ rfl).lt)
        (have y0 : wc.cell? ⟨w.heap.size + 1, 0, none⟩ = some (.bool B) := (hcut.own 1 _ rfl).cell 0; have y1 : wc.cell? ⟨w.heap.size + 1, 1, none⟩ = some (.int .u64 (hiW Q : Int)) := (hcut.own 1 _ rfl).cell 1; have y2 : wc.cell? ⟨w.heap.size + 1, 2, none⟩ = some (.int .u64 (loW Q : Int)) := (hcut.own 1 _ rfl).cell 2; have y3 : wc.cell? ⟨w.heap.size + 1, 3, none⟩ = some (.int .i64 F2) := (hcut.own 1 _ rfl).cell 3; have y4 : wc.cell? ⟨w.heap.size + 1, 4, none⟩ = some (.bool M) := (hcut.own 1 _ rfl).cell 4; have yf := fun i => (hcut.own 1 _ rfl).frozen i; have yl : w.heap.size + 1 < wc.heap.size := (hcut.own 1 _ rfl).lt)
        (have z0 : wc.cell? ⟨w.heap.size + 2, 0, none⟩ = some (.bool false) := (hcut.own 2 _ rfl).cell 0; have z1 : wc.cell? ⟨w.heap.size + 2, 1, none⟩ = some (.int .u64 0) := (hcut.own 2 _ rfl).cell 1; have z2 : wc.cell? ⟨w.heap.size + 2, 2, none⟩ = some (.int .u64 0) := (hcut.own 2 _ rfl).cell 2; have z3 : wc.cell? ⟨w.heap.size + 2, 3, none⟩ = some (.int .i64 0) := (hcut.own 2 _ rfl).cell 3; have z4 : wc.cell? ⟨w.heap.size + 2, 4, none⟩ = some (.bool false) := (hcut.own 2 _ rfl).cell 4; have zf := fun i => (hcut.own 2 _ rfl).frozen i; have zl : w.heap.size + 2 < wc.heap.size := (hcut.own 2 _ rfl).lt)
        (have wct := hcut.kept.1; have wck := hcut.kept; have wcg := hcut.kept.1.lt; have wcg0 := hcut.kept.1.lt0; have wcz := hcut.kept.2.size)
        have HI := Lib.hid hcut
        have HZ := Lib.hid (hcut.own 2 _ rfl)
        clear hcut
        rcases H5.out with ⟨rfl, h2, h3, rfl, rfl, rfl⟩ | ⟨h1, h2⟩
        · have hpl := fun w ht => plus_any X Q w ht (by rw [h2]; exact h3)
          rw [h2] at hpl
          have H6 := Lib.hid hpl
          clear hpl h2 h3 H5
          go_upto_region 11 with fail
          go_cut [] (fun wx => Inv w [(w.heap.size, 44, [.bool neg, .int .u64 (hiW R : Int), .int .u64 (loW R : Int), .int .i64 RE, .bool RM]), (w.heap.size + 1, 44, [.bool neg, .int .u64 (hiW Q : Int), .int .u64 (loW Q : Int), .int .i64 F2, .bool RM]), (w.heap.size + 2, 44, [.bool false, .int .u64 0, .int .u64 0, .int .i64 0, .bool false])] wx)
          case first =>
            go_region_with (first | (go_at_call 65; (with_reducible refine (H6.out _ (by repeat' (first | (with_reducible assumption) | (with_reducible refine Tab.alloc ?_ _) | (with_reducible refine Tab.drew ?_) | (with_reducible refine Tab.drewN ?_ _) | (with_reducible refine Tab.setCell ?_ ?_ ?_ _) | omega | (simp; done) | (simp; omega)))).mono ?_); rintro e w5 ⟨rfl, hk5⟩; obtain ⟨hc5, hf5⟩ := bcell hk5.2; have ht5 := hk5.1; have hz5 := hk5.2.size; (try simp only [World.size_alloc] at hz5); (try simp only [sz_drew] at hz5); (try simp only [sz_drewN] at hz5); (try simp only [World.size_alloc] at hz5); (try simp only [sz_drew] at hc5 hf5); (try simp only [sz_drewN] at hc5 hf5); (try have hw5 : w.heap.size < w5.heap.size := by omega); (try have hv5 : w.heap.size + 1 < w5.heap.size := by omega); (try have hu5 : w.heap.size + 2 < w5.heap.size := by omega)))
            all_goals
              go_wp2_with fail
              go_meet
              exact (((HI.out.drew.call hk5).put 0 rfl 1 _ (by simp) (by omega) hlt hlt0).put 0 rfl 2 _ (by simp) (by omega) hlt hlt0).put 0 rfl 4 _ (by simp) (by omega) hlt hlt0
          case rest =>
            clear HI HZ x0 x1 x2 x3 x4 xf xl y0 y1 y2 y3 y4 yf yl z0 z1 z2 z3 z4 zf zl
            (have x0 : wc.cell? ⟨w.heap.size, 0, none⟩ = some (.bool neg) := (hcut.own 0 _ rfl).cell 0; have x1 : wc.cell? ⟨w.heap.size, 1, none⟩ = some (.int .u64 (hiW R : Int)) := (hcut.own 0 _ rfl).cell 1; have x2 : wc.cell? ⟨w.heap.size, 2, none⟩ = some (.int .u64 (loW R : Int)) := (hcut.own 0 _ rfl).cell 2; have x3 : wc.cell? ⟨w.heap.size, 3, none⟩ = some (.int .i64 RE) := (hcut.own 0 _ rfl).cell 3; have x4 : wc.cell? ⟨w.heap.size, 4, none⟩ = some (.bool RM) := (hcut.own 0 _ rfl).cell 4; have xf := fun i => (hcut.own 0 _ rfl).frozen i; have xl : w.heap.size < wc.heap.size := (hcut.own 0 _ rfl).lt)
            (have z0 : wc.cell? ⟨w.heap.size + 2, 0, none⟩ = some (.bool false) := (hcut.own 2 _ rfl).cell 0; have z1 : wc.cell? ⟨w.heap.size + 2, 1, none⟩ = some (.int .u64 0) := (hcut.own 2 _ rfl).cell 1; have z2 : wc.cell? ⟨w.heap.size + 2, 2, none⟩ = some (.int .u64 0) := (hcut.own 2 _ rfl).cell 2; have z3 : wc.cell? ⟨w.heap.size + 2, 3, none⟩ = some (.int .i64 0) := (hcut.own 2 _ rfl).cell 3; have z4 : wc.cell? ⟨w.heap.size + 2, 4, none⟩ = some (.bool false) := (hcut.own 2 _ rfl).cell 4; have zf := fun i => (hcut.own 2 _ rfl).frozen i; have zl : w.heap.size + 2 < wc.heap.size := (hcut.own 2 _ rfl).lt)
            have hK := hcut.kept
            have HZ := Lib.hid (hcut.own 2 _ rfl)
            clear hcut
            go_wp2_with fail
            have hF := ((((HZ.out.put 0 (.bool neg)).put 1 (.int .u64 (hiW R : Int))).put 2 (.int .u64 (loW R : Int))).put 3 (.int .i64 RE)).put 4 (.bool RM)
            refine bodyPost_ret (ret_own rfl hF rfl Tryd.underlying44 rfl (by kernel_rfl)) rfl ?_
            exact ⟨rfl, (by repeat' (first | (with_reducible assumption) | (with_reducible exact Kept.refl ht) | (with_reducible refine Kept.alloc ?_ _) | (with_reducible refine Kept.drew ?_) | (with_reducible refine Kept.drewN ?_ _) | (with_reducible refine Kept.setCell ?_ ?_ _ ?_ ?_) | (with_reducible refine Kept.trans ?_ (by assumption)) | omega | (simp; done) | (simp; omega)))⟩
        · have H6 := Lib.hid h2
          have hAB : (A == B) = false := by rw [h1]; cases B <;> rfl
          clear h1 h2 H5
          have hK := HI.out.kept
          go_wp2_with (first | (go_at_call 66; (with_reducible refine (H6.out _ (by repeat' (first | (with_reducible assumption) | (with_reducible refine Tab.alloc ?_ _) | (with_reducible refine Tab.drew ?_) | (with_reducible refine Tab.drewN ?_ _) | (with_reducible refine Tab.setCell ?_ ?_ ?_ _) | omega | (simp; done) | (simp; omega)))).mono ?_); rintro e w5 ⟨rfl, hk5⟩; obtain ⟨hc5, hf5⟩ := bcell hk5.2; have ht5 := hk5.1; have hz5 := hk5.2.size; (try simp only [World.size_alloc] at hz5); (try simp only [sz_drew] at hz5); (try simp only [sz_drewN] at hz5); (try simp only [World.size_alloc] at hz5); (try simp only [sz_drew] at hc5 hf5); (try simp only [sz_drewN] at hc5 hf5); (try have hw5 : w.heap.size < w5.heap.size := by omega); (try have hv5 : w.heap.size + 1 < w5.heap.size := by omega); (try have hu5 : w.heap.size + 2 < w5.heap.size := by omega)))
          have hF := (((((HZ.out.call hk5).put 0 (.bool neg)).put 1 (.int .u64 (hiW R : Int))).put 2 (.int .u64 (loW R : Int))).put 3 (.int .i64 RE)).put 4 (.bool RM)
          refine bodyPost_ret (ret_own rfl hF rfl Tryd.underlying44 rfl (by kernel_rfl)) rfl ?_
          exact ⟨rfl, (by repeat' (first | (with_reducible assumption) | (with_reducible exact Kept.refl ht) | (with_reducible refine Kept.alloc ?_ _) | (with_reducible refine Kept.drew ?_) | (with_reducible refine Kept.drewN ?_ _) | (with_reducible refine Kept.setCell ?_ ?_ _ ?_ ?_) | (with_reducible refine Kept.trans ?_ (by assumption)) | omega | (simp; done) | (simp; omega)))⟩
end Go.Proofs.YtanfhlkfmmglhaaDoor
