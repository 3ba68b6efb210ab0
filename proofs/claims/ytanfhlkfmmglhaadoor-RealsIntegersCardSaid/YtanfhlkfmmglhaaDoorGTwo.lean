/- The program's root and Shorten. Condition: the tables hold what their initialisers lay. -/
import Derived.Test.YtanfhlkfmmglhaaDoorGAddo
import Derived.Test.YtanfhlkfmmglhaaDoorGMul
namespace Go.Proofs.YtanfhlkfmmglhaaDoor
open Go.ChangeShapes Go.WideShapes Go.ChangeAt Go.RowKit
attribute [local go_sem ↓] Go.wp_at_zero Go.wp_at_succ

set_option maxRecDepth 100000 in
set_option maxHeartbeats 4000000 in
theorem sqrt_neg (s how a e : Int) (w : World) (ht : Tab w) (hc : ckR s how [(a, e)] = 0) (hn : decide (a < 0) = true) :
    Calls Tryd.prog 15 #[.int .i64 s, .int .i64 how, .agg #[.int .i64 a, .int .i64 e]] w fun x w' => x = .returned (.tuple #[.agg #[.int .i64 0, .int .i64 0], .int .i64 11]) ∧ Kept w w' := by
  have hlt := ht.lt
  have hlt0 := ht.lt0
  obtain ⟨_, v1⟩ := ck1_facts hc
  obtain ⟨_, _, _, _, a4, a5⟩ := vld_facts v1
  have hck := fun o1 o2 => check_one s how a e w ht o1 o2 (by omega) (by omega)
  rw [hc] at hck
  have HC := Lib.hid hck
  clear hck hc v1
  go_enter Tryd.func15, Tryd.ntmps15
  go_upto_region 4 with (first | (go_at_call 33; (with_reducible refine (HC.out _ _).mono ?_); rintro e w1 ⟨rfl, hk1⟩; obtain ⟨hc1, hf1⟩ := bcell hk1.2; have ht1 := hk1.1; have hz1 := hk1.2.size; (try simp only [World.size_alloc] at hz1); (try simp only [sz_drew] at hz1); (try simp only [sz_drewN] at hz1); (try simp only [World.size_alloc] at hz1); (try simp only [sz_drew] at hc1 hf1); (try simp only [sz_drewN] at hc1 hf1); (try have hw1 : w.heap.size < w1.heap.size := by omega); (try have hv1 : w.heap.size + 1 < w1.heap.size := by omega); (try have hu1 : w.heap.size + 2 < w1.heap.size := by omega)))
  have hI := ((Inv.two ht 25 [.int .i64 a, .int .i64 e] 25 [.int .i64 0, .int .i64 0]).alloc _).call hk1
  clear hc1 hf1
  have HZ : Hid (Own w1 (w.heap.size + 1) 25 [.int .i64 0, .int .i64 0]) := Lib.hid (hI.own 1 _ rfl)
  (have x0 : w1.cell? ⟨w.heap.size, 0, none⟩ = some (.int .i64 a) := (hI.own 0 _ rfl).cell 0; have x1 : w1.cell? ⟨w.heap.size, 1, none⟩ = some (.int .i64 e) := (hI.own 0 _ rfl).cell 1; have xf := fun i => (hI.own 0 _ rfl).frozen i; have xl : w.heap.size < w1.heap.size := (hI.own 0 _ rfl).lt)
  (have z0 : w1.cell? ⟨w.heap.size + 1, 0, none⟩ = some (.int .i64 0) := (hI.own 1 _ rfl).cell 0; have z1 : w1.cell? ⟨w.heap.size + 1, 1, none⟩ = some (.int .i64 0) := (hI.own 1 _ rfl).cell 1; have zf := fun i => (hI.own 1 _ rfl).frozen i; have zl : w.heap.size + 1 < w1.heap.size := (hI.own 1 _ rfl).lt)
  clear hI
  go_wp2
  have hF := (HZ.out.put 0 (.int .i64 0)).put 1 (.int .i64 0)
  refine bodyPost_ret (ret_own_tmp rfl hF rfl Tryd.underlying25 rfl (by kernel_rfl)) rfl ?_
  exact ⟨rfl, (by repeat' (first | (with_reducible assumption) | (with_reducible exact Kept.refl ht) | (with_reducible refine Kept.alloc ?_ _) | (with_reducible refine Kept.drew ?_) | (with_reducible refine Kept.drewN ?_ _) | (with_reducible refine Kept.setCell ?_ ?_ _ ?_ ?_) | (with_reducible refine Kept.trans ?_ (by assumption)) | omega | (simp; done) | (simp; omega)))⟩

set_option maxRecDepth 100000 in
set_option maxHeartbeats 4000000 in
theorem shorten_good (s how a e : Int) (w : World) (ht : Tab w) (hs1 : (s == -1) = false) (hc : ckR s how [(a, e)] = 0) (M E X : Int) (neg : Bool) (hneg : decide (a < 0) = neg)
    (hM : rM (pr (s - 1)) how neg (sc (mag a) e) false = M) (hE : rE (pr (s - 1)) how neg (sc (mag a) e) false = E) (hX : rX (pr (s - 1)) how neg (sc (mag a) e) false = X) :
    Calls Tryd.prog 29 #[.int .i64 s, .int .i64 how, .agg #[.int .i64 a, .int .i64 e]] w fun x w' => x = .returned (.tuple #[.agg #[.int .i64 M, .int .i64 E], .int .i64 X]) ∧ Kept w w' := by
  have hlt := ht.lt
  have hlt0 := ht.lt0
  obtain ⟨_, v1⟩ := ck1_facts hc
  obtain ⟨hs, a1, a2, a3, a4, a5⟩ := vld_facts v1
  have hck := fun o1 o2 => check_one s how a e w ht o1 o2 (by omega) (by omega)
  rw [hc] at hck
  have HC := Lib.hid hck
  have H2 := Lib.hid (fun w ht => exactOf_any a e w ht (by omega) (by omega))
  have hsm : s - 1 = -1 ∨ s - 1 = 0 ∨ s - 1 = 1 := by
    rw [beq_eq_false_iff_ne] at hs1
    omega
  have h4 := fun w ht => round_any (decide (a < 0)) (mag a) e false (s - 1) how w ht hsm (by omega) (by omega) (by omega) (by intro h; cases h)
  rw [hneg, hM, hE, hX, ← hneg] at h4
  have hs2 : -1 ≤ s := by omega
  have hs3 : s ≤ 1 := by omega
  have hw1 : IntKind.i64.wrap (s - 1) = s - 1 := IntWalk.i64_in _ (by omega)
  have H4 := Lib.hid h4
  clear hck hc v1 h4 hM hE hX hneg hs hsm a1 a2 a3
  go_enter Tryd.func29, Tryd.ntmps29
  go_upto_region 6 with (first | (go_at_call 33; (with_reducible refine (HC.out _ _).mono ?_); rintro e w1 ⟨rfl, hk1⟩; obtain ⟨hc1, hf1⟩ := bcell hk1.2; have ht1 := hk1.1; have hz1 := hk1.2.size; (try simp only [World.size_alloc] at hz1); (try simp only [sz_drew] at hz1); (try simp only [sz_drewN] at hz1); (try simp only [World.size_alloc] at hz1); (try simp only [sz_drew] at hc1 hf1); (try simp only [sz_drewN] at hc1 hf1); (try have hw1 : w.heap.size < w1.heap.size := by omega); (try have hv1 : w.heap.size + 1 < w1.heap.size := by omega); (try have hu1 : w.heap.size + 2 < w1.heap.size := by omega)))
  have hI := ((Inv.two ht 25 [.int .i64 a, .int .i64 e] 25 [.int .i64 0, .int .i64 0]).alloc _).call hk1
  clear hc1 hf1
  have HZ : Hid (Own w1 (w.heap.size + 1) 25 [.int .i64 0, .int .i64 0]) := Lib.hid (hI.own 1 _ rfl)
  (have x0 : w1.cell? ⟨w.heap.size, 0, none⟩ = some (.int .i64 a) := (hI.own 0 _ rfl).cell 0; have x1 : w1.cell? ⟨w.heap.size, 1, none⟩ = some (.int .i64 e) := (hI.own 0 _ rfl).cell 1; have xf := fun i => (hI.own 0 _ rfl).frozen i; have xl : w.heap.size < w1.heap.size := (hI.own 0 _ rfl).lt)
  (have z0 : w1.cell? ⟨w.heap.size + 1, 0, none⟩ = some (.int .i64 0) := (hI.own 1 _ rfl).cell 0; have z1 : w1.cell? ⟨w.heap.size + 1, 1, none⟩ = some (.int .i64 0) := (hI.own 1 _ rfl).cell 1; have zf := fun i => (hI.own 1 _ rfl).frozen i; have zl : w.heap.size + 1 < w1.heap.size := (hI.own 1 _ rfl).lt)
  clear hI
  go_wp2_with (first | (go_at_call 35; (with_reducible refine (H2.out _ (by repeat' (first | (with_reducible assumption) | (with_reducible refine Tab.alloc ?_ _) | (with_reducible refine Tab.drew ?_) | (with_reducible refine Tab.drewN ?_ _) | (with_reducible refine Tab.setCell ?_ ?_ ?_ _) | omega | (simp; done) | (simp; omega)))).mono ?_); rintro e w2 ⟨rfl, hk2⟩; obtain ⟨hc2, hf2⟩ := bcell hk2.2; have ht2 := hk2.1; have hz2 := hk2.2.size; (try simp only [World.size_alloc] at hz2); (try simp only [sz_drew] at hz2); (try simp only [sz_drewN] at hz2); (try simp only [World.size_alloc] at hz2); (try simp only [sz_drew] at hc2 hf2); (try simp only [sz_drewN] at hc2 hf2); (try have hw2 : w.heap.size < w2.heap.size := by omega); (try have hv2 : w.heap.size + 1 < w2.heap.size := by omega); (try have hu2 : w.heap.size + 2 < w2.heap.size := by omega)) | (go_at_call 36; (with_reducible refine (H4.out _ (by repeat' (first | (with_reducible assumption) | (with_reducible refine Tab.alloc ?_ _) | (with_reducible refine Tab.drew ?_) | (with_reducible refine Tab.drewN ?_ _) | (with_reducible refine Tab.setCell ?_ ?_ ?_ _) | omega | (simp; done) | (simp; omega)))).mono ?_); rintro e w3 ⟨rfl, hk3⟩; obtain ⟨hc3, hf3⟩ := bcell hk3.2; have ht3 := hk3.1; have hz3 := hk3.2.size; (try simp only [World.size_alloc] at hz3); (try simp only [sz_drew] at hz3); (try simp only [sz_drewN] at hz3); (try simp only [World.size_alloc] at hz3); (try simp only [sz_drew] at hc3 hf3); (try simp only [sz_drewN] at hc3 hf3); (try have hw3 : w.heap.size < w3.heap.size := by omega); (try have hv3 : w.heap.size + 1 < w3.heap.size := by omega); (try have hu3 : w.heap.size + 2 < w3.heap.size := by omega)))
  have hF := (((HZ.out.call hk2).call hk3).put 0 (.int .i64 M)).put 1 (.int .i64 E)
  refine bodyPost_ret (ret_own_tmp rfl hF rfl Tryd.underlying25 rfl (by kernel_rfl)) rfl ?_
  exact ⟨rfl, (by repeat' (first | (with_reducible assumption) | (with_reducible exact Kept.refl ht) | (with_reducible refine Kept.alloc ?_ _) | (with_reducible refine Kept.drew ?_) | (with_reducible refine Kept.drewN ?_ _) | (with_reducible refine Kept.setCell ?_ ?_ _ ?_ ?_) | (with_reducible refine Kept.trans ?_ (by assumption)) | omega | (simp; done) | (simp; omega)))⟩

set_option maxRecDepth 100000 in
set_option maxHeartbeats 4000000 in
theorem sqrt_good (s how a e : Int) (w : World) (ht : Tab w) (hc : ckR s how [(a, e)] = 0) (hn : decide (a < 0) = false) (M E X : Int) (neg : Bool) (Q : Nat) (T : Int) (mo : Bool)
    (hq : ∀ w, Tab w → Calls Tryd.prog 48 #[.agg #[.bool (decide (a < 0)), .int .u64 (hiW (mag a) : Int), .int .u64 (loW (mag a) : Int), .int .i64 e, .bool false]] w fun x w' => x = .returned (.agg #[.bool neg, .int .u64 (hiW Q : Int), .int .u64 (loW Q : Int), .int .i64 T, .bool mo]) ∧ Kept w w') (hQ : Q < 340282366920938463463374607431768211456) (hT1 : -1100 ≤ T) (hT2 : T ≤ 5000) (hmo : mo = true → pr s < dg Q)
    (hM : rM (pr s) how neg (sc Q T) mo = M) (hE : rE (pr s) how neg (sc Q T) mo = E) (hX : rX (pr s) how neg (sc Q T) mo = X) :
    Calls Tryd.prog 15 #[.int .i64 s, .int .i64 how, .agg #[.int .i64 a, .int .i64 e]] w fun x w' => x = .returned (.tuple #[.agg #[.int .i64 M, .int .i64 E], .int .i64 X]) ∧ Kept w w' := by
  have hlt := ht.lt
  have hlt0 := ht.lt0
  obtain ⟨_, v1⟩ := ck1_facts hc
  obtain ⟨hs, a1, a2, a3, a4, a5⟩ := vld_facts v1
  have hck := fun o1 o2 => check_one s how a e w ht o1 o2 (by omega) (by omega)
  rw [hc] at hck
  have HC := Lib.hid hck
  have H2 := Lib.hid (fun w ht => exactOf_any a e w ht (by omega) (by omega))
  rw [hn] at hq
  have H3 := Lib.hid hq
  have h4 := fun w ht => round_any neg Q T mo s how w ht hs hQ hT1 hT2 hmo
  rw [hM, hE, hX] at h4
  have H4 := Lib.hid h4
  have HN := Lib.hid hn
  clear hck hc v1 h4 hM hE hX hs hq hQ hT1 hT2 hmo a1 a2 a3
  go_enter Tryd.func15, Tryd.ntmps15
  go_upto_region 4 with (first | (go_at_call 33; (with_reducible refine (HC.out _ _).mono ?_); rintro e w1 ⟨rfl, hk1⟩; obtain ⟨hc1, hf1⟩ := bcell hk1.2; have ht1 := hk1.1; have hz1 := hk1.2.size; (try simp only [World.size_alloc] at hz1); (try simp only [sz_drew] at hz1); (try simp only [sz_drewN] at hz1); (try simp only [World.size_alloc] at hz1); (try simp only [sz_drew] at hc1 hf1); (try simp only [sz_drewN] at hc1 hf1); (try have hw1 : w.heap.size < w1.heap.size := by omega); (try have hv1 : w.heap.size + 1 < w1.heap.size := by omega); (try have hu1 : w.heap.size + 2 < w1.heap.size := by omega)))
  have hI := ((Inv.two ht 25 [.int .i64 a, .int .i64 e] 25 [.int .i64 0, .int .i64 0]).alloc _).call hk1
  clear hc1 hf1
  have HZ : Hid (Own w1 (w.heap.size + 1) 25 [.int .i64 0, .int .i64 0]) := Lib.hid (hI.own 1 _ rfl)
  (have x0 : w1.cell? ⟨w.heap.size, 0, none⟩ = some (.int .i64 a) := (hI.own 0 _ rfl).cell 0; have x1 : w1.cell? ⟨w.heap.size, 1, none⟩ = some (.int .i64 e) := (hI.own 0 _ rfl).cell 1; have xf := fun i => (hI.own 0 _ rfl).frozen i; have xl : w.heap.size < w1.heap.size := (hI.own 0 _ rfl).lt)
  (have z0 : w1.cell? ⟨w.heap.size + 1, 0, none⟩ = some (.int .i64 0) := (hI.own 1 _ rfl).cell 0; have z1 : w1.cell? ⟨w.heap.size + 1, 1, none⟩ = some (.int .i64 0) := (hI.own 1 _ rfl).cell 1; have zf := fun i => (hI.own 1 _ rfl).frozen i; have zl : w.heap.size + 1 < w1.heap.size := (hI.own 1 _ rfl).lt)
  clear hI
  go_upto_region 6 with fail
  go_wp2_with (first | (go_at_call 35; (with_reducible refine (H2.out _ (by repeat' (first | (with_reducible assumption) | (with_reducible refine Tab.alloc ?_ _) | (with_reducible refine Tab.drew ?_) | (with_reducible refine Tab.drewN ?_ _) | (with_reducible refine Tab.setCell ?_ ?_ ?_ _) | omega | (simp; done) | (simp; omega)))).mono ?_); rintro e w2 ⟨rfl, hk2⟩; obtain ⟨hc2, hf2⟩ := bcell hk2.2; have ht2 := hk2.1; have hz2 := hk2.2.size; (try simp only [World.size_alloc] at hz2); (try simp only [sz_drew] at hz2); (try simp only [sz_drewN] at hz2); (try simp only [World.size_alloc] at hz2); (try simp only [sz_drew] at hc2 hf2); (try simp only [sz_drewN] at hc2 hf2); (try have hw2 : w.heap.size < w2.heap.size := by omega); (try have hv2 : w.heap.size + 1 < w2.heap.size := by omega); (try have hu2 : w.heap.size + 2 < w2.heap.size := by omega)) | (go_at_call 48; (with_reducible refine (H3.out _ (by repeat' (first | (with_reducible assumption) | (with_reducible refine Tab.alloc ?_ _) | (with_reducible refine Tab.drew ?_) | (with_reducible refine Tab.drewN ?_ _) | (with_reducible refine Tab.setCell ?_ ?_ ?_ _) | omega | (simp; done) | (simp; omega)))).mono ?_); rintro e w3 ⟨rfl, hk3⟩; obtain ⟨hc3, hf3⟩ := bcell hk3.2; have ht3 := hk3.1; have hz3 := hk3.2.size; (try simp only [World.size_alloc] at hz3); (try simp only [sz_drew] at hz3); (try simp only [sz_drewN] at hz3); (try simp only [World.size_alloc] at hz3); (try simp only [sz_drew] at hc3 hf3); (try simp only [sz_drewN] at hc3 hf3); (try have hw3 : w.heap.size < w3.heap.size := by omega); (try have hv3 : w.heap.size + 1 < w3.heap.size := by omega); (try have hu3 : w.heap.size + 2 < w3.heap.size := by omega)) | (go_at_call 36; (with_reducible refine (H4.out _ (by repeat' (first | (with_reducible assumption) | (with_reducible refine Tab.alloc ?_ _) | (with_reducible refine Tab.drew ?_) | (with_reducible refine Tab.drewN ?_ _) | (with_reducible refine Tab.setCell ?_ ?_ ?_ _) | omega | (simp; done) | (simp; omega)))).mono ?_); rintro e w4 ⟨rfl, hk4⟩; obtain ⟨hc4, hf4⟩ := bcell hk4.2; have ht4 := hk4.1; have hz4 := hk4.2.size; (try simp only [World.size_alloc] at hz4); (try simp only [sz_drew] at hz4); (try simp only [sz_drewN] at hz4); (try simp only [World.size_alloc] at hz4); (try simp only [sz_drew] at hc4 hf4); (try simp only [sz_drewN] at hc4 hf4); (try have hw4 : w.heap.size < w4.heap.size := by omega); (try have hv4 : w.heap.size + 1 < w4.heap.size := by omega); (try have hu4 : w.heap.size + 2 < w4.heap.size := by omega)))
  have hF := ((((HZ.out.call hk2).call hk3).call hk4).put 0 (.int .i64 M)).put 1 (.int .i64 E)
  refine bodyPost_ret (ret_own_tmp rfl hF rfl Tryd.underlying25 rfl (by kernel_rfl)) rfl ?_
  exact ⟨rfl, (by repeat' (first | (with_reducible assumption) | (with_reducible exact Kept.refl ht) | (with_reducible refine Kept.alloc ?_ _) | (with_reducible refine Kept.drew ?_) | (with_reducible refine Kept.drewN ?_ _) | (with_reducible refine Kept.setCell ?_ ?_ _ ?_ ?_) | (with_reducible refine Kept.trans ?_ (by assumption)) | omega | (simp; done) | (simp; omega)))⟩
end Go.Proofs.YtanfhlkfmmglhaaDoor
/- The program's Make, and its root of 0. Condition: the tables hold what their initialisers lay. -/
namespace Go.Proofs.YtanfhlkfmmglhaaDoor
open Go.ChangeShapes Go.WideShapes Go.ChangeAt Go.RowKit
attribute [local go_sem ↓] Go.wp_at_zero Go.wp_at_succ

set_option maxHeartbeats 2000000 in
theorem check_nil (s how : Int) (w : World) (ht : Tab w) (h : (isSz s && isDir how) = true) :
    Calls Tryd.prog 33 #[.int .i64 s, .int .i64 how, .slice none 0 0] w fun e w' => e = .returned (.int .i64 0) ∧ Kept w w' := by
  have hlt := ht.lt
  have hlt0 := ht.lt0
  rw [Bool.and_eq_true] at h
  obtain ⟨h1, h2⟩ := h
  have hD := fun w ht => Digits_any s w ht
  unfold dz sx at hD
  rw [h1] at hD
  simp only [if_true] at hD
  have HD := Lib.hid hD
  clear hD h1
  go_enter Tryd.func33, Tryd.ntmps33
  go_wp2_with (first | (go_at_call 59; (with_reducible refine (HD.out _ (by repeat' (first | (with_reducible assumption) | (with_reducible refine Tab.alloc ?_ _) | (with_reducible refine Tab.drew ?_) | (with_reducible refine Tab.drewN ?_ _) | (with_reducible refine Tab.setCell ?_ ?_ ?_ _) | omega | (simp; done) | (simp; omega)))).mono ?_); rintro e w' ⟨rfl, rfl⟩) | (go_at_call 60; (with_reducible refine (isDirection_any how _).mono ?_); rintro e w' ⟨rfl, rfl⟩))
  go_loopw [25] (fun v wr => v = .int .i64 0 ∧ wr = w) (fun _ _ => 0)
  case atStart => exact ⟨rfl, rfl⟩
  case round =>
    obtain ⟨rfl, rfl⟩ := hrel
    go_wp2_with fail
    go_returns
    exact ⟨rfl, Kept.refl ht⟩
set_option maxRecDepth 100000 in
set_option maxHeartbeats 4000000 in
theorem make_bad (s how m e : Int) (w : World) (ht : Tab w) (h : (isSz s && isDir how) = false) :
    Calls Tryd.prog 31 #[.int .i64 s, .int .i64 how, .int .i64 m, .int .i64 e] w fun x w' => x = .returned (.tuple #[.agg #[.int .i64 0, .int .i64 0], .int .i64 1]) ∧ Kept w w' := by
  have hlt := ht.lt
  have hlt0 := ht.lt0
  have HC := Lib.hid (fun w ht => check_bad s how (.slice none 0 0) w ht h)
  clear h
  go_enter Tryd.func31, Tryd.ntmps31
  go_wp2_with (first | (go_at_call 33; (with_reducible refine (HC.out _ (by repeat' (first | (with_reducible assumption) | (with_reducible refine Tab.alloc ?_ _) | (with_reducible refine Tab.drew ?_) | (with_reducible refine Tab.drewN ?_ _) | (with_reducible refine Tab.setCell ?_ ?_ ?_ _) | omega | (simp; done) | (simp; omega)))).mono ?_); rintro e w1 ⟨rfl, hk1⟩; obtain ⟨hc1, hf1⟩ := bcell hk1.2; have ht1 := hk1.1; have hz1 := hk1.2.size; (try simp only [World.size_alloc] at hz1); (try simp only [sz_drew] at hz1); (try simp only [sz_drewN] at hz1); (try simp only [World.size_alloc] at hz1); (try simp only [sz_drew] at hc1 hf1); (try simp only [sz_drewN] at hc1 hf1); (try have hw1 : w.heap.size < w1.heap.size := by omega); (try have hv1 : w.heap.size + 1 < w1.heap.size := by omega); (try have hu1 : w.heap.size + 2 < w1.heap.size := by omega)))
  have hF := (((Own.new w 25 [.int .i64 0, .int .i64 0]).call hk1).put 0 (.int .i64 0)).put 1 (.int .i64 0)
  refine bodyPost_ret (ret_own_tmp rfl hF rfl Tryd.underlying25 rfl (by kernel_rfl)) rfl ?_
  exact ⟨rfl, (by repeat' (first | (with_reducible assumption) | (with_reducible exact Kept.refl ht) | (with_reducible refine Kept.alloc ?_ _) | (with_reducible refine Kept.drew ?_) | (with_reducible refine Kept.drewN ?_ _) | (with_reducible refine Kept.setCell ?_ ?_ _ ?_ ?_) | (with_reducible refine Kept.trans ?_ (by assumption)) | omega | (simp; done) | (simp; omega)))⟩
set_option maxRecDepth 100000 in
set_option maxHeartbeats 4000000 in
theorem make_good (s how m e : Int) (w : World) (ht : Tab w) (h : (isSz s && isDir how) = true) (lm : -9223372036854775808 ≤ m) (hm : m ≤ 9223372036854775807) (g : Int) (hg : max (-1000) (min e 1000) = g)
    (M E X : Int) (hM : rM (pr s) how (decide (m < 0)) (sc (mag m) g) false = M) (hE : rE (pr s) how (decide (m < 0)) (sc (mag m) g) false = E) (hX : rX (pr s) how (decide (m < 0)) (sc (mag m) g) false = X) :
    Calls Tryd.prog 31 #[.int .i64 s, .int .i64 how, .int .i64 m, .int .i64 e] w fun x w' => x = .returned (.tuple #[.agg #[.int .i64 M, .int .i64 E], .int .i64 X]) ∧ Kept w w' := by
  have hlt := ht.lt
  have hlt0 := ht.lt0
  have hs : s = -1 ∨ s = 0 ∨ s = 1 := by
    rw [Bool.and_eq_true] at h
    exact of_decide_eq_true h.1
  have hn : mag m < 340282366920938463463374607431768211456 := by unfold mag; omega
  subst hg
  have h4 := fun w ht => round_any (decide (m < 0)) (mag m) (max (-1000) (min e 1000)) false s how w ht hs hn (by omega) (by omega) (by intro h; cases h)
  rw [hM, hE, hX] at h4
  have HC := Lib.hid (fun w ht => check_nil s how w ht h)
  have H1 := Lib.hid (fun w ht => exactOf_any m (max (-1000) (min e 1000)) w ht lm hm)
  have H4 := Lib.hid h4
  clear h h4 hM hE hX hs hn
  go_enter Tryd.func31, Tryd.ntmps31
  go_wp2_with (first | (go_at_call 33; (with_reducible refine (HC.out _ (by repeat' (first | (with_reducible assumption) | (with_reducible refine Tab.alloc ?_ _) | (with_reducible refine Tab.drew ?_) | (with_reducible refine Tab.drewN ?_ _) | (with_reducible refine Tab.setCell ?_ ?_ ?_ _) | omega | (simp; done) | (simp; omega)))).mono ?_); rintro e w1 ⟨rfl, hk1⟩; obtain ⟨hc1, hf1⟩ := bcell hk1.2; have ht1 := hk1.1; have hz1 := hk1.2.size; (try simp only [World.size_alloc] at hz1); (try simp only [sz_drew] at hz1); (try simp only [sz_drewN] at hz1); (try simp only [World.size_alloc] at hz1); (try simp only [sz_drew] at hc1 hf1); (try simp only [sz_drewN] at hc1 hf1); (try have hw1 : w.heap.size < w1.heap.size := by omega); (try have hv1 : w.heap.size + 1 < w1.heap.size := by omega); (try have hu1 : w.heap.size + 2 < w1.heap.size := by omega)) | (go_at_call 35; (with_reducible refine (H1.out _ (by repeat' (first | (with_reducible assumption) | (with_reducible refine Tab.alloc ?_ _) | (with_reducible refine Tab.drew ?_) | (with_reducible refine Tab.drewN ?_ _) | (with_reducible refine Tab.setCell ?_ ?_ ?_ _) | omega | (simp; done) | (simp; omega)))).mono ?_); rintro e w2 ⟨rfl, hk2⟩; obtain ⟨hc2, hf2⟩ := bcell hk2.2; have ht2 := hk2.1; have hz2 := hk2.2.size; (try simp only [World.size_alloc] at hz2); (try simp only [sz_drew] at hz2); (try simp only [sz_drewN] at hz2); (try simp only [World.size_alloc] at hz2); (try simp only [sz_drew] at hc2 hf2); (try simp only [sz_drewN] at hc2 hf2); (try have hw2 : w.heap.size < w2.heap.size := by omega); (try have hv2 : w.heap.size + 1 < w2.heap.size := by omega); (try have hu2 : w.heap.size + 2 < w2.heap.size := by omega)) | (go_at_call 36; (with_reducible refine (H4.out _ (by repeat' (first | (with_reducible assumption) | (with_reducible refine Tab.alloc ?_ _) | (with_reducible refine Tab.drew ?_) | (with_reducible refine Tab.drewN ?_ _) | (with_reducible refine Tab.setCell ?_ ?_ ?_ _) | omega | (simp; done) | (simp; omega)))).mono ?_); rintro e w3 ⟨rfl, hk3⟩; obtain ⟨hc3, hf3⟩ := bcell hk3.2; have ht3 := hk3.1; have hz3 := hk3.2.size; (try simp only [World.size_alloc] at hz3); (try simp only [sz_drew] at hz3); (try simp only [sz_drewN] at hz3); (try simp only [World.size_alloc] at hz3); (try simp only [sz_drew] at hc3 hf3); (try simp only [sz_drewN] at hc3 hf3); (try have hw3 : w.heap.size < w3.heap.size := by omega); (try have hv3 : w.heap.size + 1 < w3.heap.size := by omega); (try have hu3 : w.heap.size + 2 < w3.heap.size := by omega)))
  have hF := (((((Own.new w 25 [.int .i64 0, .int .i64 0]).call hk1).call hk2).call hk3).put 0 (.int .i64 M)).put 1 (.int .i64 E)
  refine bodyPost_ret (ret_own_tmp rfl hF rfl Tryd.underlying25 rfl (by kernel_rfl)) rfl ?_
  exact ⟨rfl, (by repeat' (first | (with_reducible assumption) | (with_reducible exact Kept.refl ht) | (with_reducible refine Kept.alloc ?_ _) | (with_reducible refine Kept.drew ?_) | (with_reducible refine Kept.drewN ?_ _) | (with_reducible refine Kept.setCell ?_ ?_ _ ?_ ?_) | (with_reducible refine Kept.trans ?_ (by assumption)) | omega | (simp; done) | (simp; omega)))⟩
set_option maxRecDepth 100000 in
set_option maxHeartbeats 4000000 in
theorem div_zero (s how a e b f : Int) (w : World) (ht : Tab w) (hc : ckR s how [(a, e), (b, f)] = 0) (hb0 : b = 0) :
    Calls Tryd.prog 13 #[.int .i64 s, .int .i64 how, .agg #[.int .i64 a, .int .i64 e], .agg #[.int .i64 b, .int .i64 f]] w fun x w' => x = .returned (.tuple #[.agg #[.int .i64 0, .int .i64 0], .int .i64 11]) ∧ Kept w w' := by
  have hlt := ht.lt
  have hlt0 := ht.lt0
  obtain ⟨_, v1, v2⟩ := ck_facts hc
  obtain ⟨_, _, _, _, a4, a5⟩ := vld_facts v1
  have hck := fun o1 o2 o3 => check_two s how a e b f w ht o1 o2 o3 (by omega) (by omega) (by omega) (by omega)
  rw [hc] at hck
  subst hb0
  have HC := Lib.hid hck
  clear hck hc v1 v2
  go_enter Tryd.func13, Tryd.ntmps13
  go_upto_region 4 with (first | (go_at_call 33; (with_reducible refine (HC.out _ _ _).mono ?_); rintro e w1 ⟨rfl, hk1⟩; obtain ⟨hc1, hf1⟩ := bcell hk1.2; have ht1 := hk1.1; have hz1 := hk1.2.size; (try simp only [World.size_alloc] at hz1); (try simp only [sz_drew] at hz1); (try simp only [sz_drewN] at hz1); (try simp only [World.size_alloc] at hz1); (try simp only [sz_drew] at hc1 hf1); (try simp only [sz_drewN] at hc1 hf1); (try have hw1 : w.heap.size < w1.heap.size := by omega); (try have hv1 : w.heap.size + 1 < w1.heap.size := by omega); (try have hu1 : w.heap.size + 2 < w1.heap.size := by omega)))
  have hI := ((Inv.three ht 25 [.int .i64 a, .int .i64 e] 25 [.int .i64 0, .int .i64 f] 25 [.int .i64 0, .int .i64 0]).alloc _).call hk1
  clear hc1 hf1
  have HZ : Hid (Own w1 (w.heap.size + 1 + 1) 25 [.int .i64 0, .int .i64 0]) := Lib.hid (hI.own 2 _ rfl)
  (have y0 : w1.cell? ⟨w.heap.size + 1, 0, none⟩ = some (.int .i64 0) := (hI.own 1 _ rfl).cell 0; have y1 : w1.cell? ⟨w.heap.size + 1, 1, none⟩ = some (.int .i64 f) := (hI.own 1 _ rfl).cell 1; have yf := fun i => (hI.own 1 _ rfl).frozen i; have yl : w.heap.size + 1 < w1.heap.size := (hI.own 1 _ rfl).lt)
  (have z0 : w1.cell? ⟨w.heap.size + 1 + 1, 0, none⟩ = some (.int .i64 0) := (hI.own 2 _ rfl).cell 0; have z1 : w1.cell? ⟨w.heap.size + 1 + 1, 1, none⟩ = some (.int .i64 0) := (hI.own 2 _ rfl).cell 1; have zf := fun i => (hI.own 2 _ rfl).frozen i; have zl : w.heap.size + 1 + 1 < w1.heap.size := (hI.own 2 _ rfl).lt)
  clear hI
  go_wp2
  have hF := (HZ.out.put 0 (.int .i64 0)).put 1 (.int .i64 0)
  refine bodyPost_ret (ret_own_tmp rfl hF rfl Tryd.underlying25 rfl (by kernel_rfl)) rfl ?_
  exact ⟨rfl, (by repeat' (first | (with_reducible assumption) | (with_reducible exact Kept.refl ht) | (with_reducible refine Kept.alloc ?_ _) | (with_reducible refine Kept.drew ?_) | (with_reducible refine Kept.drewN ?_ _) | (with_reducible refine Kept.setCell ?_ ?_ _ ?_ ?_) | (with_reducible refine Kept.trans ?_ (by assumption)) | omega | (simp; done) | (simp; omega)))⟩
end Go.Proofs.YtanfhlkfmmglhaaDoor
/- The program's root of 0. Condition: the tables hold what their initialisers lay. -/
namespace Go.Proofs.YtanfhlkfmmglhaaDoor
open Go.ChangeShapes Go.WideShapes Go.ChangeAt Go.RowKit
attribute [local go_sem ↓] Go.wp_at_zero Go.wp_at_succ

set_option maxRecDepth 100000 in
set_option maxHeartbeats 4000000 in
theorem xroot_zero (a m : Bool) (e : Int) (w : World) (ht : Tab w) :
    Calls Tryd.prog 48 #[.agg #[.bool a, .int .u64 (hiW 0 : Int), .int .u64 (loW 0 : Int), .int .i64 e, .bool m]] w fun x w' => x = .returned (.agg #[.bool a, .int .u64 (hiW 0 : Int), .int .u64 (loW 0 : Int), .int .i64 e, .bool m]) ∧ Kept w w' := by
  have hlt := ht.lt
  have hlt0 := ht.lt0
  go_enter Tryd.func48, Tryd.ntmps48
  go_wp2_with (first | (go_at_call 62; (with_reducible refine (isZero_any 0 _ (by repeat' (first | (with_reducible assumption) | (with_reducible refine Tab.alloc ?_ _) | (with_reducible refine Tab.drew ?_) | (with_reducible refine Tab.drewN ?_ _) | (with_reducible refine Tab.setCell ?_ ?_ ?_ _) | omega | (simp; done) | (simp; omega)))).mono ?_); rintro e w1 ⟨rfl, hk1⟩; obtain ⟨hc1, hf1⟩ := bcell hk1.2; have ht1 := hk1.1; have hz1 := hk1.2.size; (try simp only [World.size_alloc] at hz1); (try simp only [sz_drew] at hz1); (try simp only [sz_drewN] at hz1); (try simp only [World.size_alloc] at hz1); (try simp only [sz_drew] at hc1 hf1); (try simp only [sz_drewN] at hc1 hf1); (try have hw1 : w.heap.size < w1.heap.size := by omega); (try have hv1 : w.heap.size + 1 < w1.heap.size := by omega); (try have hu1 : w.heap.size + 2 < w1.heap.size := by omega)))
  have hF := (((((((Inv.two ht 44 [.bool a, .int .u64 (hiW 0 : Int), .int .u64 (loW 0 : Int), .int .i64 e, .bool m] 44 [.bool false, .int .u64 0, .int .u64 0, .int .i64 0, .bool false]).call hk1).own 1 _ rfl).put 0 (.bool a)).put 1 (.int .u64 (hiW 0 : Int))).put 2 (.int .u64 (loW 0 : Int))).put 3 (.int .i64 e)).put 4 (.bool m)
  refine bodyPost_ret (ret_own rfl hF rfl Tryd.underlying44 rfl (by kernel_rfl)) rfl ?_
  exact ⟨rfl, (by repeat' (first | (with_reducible assumption) | (with_reducible exact Kept.refl ht) | (with_reducible refine Kept.alloc ?_ _) | (with_reducible refine Kept.drew ?_) | (with_reducible refine Kept.drewN ?_ _) | (with_reducible refine Kept.setCell ?_ ?_ _ ?_ ?_) | (with_reducible refine Kept.trans ?_ (by assumption)) | omega | (simp; done) | (simp; omega)))⟩
end Go.Proofs.YtanfhlkfmmglhaaDoor
/- The program's whole root of a natural number: Newton's steps. Conditions: the tables hold what their initialisers lay; the number is not 0 and has at most 38 digits. -/
namespace Go.Proofs.YtanfhlkfmmglhaaDoor
open Go.ChangeShapes Go.WideShapes Go.ChangeAt Go.RowKit
attribute [local go_sem ↓] Go.wp_at_zero Go.wp_at_succ

theorem amgm (r s : Nat) : r * (2 * s - r) ≤ s * s := by
  rcases Nat.lt_or_ge s r with h | h
  · obtain ⟨d, rfl⟩ := Nat.exists_eq_add_of_le (Nat.le_of_lt h)
    rcases Nat.lt_or_ge s d with h1 | h1
    · rw [show 2 * s - (s + d) = 0 by omega]; simp
    · obtain ⟨c, rfl⟩ := Nat.exists_eq_add_of_le h1
      rw [show 2 * (d + c) - (d + c + d) = c by omega, Nat.add_mul, Nat.add_mul, Nat.add_mul, Nat.mul_add, Nat.mul_add, Nat.mul_comm c d]
      omega
  · obtain ⟨d, rfl⟩ := Nat.exists_eq_add_of_le h
    rw [show 2 * (r + d) - r = r + 2 * d by omega, Nat.mul_add, Nat.add_mul, Nat.mul_add, Nat.mul_add, Nat.mul_comm r (2 * d), Nat.mul_assoc, Nat.mul_comm d r]
    omega
/-- A step of Newton's from above stays above the root; where it would go up, it stands at the root. -/
theorem newton (n r : Nat) (hr : 0 < r) : isq n ≤ n / r + (r - n / r) / 2 ∨ r ≤ n / r := by
  rcases Nat.lt_or_ge (n / r) r with h | h
  · left
    have h1 := (isq_spec n).1
    have h2 := amgm r (isq n)
    have h3 : 2 * isq n - r ≤ n / r := by
      rw [Nat.le_div_iff_mul_le hr, Nat.mul_comm]
      exact Nat.le_trans h2 h1
    omega
  · exact Or.inr h
theorem newton_stop (n r : Nat) (hr : 0 < r) (h : r ≤ n / r) (hi : isq n ≤ r) : r = isq n := by
  have h1 : r * r ≤ n := by
    have := (Nat.le_div_iff_mul_le hr).1 h
    exact this
  apply Nat.le_antisymm _ hi
  obtain ⟨a, b⟩ := isq_spec n
  rcases Nat.lt_or_ge (isq n) r with h2 | h2
  · have := Nat.mul_le_mul (show isq n + 1 ≤ r from h2) (show isq n + 1 ≤ r from h2)
    omega
  · exact h2

/-- What holds at each round's head. -/
def RtRel (n : Nat) (w : World) (v : Value) (wr : World) : Prop :=
  ∃ (ri : Int) (r : Nat), v = .int .u64 ri ∧ Hid (ri = (r : Int)) ∧ 1 ≤ ri ∧ ri ≤ 10000000000000000000 ∧ isq n ≤ r ∧ Inv w [(w.heap.size, 42, [.int .u64 (hiW n : Int), .int .u64 (loW n : Int)])] wr

set_option maxRecDepth 100000 in
set_option maxHeartbeats 2000000 in
theorem nroot_any (n : Nat) (w : World) (ht : Tab w) (h0 : n ≠ 0) (hn : n < 100000000000000000000000000000000000000) :
    Calls Tryd.prog 84 #[.agg #[.int .u64 (hiW n : Int), .int .u64 (loW n : Int)]] w fun x w' => x = .returned (.int .u64 (isq n : Int)) ∧ Kept w w' := by
  have hlt := ht.lt
  have hlt0 := ht.lt0
  have ht19 := ht.tens 19 (by omega)
  have e19 : ((tn 19 : Nat) : Int) = 10000000000000000000 := by decide
  rw [e19] at ht19
  have hq1 : isq n ≤ 10000000000000000000 := by
    obtain ⟨a, b⟩ := isq_spec n
    rcases Nat.lt_or_ge 10000000000000000000 (isq n) with h | h
    · have := Nat.mul_le_mul (Nat.le_of_lt h) (Nat.le_of_lt h)
      omega
    · exact h
  have hq0 : 1 ≤ isq n := by
    obtain ⟨a, b⟩ := isq_spec n
    rcases Nat.eq_zero_or_pos (isq n) with h | h
    · rw [h] at b; omega
    · exact h
  have HQ0 := Lib.hid hq0
  have HQ1 := Lib.hid hq1
  have HN := Lib.hid hn
  clear hq0 hq1 hn h0
  go_enter Tryd.func84, Tryd.ntmps84
  go_wp2_with fail
  go_loopw [3] (RtRel n w) (fun v _ => (intOf v).toNat)
  case atStart => exact ⟨_, 10000000000000000000, rfl, Lib.hid (by omega), by omega, by omega, HQ1.out, Inv.one ht _ [_, _]⟩
  case round =>
    obtain ⟨ri, r, rfl, hri, r1, r2, r3, hI⟩ := hrel
    (have x0 : wr.cell? ⟨w.heap.size, 0, none⟩ = some (.int .u64 (hiW n : Int)) := (hI.own 0 _ rfl).cell 0; have x1 : wr.cell? ⟨w.heap.size, 1, none⟩ = some (.int .u64 (loW n : Int)) := (hI.own 0 _ rfl).cell 1; have xf := fun i => (hI.own 0 _ rfl).frozen i; have xl : w.heap.size < wr.heap.size := (hI.own 0 _ rfl).lt)
    (have wrt := hI.kept.1; have wrk := hI.kept; have wrg := hI.kept.1.lt; have wrg0 := hI.kept.1.lt0; have wrz := hI.kept.2.size)
    have HI := Lib.hid hI
    have R3 := Lib.hid r3
    clear hI r3
    have hr0 : 0 < r := by have := HQ0.out; have := R3.out; omega
    have hov := fun w ht => over_any n r w ht (by have := HN.out; omega) hr0 (by have := hri.out; omega)
    rw [← hri.out] at hov
    have hle := fun w ht => less_any (n / r) r w ht
    have eh : ((hiW r : Nat) : Int) = 0 := by unfold hiW; have := hri.out; omega
    have el : ((loW r : Nat) : Int) = ri := by unfold loW; have := hri.out; omega
    rw [eh, el] at hle
    obtain ⟨ql, hql⟩ : ∃ ql : Int, ql = (loW (n / r) : Int) := ⟨_, rfl⟩
    obtain ⟨qh, hqh⟩ : ∃ qh : Int, qh = (hiW (n / r) : Int) := ⟨_, rfl⟩
    rw [← hql, ← hqh] at hov hle
    have HO := 0
    clear eh el
    have nw := newton n r hr0
    have ns := fun h => newton_stop n r hr0 h R3.out
    clear HO
    have HO := hov
    clear hov
    generalize n / r = z at *
    have HO := Lib.hid HO
    by_cases hc : z < r
    · have hqr : ql = ((z : Nat) : Int) := by rw [hql]; unfold loW; have := hri.out; omega
      have hd : decide (z < r) = true := decide_eq_true hc
      rw [hd] at hle
      have HL := Lib.hid hle
      have hb1 : 0 ≤ ql := by omega
      have hb2 : ql < ri := by have := hri.out; omega
      have hnext : isq n ≤ (ql + (ri - ql) / 2).toNat := by
        have e1 : (ql + (ri - ql) / 2).toNat = z + (r - z) / 2 := by have := hri.out; omega
        rw [e1]
        rcases nw with h | h
        · exact h
        · omega
      have HX := Lib.hid hnext
      have hb3 : 1 ≤ ql + (ri - ql) / 2 := by have := HQ0.out; omega
      clear hle hd hc nw ns hql hqh hqr hr0 hnext
      go_wp2_with (first | (go_at_call 83; (with_reducible refine (HO.out _ (by repeat' (first | (with_reducible assumption) | (with_reducible refine Tab.alloc ?_ _) | (with_reducible refine Tab.drew ?_) | (with_reducible refine Tab.drewN ?_ _) | (with_reducible refine Tab.setCell ?_ ?_ ?_ _) | omega | (simp; done) | (simp; omega)))).mono ?_); rintro e w2 ⟨rfl, hk2⟩; obtain ⟨hc2, hf2⟩ := bcell hk2.2; have ht2 := hk2.1; have hz2 := hk2.2.size; (try simp only [World.size_alloc] at hz2); (try simp only [sz_drew] at hz2); (try simp only [sz_drewN] at hz2); (try simp only [World.size_alloc] at hz2); (try simp only [sz_drew] at hc2 hf2); (try simp only [sz_drewN] at hc2 hf2); (try have hw2 : w.heap.size < w2.heap.size := by omega); (try have hv2 : w.heap.size + 1 < w2.heap.size := by omega); (try have hu2 : w.heap.size + 2 < w2.heap.size := by omega)) | (go_at_call 89; (with_reducible refine (HL.out _ (by repeat' (first | (with_reducible assumption) | (with_reducible refine Tab.alloc ?_ _) | (with_reducible refine Tab.drew ?_) | (with_reducible refine Tab.drewN ?_ _) | (with_reducible refine Tab.setCell ?_ ?_ ?_ _) | omega | (simp; done) | (simp; omega)))).mono ?_); rintro e w3 ⟨rfl, hk3⟩; obtain ⟨hc3, hf3⟩ := bcell hk3.2; have ht3 := hk3.1; have hz3 := hk3.2.size; (try simp only [World.size_alloc] at hz3); (try simp only [sz_drew] at hz3); (try simp only [sz_drewN] at hz3); (try simp only [World.size_alloc] at hz3); (try simp only [sz_drew] at hc3 hf3); (try simp only [sz_drewN] at hc3 hf3); (try have hw3 : w.heap.size < w3.heap.size := by omega); (try have hv3 : w.heap.size + 1 < w3.heap.size := by omega); (try have hu3 : w.heap.size + 2 < w3.heap.size := by omega)))
      go_roundw
      case rel => exact ⟨_, (ql + (ri - ql) / 2).toNat, rfl, Lib.hid (by omega), by omega, by omega, HX.out, ((HI.out.call hk2).alloc _).call hk3⟩
      case measure => simp [intOf]; omega
    · have hd : decide (z < r) = false := decide_eq_false hc
      rw [hd] at hle
      have HL := Lib.hid hle
      have hst := ns (by omega)
      have HS : Hid (ri = (isq n : Int)) := Lib.hid (by rw [hri.out]; congr 1)
      clear hle hd hc nw ns hql hqh hr0 hst
      go_wp2_with (first | (go_at_call 83; (with_reducible refine (HO.out _ (by repeat' (first | (with_reducible assumption) | (with_reducible refine Tab.alloc ?_ _) | (with_reducible refine Tab.drew ?_) | (with_reducible refine Tab.drewN ?_ _) | (with_reducible refine Tab.setCell ?_ ?_ ?_ _) | omega | (simp; done) | (simp; omega)))).mono ?_); rintro e w2 ⟨rfl, hk2⟩; obtain ⟨hc2, hf2⟩ := bcell hk2.2; have ht2 := hk2.1; have hz2 := hk2.2.size; (try simp only [World.size_alloc] at hz2); (try simp only [sz_drew] at hz2); (try simp only [sz_drewN] at hz2); (try simp only [World.size_alloc] at hz2); (try simp only [sz_drew] at hc2 hf2); (try simp only [sz_drewN] at hc2 hf2); (try have hw2 : w.heap.size < w2.heap.size := by omega); (try have hv2 : w.heap.size + 1 < w2.heap.size := by omega); (try have hu2 : w.heap.size + 2 < w2.heap.size := by omega)) | (go_at_call 89; (with_reducible refine (HL.out _ (by repeat' (first | (with_reducible assumption) | (with_reducible refine Tab.alloc ?_ _) | (with_reducible refine Tab.drew ?_) | (with_reducible refine Tab.drewN ?_ _) | (with_reducible refine Tab.setCell ?_ ?_ ?_ _) | omega | (simp; done) | (simp; omega)))).mono ?_); rintro e w3 ⟨rfl, hk3⟩; obtain ⟨hc3, hf3⟩ := bcell hk3.2; have ht3 := hk3.1; have hz3 := hk3.2.size; (try simp only [World.size_alloc] at hz3); (try simp only [sz_drew] at hz3); (try simp only [sz_drewN] at hz3); (try simp only [World.size_alloc] at hz3); (try simp only [sz_drew] at hc3 hf3); (try simp only [sz_drewN] at hc3 hf3); (try have hw3 : w.heap.size < w3.heap.size := by omega); (try have hv3 : w.heap.size + 1 < w3.heap.size := by omega); (try have hu3 : w.heap.size + 2 < w3.heap.size := by omega)))
      go_returns
      exact ⟨by rw [← HS.out]; rfl, ((HI.out.kept.trans hk2).alloc _).trans hk3⟩
end Go.Proofs.YtanfhlkfmmglhaaDoor
