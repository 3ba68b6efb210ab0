/- The program's root and Shorten. Condition: the tables hold what their initialisers lay. -/
import Derived.Test.YtcmgphfcpgebfaaDoorOne
namespace Go.Proofs.YtcmgphfcpgebfaaDoor
open Go.ChangeShapes Go.WideShapes Go.ChangeAt Go.RowKit
attribute [local go_sem ↓] Go.wp_at_zero Go.wp_at_succ

set_option maxRecDepth 100000 in
set_option maxHeartbeats 4000000 in
theorem sqrt_neg (s how a e : Int) (w : World) (ht : Tab w) (hc : ckR s how [(a, e)] = 0) (hn : decide (a < 0) = true) :
    Calls Tryd.prog 27 #[.int .i64 s, .int .i64 how, .agg #[.int .i64 a, .int .i64 e]] w fun x w' => x = .returned (.tuple #[.agg #[.int .i64 0, .int .i64 0], .int .i64 11]) ∧ Kept w w' := by
  have hlt := ht.lt
  have hlt0 := ht.lt0
  obtain ⟨_, v1⟩ := ck1_facts hc
  obtain ⟨_, _, _, _, a4, a5⟩ := vld_facts v1
  have hck := fun o1 o2 => check_one s how a e w ht o1 o2 (by omega) (by omega)
  rw [hc] at hck
  have HC := Lib.hid hck
  clear hck hc v1
  go_enter Tryd.func27, Tryd.ntmps27
  go_upto_region 4 with (first | (go_at_call 50; (with_reducible refine (HC.out _ _).mono ?_); rintro e w1 ⟨rfl, hk1⟩; obtain ⟨hc1, hf1⟩ := bcell hk1.2; have ht1 := hk1.1; have hz1 := hk1.2.size; (try simp only [World.size_alloc] at hz1); (try simp only [sz_drew] at hz1); (try simp only [sz_drewN] at hz1); (try simp only [World.size_alloc] at hz1); (try simp only [sz_drew] at hc1 hf1); (try simp only [sz_drewN] at hc1 hf1); (try have hw1 : w.heap.size < w1.heap.size := by omega); (try have hv1 : w.heap.size + 1 < w1.heap.size := by omega); (try have hu1 : w.heap.size + 2 < w1.heap.size := by omega)))
  have hI := ((Inv.two ht 29 [.int .i64 a, .int .i64 e] 29 [.int .i64 0, .int .i64 0]).alloc _).call hk1
  clear hc1 hf1
  have HZ : Hid (Own w1 (w.heap.size + 1) 29 [.int .i64 0, .int .i64 0]) := Lib.hid (hI.own 1 _ rfl)
  (have x0 : w1.cell? ⟨w.heap.size, 0, none⟩ = some (.int .i64 a) := (hI.own 0 _ rfl).cell 0; have x1 : w1.cell? ⟨w.heap.size, 1, none⟩ = some (.int .i64 e) := (hI.own 0 _ rfl).cell 1; have xf := fun i => (hI.own 0 _ rfl).frozen i; have xl : w.heap.size < w1.heap.size := (hI.own 0 _ rfl).lt)
  (have z0 : w1.cell? ⟨w.heap.size + 1, 0, none⟩ = some (.int .i64 0) := (hI.own 1 _ rfl).cell 0; have z1 : w1.cell? ⟨w.heap.size + 1, 1, none⟩ = some (.int .i64 0) := (hI.own 1 _ rfl).cell 1; have zf := fun i => (hI.own 1 _ rfl).frozen i; have zl : w.heap.size + 1 < w1.heap.size := (hI.own 1 _ rfl).lt)
  clear hI
  go_wp2
  have hF := (HZ.out.put 0 (.int .i64 0)).put 1 (.int .i64 0)
  refine bodyPost_ret (ret_own_tmp rfl hF rfl Tryd.underlying29 rfl (by kernel_rfl)) rfl ?_
  exact ⟨rfl, (by repeat' (first | (with_reducible assumption) | (with_reducible exact Kept.refl ht) | (with_reducible refine Kept.alloc ?_ _) | (with_reducible refine Kept.drew ?_) | (with_reducible refine Kept.drewN ?_ _) | (with_reducible refine Kept.setCell ?_ ?_ _ ?_ ?_) | (with_reducible refine Kept.trans ?_ (by assumption)) | omega | (simp; done) | (simp; omega)))⟩

set_option maxRecDepth 100000 in
set_option maxHeartbeats 4000000 in
theorem shorten_good (s how a e : Int) (w : World) (ht : Tab w) (hs1 : (s == -1) = false) (hc : ckR s how [(a, e)] = 0) (M E X : Int) (neg : Bool) (hneg : decide (a < 0) = neg)
    (hM : rM (pr (s - 1)) how neg (sc (mag a) e) false = M) (hE : rE (pr (s - 1)) how neg (sc (mag a) e) false = E) (hX : rX (pr (s - 1)) how neg (sc (mag a) e) false = X) :
    Calls Tryd.prog 43 #[.int .i64 s, .int .i64 how, .agg #[.int .i64 a, .int .i64 e]] w fun x w' => x = .returned (.tuple #[.agg #[.int .i64 M, .int .i64 E], .int .i64 X]) ∧ Kept w w' := by
  have hlt := ht.lt
  have hlt0 := ht.lt0
  obtain ⟨_, v1⟩ := ck1_facts hc
  obtain ⟨hs, a1, a2, a3, a4, a5⟩ := vld_facts v1
  have hck := fun o1 o2 => check_one s how a e w ht o1 o2 (by omega) (by omega)
  rw [hc] at hck
  have HC := Lib.hid hck
  have H2 := Lib.hid (fun w ht => exactOf_any a e w ht (by omega) (by omega))
  have hsm : s - 1 = -1 ∨ s - 1 = 0 ∨ s - 1 = 1 := by
    rw [beq_eq_false_iff_ne] at hs1
    omega
  have h4 := fun w ht => round_any (decide (a < 0)) (mag a) e false (s - 1) how w ht hsm (by omega) (by omega) (by omega) (by intro h; cases h)
  rw [hneg, hM, hE, hX, ← hneg] at h4
  have hs2 : -1 ≤ s := by omega
  have hs3 : s ≤ 1 := by omega
  have hw1 : IntKind.i64.wrap (s - 1) = s - 1 := IntWalk.i64_in _ (by omega)
  have H4 := Lib.hid h4
  clear hck hc v1 h4 hM hE hX hneg hs hsm a1 a2 a3
  go_enter Tryd.func43, Tryd.ntmps43
  go_upto_region 6 with (first | (go_at_call 50; (with_reducible refine (HC.out _ _).mono ?_); rintro e w1 ⟨rfl, hk1⟩; obtain ⟨hc1, hf1⟩ := bcell hk1.2; have ht1 := hk1.1; have hz1 := hk1.2.size; (try simp only [World.size_alloc] at hz1); (try simp only [sz_drew] at hz1); (try simp only [sz_drewN] at hz1); (try simp only [World.size_alloc] at hz1); (try simp only [sz_drew] at hc1 hf1); (try simp only [sz_drewN] at hc1 hf1); (try have hw1 : w.heap.size < w1.heap.size := by omega); (try have hv1 : w.heap.size + 1 < w1.heap.size := by omega); (try have hu1 : w.heap.size + 2 < w1.heap.size := by omega)))
  have hI := ((Inv.two ht 29 [.int .i64 a, .int .i64 e] 29 [.int .i64 0, .int .i64 0]).alloc _).call hk1
  clear hc1 hf1
  have HZ : Hid (Own w1 (w.heap.size + 1) 29 [.int .i64 0, .int .i64 0]) := Lib.hid (hI.own 1 _ rfl)
  (have x0 : w1.cell? ⟨w.heap.size, 0, none⟩ = some (.int .i64 a) := (hI.own 0 _ rfl).cell 0; have x1 : w1.cell? ⟨w.heap.size, 1, none⟩ = some (.int .i64 e) := (hI.own 0 _ rfl).cell 1; have xf := fun i => (hI.own 0 _ rfl).frozen i; have xl : w.heap.size < w1.heap.size := (hI.own 0 _ rfl).lt)
  (have z0 : w1.cell? ⟨w.heap.size + 1, 0, none⟩ = some (.int .i64 0) := (hI.own 1 _ rfl).cell 0; have z1 : w1.cell? ⟨w.heap.size + 1, 1, none⟩ = some (.int .i64 0) := (hI.own 1 _ rfl).cell 1; have zf := fun i => (hI.own 1 _ rfl).frozen i; have zl : w.heap.size + 1 < w1.heap.size := (hI.own 1 _ rfl).lt)
  clear hI
  go_wp2_with (first | (go_at_call 51; (with_reducible refine (H2.out _ (by repeat' (first | (with_reducible assumption) | (with_reducible refine Tab.alloc ?_ _) | (with_reducible refine Tab.drew ?_) | (with_reducible refine Tab.drewN ?_ _) | (with_reducible refine Tab.setCell ?_ ?_ ?_ _) | omega | (simp; done) | (simp; omega)))).mono ?_); rintro e w2 ⟨rfl, hk2⟩; obtain ⟨hc2, hf2⟩ := bcell hk2.2; have ht2 := hk2.1; have hz2 := hk2.2.size; (try simp only [World.size_alloc] at hz2); (try simp only [sz_drew] at hz2); (try simp only [sz_drewN] at hz2); (try simp only [World.size_alloc] at hz2); (try simp only [sz_drew] at hc2 hf2); (try simp only [sz_drewN] at hc2 hf2); (try have hw2 : w.heap.size < w2.heap.size := by omega); (try have hv2 : w.heap.size + 1 < w2.heap.size := by omega); (try have hu2 : w.heap.size + 2 < w2.heap.size := by omega)) | (go_at_call 52; (with_reducible refine (H4.out _ (by repeat' (first | (with_reducible assumption) | (with_reducible refine Tab.alloc ?_ _) | (with_reducible refine Tab.drew ?_) | (with_reducible refine Tab.drewN ?_ _) | (with_reducible refine Tab.setCell ?_ ?_ ?_ _) | omega | (simp; done) | (simp; omega)))).mono ?_); rintro e w3 ⟨rfl, hk3⟩; obtain ⟨hc3, hf3⟩ := bcell hk3.2; have ht3 := hk3.1; have hz3 := hk3.2.size; (try simp only [World.size_alloc] at hz3); (try simp only [sz_drew] at hz3); (try simp only [sz_drewN] at hz3); (try simp only [World.size_alloc] at hz3); (try simp only [sz_drew] at hc3 hf3); (try simp only [sz_drewN] at hc3 hf3); (try have hw3 : w.heap.size < w3.heap.size := by omega); (try have hv3 : w.heap.size + 1 < w3.heap.size := by omega); (try have hu3 : w.heap.size + 2 < w3.heap.size := by omega)))
  have hF := (((HZ.out.call hk2).call hk3).put 0 (.int .i64 M)).put 1 (.int .i64 E)
  refine bodyPost_ret (ret_own_tmp rfl hF rfl Tryd.underlying29 rfl (by kernel_rfl)) rfl ?_
  exact ⟨rfl, (by repeat' (first | (with_reducible assumption) | (with_reducible exact Kept.refl ht) | (with_reducible refine Kept.alloc ?_ _) | (with_reducible refine Kept.drew ?_) | (with_reducible refine Kept.drewN ?_ _) | (with_reducible refine Kept.setCell ?_ ?_ _ ?_ ?_) | (with_reducible refine Kept.trans ?_ (by assumption)) | omega | (simp; done) | (simp; omega)))⟩

set_option maxRecDepth 100000 in
set_option maxHeartbeats 4000000 in
theorem sqrt_good (s how a e : Int) (w : World) (ht : Tab w) (hc : ckR s how [(a, e)] = 0) (hn : decide (a < 0) = false) (M E X : Int) (neg : Bool) (Q : Nat) (T : Int) (mo : Bool)
    (hq : ∀ w, Tab w → Calls Tryd.prog 64 #[.agg #[.bool (decide (a < 0)), .int .u64 (hiW (mag a) : Int), .int .u64 (loW (mag a) : Int), .int .i64 e, .bool false]] w fun x w' => x = .returned (.agg #[.bool neg, .int .u64 (hiW Q : Int), .int .u64 (loW Q : Int), .int .i64 T, .bool mo]) ∧ Kept w w') (hQ : Q < 340282366920938463463374607431768211456) (hT1 : -1100 ≤ T) (hT2 : T ≤ 5000) (hmo : mo = true → pr s < dg Q)
    (hM : rM (pr s) how neg (sc Q T) mo = M) (hE : rE (pr s) how neg (sc Q T) mo = E) (hX : rX (pr s) how neg (sc Q T) mo = X) :
    Calls Tryd.prog 27 #[.int .i64 s, .int .i64 how, .agg #[.int .i64 a, .int .i64 e]] w fun x w' => x = .returned (.tuple #[.agg #[.int .i64 M, .int .i64 E], .int .i64 X]) ∧ Kept w w' := by
  have hlt := ht.lt
  have hlt0 := ht.lt0
  obtain ⟨_, v1⟩ := ck1_facts hc
  obtain ⟨hs, a1, a2, a3, a4, a5⟩ := vld_facts v1
  have hck := fun o1 o2 => check_one s how a e w ht o1 o2 (by omega) (by omega)
  rw [hc] at hck
  have HC := Lib.hid hck
  have H2 := Lib.hid (fun w ht => exactOf_any a e w ht (by omega) (by omega))
  rw [hn] at hq
  have H3 := Lib.hid hq
  have h4 := fun w ht => round_any neg Q T mo s how w ht hs hQ hT1 hT2 hmo
  rw [hM, hE, hX] at h4
  have H4 := Lib.hid h4
  have HN := Lib.hid hn
  clear hck hc v1 h4 hM hE hX hs hq hQ hT1 hT2 hmo a1 a2 a3
  go_enter Tryd.func27, Tryd.ntmps27
  go_upto_region 4 with (first | (go_at_call 50; (with_reducible refine (HC.out _ _).mono ?_); rintro e w1 ⟨rfl, hk1⟩; obtain ⟨hc1, hf1⟩ := bcell hk1.2; have ht1 := hk1.1; have hz1 := hk1.2.size; (try simp only [World.size_alloc] at hz1); (try simp only [sz_drew] at hz1); (try simp only [sz_drewN] at hz1); (try simp only [World.size_alloc] at hz1); (try simp only [sz_drew] at hc1 hf1); (try simp only [sz_drewN] at hc1 hf1); (try have hw1 : w.heap.size < w1.heap.size := by omega); (try have hv1 : w.heap.size + 1 < w1.heap.size := by omega); (try have hu1 : w.heap.size + 2 < w1.heap.size := by omega)))
  have hI := ((Inv.two ht 29 [.int .i64 a, .int .i64 e] 29 [.int .i64 0, .int .i64 0]).alloc _).call hk1
  clear hc1 hf1
  have HZ : Hid (Own w1 (w.heap.size + 1) 29 [.int .i64 0, .int .i64 0]) := Lib.hid (hI.own 1 _ rfl)
  (have x0 : w1.cell? ⟨w.heap.size, 0, none⟩ = some (.int .i64 a) := (hI.own 0 _ rfl).cell 0; have x1 : w1.cell? ⟨w.heap.size, 1, none⟩ = some (.int .i64 e) := (hI.own 0 _ rfl).cell 1; have xf := fun i => (hI.own 0 _ rfl).frozen i; have xl : w.heap.size < w1.heap.size := (hI.own 0 _ rfl).lt)
  (have z0 : w1.cell? ⟨w.heap.size + 1, 0, none⟩ = some (.int .i64 0) := (hI.own 1 _ rfl).cell 0; have z1 : w1.cell? ⟨w.heap.size + 1, 1, none⟩ = some (.int .i64 0) := (hI.own 1 _ rfl).cell 1; have zf := fun i => (hI.own 1 _ rfl).frozen i; have zl : w.heap.size + 1 < w1.heap.size := (hI.own 1 _ rfl).lt)
  clear hI
  go_upto_region 6 with fail
  go_wp2_with (first | (go_at_call 51; (with_reducible refine (H2.out _ (by repeat' (first | (with_reducible assumption) | (with_reducible refine Tab.alloc ?_ _) | (with_reducible refine Tab.drew ?_) | (with_reducible refine Tab.drewN ?_ _) | (with_reducible refine Tab.setCell ?_ ?_ ?_ _) | omega | (simp; done) | (simp; omega)))).mono ?_); rintro e w2 ⟨rfl, hk2⟩; obtain ⟨hc2, hf2⟩ := bcell hk2.2; have ht2 := hk2.1; have hz2 := hk2.2.size; (try simp only [World.size_alloc] at hz2); (try simp only [sz_drew] at hz2); (try simp only [sz_drewN] at hz2); (try simp only [World.size_alloc] at hz2); (try simp only [sz_drew] at hc2 hf2); (try simp only [sz_drewN] at hc2 hf2); (try have hw2 : w.heap.size < w2.heap.size := by omega); (try have hv2 : w.heap.size + 1 < w2.heap.size := by omega); (try have hu2 : w.heap.size + 2 < w2.heap.size := by omega)) | (go_at_call 64; (with_reducible refine (H3.out _ (by repeat' (first | (with_reducible assumption) | (with_reducible refine Tab.alloc ?_ _) | (with_reducible refine Tab.drew ?_) | (with_reducible refine Tab.drewN ?_ _) | (with_reducible refine Tab.setCell ?_ ?_ ?_ _) | omega | (simp; done) | (simp; omega)))).mono ?_); rintro e w3 ⟨rfl, hk3⟩; obtain ⟨hc3, hf3⟩ := bcell hk3.2; have ht3 := hk3.1; have hz3 := hk3.2.size; (try simp only [World.size_alloc] at hz3); (try simp only [sz_drew] at hz3); (try simp only [sz_drewN] at hz3); (try simp only [World.size_alloc] at hz3); (try simp only [sz_drew] at hc3 hf3); (try simp only [sz_drewN] at hc3 hf3); (try have hw3 : w.heap.size < w3.heap.size := by omega); (try have hv3 : w.heap.size + 1 < w3.heap.size := by omega); (try have hu3 : w.heap.size + 2 < w3.heap.size := by omega)) | (go_at_call 52; (with_reducible refine (H4.out _ (by repeat' (first | (with_reducible assumption) | (with_reducible refine Tab.alloc ?_ _) | (with_reducible refine Tab.drew ?_) | (with_reducible refine Tab.drewN ?_ _) | (with_reducible refine Tab.setCell ?_ ?_ ?_ _) | omega | (simp; done) | (simp; omega)))).mono ?_); rintro e w4 ⟨rfl, hk4⟩; obtain ⟨hc4, hf4⟩ := bcell hk4.2; have ht4 := hk4.1; have hz4 := hk4.2.size; (try simp only [World.size_alloc] at hz4); (try simp only [sz_drew] at hz4); (try simp only [sz_drewN] at hz4); (try simp only [World.size_alloc] at hz4); (try simp only [sz_drew] at hc4 hf4); (try simp only [sz_drewN] at hc4 hf4); (try have hw4 : w.heap.size < w4.heap.size := by omega); (try have hv4 : w.heap.size + 1 < w4.heap.size := by omega); (try have hu4 : w.heap.size + 2 < w4.heap.size := by omega)))
  have hF := ((((HZ.out.call hk2).call hk3).call hk4).put 0 (.int .i64 M)).put 1 (.int .i64 E)
  refine bodyPost_ret (ret_own_tmp rfl hF rfl Tryd.underlying29 rfl (by kernel_rfl)) rfl ?_
  exact ⟨rfl, (by repeat' (first | (with_reducible assumption) | (with_reducible exact Kept.refl ht) | (with_reducible refine Kept.alloc ?_ _) | (with_reducible refine Kept.drew ?_) | (with_reducible refine Kept.drewN ?_ _) | (with_reducible refine Kept.setCell ?_ ?_ _ ?_ ?_) | (with_reducible refine Kept.trans ?_ (by assumption)) | omega | (simp; done) | (simp; omega)))⟩
end Go.Proofs.YtcmgphfcpgebfaaDoor
