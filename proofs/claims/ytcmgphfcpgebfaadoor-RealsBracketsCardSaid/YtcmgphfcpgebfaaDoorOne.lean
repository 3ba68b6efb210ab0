/- The program's operations with one operand: Neg and Abs. Condition: the tables hold what their initialisers lay. -/
import Derived.Test.YtcmgphfcpgebfaaDoorMul
namespace Go.Proofs.YtcmgphfcpgebfaaDoor
open Go.ChangeShapes Go.WideShapes Go.ChangeAt Go.RowKit
attribute [local go_sem ↓] Go.wp_at_zero Go.wp_at_succ

theorem check_one (s how a e : Int) (w : World) (ht : Tab w) (o1 o2 : Obj) (la : -9223372036854775808 ≤ a) (ha : a ≤ 9223372036854775807) :
    Calls Tryd.prog 50 #[.int .i64 s, .int .i64 how, .slice (some ⟨w.heap.size + 1 + 1, 0, none⟩) 1 1] (((w.alloc o1).alloc o2).alloc (.cells #[.int .i64 a, .int .i64 e] 29)) fun x w' => x = .returned (.int .i64 (ckR s how [(a, e)])) ∧ Kept (((w.alloc o1).alloc o2).alloc (.cells #[.int .i64 a, .int .i64 e] 29)) w' := by
  have ht3 := (((ht.alloc o1).alloc o2).alloc (.cells #[.int .i64 a, .int .i64 e] 29))
  have hO := Own.new ((w.alloc o1).alloc o2) 29 [.int .i64 a, .int .i64 e]
  rw [World.size_alloc, World.size_alloc] at hO
  unfold ckR
  cases hg : (isSz s && isDir how)
  · simp only [Bool.false_eq_true, if_false]
    exact check_bad s how _ _ ht3 hg
  · simp only [if_true]
    refine check_good s how [(a, e)] (w.heap.size + 1 + 1) 1 _ ht3 hg hO.lt (by simp) ?_
    intro k x hx
    match k, hx with
    | 0, hx => obtain rfl := Option.some.inj hx; exact ⟨hO.cell 0, hO.cell 1, la, ha⟩
    | k + 1, hx => simp at hx
theorem ck1_facts {s how a e : Int} (h : ckR s how [(a, e)] = 0) : isDir how = true ∧ vld s a e = true := by
  unfold ckR at h
  cases hg : (isSz s && isDir how)
  · rw [hg] at h; simp at h
  · rw [hg] at h
    simp only [if_true] at h
    rw [Bool.and_eq_true] at hg
    refine ⟨hg.2, ?_⟩
    unfold ckO at h
    by_cases hv : ([(a, e)].all fun x => vld s x.1 x.2) = true
    · simpa using hv
    · rw [if_neg hv] at h; omega

set_option maxRecDepth 100000 in
set_option maxHeartbeats 4000000 in
theorem neg_bad (s a e c : Int) (w : World) (ht : Tab w) (la : -9223372036854775808 ≤ a) (ha : a ≤ 9223372036854775807) (hc : ckR s 0 [(a, e)] = c) (h0 : (c != 0) = true) :
    Calls Tryd.prog 29 #[.int .i64 s, .agg #[.int .i64 a, .int .i64 e]] w fun x w' => x = .returned (.tuple #[.agg #[.int .i64 0, .int .i64 0], .int .i64 c]) ∧ Kept w w' := by
  have hlt := ht.lt
  have hlt0 := ht.lt0
  have hck := fun o1 o2 => check_one s 0 a e w ht o1 o2 la ha
  rw [hc] at hck
  have HC := Lib.hid hck
  clear hck hc
  go_enter Tryd.func29, Tryd.ntmps29
  go_wp2_with (first | (go_at_call 50; (with_reducible refine (HC.out _ _).mono ?_); rintro e w1 ⟨rfl, hk1⟩; obtain ⟨hc1, hf1⟩ := bcell hk1.2; have ht1 := hk1.1; have hz1 := hk1.2.size; (try simp only [World.size_alloc] at hz1); (try simp only [sz_drew] at hz1); (try simp only [sz_drewN] at hz1); (try simp only [World.size_alloc] at hz1); (try simp only [sz_drew] at hc1 hf1); (try simp only [sz_drewN] at hc1 hf1); (try have hw1 : w.heap.size < w1.heap.size := by omega); (try have hv1 : w.heap.size + 1 < w1.heap.size := by omega); (try have hu1 : w.heap.size + 2 < w1.heap.size := by omega)))
  have hI := ((Inv.two ht 29 [.int .i64 a, .int .i64 e] 29 [.int .i64 0, .int .i64 0]).alloc _).call hk1
  have hF := ((hI.own 1 _ rfl).put 0 (.int .i64 0)).put 1 (.int .i64 0)
  refine bodyPost_ret (ret_own_tmp rfl hF rfl Tryd.underlying29 rfl (by kernel_rfl)) rfl ?_
  exact ⟨rfl, (by repeat' (first | (with_reducible assumption) | (with_reducible exact Kept.refl ht) | (with_reducible refine Kept.alloc ?_ _) | (with_reducible refine Kept.drew ?_) | (with_reducible refine Kept.drewN ?_ _) | (with_reducible refine Kept.setCell ?_ ?_ _ ?_ ?_) | (with_reducible refine Kept.trans ?_ (by assumption)) | omega | (simp; done) | (simp; omega)))⟩

set_option maxRecDepth 100000 in
set_option maxHeartbeats 4000000 in
theorem neg_good (s a e : Int) (w : World) (ht : Tab w) (hc : ckR s 0 [(a, e)] = 0) :
    Calls Tryd.prog 29 #[.int .i64 s, .agg #[.int .i64 a, .int .i64 e]] w fun x w' => x = .returned (.tuple #[.agg #[.int .i64 (-a), .int .i64 e], .int .i64 0]) ∧ Kept w w' := by
  have hlt := ht.lt
  have hlt0 := ht.lt0
  obtain ⟨_, v1⟩ := ck1_facts hc
  obtain ⟨_, _, _, _, a4, a5⟩ := vld_facts v1
  have hck := fun o1 o2 => check_one s 0 a e w ht o1 o2 (by omega) (by omega)
  rw [hc] at hck
  have HC := Lib.hid hck
  have HN := Lib.hid (fun w ht => negative_any a e w ht (by omega) (by omega))
  clear hck hc v1
  go_enter Tryd.func29, Tryd.ntmps29
  go_upto_region 4 with (first | (go_at_call 50; (with_reducible refine (HC.out _ _).mono ?_); rintro e w1 ⟨rfl, hk1⟩; obtain ⟨hc1, hf1⟩ := bcell hk1.2; have ht1 := hk1.1; have hz1 := hk1.2.size; (try simp only [World.size_alloc] at hz1); (try simp only [sz_drew] at hz1); (try simp only [sz_drewN] at hz1); (try simp only [World.size_alloc] at hz1); (try simp only [sz_drew] at hc1 hf1); (try simp only [sz_drewN] at hc1 hf1); (try have hw1 : w.heap.size < w1.heap.size := by omega); (try have hv1 : w.heap.size + 1 < w1.heap.size := by omega); (try have hu1 : w.heap.size + 2 < w1.heap.size := by omega)))
  have hI := ((Inv.two ht 29 [.int .i64 a, .int .i64 e] 29 [.int .i64 0, .int .i64 0]).alloc _).call hk1
  clear hc1 hf1
  have HZ : Hid (Own w1 (w.heap.size + 1) 29 [.int .i64 0, .int .i64 0]) := Lib.hid (hI.own 1 _ rfl)
  (have x0 : w1.cell? ⟨w.heap.size, 0, none⟩ = some (.int .i64 a) := (hI.own 0 _ rfl).cell 0; have x1 : w1.cell? ⟨w.heap.size, 1, none⟩ = some (.int .i64 e) := (hI.own 0 _ rfl).cell 1; have xf := fun i => (hI.own 0 _ rfl).frozen i; have xl : w.heap.size < w1.heap.size := (hI.own 0 _ rfl).lt)
  (have z0 : w1.cell? ⟨w.heap.size + 1, 0, none⟩ = some (.int .i64 0) := (hI.own 1 _ rfl).cell 0; have z1 : w1.cell? ⟨w.heap.size + 1, 1, none⟩ = some (.int .i64 0) := (hI.own 1 _ rfl).cell 1; have zf := fun i => (hI.own 1 _ rfl).frozen i; have zl : w.heap.size + 1 < w1.heap.size := (hI.own 1 _ rfl).lt)
  clear hI
  go_wp2_with (first | (go_at_call 58; (with_reducible refine (HN.out _ (by repeat' (first | (with_reducible assumption) | (with_reducible refine Tab.alloc ?_ _) | (with_reducible refine Tab.drew ?_) | (with_reducible refine Tab.drewN ?_ _) | (with_reducible refine Tab.setCell ?_ ?_ ?_ _) | omega | (simp; done) | (simp; omega)))).mono ?_); rintro e w2 ⟨rfl, hk2⟩; obtain ⟨hc2, hf2⟩ := bcell hk2.2; have ht2 := hk2.1; have hz2 := hk2.2.size; (try simp only [World.size_alloc] at hz2); (try simp only [sz_drew] at hz2); (try simp only [sz_drewN] at hz2); (try simp only [World.size_alloc] at hz2); (try simp only [sz_drew] at hc2 hf2); (try simp only [sz_drewN] at hc2 hf2); (try have hw2 : w.heap.size < w2.heap.size := by omega); (try have hv2 : w.heap.size + 1 < w2.heap.size := by omega); (try have hu2 : w.heap.size + 2 < w2.heap.size := by omega)))
  have hF := ((HZ.out.call hk2).put 0 (.int .i64 (-a))).put 1 (.int .i64 e)
  refine bodyPost_ret (ret_own_tmp rfl hF rfl Tryd.underlying29 rfl (by kernel_rfl)) rfl ?_
  exact ⟨rfl, (by repeat' (first | (with_reducible assumption) | (with_reducible exact Kept.refl ht) | (with_reducible refine Kept.alloc ?_ _) | (with_reducible refine Kept.drew ?_) | (with_reducible refine Kept.drewN ?_ _) | (with_reducible refine Kept.setCell ?_ ?_ _ ?_ ?_) | (with_reducible refine Kept.trans ?_ (by assumption)) | omega | (simp; done) | (simp; omega)))⟩

set_option maxRecDepth 100000 in
set_option maxHeartbeats 4000000 in
theorem abs_bad (s a e c : Int) (w : World) (ht : Tab w) (la : -9223372036854775808 ≤ a) (ha : a ≤ 9223372036854775807) (hc : ckR s 0 [(a, e)] = c) (h0 : (c != 0) = true) :
    Calls Tryd.prog 31 #[.int .i64 s, .agg #[.int .i64 a, .int .i64 e]] w fun x w' => x = .returned (.tuple #[.agg #[.int .i64 0, .int .i64 0], .int .i64 c]) ∧ Kept w w' := by
  have hlt := ht.lt
  have hlt0 := ht.lt0
  have hck := fun o1 o2 => check_one s 0 a e w ht o1 o2 la ha
  rw [hc] at hck
  have HC := Lib.hid hck
  clear hck hc
  go_enter Tryd.func31, Tryd.ntmps31
  go_wp2_with (first | (go_at_call 50; (with_reducible refine (HC.out _ _).mono ?_); rintro e w1 ⟨rfl, hk1⟩; obtain ⟨hc1, hf1⟩ := bcell hk1.2; have ht1 := hk1.1; have hz1 := hk1.2.size; (try simp only [World.size_alloc] at hz1); (try simp only [sz_drew] at hz1); (try simp only [sz_drewN] at hz1); (try simp only [World.size_alloc] at hz1); (try simp only [sz_drew] at hc1 hf1); (try simp only [sz_drewN] at hc1 hf1); (try have hw1 : w.heap.size < w1.heap.size := by omega); (try have hv1 : w.heap.size + 1 < w1.heap.size := by omega); (try have hu1 : w.heap.size + 2 < w1.heap.size := by omega)))
  have hI := ((Inv.two ht 29 [.int .i64 a, .int .i64 e] 29 [.int .i64 0, .int .i64 0]).alloc _).call hk1
  have hF := ((hI.own 1 _ rfl).put 0 (.int .i64 0)).put 1 (.int .i64 0)
  refine bodyPost_ret (ret_own_tmp rfl hF rfl Tryd.underlying29 rfl (by kernel_rfl)) rfl ?_
  exact ⟨rfl, (by repeat' (first | (with_reducible assumption) | (with_reducible exact Kept.refl ht) | (with_reducible refine Kept.alloc ?_ _) | (with_reducible refine Kept.drew ?_) | (with_reducible refine Kept.drewN ?_ _) | (with_reducible refine Kept.setCell ?_ ?_ _ ?_ ?_) | (with_reducible refine Kept.trans ?_ (by assumption)) | omega | (simp; done) | (simp; omega)))⟩

set_option maxRecDepth 100000 in
set_option maxHeartbeats 4000000 in
theorem leng_bad (s a e c : Int) (w : World) (ht : Tab w) (hs1 : (s == 1) = false) (la : -9223372036854775808 ≤ a) (ha : a ≤ 9223372036854775807) (hc : ckR s 0 [(a, e)] = c) (h0 : (c != 0) = true) :
    Calls Tryd.prog 41 #[.int .i64 s, .agg #[.int .i64 a, .int .i64 e]] w fun x w' => x = .returned (.tuple #[.agg #[.int .i64 0, .int .i64 0], .int .i64 c]) ∧ Kept w w' := by
  have hlt := ht.lt
  have hlt0 := ht.lt0
  have hck := fun o1 o2 => check_one s 0 a e w ht o1 o2 la ha
  rw [hc] at hck
  have HC := Lib.hid hck
  clear hck hc
  go_enter Tryd.func41, Tryd.ntmps41
  go_wp2_with (first | (go_at_call 50; (with_reducible refine (HC.out _ _).mono ?_); rintro e w1 ⟨rfl, hk1⟩; obtain ⟨hc1, hf1⟩ := bcell hk1.2; have ht1 := hk1.1; have hz1 := hk1.2.size; (try simp only [World.size_alloc] at hz1); (try simp only [sz_drew] at hz1); (try simp only [sz_drewN] at hz1); (try simp only [World.size_alloc] at hz1); (try simp only [sz_drew] at hc1 hf1); (try simp only [sz_drewN] at hc1 hf1); (try have hw1 : w.heap.size < w1.heap.size := by omega); (try have hv1 : w.heap.size + 1 < w1.heap.size := by omega); (try have hu1 : w.heap.size + 2 < w1.heap.size := by omega)))
  have hI := ((Inv.two ht 29 [.int .i64 a, .int .i64 e] 29 [.int .i64 0, .int .i64 0]).alloc _).call hk1
  have hF := ((hI.own 1 _ rfl).put 0 (.int .i64 0)).put 1 (.int .i64 0)
  refine bodyPost_ret (ret_own_tmp rfl hF rfl Tryd.underlying29 rfl (by kernel_rfl)) rfl ?_
  exact ⟨rfl, (by repeat' (first | (with_reducible assumption) | (with_reducible exact Kept.refl ht) | (with_reducible refine Kept.alloc ?_ _) | (with_reducible refine Kept.drew ?_) | (with_reducible refine Kept.drewN ?_ _) | (with_reducible refine Kept.setCell ?_ ?_ _ ?_ ?_) | (with_reducible refine Kept.trans ?_ (by assumption)) | omega | (simp; done) | (simp; omega)))⟩

set_option maxRecDepth 100000 in
set_option maxHeartbeats 4000000 in
theorem sqrt_bad (s how a e c : Int) (w : World) (ht : Tab w) (la : -9223372036854775808 ≤ a) (ha : a ≤ 9223372036854775807) (hc : ckR s how [(a, e)] = c) (h0 : (c != 0) = true) :
    Calls Tryd.prog 27 #[.int .i64 s, .int .i64 how, .agg #[.int .i64 a, .int .i64 e]] w fun x w' => x = .returned (.tuple #[.agg #[.int .i64 0, .int .i64 0], .int .i64 c]) ∧ Kept w w' := by
  have hlt := ht.lt
  have hlt0 := ht.lt0
  have hck := fun o1 o2 => check_one s how a e w ht o1 o2 la ha
  rw [hc] at hck
  have HC := Lib.hid hck
  clear hck hc
  go_enter Tryd.func27, Tryd.ntmps27
  go_wp2_with (first | (go_at_call 50; (with_reducible refine (HC.out _ _).mono ?_); rintro e w1 ⟨rfl, hk1⟩; obtain ⟨hc1, hf1⟩ := bcell hk1.2; have ht1 := hk1.1; have hz1 := hk1.2.size; (try simp only [World.size_alloc] at hz1); (try simp only [sz_drew] at hz1); (try simp only [sz_drewN] at hz1); (try simp only [World.size_alloc] at hz1); (try simp only [sz_drew] at hc1 hf1); (try simp only [sz_drewN] at hc1 hf1); (try have hw1 : w.heap.size < w1.heap.size := by omega); (try have hv1 : w.heap.size + 1 < w1.heap.size := by omega); (try have hu1 : w.heap.size + 2 < w1.heap.size := by omega)))
  have hI := ((Inv.two ht 29 [.int .i64 a, .int .i64 e] 29 [.int .i64 0, .int .i64 0]).alloc _).call hk1
  have hF := ((hI.own 1 _ rfl).put 0 (.int .i64 0)).put 1 (.int .i64 0)
  refine bodyPost_ret (ret_own_tmp rfl hF rfl Tryd.underlying29 rfl (by kernel_rfl)) rfl ?_
  exact ⟨rfl, (by repeat' (first | (with_reducible assumption) | (with_reducible exact Kept.refl ht) | (with_reducible refine Kept.alloc ?_ _) | (with_reducible refine Kept.drew ?_) | (with_reducible refine Kept.drewN ?_ _) | (with_reducible refine Kept.setCell ?_ ?_ _ ?_ ?_) | (with_reducible refine Kept.trans ?_ (by assumption)) | omega | (simp; done) | (simp; omega)))⟩

set_option maxRecDepth 100000 in
set_option maxHeartbeats 4000000 in
theorem shorten_bad (s how a e c : Int) (w : World) (ht : Tab w) (hs1 : (s == -1) = false) (la : -9223372036854775808 ≤ a) (ha : a ≤ 9223372036854775807) (hc : ckR s how [(a, e)] = c) (h0 : (c != 0) = true) :
    Calls Tryd.prog 43 #[.int .i64 s, .int .i64 how, .agg #[.int .i64 a, .int .i64 e]] w fun x w' => x = .returned (.tuple #[.agg #[.int .i64 0, .int .i64 0], .int .i64 c]) ∧ Kept w w' := by
  have hlt := ht.lt
  have hlt0 := ht.lt0
  have hck := fun o1 o2 => check_one s how a e w ht o1 o2 la ha
  rw [hc] at hck
  have HC := Lib.hid hck
  clear hck hc
  go_enter Tryd.func43, Tryd.ntmps43
  go_wp2_with (first | (go_at_call 50; (with_reducible refine (HC.out _ _).mono ?_); rintro e w1 ⟨rfl, hk1⟩; obtain ⟨hc1, hf1⟩ := bcell hk1.2; have ht1 := hk1.1; have hz1 := hk1.2.size; (try simp only [World.size_alloc] at hz1); (try simp only [sz_drew] at hz1); (try simp only [sz_drewN] at hz1); (try simp only [World.size_alloc] at hz1); (try simp only [sz_drew] at hc1 hf1); (try simp only [sz_drewN] at hc1 hf1); (try have hw1 : w.heap.size < w1.heap.size := by omega); (try have hv1 : w.heap.size + 1 < w1.heap.size := by omega); (try have hu1 : w.heap.size + 2 < w1.heap.size := by omega)))
  have hI := ((Inv.two ht 29 [.int .i64 a, .int .i64 e] 29 [.int .i64 0, .int .i64 0]).alloc _).call hk1
  have hF := ((hI.own 1 _ rfl).put 0 (.int .i64 0)).put 1 (.int .i64 0)
  refine bodyPost_ret (ret_own_tmp rfl hF rfl Tryd.underlying29 rfl (by kernel_rfl)) rfl ?_
  exact ⟨rfl, (by repeat' (first | (with_reducible assumption) | (with_reducible exact Kept.refl ht) | (with_reducible refine Kept.alloc ?_ _) | (with_reducible refine Kept.drew ?_) | (with_reducible refine Kept.drewN ?_ _) | (with_reducible refine Kept.setCell ?_ ?_ _ ?_ ?_) | (with_reducible refine Kept.trans ?_ (by assumption)) | omega | (simp; done) | (simp; omega)))⟩

set_option maxRecDepth 100000 in
theorem leng_size (a e : Int) (w : World) (ht : Tab w) :
    Calls Tryd.prog 41 #[.int .i64 1, .agg #[.int .i64 a, .int .i64 e]] w fun x w' => x = .returned (.tuple #[.agg #[.int .i64 0, .int .i64 0], .int .i64 1]) ∧ Kept w w' := by
  have hlt := ht.lt
  have hlt0 := ht.lt0
  go_enter Tryd.func41, Tryd.ntmps41
  go_wp2
  have hI := (Inv.two ht 29 [.int .i64 a, .int .i64 e] 29 [.int .i64 0, .int .i64 0])
  have hF := hI.own 1 _ rfl
  refine bodyPost_ret (ret_own_tmp rfl hF rfl Tryd.underlying29 rfl (by kernel_rfl)) rfl ?_
  exact ⟨rfl, (by repeat' (first | (with_reducible assumption) | (with_reducible exact Kept.refl ht) | (with_reducible refine Kept.alloc ?_ _) | (with_reducible refine Kept.drew ?_) | (with_reducible refine Kept.drewN ?_ _) | (with_reducible refine Kept.setCell ?_ ?_ _ ?_ ?_) | (with_reducible refine Kept.trans ?_ (by assumption)) | omega | (simp; done) | (simp; omega)))⟩

set_option maxRecDepth 100000 in
theorem shorten_size (how a e : Int) (w : World) (ht : Tab w) :
    Calls Tryd.prog 43 #[.int .i64 (-1), .int .i64 how, .agg #[.int .i64 a, .int .i64 e]] w fun x w' => x = .returned (.tuple #[.agg #[.int .i64 0, .int .i64 0], .int .i64 1]) ∧ Kept w w' := by
  have hlt := ht.lt
  have hlt0 := ht.lt0
  go_enter Tryd.func43, Tryd.ntmps43
  go_wp2
  have hI := (Inv.two ht 29 [.int .i64 a, .int .i64 e] 29 [.int .i64 0, .int .i64 0])
  have hF := hI.own 1 _ rfl
  refine bodyPost_ret (ret_own_tmp rfl hF rfl Tryd.underlying29 rfl (by kernel_rfl)) rfl ?_
  exact ⟨rfl, (by repeat' (first | (with_reducible assumption) | (with_reducible exact Kept.refl ht) | (with_reducible refine Kept.alloc ?_ _) | (with_reducible refine Kept.drew ?_) | (with_reducible refine Kept.drewN ?_ _) | (with_reducible refine Kept.setCell ?_ ?_ _ ?_ ?_) | (with_reducible refine Kept.trans ?_ (by assumption)) | omega | (simp; done) | (simp; omega)))⟩

set_option maxRecDepth 100000 in
set_option maxHeartbeats 4000000 in
theorem abs_neg (s a e : Int) (w : World) (ht : Tab w) (hc : ckR s 0 [(a, e)] = 0) (hn : decide (a < 0) = true) :
    Calls Tryd.prog 31 #[.int .i64 s, .agg #[.int .i64 a, .int .i64 e]] w fun x w' => x = .returned (.tuple #[.agg #[.int .i64 (-a), .int .i64 e], .int .i64 0]) ∧ Kept w w' := by
  have hlt := ht.lt
  have hlt0 := ht.lt0
  obtain ⟨_, v1⟩ := ck1_facts hc
  obtain ⟨_, _, _, _, a4, a5⟩ := vld_facts v1
  have hck := fun o1 o2 => check_one s 0 a e w ht o1 o2 (by omega) (by omega)
  rw [hc] at hck
  have HC := Lib.hid hck
  have HN := Lib.hid (fun w ht => negative_any a e w ht (by omega) (by omega))
  clear hck hc v1
  go_enter Tryd.func31, Tryd.ntmps31
  go_upto_region 4 with (first | (go_at_call 50; (with_reducible refine (HC.out _ _).mono ?_); rintro e w1 ⟨rfl, hk1⟩; obtain ⟨hc1, hf1⟩ := bcell hk1.2; have ht1 := hk1.1; have hz1 := hk1.2.size; (try simp only [World.size_alloc] at hz1); (try simp only [sz_drew] at hz1); (try simp only [sz_drewN] at hz1); (try simp only [World.size_alloc] at hz1); (try simp only [sz_drew] at hc1 hf1); (try simp only [sz_drewN] at hc1 hf1); (try have hw1 : w.heap.size < w1.heap.size := by omega); (try have hv1 : w.heap.size + 1 < w1.heap.size := by omega); (try have hu1 : w.heap.size + 2 < w1.heap.size := by omega)))
  have hI := ((Inv.two ht 29 [.int .i64 a, .int .i64 e] 29 [.int .i64 0, .int .i64 0]).alloc _).call hk1
  clear hc1 hf1
  have HZ : Hid (Own w1 (w.heap.size + 1) 29 [.int .i64 0, .int .i64 0]) := Lib.hid (hI.own 1 _ rfl)
  (have x0 : w1.cell? ⟨w.heap.size, 0, none⟩ = some (.int .i64 a) := (hI.own 0 _ rfl).cell 0; have x1 : w1.cell? ⟨w.heap.size, 1, none⟩ = some (.int .i64 e) := (hI.own 0 _ rfl).cell 1; have xf := fun i => (hI.own 0 _ rfl).frozen i; have xl : w.heap.size < w1.heap.size := (hI.own 0 _ rfl).lt)
  (have z0 : w1.cell? ⟨w.heap.size + 1, 0, none⟩ = some (.int .i64 0) := (hI.own 1 _ rfl).cell 0; have z1 : w1.cell? ⟨w.heap.size + 1, 1, none⟩ = some (.int .i64 0) := (hI.own 1 _ rfl).cell 1; have zf := fun i => (hI.own 1 _ rfl).frozen i; have zl : w.heap.size + 1 < w1.heap.size := (hI.own 1 _ rfl).lt)
  clear hI
  go_wp2_with (first | (go_at_call 58; (with_reducible refine (HN.out _ (by repeat' (first | (with_reducible assumption) | (with_reducible refine Tab.alloc ?_ _) | (with_reducible refine Tab.drew ?_) | (with_reducible refine Tab.drewN ?_ _) | (with_reducible refine Tab.setCell ?_ ?_ ?_ _) | omega | (simp; done) | (simp; omega)))).mono ?_); rintro e w2 ⟨rfl, hk2⟩; obtain ⟨hc2, hf2⟩ := bcell hk2.2; have ht2 := hk2.1; have hz2 := hk2.2.size; (try simp only [World.size_alloc] at hz2); (try simp only [sz_drew] at hz2); (try simp only [sz_drewN] at hz2); (try simp only [World.size_alloc] at hz2); (try simp only [sz_drew] at hc2 hf2); (try simp only [sz_drewN] at hc2 hf2); (try have hw2 : w.heap.size < w2.heap.size := by omega); (try have hv2 : w.heap.size + 1 < w2.heap.size := by omega); (try have hu2 : w.heap.size + 2 < w2.heap.size := by omega)))
  have hF := ((HZ.out.call hk2).put 0 (.int .i64 (-a))).put 1 (.int .i64 e)
  refine bodyPost_ret (ret_own_tmp rfl hF rfl Tryd.underlying29 rfl (by kernel_rfl)) rfl ?_
  exact ⟨rfl, (by repeat' (first | (with_reducible assumption) | (with_reducible exact Kept.refl ht) | (with_reducible refine Kept.alloc ?_ _) | (with_reducible refine Kept.drew ?_) | (with_reducible refine Kept.drewN ?_ _) | (with_reducible refine Kept.setCell ?_ ?_ _ ?_ ?_) | (with_reducible refine Kept.trans ?_ (by assumption)) | omega | (simp; done) | (simp; omega)))⟩

set_option maxRecDepth 100000 in
set_option maxHeartbeats 4000000 in
theorem abs_pos (s a e : Int) (w : World) (ht : Tab w) (hc : ckR s 0 [(a, e)] = 0) (hn : decide (a < 0) = false) :
    Calls Tryd.prog 31 #[.int .i64 s, .agg #[.int .i64 a, .int .i64 e]] w fun x w' => x = .returned (.tuple #[.agg #[.int .i64 a, .int .i64 e], .int .i64 0]) ∧ Kept w w' := by
  have hlt := ht.lt
  have hlt0 := ht.lt0
  obtain ⟨_, v1⟩ := ck1_facts hc
  obtain ⟨_, _, _, _, a4, a5⟩ := vld_facts v1
  have hck := fun o1 o2 => check_one s 0 a e w ht o1 o2 (by omega) (by omega)
  rw [hc] at hck
  have HC := Lib.hid hck
  clear hck hc v1
  go_enter Tryd.func31, Tryd.ntmps31
  go_upto_region 4 with (first | (go_at_call 50; (with_reducible refine (HC.out _ _).mono ?_); rintro e w1 ⟨rfl, hk1⟩; obtain ⟨hc1, hf1⟩ := bcell hk1.2; have ht1 := hk1.1; have hz1 := hk1.2.size; (try simp only [World.size_alloc] at hz1); (try simp only [sz_drew] at hz1); (try simp only [sz_drewN] at hz1); (try simp only [World.size_alloc] at hz1); (try simp only [sz_drew] at hc1 hf1); (try simp only [sz_drewN] at hc1 hf1); (try have hw1 : w.heap.size < w1.heap.size := by omega); (try have hv1 : w.heap.size + 1 < w1.heap.size := by omega); (try have hu1 : w.heap.size + 2 < w1.heap.size := by omega)))
  have hI := ((Inv.two ht 29 [.int .i64 a, .int .i64 e] 29 [.int .i64 0, .int .i64 0]).alloc _).call hk1
  clear hc1 hf1
  have HZ : Hid (Own w1 (w.heap.size + 1) 29 [.int .i64 0, .int .i64 0]) := Lib.hid (hI.own 1 _ rfl)
  (have x0 : w1.cell? ⟨w.heap.size, 0, none⟩ = some (.int .i64 a) := (hI.own 0 _ rfl).cell 0; have x1 : w1.cell? ⟨w.heap.size, 1, none⟩ = some (.int .i64 e) := (hI.own 0 _ rfl).cell 1; have xf := fun i => (hI.own 0 _ rfl).frozen i; have xl : w.heap.size < w1.heap.size := (hI.own 0 _ rfl).lt)
  (have z0 : w1.cell? ⟨w.heap.size + 1, 0, none⟩ = some (.int .i64 0) := (hI.own 1 _ rfl).cell 0; have z1 : w1.cell? ⟨w.heap.size + 1, 1, none⟩ = some (.int .i64 0) := (hI.own 1 _ rfl).cell 1; have zf := fun i => (hI.own 1 _ rfl).frozen i; have zl : w.heap.size + 1 < w1.heap.size := (hI.own 1 _ rfl).lt)
  clear hI
  go_wp2
  have hF := ((HZ.out).put 0 (.int .i64 a)).put 1 (.int .i64 e)
  refine bodyPost_ret (ret_own_tmp rfl hF rfl Tryd.underlying29 rfl (by kernel_rfl)) rfl ?_
  exact ⟨rfl, (by repeat' (first | (with_reducible assumption) | (with_reducible exact Kept.refl ht) | (with_reducible refine Kept.alloc ?_ _) | (with_reducible refine Kept.drew ?_) | (with_reducible refine Kept.drewN ?_ _) | (with_reducible refine Kept.setCell ?_ ?_ _ ?_ ?_) | (with_reducible refine Kept.trans ?_ (by assumption)) | omega | (simp; done) | (simp; omega)))⟩

set_option maxRecDepth 100000 in
set_option maxHeartbeats 4000000 in
theorem leng_good (s a e : Int) (w : World) (ht : Tab w) (hs1 : (s == 1) = false) (hc : ckR s 0 [(a, e)] = 0) :
    Calls Tryd.prog 41 #[.int .i64 s, .agg #[.int .i64 a, .int .i64 e]] w fun x w' => x = .returned (.tuple #[.agg #[.int .i64 a, .int .i64 e], .int .i64 0]) ∧ Kept w w' := by
  have hlt := ht.lt
  have hlt0 := ht.lt0
  obtain ⟨_, v1⟩ := ck1_facts hc
  obtain ⟨_, _, _, _, a4, a5⟩ := vld_facts v1
  have hck := fun o1 o2 => check_one s 0 a e w ht o1 o2 (by omega) (by omega)
  rw [hc] at hck
  have HC := Lib.hid hck
  clear hck hc v1
  go_enter Tryd.func41, Tryd.ntmps41
  go_upto_region 6 with (first | (go_at_call 50; (with_reducible refine (HC.out _ _).mono ?_); rintro e w1 ⟨rfl, hk1⟩; obtain ⟨hc1, hf1⟩ := bcell hk1.2; have ht1 := hk1.1; have hz1 := hk1.2.size; (try simp only [World.size_alloc] at hz1); (try simp only [sz_drew] at hz1); (try simp only [sz_drewN] at hz1); (try simp only [World.size_alloc] at hz1); (try simp only [sz_drew] at hc1 hf1); (try simp only [sz_drewN] at hc1 hf1); (try have hw1 : w.heap.size < w1.heap.size := by omega); (try have hv1 : w.heap.size + 1 < w1.heap.size := by omega); (try have hu1 : w.heap.size + 2 < w1.heap.size := by omega)))
  have hI := ((Inv.two ht 29 [.int .i64 a, .int .i64 e] 29 [.int .i64 0, .int .i64 0]).alloc _).call hk1
  clear hc1 hf1
  have HZ : Hid (Own w1 (w.heap.size + 1) 29 [.int .i64 0, .int .i64 0]) := Lib.hid (hI.own 1 _ rfl)
  (have x0 : w1.cell? ⟨w.heap.size, 0, none⟩ = some (.int .i64 a) := (hI.own 0 _ rfl).cell 0; have x1 : w1.cell? ⟨w.heap.size, 1, none⟩ = some (.int .i64 e) := (hI.own 0 _ rfl).cell 1; have xf := fun i => (hI.own 0 _ rfl).frozen i; have xl : w.heap.size < w1.heap.size := (hI.own 0 _ rfl).lt)
  (have z0 : w1.cell? ⟨w.heap.size + 1, 0, none⟩ = some (.int .i64 0) := (hI.own 1 _ rfl).cell 0; have z1 : w1.cell? ⟨w.heap.size + 1, 1, none⟩ = some (.int .i64 0) := (hI.own 1 _ rfl).cell 1; have zf := fun i => (hI.own 1 _ rfl).frozen i; have zl : w.heap.size + 1 < w1.heap.size := (hI.own 1 _ rfl).lt)
  clear hI
  go_wp2
  have hF := ((HZ.out).put 0 (.int .i64 a)).put 1 (.int .i64 e)
  refine bodyPost_ret (ret_own_tmp rfl hF rfl Tryd.underlying29 rfl (by kernel_rfl)) rfl ?_
  exact ⟨rfl, (by repeat' (first | (with_reducible assumption) | (with_reducible exact Kept.refl ht) | (with_reducible refine Kept.alloc ?_ _) | (with_reducible refine Kept.drew ?_) | (with_reducible refine Kept.drewN ?_ _) | (with_reducible refine Kept.setCell ?_ ?_ _ ?_ ?_) | (with_reducible refine Kept.trans ?_ (by assumption)) | omega | (simp; done) | (simp; omega)))⟩
end Go.Proofs.YtcmgphfcpgebfaaDoor
