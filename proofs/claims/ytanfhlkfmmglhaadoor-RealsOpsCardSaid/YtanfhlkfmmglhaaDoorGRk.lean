/- The reference's operations where something is wrong, and its simple ones. Condition: the tables hold what their initialisers lay. -/
import Derived.Test.YtanfhlkfmmglhaaDoorGRh
import Derived.Test.YtanfhlkfmmglhaaDoorGRf2
namespace Go.Proofs.YtanfhlkfmmglhaaDoor
open Go.ChangeShapes Go.WideShapes Go.ChangeAt Go.RowKit
attribute [local go_sem ↓] Go.wp_at_zero Go.wp_at_succ

theorem gives_out2 {r : Res} {M E X : Int} (h : r = ⟨M, E, X⟩) {P : Program} {f : Nat} {args : Array Value} {w : World} (hc : Calls P f args w (Gives r w)) : Calls P f args w fun x w' => x = .returned (.tuple #[.agg #[.int .i64 M, .int .i64 E], .int .i64 X]) ∧ Kept w w' := by
  subst h
  exact hc
theorem vld_zero (s : Int) : vld s 0 0 = isSz s := by unfold vld; simp
theorem ckR_one (s how a e : Int) : ckR s how [(a, e), (0, 0)] = ckR s how [(a, e)] := by
  unfold ckR ckO
  cases h : isSz s
  · simp
  · simp [vld_zero, h]
theorem ckR_two (s how : Int) : ckR s how [(0, 0), (0, 0)] = if (isSz s && isDir how) = true then 0 else 1 := by
  unfold ckR ckO
  cases h : isSz s
  · simp
  · simp [vld_zero, h]
theorem right_one (s how a e : Int) (w : World) (ht : Tab w) (la : -9223372036854775808 ≤ a) (ha : a ≤ 9223372036854775807) :
    Calls Tryd.prog 37 #[.int .i64 s, .int .i64 how, .agg #[.int .i64 a, .int .i64 e], .agg #[.int .i64 0, .int .i64 0]] w fun x w' => x = .returned (.int .i64 (ckR s how [(a, e)])) ∧ Kept w w' := by
  have := refright s how a e 0 0 w ht la ha (by decide) (by decide)
  rwa [ckR_one] at this

set_option maxRecDepth 100000 in
set_option maxHeartbeats 4000000 in
theorem radd_bad (s how a e b f c : Int) (w : World) (ht : Tab w) (la : -9223372036854775808 ≤ a) (ha : a ≤ 9223372036854775807) (lb : -9223372036854775808 ≤ b) (hb : b ≤ 9223372036854775807) (hc : ckR s how [(a, e), (b, f)] = c) (h0 : (c != 0) = true) :
    Calls Tryd.prog 8 #[.int .i64 s, .int .i64 how, .agg #[.int .i64 a, .int .i64 e], .agg #[.int .i64 b, .int .i64 f]] w fun x w' => x = .returned (.tuple #[.agg #[.int .i64 0, .int .i64 0], .int .i64 c]) ∧ Kept w w' := by
  have hlt := ht.lt
  have hlt0 := ht.lt0
  have hck := fun w ht => refright s how a e b f w ht la ha lb hb
  rw [hc] at hck
  have HC := Lib.hid hck
  clear hck hc
  go_enter Tryd.func8, Tryd.ntmps8
  go_wp2_with (first | (go_at_call 37; (with_reducible refine (HC.out _ (by repeat' (first | (with_reducible assumption) | (with_reducible refine Tab.alloc ?_ _) | (with_reducible refine Tab.drew ?_) | (with_reducible refine Tab.drewN ?_ _) | (with_reducible refine Tab.setCell ?_ ?_ ?_ _) | omega | (simp; done) | (simp; omega)))).mono ?_); rintro e w1 ⟨rfl, hk1⟩; obtain ⟨hc1, hf1⟩ := bcell hk1.2; have ht1 := hk1.1; have hz1 := hk1.2.size; (try simp only [World.size_alloc] at hz1); (try simp only [sz_drew] at hz1); (try simp only [sz_drewN] at hz1); (try simp only [World.size_alloc] at hz1); (try simp only [sz_drew] at hc1 hf1); (try simp only [sz_drewN] at hc1 hf1); (try have hw1 : w.heap.size < w1.heap.size := by omega); (try have hv1 : w.heap.size + 1 < w1.heap.size := by omega); (try have hu1 : w.heap.size + 2 < w1.heap.size := by omega)))
  have hI := (Inv.three ht 25 [.int .i64 a, .int .i64 e] 25 [.int .i64 b, .int .i64 f] 25 [.int .i64 0, .int .i64 0]).call hk1
  have hF := ((hI.own 2 _ rfl).put 0 (.int .i64 0)).put 1 (.int .i64 0)
  refine bodyPost_ret (ret_own_tmp rfl hF rfl Tryd.underlying25 rfl (by kernel_rfl)) rfl ?_
  exact ⟨rfl, (by repeat' (first | (with_reducible assumption) | (with_reducible exact Kept.refl ht) | (with_reducible refine Kept.alloc ?_ _) | (with_reducible refine Kept.drew ?_) | (with_reducible refine Kept.drewN ?_ _) | (with_reducible refine Kept.setCell ?_ ?_ _ ?_ ?_) | (with_reducible refine Kept.trans ?_ (by assumption)) | omega | (simp; done) | (simp; omega)))⟩
set_option maxRecDepth 100000 in
set_option maxHeartbeats 4000000 in
theorem rsub_bad (s how a e b f c : Int) (w : World) (ht : Tab w) (la : -9223372036854775808 ≤ a) (ha : a ≤ 9223372036854775807) (lb : -9223372036854775808 ≤ b) (hb : b ≤ 9223372036854775807) (hc : ckR s how [(a, e), (b, f)] = c) (h0 : (c != 0) = true) :
    Calls Tryd.prog 10 #[.int .i64 s, .int .i64 how, .agg #[.int .i64 a, .int .i64 e], .agg #[.int .i64 b, .int .i64 f]] w fun x w' => x = .returned (.tuple #[.agg #[.int .i64 0, .int .i64 0], .int .i64 c]) ∧ Kept w w' := by
  have hlt := ht.lt
  have hlt0 := ht.lt0
  have hck := fun w ht => refright s how a e b f w ht la ha lb hb
  rw [hc] at hck
  have HC := Lib.hid hck
  clear hck hc
  go_enter Tryd.func10, Tryd.ntmps10
  go_wp2_with (first | (go_at_call 37; (with_reducible refine (HC.out _ (by repeat' (first | (with_reducible assumption) | (with_reducible refine Tab.alloc ?_ _) | (with_reducible refine Tab.drew ?_) | (with_reducible refine Tab.drewN ?_ _) | (with_reducible refine Tab.setCell ?_ ?_ ?_ _) | omega | (simp; done) | (simp; omega)))).mono ?_); rintro e w1 ⟨rfl, hk1⟩; obtain ⟨hc1, hf1⟩ := bcell hk1.2; have ht1 := hk1.1; have hz1 := hk1.2.size; (try simp only [World.size_alloc] at hz1); (try simp only [sz_drew] at hz1); (try simp only [sz_drewN] at hz1); (try simp only [World.size_alloc] at hz1); (try simp only [sz_drew] at hc1 hf1); (try simp only [sz_drewN] at hc1 hf1); (try have hw1 : w.heap.size < w1.heap.size := by omega); (try have hv1 : w.heap.size + 1 < w1.heap.size := by omega); (try have hu1 : w.heap.size + 2 < w1.heap.size := by omega)))
  have hI := (Inv.three ht 25 [.int .i64 a, .int .i64 e] 25 [.int .i64 b, .int .i64 f] 25 [.int .i64 0, .int .i64 0]).call hk1
  have hF := ((hI.own 2 _ rfl).put 0 (.int .i64 0)).put 1 (.int .i64 0)
  refine bodyPost_ret (ret_own_tmp rfl hF rfl Tryd.underlying25 rfl (by kernel_rfl)) rfl ?_
  exact ⟨rfl, (by repeat' (first | (with_reducible assumption) | (with_reducible exact Kept.refl ht) | (with_reducible refine Kept.alloc ?_ _) | (with_reducible refine Kept.drew ?_) | (with_reducible refine Kept.drewN ?_ _) | (with_reducible refine Kept.setCell ?_ ?_ _ ?_ ?_) | (with_reducible refine Kept.trans ?_ (by assumption)) | omega | (simp; done) | (simp; omega)))⟩
set_option maxRecDepth 100000 in
set_option maxHeartbeats 4000000 in
theorem rmul_bad (s how a e b f c : Int) (w : World) (ht : Tab w) (la : -9223372036854775808 ≤ a) (ha : a ≤ 9223372036854775807) (lb : -9223372036854775808 ≤ b) (hb : b ≤ 9223372036854775807) (hc : ckR s how [(a, e), (b, f)] = c) (h0 : (c != 0) = true) :
    Calls Tryd.prog 12 #[.int .i64 s, .int .i64 how, .agg #[.int .i64 a, .int .i64 e], .agg #[.int .i64 b, .int .i64 f]] w fun x w' => x = .returned (.tuple #[.agg #[.int .i64 0, .int .i64 0], .int .i64 c]) ∧ Kept w w' := by
  have hlt := ht.lt
  have hlt0 := ht.lt0
  have hck := fun w ht => refright s how a e b f w ht la ha lb hb
  rw [hc] at hck
  have HC := Lib.hid hck
  clear hck hc
  go_enter Tryd.func12, Tryd.ntmps12
  go_wp2_with (first | (go_at_call 37; (with_reducible refine (HC.out _ (by repeat' (first | (with_reducible assumption) | (with_reducible refine Tab.alloc ?_ _) | (with_reducible refine Tab.drew ?_) | (with_reducible refine Tab.drewN ?_ _) | (with_reducible refine Tab.setCell ?_ ?_ ?_ _) | omega | (simp; done) | (simp; omega)))).mono ?_); rintro e w1 ⟨rfl, hk1⟩; obtain ⟨hc1, hf1⟩ := bcell hk1.2; have ht1 := hk1.1; have hz1 := hk1.2.size; (try simp only [World.size_alloc] at hz1); (try simp only [sz_drew] at hz1); (try simp only [sz_drewN] at hz1); (try simp only [World.size_alloc] at hz1); (try simp only [sz_drew] at hc1 hf1); (try simp only [sz_drewN] at hc1 hf1); (try have hw1 : w.heap.size < w1.heap.size := by omega); (try have hv1 : w.heap.size + 1 < w1.heap.size := by omega); (try have hu1 : w.heap.size + 2 < w1.heap.size := by omega)))
  have hI := (Inv.three ht 25 [.int .i64 a, .int .i64 e] 25 [.int .i64 b, .int .i64 f] 25 [.int .i64 0, .int .i64 0]).call hk1
  have hF := ((hI.own 2 _ rfl).put 0 (.int .i64 0)).put 1 (.int .i64 0)
  refine bodyPost_ret (ret_own_tmp rfl hF rfl Tryd.underlying25 rfl (by kernel_rfl)) rfl ?_
  exact ⟨rfl, (by repeat' (first | (with_reducible assumption) | (with_reducible exact Kept.refl ht) | (with_reducible refine Kept.alloc ?_ _) | (with_reducible refine Kept.drew ?_) | (with_reducible refine Kept.drewN ?_ _) | (with_reducible refine Kept.setCell ?_ ?_ _ ?_ ?_) | (with_reducible refine Kept.trans ?_ (by assumption)) | omega | (simp; done) | (simp; omega)))⟩
set_option maxRecDepth 100000 in
set_option maxHeartbeats 4000000 in
theorem rdiv_bad (s how a e b f c : Int) (w : World) (ht : Tab w) (la : -9223372036854775808 ≤ a) (ha : a ≤ 9223372036854775807) (lb : -9223372036854775808 ≤ b) (hb : b ≤ 9223372036854775807) (hc : ckR s how [(a, e), (b, f)] = c) (h0 : (c != 0) = true) :
    Calls Tryd.prog 14 #[.int .i64 s, .int .i64 how, .agg #[.int .i64 a, .int .i64 e], .agg #[.int .i64 b, .int .i64 f]] w fun x w' => x = .returned (.tuple #[.agg #[.int .i64 0, .int .i64 0], .int .i64 c]) ∧ Kept w w' := by
  have hlt := ht.lt
  have hlt0 := ht.lt0
  have hck := fun w ht => refright s how a e b f w ht la ha lb hb
  rw [hc] at hck
  have HC := Lib.hid hck
  clear hck hc
  go_enter Tryd.func14, Tryd.ntmps14
  go_wp2_with (first | (go_at_call 37; (with_reducible refine (HC.out _ (by repeat' (first | (with_reducible assumption) | (with_reducible refine Tab.alloc ?_ _) | (with_reducible refine Tab.drew ?_) | (with_reducible refine Tab.drewN ?_ _) | (with_reducible refine Tab.setCell ?_ ?_ ?_ _) | omega | (simp; done) | (simp; omega)))).mono ?_); rintro e w1 ⟨rfl, hk1⟩; obtain ⟨hc1, hf1⟩ := bcell hk1.2; have ht1 := hk1.1; have hz1 := hk1.2.size; (try simp only [World.size_alloc] at hz1); (try simp only [sz_drew] at hz1); (try simp only [sz_drewN] at hz1); (try simp only [World.size_alloc] at hz1); (try simp only [sz_drew] at hc1 hf1); (try simp only [sz_drewN] at hc1 hf1); (try have hw1 : w.heap.size < w1.heap.size := by omega); (try have hv1 : w.heap.size + 1 < w1.heap.size := by omega); (try have hu1 : w.heap.size + 2 < w1.heap.size := by omega)))
  have hI := (Inv.three ht 25 [.int .i64 a, .int .i64 e] 25 [.int .i64 b, .int .i64 f] 25 [.int .i64 0, .int .i64 0]).call hk1
  have hF := ((hI.own 2 _ rfl).put 0 (.int .i64 0)).put 1 (.int .i64 0)
  refine bodyPost_ret (ret_own_tmp rfl hF rfl Tryd.underlying25 rfl (by kernel_rfl)) rfl ?_
  exact ⟨rfl, (by repeat' (first | (with_reducible assumption) | (with_reducible exact Kept.refl ht) | (with_reducible refine Kept.alloc ?_ _) | (with_reducible refine Kept.drew ?_) | (with_reducible refine Kept.drewN ?_ _) | (with_reducible refine Kept.setCell ?_ ?_ _ ?_ ?_) | (with_reducible refine Kept.trans ?_ (by assumption)) | omega | (simp; done) | (simp; omega)))⟩
set_option maxRecDepth 100000 in
set_option maxHeartbeats 4000000 in
theorem rneg_bad (s a e c : Int) (w : World) (ht : Tab w) (la : -9223372036854775808 ≤ a) (ha : a ≤ 9223372036854775807) (hc : ckR s 0 [(a, e)] = c) (h0 : (c != 0) = true) :
    Calls Tryd.prog 18 #[.int .i64 s, .agg #[.int .i64 a, .int .i64 e]] w fun x w' => x = .returned (.tuple #[.agg #[.int .i64 0, .int .i64 0], .int .i64 c]) ∧ Kept w w' := by
  have hlt := ht.lt
  have hlt0 := ht.lt0
  have hck := fun w ht => right_one s 0 a e w ht la ha
  rw [hc] at hck
  have HC := Lib.hid hck
  clear hck hc
  go_enter Tryd.func18, Tryd.ntmps18
  go_wp2_with (first | (go_at_call 37; (with_reducible refine (HC.out _ (by repeat' (first | (with_reducible assumption) | (with_reducible refine Tab.alloc ?_ _) | (with_reducible refine Tab.drew ?_) | (with_reducible refine Tab.drewN ?_ _) | (with_reducible refine Tab.setCell ?_ ?_ ?_ _) | omega | (simp; done) | (simp; omega)))).mono ?_); rintro e w1 ⟨rfl, hk1⟩; obtain ⟨hc1, hf1⟩ := bcell hk1.2; have ht1 := hk1.1; have hz1 := hk1.2.size; (try simp only [World.size_alloc] at hz1); (try simp only [sz_drew] at hz1); (try simp only [sz_drewN] at hz1); (try simp only [World.size_alloc] at hz1); (try simp only [sz_drew] at hc1 hf1); (try simp only [sz_drewN] at hc1 hf1); (try have hw1 : w.heap.size < w1.heap.size := by omega); (try have hv1 : w.heap.size + 1 < w1.heap.size := by omega); (try have hu1 : w.heap.size + 2 < w1.heap.size := by omega)))
  have hI := (Inv.two ht 25 [.int .i64 a, .int .i64 e] 25 [.int .i64 0, .int .i64 0]).call hk1
  have hF := ((hI.own 1 _ rfl).put 0 (.int .i64 0)).put 1 (.int .i64 0)
  refine bodyPost_ret (ret_own_tmp rfl hF rfl Tryd.underlying25 rfl (by kernel_rfl)) rfl ?_
  exact ⟨rfl, (by repeat' (first | (with_reducible assumption) | (with_reducible exact Kept.refl ht) | (with_reducible refine Kept.alloc ?_ _) | (with_reducible refine Kept.drew ?_) | (with_reducible refine Kept.drewN ?_ _) | (with_reducible refine Kept.setCell ?_ ?_ _ ?_ ?_) | (with_reducible refine Kept.trans ?_ (by assumption)) | omega | (simp; done) | (simp; omega)))⟩
set_option maxRecDepth 100000 in
set_option maxHeartbeats 4000000 in
theorem rabs_bad (s a e c : Int) (w : World) (ht : Tab w) (la : -9223372036854775808 ≤ a) (ha : a ≤ 9223372036854775807) (hc : ckR s 0 [(a, e)] = c) (h0 : (c != 0) = true) :
    Calls Tryd.prog 20 #[.int .i64 s, .agg #[.int .i64 a, .int .i64 e]] w fun x w' => x = .returned (.tuple #[.agg #[.int .i64 0, .int .i64 0], .int .i64 c]) ∧ Kept w w' := by
  have hlt := ht.lt
  have hlt0 := ht.lt0
  have hck := fun w ht => right_one s 0 a e w ht la ha
  rw [hc] at hck
  have HC := Lib.hid hck
  clear hck hc
  go_enter Tryd.func20, Tryd.ntmps20
  go_wp2_with (first | (go_at_call 37; (with_reducible refine (HC.out _ (by repeat' (first | (with_reducible assumption) | (with_reducible refine Tab.alloc ?_ _) | (with_reducible refine Tab.drew ?_) | (with_reducible refine Tab.drewN ?_ _) | (with_reducible refine Tab.setCell ?_ ?_ ?_ _) | omega | (simp; done) | (simp; omega)))).mono ?_); rintro e w1 ⟨rfl, hk1⟩; obtain ⟨hc1, hf1⟩ := bcell hk1.2; have ht1 := hk1.1; have hz1 := hk1.2.size; (try simp only [World.size_alloc] at hz1); (try simp only [sz_drew] at hz1); (try simp only [sz_drewN] at hz1); (try simp only [World.size_alloc] at hz1); (try simp only [sz_drew] at hc1 hf1); (try simp only [sz_drewN] at hc1 hf1); (try have hw1 : w.heap.size < w1.heap.size := by omega); (try have hv1 : w.heap.size + 1 < w1.heap.size := by omega); (try have hu1 : w.heap.size + 2 < w1.heap.size := by omega)))
  have hI := (Inv.two ht 25 [.int .i64 a, .int .i64 e] 25 [.int .i64 0, .int .i64 0]).call hk1
  have hF := ((hI.own 1 _ rfl).put 0 (.int .i64 0)).put 1 (.int .i64 0)
  refine bodyPost_ret (ret_own_tmp rfl hF rfl Tryd.underlying25 rfl (by kernel_rfl)) rfl ?_
  exact ⟨rfl, (by repeat' (first | (with_reducible assumption) | (with_reducible exact Kept.refl ht) | (with_reducible refine Kept.alloc ?_ _) | (with_reducible refine Kept.drew ?_) | (with_reducible refine Kept.drewN ?_ _) | (with_reducible refine Kept.setCell ?_ ?_ _ ?_ ?_) | (with_reducible refine Kept.trans ?_ (by assumption)) | omega | (simp; done) | (simp; omega)))⟩
set_option maxRecDepth 100000 in
set_option maxHeartbeats 4000000 in
theorem rleng_bad (s a e c : Int) (w : World) (ht : Tab w) (hs1 : (s == 1) = false) (la : -9223372036854775808 ≤ a) (ha : a ≤ 9223372036854775807) (hc : ckR s 0 [(a, e)] = c) (h0 : (c != 0) = true) :
    Calls Tryd.prog 28 #[.int .i64 s, .agg #[.int .i64 a, .int .i64 e]] w fun x w' => x = .returned (.tuple #[.agg #[.int .i64 0, .int .i64 0], .int .i64 c]) ∧ Kept w w' := by
  have hlt := ht.lt
  have hlt0 := ht.lt0
  have hck := fun w ht => right_one s 0 a e w ht la ha
  rw [hc] at hck
  have HC := Lib.hid hck
  clear hck hc
  go_enter Tryd.func28, Tryd.ntmps28
  go_wp2_with (first | (go_at_call 37; (with_reducible refine (HC.out _ (by repeat' (first | (with_reducible assumption) | (with_reducible refine Tab.alloc ?_ _) | (with_reducible refine Tab.drew ?_) | (with_reducible refine Tab.drewN ?_ _) | (with_reducible refine Tab.setCell ?_ ?_ ?_ _) | omega | (simp; done) | (simp; omega)))).mono ?_); rintro e w1 ⟨rfl, hk1⟩; obtain ⟨hc1, hf1⟩ := bcell hk1.2; have ht1 := hk1.1; have hz1 := hk1.2.size; (try simp only [World.size_alloc] at hz1); (try simp only [sz_drew] at hz1); (try simp only [sz_drewN] at hz1); (try simp only [World.size_alloc] at hz1); (try simp only [sz_drew] at hc1 hf1); (try simp only [sz_drewN] at hc1 hf1); (try have hw1 : w.heap.size < w1.heap.size := by omega); (try have hv1 : w.heap.size + 1 < w1.heap.size := by omega); (try have hu1 : w.heap.size + 2 < w1.heap.size := by omega)))
  have hI := (Inv.two ht 25 [.int .i64 a, .int .i64 e] 25 [.int .i64 0, .int .i64 0]).call hk1
  have hF := ((hI.own 1 _ rfl).put 0 (.int .i64 0)).put 1 (.int .i64 0)
  refine bodyPost_ret (ret_own_tmp rfl hF rfl Tryd.underlying25 rfl (by kernel_rfl)) rfl ?_
  exact ⟨rfl, (by repeat' (first | (with_reducible assumption) | (with_reducible exact Kept.refl ht) | (with_reducible refine Kept.alloc ?_ _) | (with_reducible refine Kept.drew ?_) | (with_reducible refine Kept.drewN ?_ _) | (with_reducible refine Kept.setCell ?_ ?_ _ ?_ ?_) | (with_reducible refine Kept.trans ?_ (by assumption)) | omega | (simp; done) | (simp; omega)))⟩
set_option maxRecDepth 100000 in
set_option maxHeartbeats 4000000 in
theorem rsqrt_bad (s how a e c : Int) (w : World) (ht : Tab w) (la : -9223372036854775808 ≤ a) (ha : a ≤ 9223372036854775807) (hc : ckR s how [(a, e)] = c) (h0 : (c != 0) = true) :
    Calls Tryd.prog 16 #[.int .i64 s, .int .i64 how, .agg #[.int .i64 a, .int .i64 e]] w fun x w' => x = .returned (.tuple #[.agg #[.int .i64 0, .int .i64 0], .int .i64 c]) ∧ Kept w w' := by
  have hlt := ht.lt
  have hlt0 := ht.lt0
  have hck := fun w ht => right_one s how a e w ht la ha
  rw [hc] at hck
  have HC := Lib.hid hck
  clear hck hc
  go_enter Tryd.func16, Tryd.ntmps16
  go_wp2_with (first | (go_at_call 37; (with_reducible refine (HC.out _ (by repeat' (first | (with_reducible assumption) | (with_reducible refine Tab.alloc ?_ _) | (with_reducible refine Tab.drew ?_) | (with_reducible refine Tab.drewN ?_ _) | (with_reducible refine Tab.setCell ?_ ?_ ?_ _) | omega | (simp; done) | (simp; omega)))).mono ?_); rintro e w1 ⟨rfl, hk1⟩; obtain ⟨hc1, hf1⟩ := bcell hk1.2; have ht1 := hk1.1; have hz1 := hk1.2.size; (try simp only [World.size_alloc] at hz1); (try simp only [sz_drew] at hz1); (try simp only [sz_drewN] at hz1); (try simp only [World.size_alloc] at hz1); (try simp only [sz_drew] at hc1 hf1); (try simp only [sz_drewN] at hc1 hf1); (try have hw1 : w.heap.size < w1.heap.size := by omega); (try have hv1 : w.heap.size + 1 < w1.heap.size := by omega); (try have hu1 : w.heap.size + 2 < w1.heap.size := by omega)))
  have hI := (Inv.two ht 25 [.int .i64 a, .int .i64 e] 25 [.int .i64 0, .int .i64 0]).call hk1
  have hF := ((hI.own 1 _ rfl).put 0 (.int .i64 0)).put 1 (.int .i64 0)
  refine bodyPost_ret (ret_own_tmp rfl hF rfl Tryd.underlying25 rfl (by kernel_rfl)) rfl ?_
  exact ⟨rfl, (by repeat' (first | (with_reducible assumption) | (with_reducible exact Kept.refl ht) | (with_reducible refine Kept.alloc ?_ _) | (with_reducible refine Kept.drew ?_) | (with_reducible refine Kept.drewN ?_ _) | (with_reducible refine Kept.setCell ?_ ?_ _ ?_ ?_) | (with_reducible refine Kept.trans ?_ (by assumption)) | omega | (simp; done) | (simp; omega)))⟩
set_option maxRecDepth 100000 in
set_option maxHeartbeats 4000000 in
theorem rshorten_bad (s how a e c : Int) (w : World) (ht : Tab w) (hs1 : (s == -1) = false) (la : -9223372036854775808 ≤ a) (ha : a ≤ 9223372036854775807) (hc : ckR s how [(a, e)] = c) (h0 : (c != 0) = true) :
    Calls Tryd.prog 30 #[.int .i64 s, .int .i64 how, .agg #[.int .i64 a, .int .i64 e]] w fun x w' => x = .returned (.tuple #[.agg #[.int .i64 0, .int .i64 0], .int .i64 c]) ∧ Kept w w' := by
  have hlt := ht.lt
  have hlt0 := ht.lt0
  have hck := fun w ht => right_one s how a e w ht la ha
  rw [hc] at hck
  have HC := Lib.hid hck
  clear hck hc
  go_enter Tryd.func30, Tryd.ntmps30
  go_wp2_with (first | (go_at_call 37; (with_reducible refine (HC.out _ (by repeat' (first | (with_reducible assumption) | (with_reducible refine Tab.alloc ?_ _) | (with_reducible refine Tab.drew ?_) | (with_reducible refine Tab.drewN ?_ _) | (with_reducible refine Tab.setCell ?_ ?_ ?_ _) | omega | (simp; done) | (simp; omega)))).mono ?_); rintro e w1 ⟨rfl, hk1⟩; obtain ⟨hc1, hf1⟩ := bcell hk1.2; have ht1 := hk1.1; have hz1 := hk1.2.size; (try simp only [World.size_alloc] at hz1); (try simp only [sz_drew] at hz1); (try simp only [sz_drewN] at hz1); (try simp only [World.size_alloc] at hz1); (try simp only [sz_drew] at hc1 hf1); (try simp only [sz_drewN] at hc1 hf1); (try have hw1 : w.heap.size < w1.heap.size := by omega); (try have hv1 : w.heap.size + 1 < w1.heap.size := by omega); (try have hu1 : w.heap.size + 2 < w1.heap.size := by omega)))
  have hI := (Inv.two ht 25 [.int .i64 a, .int .i64 e] 25 [.int .i64 0, .int .i64 0]).call hk1
  have hF := ((hI.own 1 _ rfl).put 0 (.int .i64 0)).put 1 (.int .i64 0)
  refine bodyPost_ret (ret_own_tmp rfl hF rfl Tryd.underlying25 rfl (by kernel_rfl)) rfl ?_
  exact ⟨rfl, (by repeat' (first | (with_reducible assumption) | (with_reducible exact Kept.refl ht) | (with_reducible refine Kept.alloc ?_ _) | (with_reducible refine Kept.drew ?_) | (with_reducible refine Kept.drewN ?_ _) | (with_reducible refine Kept.setCell ?_ ?_ _ ?_ ?_) | (with_reducible refine Kept.trans ?_ (by assumption)) | omega | (simp; done) | (simp; omega)))⟩
set_option maxRecDepth 100000 in
set_option maxHeartbeats 4000000 in
theorem rneg_good (s a e : Int) (w : World) (ht : Tab w) (hc : ckR s 0 [(a, e)] = 0) :
    Calls Tryd.prog 18 #[.int .i64 s, .agg #[.int .i64 a, .int .i64 e]] w fun x w' => x = .returned (.tuple #[.agg #[.int .i64 (-a), .int .i64 e], .int .i64 0]) ∧ Kept w w' := by
  have hlt := ht.lt
  have hlt0 := ht.lt0
  obtain ⟨_, v1⟩ := ck1_facts hc
  obtain ⟨_, _, _, _, a4, a5⟩ := vld_facts v1
  have hck := fun w ht => right_one s 0 a e w ht (by omega) (by omega)
  rw [hc] at hck
  have HC := Lib.hid hck
  clear hck hc v1
  go_enter Tryd.func18, Tryd.ntmps18
  go_upto_region 4 with (first | (go_at_call 37; (with_reducible refine (HC.out _ (by repeat' (first | (with_reducible assumption) | (with_reducible refine Tab.alloc ?_ _) | (with_reducible refine Tab.drew ?_) | (with_reducible refine Tab.drewN ?_ _) | (with_reducible refine Tab.setCell ?_ ?_ ?_ _) | omega | (simp; done) | (simp; omega)))).mono ?_); rintro e w1 ⟨rfl, hk1⟩; obtain ⟨hc1, hf1⟩ := bcell hk1.2; have ht1 := hk1.1; have hz1 := hk1.2.size; (try simp only [World.size_alloc] at hz1); (try simp only [sz_drew] at hz1); (try simp only [sz_drewN] at hz1); (try simp only [World.size_alloc] at hz1); (try simp only [sz_drew] at hc1 hf1); (try simp only [sz_drewN] at hc1 hf1); (try have hw1 : w.heap.size < w1.heap.size := by omega); (try have hv1 : w.heap.size + 1 < w1.heap.size := by omega); (try have hu1 : w.heap.size + 2 < w1.heap.size := by omega)))
  have hI := (Inv.two ht 25 [.int .i64 a, .int .i64 e] 25 [.int .i64 0, .int .i64 0]).call hk1
  clear hc1 hf1
  have HZ : Hid (Own w1 (w.heap.size + 1) 25 [.int .i64 0, .int .i64 0]) := Lib.hid (hI.own 1 _ rfl)
  (have x0 : w1.cell? ⟨w.heap.size, 0, none⟩ = some (.int .i64 a) := (hI.own 0 _ rfl).cell 0; have x1 : w1.cell? ⟨w.heap.size, 1, none⟩ = some (.int .i64 e) := (hI.own 0 _ rfl).cell 1; have xf := fun i => (hI.own 0 _ rfl).frozen i; have xl : w.heap.size < w1.heap.size := (hI.own 0 _ rfl).lt)
  (have z0 : w1.cell? ⟨w.heap.size + 1, 0, none⟩ = some (.int .i64 0) := (hI.own 1 _ rfl).cell 0; have z1 : w1.cell? ⟨w.heap.size + 1, 1, none⟩ = some (.int .i64 0) := (hI.own 1 _ rfl).cell 1; have zf := fun i => (hI.own 1 _ rfl).frozen i; have zl : w.heap.size + 1 < w1.heap.size := (hI.own 1 _ rfl).lt)
  clear hI
  go_wp2_with fail
  have hF := (HZ.out.put 0 (.int .i64 (-a))).put 1 (.int .i64 e)
  refine bodyPost_ret (ret_own_tmp rfl hF rfl Tryd.underlying25 rfl (by kernel_rfl)) rfl ?_
  exact ⟨rfl, (by repeat' (first | (with_reducible assumption) | (with_reducible exact Kept.refl ht) | (with_reducible refine Kept.alloc ?_ _) | (with_reducible refine Kept.drew ?_) | (with_reducible refine Kept.drewN ?_ _) | (with_reducible refine Kept.setCell ?_ ?_ _ ?_ ?_) | (with_reducible refine Kept.trans ?_ (by assumption)) | omega | (simp; done) | (simp; omega)))⟩
set_option maxRecDepth 100000 in
set_option maxHeartbeats 4000000 in
theorem rabs_neg (s a e : Int) (w : World) (ht : Tab w) (hn : a < 0) (hc : ckR s 0 [(a, e)] = 0) :
    Calls Tryd.prog 20 #[.int .i64 s, .agg #[.int .i64 a, .int .i64 e]] w fun x w' => x = .returned (.tuple #[.agg #[.int .i64 (-a), .int .i64 e], .int .i64 0]) ∧ Kept w w' := by
  have hlt := ht.lt
  have hlt0 := ht.lt0
  obtain ⟨_, v1⟩ := ck1_facts hc
  obtain ⟨_, _, _, _, a4, a5⟩ := vld_facts v1
  have hck := fun w ht => right_one s 0 a e w ht (by omega) (by omega)
  rw [hc] at hck
  have HC := Lib.hid hck
  clear hck hc v1
  go_enter Tryd.func20, Tryd.ntmps20
  go_upto_region 4 with (first | (go_at_call 37; (with_reducible refine (HC.out _ (by repeat' (first | (with_reducible assumption) | (with_reducible refine Tab.alloc ?_ _) | (with_reducible refine Tab.drew ?_) | (with_reducible refine Tab.drewN ?_ _) | (with_reducible refine Tab.setCell ?_ ?_ ?_ _) | omega | (simp; done) | (simp; omega)))).mono ?_); rintro e w1 ⟨rfl, hk1⟩; obtain ⟨hc1, hf1⟩ := bcell hk1.2; have ht1 := hk1.1; have hz1 := hk1.2.size; (try simp only [World.size_alloc] at hz1); (try simp only [sz_drew] at hz1); (try simp only [sz_drewN] at hz1); (try simp only [World.size_alloc] at hz1); (try simp only [sz_drew] at hc1 hf1); (try simp only [sz_drewN] at hc1 hf1); (try have hw1 : w.heap.size < w1.heap.size := by omega); (try have hv1 : w.heap.size + 1 < w1.heap.size := by omega); (try have hu1 : w.heap.size + 2 < w1.heap.size := by omega)))
  have hI := (Inv.two ht 25 [.int .i64 a, .int .i64 e] 25 [.int .i64 0, .int .i64 0]).call hk1
  clear hc1 hf1
  have HZ : Hid (Own w1 (w.heap.size + 1) 25 [.int .i64 0, .int .i64 0]) := Lib.hid (hI.own 1 _ rfl)
  (have x0 : w1.cell? ⟨w.heap.size, 0, none⟩ = some (.int .i64 a) := (hI.own 0 _ rfl).cell 0; have x1 : w1.cell? ⟨w.heap.size, 1, none⟩ = some (.int .i64 e) := (hI.own 0 _ rfl).cell 1; have xf := fun i => (hI.own 0 _ rfl).frozen i; have xl : w.heap.size < w1.heap.size := (hI.own 0 _ rfl).lt)
  (have z0 : w1.cell? ⟨w.heap.size + 1, 0, none⟩ = some (.int .i64 0) := (hI.own 1 _ rfl).cell 0; have z1 : w1.cell? ⟨w.heap.size + 1, 1, none⟩ = some (.int .i64 0) := (hI.own 1 _ rfl).cell 1; have zf := fun i => (hI.own 1 _ rfl).frozen i; have zl : w.heap.size + 1 < w1.heap.size := (hI.own 1 _ rfl).lt)
  clear hI
  go_wp2_with fail
  have hF := ((HZ.out.far (p := ⟨w.heap.size, 0, none⟩) (by simp) (.int .i64 (-a))).put 0 (.int .i64 (-a))).put 1 (.int .i64 e)
  refine bodyPost_ret (ret_own_tmp rfl hF rfl Tryd.underlying25 rfl (by kernel_rfl)) rfl ?_
  exact ⟨rfl, (by repeat' (first | (with_reducible assumption) | (with_reducible exact Kept.refl ht) | (with_reducible refine Kept.alloc ?_ _) | (with_reducible refine Kept.drew ?_) | (with_reducible refine Kept.drewN ?_ _) | (with_reducible refine Kept.setCell ?_ ?_ _ ?_ ?_) | (with_reducible refine Kept.trans ?_ (by assumption)) | omega | (simp; done) | (simp; omega)))⟩
set_option maxRecDepth 100000 in
set_option maxHeartbeats 4000000 in
theorem rabs_pos (s a e : Int) (w : World) (ht : Tab w) (hn : ¬ a < 0) (hc : ckR s 0 [(a, e)] = 0) :
    Calls Tryd.prog 20 #[.int .i64 s, .agg #[.int .i64 a, .int .i64 e]] w fun x w' => x = .returned (.tuple #[.agg #[.int .i64 a, .int .i64 e], .int .i64 0]) ∧ Kept w w' := by
  have hlt := ht.lt
  have hlt0 := ht.lt0
  obtain ⟨_, v1⟩ := ck1_facts hc
  obtain ⟨_, _, _, _, a4, a5⟩ := vld_facts v1
  have hck := fun w ht => right_one s 0 a e w ht (by omega) (by omega)
  rw [hc] at hck
  have HC := Lib.hid hck
  clear hck hc v1
  go_enter Tryd.func20, Tryd.ntmps20
  go_upto_region 4 with (first | (go_at_call 37; (with_reducible refine (HC.out _ (by repeat' (first | (with_reducible assumption) | (with_reducible refine Tab.alloc ?_ _) | (with_reducible refine Tab.drew ?_) | (with_reducible refine Tab.drewN ?_ _) | (with_reducible refine Tab.setCell ?_ ?_ ?_ _) | omega | (simp; done) | (simp; omega)))).mono ?_); rintro e w1 ⟨rfl, hk1⟩; obtain ⟨hc1, hf1⟩ := bcell hk1.2; have ht1 := hk1.1; have hz1 := hk1.2.size; (try simp only [World.size_alloc] at hz1); (try simp only [sz_drew] at hz1); (try simp only [sz_drewN] at hz1); (try simp only [World.size_alloc] at hz1); (try simp only [sz_drew] at hc1 hf1); (try simp only [sz_drewN] at hc1 hf1); (try have hw1 : w.heap.size < w1.heap.size := by omega); (try have hv1 : w.heap.size + 1 < w1.heap.size := by omega); (try have hu1 : w.heap.size + 2 < w1.heap.size := by omega)))
  have hI := (Inv.two ht 25 [.int .i64 a, .int .i64 e] 25 [.int .i64 0, .int .i64 0]).call hk1
  clear hc1 hf1
  have HZ : Hid (Own w1 (w.heap.size + 1) 25 [.int .i64 0, .int .i64 0]) := Lib.hid (hI.own 1 _ rfl)
  (have x0 : w1.cell? ⟨w.heap.size, 0, none⟩ = some (.int .i64 a) := (hI.own 0 _ rfl).cell 0; have x1 : w1.cell? ⟨w.heap.size, 1, none⟩ = some (.int .i64 e) := (hI.own 0 _ rfl).cell 1; have xf := fun i => (hI.own 0 _ rfl).frozen i; have xl : w.heap.size < w1.heap.size := (hI.own 0 _ rfl).lt)
  (have z0 : w1.cell? ⟨w.heap.size + 1, 0, none⟩ = some (.int .i64 0) := (hI.own 1 _ rfl).cell 0; have z1 : w1.cell? ⟨w.heap.size + 1, 1, none⟩ = some (.int .i64 0) := (hI.own 1 _ rfl).cell 1; have zf := fun i => (hI.own 1 _ rfl).frozen i; have zl : w.heap.size + 1 < w1.heap.size := (hI.own 1 _ rfl).lt)
  clear hI
  go_wp2_with fail
  have hF := (HZ.out.put 0 (.int .i64 a)).put 1 (.int .i64 e)
  refine bodyPost_ret (ret_own_tmp rfl hF rfl Tryd.underlying25 rfl (by kernel_rfl)) rfl ?_
  exact ⟨rfl, (by repeat' (first | (with_reducible assumption) | (with_reducible exact Kept.refl ht) | (with_reducible refine Kept.alloc ?_ _) | (with_reducible refine Kept.drew ?_) | (with_reducible refine Kept.drewN ?_ _) | (with_reducible refine Kept.setCell ?_ ?_ _ ?_ ?_) | (with_reducible refine Kept.trans ?_ (by assumption)) | omega | (simp; done) | (simp; omega)))⟩
set_option maxRecDepth 100000 in
set_option maxHeartbeats 4000000 in
theorem rleng_good (s a e : Int) (w : World) (ht : Tab w) (hs1 : (s == 1) = false) (hc : ckR s 0 [(a, e)] = 0) :
    Calls Tryd.prog 28 #[.int .i64 s, .agg #[.int .i64 a, .int .i64 e]] w fun x w' => x = .returned (.tuple #[.agg #[.int .i64 a, .int .i64 e], .int .i64 0]) ∧ Kept w w' := by
  have hlt := ht.lt
  have hlt0 := ht.lt0
  obtain ⟨_, v1⟩ := ck1_facts hc
  obtain ⟨_, _, _, _, a4, a5⟩ := vld_facts v1
  have hck := fun w ht => right_one s 0 a e w ht (by omega) (by omega)
  rw [hc] at hck
  have HC := Lib.hid hck
  clear hck hc v1
  go_enter Tryd.func28, Tryd.ntmps28
  go_upto_region 6 with (first | (go_at_call 37; (with_reducible refine (HC.out _ (by repeat' (first | (with_reducible assumption) | (with_reducible refine Tab.alloc ?_ _) | (with_reducible refine Tab.drew ?_) | (with_reducible refine Tab.drewN ?_ _) | (with_reducible refine Tab.setCell ?_ ?_ ?_ _) | omega | (simp; done) | (simp; omega)))).mono ?_); rintro e w1 ⟨rfl, hk1⟩; obtain ⟨hc1, hf1⟩ := bcell hk1.2; have ht1 := hk1.1; have hz1 := hk1.2.size; (try simp only [World.size_alloc] at hz1); (try simp only [sz_drew] at hz1); (try simp only [sz_drewN] at hz1); (try simp only [World.size_alloc] at hz1); (try simp only [sz_drew] at hc1 hf1); (try simp only [sz_drewN] at hc1 hf1); (try have hw1 : w.heap.size < w1.heap.size := by omega); (try have hv1 : w.heap.size + 1 < w1.heap.size := by omega); (try have hu1 : w.heap.size + 2 < w1.heap.size := by omega)))
  have hI := (Inv.two ht 25 [.int .i64 a, .int .i64 e] 25 [.int .i64 0, .int .i64 0]).call hk1
  clear hc1 hf1
  have HZ : Hid (Own w1 (w.heap.size + 1) 25 [.int .i64 0, .int .i64 0]) := Lib.hid (hI.own 1 _ rfl)
  (have x0 : w1.cell? ⟨w.heap.size, 0, none⟩ = some (.int .i64 a) := (hI.own 0 _ rfl).cell 0; have x1 : w1.cell? ⟨w.heap.size, 1, none⟩ = some (.int .i64 e) := (hI.own 0 _ rfl).cell 1; have xf := fun i => (hI.own 0 _ rfl).frozen i; have xl : w.heap.size < w1.heap.size := (hI.own 0 _ rfl).lt)
  (have z0 : w1.cell? ⟨w.heap.size + 1, 0, none⟩ = some (.int .i64 0) := (hI.own 1 _ rfl).cell 0; have z1 : w1.cell? ⟨w.heap.size + 1, 1, none⟩ = some (.int .i64 0) := (hI.own 1 _ rfl).cell 1; have zf := fun i => (hI.own 1 _ rfl).frozen i; have zl : w.heap.size + 1 < w1.heap.size := (hI.own 1 _ rfl).lt)
  clear hI
  go_wp2_with fail
  have hF := (HZ.out.put 0 (.int .i64 a)).put 1 (.int .i64 e)
  refine bodyPost_ret (ret_own_tmp rfl hF rfl Tryd.underlying25 rfl (by kernel_rfl)) rfl ?_
  exact ⟨rfl, (by repeat' (first | (with_reducible assumption) | (with_reducible exact Kept.refl ht) | (with_reducible refine Kept.alloc ?_ _) | (with_reducible refine Kept.drew ?_) | (with_reducible refine Kept.drewN ?_ _) | (with_reducible refine Kept.setCell ?_ ?_ _ ?_ ?_) | (with_reducible refine Kept.trans ?_ (by assumption)) | omega | (simp; done) | (simp; omega)))⟩
set_option maxRecDepth 100000 in
set_option maxHeartbeats 4000000 in
theorem rleng_size (a e : Int) (w : World) (ht : Tab w) :
    Calls Tryd.prog 28 #[.int .i64 1, .agg #[.int .i64 a, .int .i64 e]] w fun x w' => x = .returned (.tuple #[.agg #[.int .i64 0, .int .i64 0], .int .i64 1]) ∧ Kept w w' := by
  have hlt := ht.lt
  have hlt0 := ht.lt0
  go_enter Tryd.func28, Tryd.ntmps28
  go_wp2_with fail
  have hI := Inv.two ht 25 [.int .i64 a, .int .i64 e] 25 [.int .i64 0, .int .i64 0]
  have hF := hI.own 1 _ rfl
  refine bodyPost_ret (ret_own_tmp rfl hF rfl Tryd.underlying25 rfl (by kernel_rfl)) rfl ?_
  exact ⟨rfl, (by repeat' (first | (with_reducible assumption) | (with_reducible exact Kept.refl ht) | (with_reducible refine Kept.alloc ?_ _) | (with_reducible refine Kept.drew ?_) | (with_reducible refine Kept.drewN ?_ _) | (with_reducible refine Kept.setCell ?_ ?_ _ ?_ ?_) | (with_reducible refine Kept.trans ?_ (by assumption)) | omega | (simp; done) | (simp; omega)))⟩
set_option maxRecDepth 100000 in
set_option maxHeartbeats 4000000 in
theorem rshorten_size (how a e : Int) (w : World) (ht : Tab w) :
    Calls Tryd.prog 30 #[.int .i64 (-1), .int .i64 how, .agg #[.int .i64 a, .int .i64 e]] w fun x w' => x = .returned (.tuple #[.agg #[.int .i64 0, .int .i64 0], .int .i64 1]) ∧ Kept w w' := by
  have hlt := ht.lt
  have hlt0 := ht.lt0
  go_enter Tryd.func30, Tryd.ntmps30
  go_wp2_with fail
  have hI := Inv.two ht 25 [.int .i64 a, .int .i64 e] 25 [.int .i64 0, .int .i64 0]
  have hF := hI.own 1 _ rfl
  refine bodyPost_ret (ret_own_tmp rfl hF rfl Tryd.underlying25 rfl (by kernel_rfl)) rfl ?_
  exact ⟨rfl, (by repeat' (first | (with_reducible assumption) | (with_reducible exact Kept.refl ht) | (with_reducible refine Kept.alloc ?_ _) | (with_reducible refine Kept.drew ?_) | (with_reducible refine Kept.drewN ?_ _) | (with_reducible refine Kept.setCell ?_ ?_ _ ?_ ?_) | (with_reducible refine Kept.trans ?_ (by assumption)) | omega | (simp; done) | (simp; omega)))⟩
set_option maxRecDepth 100000 in
set_option maxHeartbeats 4000000 in
theorem rshorten_good (s how a e M E X : Int) (w : World) (ht : Tab w) (hs1 : (s == -1) = false) (hc : ckR s how [(a, e)] = 0) (hM : tRes s how a e = ⟨M, E, X⟩) :
    Calls Tryd.prog 30 #[.int .i64 s, .int .i64 how, .agg #[.int .i64 a, .int .i64 e]] w fun x w' => x = .returned (.tuple #[.agg #[.int .i64 M, .int .i64 E], .int .i64 X]) ∧ Kept w w' := by
  have hlt := ht.lt
  have hlt0 := ht.lt0
  obtain ⟨hd, v1⟩ := ck1_facts hc
  obtain ⟨hs, m1, e1, e2, a4, a5⟩ := vld_facts v1
  have hck := fun w ht => right_one s how a e w ht (by omega) (by omega)
  rw [hc] at hck
  have HC := Lib.hid hck
  have hs2 : s - 1 = -1 ∨ s - 1 = 0 := by have : ¬ s = -1 := by simpa using hs1
                                          omega
  have hsz : isSz (s - 1) = true := decide_eq_true (by omega)
  have hsame : Same (pr (s - 1)) (decide (a < 0)) (sc (mag a) e) false (sv a e) := same_exact rfl
  have hr : rRes (pr (s - 1)) how (decide (a < 0)) (sc (mag a) e) false = ⟨M, E, X⟩ := by
    rw [hsame.eq how, ← hM]
    unfold tRes
    rw [if_neg (by simpa using hs1), okOr_zero _ hc]
  have hdm : dg (mag a) ≤ 10000 := by have := dg18 m1; omega
  have HR := Lib.hid (fun (v : Value) w ht h => by
    have := refRounded (s - 1) how (decide (a < 0)) false (mag a) e v w ht h hsz hd hdm (by omega) (by omega) (fun h => by cases h)
    exact gives_out2 hr this)
  have HE := Lib.hid (fun w ht => refExactly a e w ht (by omega) (by omega))
  have s1 : -1 ≤ s - 1 := by omega
  have s2 : s - 1 ≤ 0 := by omega
  clear hck hc v1 hr hsame hs hs2 hsz hM hd m1 hdm
  go_enter Tryd.func30, Tryd.ntmps30
  go_upto_region 6 with (first | (go_at_call 37; (with_reducible refine (HC.out _ (by repeat' (first | (with_reducible assumption) | (with_reducible refine Tab.alloc ?_ _) | (with_reducible refine Tab.drew ?_) | (with_reducible refine Tab.drewN ?_ _) | (with_reducible refine Tab.setCell ?_ ?_ ?_ _) | omega | (simp; done) | (simp; omega)))).mono ?_); rintro e w1 ⟨rfl, hk1⟩; obtain ⟨hc1, hf1⟩ := bcell hk1.2; have ht1 := hk1.1; have hz1 := hk1.2.size; (try simp only [World.size_alloc] at hz1); (try simp only [sz_drew] at hz1); (try simp only [sz_drewN] at hz1); (try simp only [World.size_alloc] at hz1); (try simp only [sz_drew] at hc1 hf1); (try simp only [sz_drewN] at hc1 hf1); (try have hw1 : w.heap.size < w1.heap.size := by omega); (try have hv1 : w.heap.size + 1 < w1.heap.size := by omega); (try have hu1 : w.heap.size + 2 < w1.heap.size := by omega)))
  have hI := (Inv.two ht 25 [.int .i64 a, .int .i64 e] 25 [.int .i64 0, .int .i64 0]).call hk1
  clear hc1 hf1
  have HZ : Hid (Own w1 (w.heap.size + 1) 25 [.int .i64 0, .int .i64 0]) := Lib.hid (hI.own 1 _ rfl)
  (have x0 : w1.cell? ⟨w.heap.size, 0, none⟩ = some (.int .i64 a) := (hI.own 0 _ rfl).cell 0; have x1 : w1.cell? ⟨w.heap.size, 1, none⟩ = some (.int .i64 e) := (hI.own 0 _ rfl).cell 1; have xf := fun i => (hI.own 0 _ rfl).frozen i; have xl : w.heap.size < w1.heap.size := (hI.own 0 _ rfl).lt)
  (have z0 : w1.cell? ⟨w.heap.size + 1, 0, none⟩ = some (.int .i64 0) := (hI.own 1 _ rfl).cell 0; have z1 : w1.cell? ⟨w.heap.size + 1, 1, none⟩ = some (.int .i64 0) := (hI.own 1 _ rfl).cell 1; have zf := fun i => (hI.own 1 _ rfl).frozen i; have zl : w.heap.size + 1 < w1.heap.size := (hI.own 1 _ rfl).lt)
  clear hI
  go_wp2_with (first | (go_at_call 40; (with_reducible refine (HE.out _ (by repeat' (first | (with_reducible assumption) | (with_reducible refine Tab.alloc ?_ _) | (with_reducible refine Tab.drew ?_) | (with_reducible refine Tab.drewN ?_ _) | (with_reducible refine Tab.setCell ?_ ?_ ?_ _) | omega | (simp; done) | (simp; omega)))).mono ?_); rintro e w2 ⟨v2, rfl, hs2, hk2, hn2⟩; obtain ⟨b2, o2, c2, rfl, hb2⟩ := hs2.form; have hm2 := hn2 _ _ _ _ rfl; obtain ⟨hc2, hf2⟩ := bcell hk2.2; have ht2 := hk2.1; have hz2 := hk2.2.size; (try simp only [World.size_alloc] at hz2); (try simp only [sz_drew] at hz2); (try simp only [sz_drewN] at hz2); (try simp only [World.size_alloc] at hz2); (try simp only [sz_drew] at hc2 hf2); (try simp only [sz_drewN] at hc2 hf2); (try have hw2 : w.heap.size < w2.heap.size := by omega); (try have hv2 : w.heap.size + 1 < w2.heap.size := by omega); (try have hu2 : w.heap.size + 2 < w2.heap.size := by omega)) | (go_at_call 38; (with_reducible refine Calls.mono (HR.out _ _ (by repeat' (first | (with_reducible assumption) | (with_reducible refine Tab.alloc ?_ _) | (with_reducible refine Tab.drew ?_) | (with_reducible refine Tab.drewN ?_ _) | (with_reducible refine Tab.setCell ?_ ?_ ?_ _) | omega | (simp; done) | (simp; omega))) ?_) ?_); (focus (repeat' (first | (with_reducible assumption) | (with_reducible refine Sl.alloc ?_ _) | (with_reducible refine Sl.drew ?_) | (with_reducible refine Sl.drewN ?_ _) | (with_reducible refine Sl.call ?_ (by assumption))))); rintro e' w3 ⟨rfl, hk3⟩; obtain ⟨hc3, hf3⟩ := bcell hk3.2; have ht3 := hk3.1; have hz3 := hk3.2.size; (try simp only [World.size_alloc] at hz3); (try simp only [sz_drew] at hz3); (try simp only [sz_drewN] at hz3); (try simp only [World.size_alloc] at hz3); (try simp only [sz_drew] at hc3 hf3); (try simp only [sz_drewN] at hc3 hf3); (try have hw3 : w.heap.size < w3.heap.size := by omega); (try have hv3 : w.heap.size + 1 < w3.heap.size := by omega); (try have hu3 : w.heap.size + 2 < w3.heap.size := by omega)))
  have hF := (((HZ.out.call hk2).call hk3).put 0 (.int .i64 M)).put 1 (.int .i64 E)
  refine bodyPost_ret (ret_own_tmp rfl hF rfl Tryd.underlying25 rfl (by kernel_rfl)) rfl ?_
  exact ⟨rfl, (by repeat' (first | (with_reducible assumption) | (with_reducible exact Kept.refl ht) | (with_reducible refine Kept.alloc ?_ _) | (with_reducible refine Kept.drew ?_) | (with_reducible refine Kept.drewN ?_ _) | (with_reducible refine Kept.setCell ?_ ?_ _ ?_ ?_) | (with_reducible refine Kept.trans ?_ (by assumption)) | omega | (simp; done) | (simp; omega)))⟩
theorem rneg_any (s a e : Int) (w : World) (ht : Tab w) (la : -9223372036854775808 ≤ a) (ha : a ≤ 9223372036854775807) : Calls Tryd.prog 18 #[.int .i64 s, .agg #[.int .i64 a, .int .i64 e]] w (Gives (gRes s a e) w) := by
  unfold gRes
  rcases ck_cases (c := ckR s 0 [(a, e)]) with hc | hc
  · rw [okOr_zero _ hc]; exact gives_mk _ _ _ (rneg_good s a e w ht hc)
  · rw [okOr_ne _ hc]; exact gives_mk _ _ _ (rneg_bad s a e _ w ht la ha rfl hc)
theorem rabs_any (s a e : Int) (w : World) (ht : Tab w) (la : -9223372036854775808 ≤ a) (ha : a ≤ 9223372036854775807) : Calls Tryd.prog 20 #[.int .i64 s, .agg #[.int .i64 a, .int .i64 e]] w (Gives (hRes s a e) w) := by
  unfold hRes absI
  rcases ck_cases (c := ckR s 0 [(a, e)]) with hc | hc
  · rw [okOr_zero _ hc]
    by_cases hn : a < 0
    · rw [if_pos hn]; exact gives_mk _ _ _ (rabs_neg s a e w ht hn hc)
    · rw [if_neg hn]; exact gives_mk _ _ _ (rabs_pos s a e w ht hn hc)
  · rw [okOr_ne _ hc]; exact gives_mk _ _ _ (rabs_bad s a e _ w ht la ha rfl hc)
theorem rleng_any (s a e : Int) (w : World) (ht : Tab w) (la : -9223372036854775808 ≤ a) (ha : a ≤ 9223372036854775807) : Calls Tryd.prog 28 #[.int .i64 s, .agg #[.int .i64 a, .int .i64 e]] w (Gives (lRes s a e) w) := by
  unfold lRes
  by_cases h1 : s = 1
  · rw [if_pos h1]; subst h1; exact gives_mk _ _ _ (rleng_size a e w ht)
  · rw [if_neg h1]
    have h2 : (s == 1) = false := by simpa using h1
    rcases ck_cases (c := ckR s 0 [(a, e)]) with hc | hc
    · rw [okOr_zero _ hc]; exact gives_mk _ _ _ (rleng_good s a e w ht h2 hc)
    · rw [okOr_ne _ hc]; exact gives_mk _ _ _ (rleng_bad s a e _ w ht h2 la ha rfl hc)
theorem rshorten_any (s how a e : Int) (w : World) (ht : Tab w) (la : -9223372036854775808 ≤ a) (ha : a ≤ 9223372036854775807) : Calls Tryd.prog 30 #[.int .i64 s, .int .i64 how, .agg #[.int .i64 a, .int .i64 e]] w (Gives (tRes s how a e) w) := by
  by_cases h1 : s = -1
  · unfold tRes; rw [if_pos h1]; subst h1; exact gives_mk _ _ _ (rshorten_size how a e w ht)
  · have h2 : (s == -1) = false := by simpa using h1
    rcases ck_cases (c := ckR s how [(a, e)]) with hc | hc
    · exact gives_mk _ _ _ (rshorten_good s how a e _ _ _ w ht h2 hc rfl)
    · unfold tRes; rw [if_neg h1, okOr_ne _ hc]; exact gives_mk _ _ _ (rshorten_bad s how a e _ w ht h2 la ha rfl hc)
end Go.Proofs.YtanfhlkfmmglhaaDoor
