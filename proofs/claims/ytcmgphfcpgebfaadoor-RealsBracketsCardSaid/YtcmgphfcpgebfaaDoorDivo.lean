/- The program's quotient of two reals. Condition: the tables hold what their initialisers lay. -/
import Derived.Test.YtcmgphfcpgebfaaDoorMul
import Derived.Test.YtcmgphfcpgebfaaDoorQuo
namespace Go.Proofs.YtcmgphfcpgebfaaDoor
open Go.ChangeShapes Go.WideShapes Go.ChangeAt Go.RowKit
attribute [local go_sem ↓] Go.wp_at_zero Go.wp_at_succ

set_option maxRecDepth 100000 in
set_option maxHeartbeats 4000000 in
theorem div_bad (s how a e b f c : Int) (w : World) (ht : Tab w) (la : -9223372036854775808 ≤ a) (ha : a ≤ 9223372036854775807) (lb : -9223372036854775808 ≤ b) (hb : b ≤ 9223372036854775807) (hc : ckR s how [(a, e), (b, f)] = c) (h0 : (c != 0) = true) :
    Calls Tryd.prog 25 #[.int .i64 s, .int .i64 how, .agg #[.int .i64 a, .int .i64 e], .agg #[.int .i64 b, .int .i64 f]] w fun x w' => x = .returned (.tuple #[.agg #[.int .i64 0, .int .i64 0], .int .i64 c]) ∧ Kept w w' := by
  have hlt := ht.lt
  have hlt0 := ht.lt0
  have hck := fun o1 o2 o3 => check_two s how a e b f w ht o1 o2 o3 la ha lb hb
  rw [hc] at hck
  have HC := Lib.hid hck
  clear hck hc
  go_enter Tryd.func25, Tryd.ntmps25
  go_wp2_with (first | (go_at_call 50; (with_reducible refine (HC.out _ _ _).mono ?_); rintro e w1 ⟨rfl, hk1⟩; obtain ⟨hc1, hf1⟩ := bcell hk1.2; have ht1 := hk1.1; have hz1 := hk1.2.size; (try simp only [World.size_alloc] at hz1); (try simp only [sz_drew] at hz1); (try simp only [sz_drewN] at hz1); (try simp only [World.size_alloc] at hz1); (try simp only [sz_drew] at hc1 hf1); (try simp only [sz_drewN] at hc1 hf1); (try have hw1 : w.heap.size < w1.heap.size := by omega); (try have hv1 : w.heap.size + 1 < w1.heap.size := by omega); (try have hu1 : w.heap.size + 2 < w1.heap.size := by omega)))
  have hI := ((Inv.three ht 29 [.int .i64 a, .int .i64 e] 29 [.int .i64 b, .int .i64 f] 29 [.int .i64 0, .int .i64 0]).alloc _).call hk1
  have hF := ((hI.own 2 _ rfl).put 0 (.int .i64 0)).put 1 (.int .i64 0)
  refine bodyPost_ret (ret_own_tmp rfl hF rfl Tryd.underlying29 rfl (by kernel_rfl)) rfl ?_
  exact ⟨rfl, (by repeat' (first | (with_reducible assumption) | (with_reducible exact Kept.refl ht) | (with_reducible refine Kept.alloc ?_ _) | (with_reducible refine Kept.drew ?_) | (with_reducible refine Kept.drewN ?_ _) | (with_reducible refine Kept.setCell ?_ ?_ _ ?_ ?_) | (with_reducible refine Kept.trans ?_ (by assumption)) | omega | (simp; done) | (simp; omega)))⟩

set_option maxRecDepth 100000 in
set_option maxHeartbeats 16000000 in
theorem div_good (s how a e b f : Int) (w : World) (ht : Tab w) (hc : ckR s how [(a, e), (b, f)] = 0) (hb0 : b ≠ 0) (M E X : Int) (neg : Bool) (Q : Nat) (T : Int) (mo : Bool)
    (hq : ∀ w, Tab w → Calls Tryd.prog 61 #[.agg #[.bool (decide (a < 0)), .int .u64 (hiW (mag a) : Int), .int .u64 (loW (mag a) : Int), .int .i64 e, .bool false], .agg #[.bool (decide (b < 0)), .int .u64 (hiW (mag b) : Int), .int .u64 (loW (mag b) : Int), .int .i64 f, .bool false]] w fun x w' => x = .returned (.agg #[.bool neg, .int .u64 (hiW Q : Int), .int .u64 (loW Q : Int), .int .i64 T, .bool mo]) ∧ Kept w w') (hQ : Q < 340282366920938463463374607431768211456) (hT1 : -1100 ≤ T) (hT2 : T ≤ 5000) (hmo : mo = true → pr s < dg Q)
    (hM : rM (pr s) how neg (sc Q T) mo = M) (hE : rE (pr s) how neg (sc Q T) mo = E) (hX : rX (pr s) how neg (sc Q T) mo = X) :
    Calls Tryd.prog 25 #[.int .i64 s, .int .i64 how, .agg #[.int .i64 a, .int .i64 e], .agg #[.int .i64 b, .int .i64 f]] w fun x w' => x = .returned (.tuple #[.agg #[.int .i64 M, .int .i64 E], .int .i64 X]) ∧ Kept w w' := by
  have hlt := ht.lt
  have hlt0 := ht.lt0
  obtain ⟨_, v1, v2⟩ := ck_facts hc
  obtain ⟨hs, a1, a2, a3, a4, a5⟩ := vld_facts v1
  obtain ⟨_, b1, b2, b3, b4, b5⟩ := vld_facts v2
  have hck := fun o1 o2 o3 => check_two s how a e b f w ht o1 o2 o3 (by omega) (by omega) (by omega) (by omega)
  rw [hc] at hck
  have HC := Lib.hid hck
  have H1 := Lib.hid (fun w ht => exactOf_any a e w ht (by omega) (by omega))
  have H2 := Lib.hid (fun w ht => exactOf_any b f w ht (by omega) (by omega))
  have H3 := Lib.hid hq
  have h4 := fun w ht => round_any neg Q T mo s how w ht hs hQ hT1 hT2 hmo
  rw [hM, hE, hX] at h4
  have hbb : (b == 0) = false := by rw [beq_eq_false_iff_ne]; exact hb0
  have H4 := Lib.hid h4
  clear hck hc v1 v2 a1 b1 h4 hM hE hX hs hq hQ hT1 hT2 hmo hb0
  go_enter Tryd.func25, Tryd.ntmps25
  go_upto_region 6 with (first | (go_at_call 50; (with_reducible refine (HC.out _ _ _).mono ?_); rintro e w1 ⟨rfl, hk1⟩; obtain ⟨hc1, hf1⟩ := bcell hk1.2; have ht1 := hk1.1; have hz1 := hk1.2.size; (try simp only [World.size_alloc] at hz1); (try simp only [sz_drew] at hz1); (try simp only [sz_drewN] at hz1); (try simp only [World.size_alloc] at hz1); (try simp only [sz_drew] at hc1 hf1); (try simp only [sz_drewN] at hc1 hf1); (try have hw1 : w.heap.size < w1.heap.size := by omega); (try have hv1 : w.heap.size + 1 < w1.heap.size := by omega); (try have hu1 : w.heap.size + 2 < w1.heap.size := by omega)))
  have hI := ((Inv.three ht 29 [.int .i64 a, .int .i64 e] 29 [.int .i64 b, .int .i64 f] 29 [.int .i64 0, .int .i64 0]).alloc _).call hk1
  clear hc1 hf1
  have HZ : Hid (Own w1 (w.heap.size + 1 + 1) 29 [.int .i64 0, .int .i64 0]) := Lib.hid (hI.own 2 _ rfl)
  have hJ : Inv w [(w.heap.size, 29, [.int .i64 a, .int .i64 e]), (w.heap.size + 1, 29, [.int .i64 b, .int .i64 f])] w1 := hI.init (bs := [_, _])
  (have z0 : w1.cell? ⟨w.heap.size + 1 + 1, 0, none⟩ = some (.int .i64 0) := (hI.own 2 _ rfl).cell 0; have z1 : w1.cell? ⟨w.heap.size + 1 + 1, 1, none⟩ = some (.int .i64 0) := (hI.own 2 _ rfl).cell 1; have zf := fun i => (hI.own 2 _ rfl).frozen i; have zl : w.heap.size + 1 + 1 < w1.heap.size := (hI.own 2 _ rfl).lt)
  clear hI
  go_region_held3 (fun w' => Inv w [(w.heap.size, 29, [.int .i64 a, .int .i64 e]), (w.heap.size + 1, 29, [.int .i64 b, .int .i64 f])] w' ∧ Tab w' ∧ w'.cell? ⟨w.heap.size, 0, none⟩ = some (.int .i64 a) ∧ w'.cell? ⟨w.heap.size, 1, none⟩ = some (.int .i64 e) ∧ w'.cell? ⟨w.heap.size + 1, 0, none⟩ = some (.int .i64 b) ∧ w'.cell? ⟨w.heap.size + 1, 1, none⟩ = some (.int .i64 f))
    ((refine reals_pack ?_; repeat' (first | (with_reducible assumption) | (with_reducible refine Inv.drew ?_) | (with_reducible refine Inv.alloc ?_ _) | (with_reducible refine Inv.call ?_ (by assumption)) | (with_reducible refine Inv.far ?_ ?_ ?_ ?_ ?_ _) | omega | (simp; done) | (simp; omega))))
    (first | (go_at_call 51; (with_reducible refine (H1.out _ (by repeat' (first | (with_reducible assumption) | (with_reducible refine Tab.alloc ?_ _) | (with_reducible refine Tab.drew ?_) | (with_reducible refine Tab.drewN ?_ _) | (with_reducible refine Tab.setCell ?_ ?_ ?_ _) | omega | (simp; done) | (simp; omega)))).mono ?_); rintro e w2 ⟨rfl, hk2⟩; obtain ⟨hc2, hf2⟩ := bcell hk2.2; have ht2 := hk2.1; have hz2 := hk2.2.size; (try simp only [World.size_alloc] at hz2); (try simp only [sz_drew] at hz2); (try simp only [sz_drewN] at hz2); (try simp only [World.size_alloc] at hz2); (try simp only [sz_drew] at hc2 hf2); (try simp only [sz_drewN] at hc2 hf2); (try have hw2 : w.heap.size < w2.heap.size := by omega); (try have hv2 : w.heap.size + 1 < w2.heap.size := by omega); (try have hu2 : w.heap.size + 2 < w2.heap.size := by omega)) | (go_at_call 51; (with_reducible refine (H2.out _ (by repeat' (first | (with_reducible assumption) | (with_reducible refine Tab.alloc ?_ _) | (with_reducible refine Tab.drew ?_) | (with_reducible refine Tab.drewN ?_ _) | (with_reducible refine Tab.setCell ?_ ?_ ?_ _) | omega | (simp; done) | (simp; omega)))).mono ?_); rintro e w3 ⟨rfl, hk3⟩; obtain ⟨hc3, hf3⟩ := bcell hk3.2; have ht3 := hk3.1; have hz3 := hk3.2.size; (try simp only [World.size_alloc] at hz3); (try simp only [sz_drew] at hz3); (try simp only [sz_drewN] at hz3); (try simp only [World.size_alloc] at hz3); (try simp only [sz_drew] at hc3 hf3); (try simp only [sz_drewN] at hc3 hf3); (try have hw3 : w.heap.size < w3.heap.size := by omega); (try have hv3 : w.heap.size + 1 < w3.heap.size := by omega); (try have hu3 : w.heap.size + 2 < w3.heap.size := by omega)) | (go_at_call 61; (with_reducible refine (H3.out _ (by repeat' (first | (with_reducible assumption) | (with_reducible refine Tab.alloc ?_ _) | (with_reducible refine Tab.drew ?_) | (with_reducible refine Tab.drewN ?_ _) | (with_reducible refine Tab.setCell ?_ ?_ ?_ _) | omega | (simp; done) | (simp; omega)))).mono ?_); rintro e w4 ⟨rfl, hk4⟩; obtain ⟨hc4, hf4⟩ := bcell hk4.2; have ht4 := hk4.1; have hz4 := hk4.2.size; (try simp only [World.size_alloc] at hz4); (try simp only [sz_drew] at hz4); (try simp only [sz_drewN] at hz4); (try simp only [World.size_alloc] at hz4); (try simp only [sz_drew] at hc4 hf4); (try simp only [sz_drewN] at hc4 hf4); (try have hw4 : w.heap.size < w4.heap.size := by omega); (try have hv4 : w.heap.size + 1 < w4.heap.size := by omega); (try have hu4 : w.heap.size + 2 < w4.heap.size := by omega)) | (go_at_call 52; (with_reducible refine (H4.out _ (by repeat' (first | (with_reducible assumption) | (with_reducible refine Tab.alloc ?_ _) | (with_reducible refine Tab.drew ?_) | (with_reducible refine Tab.drewN ?_ _) | (with_reducible refine Tab.setCell ?_ ?_ ?_ _) | omega | (simp; done) | (simp; omega)))).mono ?_); rintro e w5 ⟨rfl, hk5⟩; obtain ⟨hc5, hf5⟩ := bcell hk5.2; have ht5 := hk5.1; have hz5 := hk5.2.size; (try simp only [World.size_alloc] at hz5); (try simp only [sz_drew] at hz5); (try simp only [sz_drewN] at hz5); (try simp only [World.size_alloc] at hz5); (try simp only [sz_drew] at hc5 hf5); (try simp only [sz_drewN] at hc5 hf5); (try have hw5 : w.heap.size < w5.heap.size := by omega); (try have hv5 : w.heap.size + 1 < w5.heap.size := by omega); (try have hu5 : w.heap.size + 2 < w5.heap.size := by omega)))
  go_wp2_with fail
  have hF := (((((HZ.out.drew.call hk2).call hk3).call hk4).call hk5).put 0 (.int .i64 M)).put 1 (.int .i64 E)
  refine bodyPost_ret (ret_own_tmp rfl hF rfl Tryd.underlying29 rfl (by kernel_rfl)) rfl ?_
  exact ⟨rfl, (by repeat' (first | (with_reducible assumption) | (with_reducible exact Kept.refl ht) | (with_reducible refine Kept.alloc ?_ _) | (with_reducible refine Kept.drew ?_) | (with_reducible refine Kept.drewN ?_ _) | (with_reducible refine Kept.setCell ?_ ?_ _ ?_ ?_) | (with_reducible refine Kept.trans ?_ (by assumption)) | omega | (simp; done) | (simp; omega)))⟩
end Go.Proofs.YtcmgphfcpgebfaaDoor
