/- The program's sum and difference of two reals. Condition: the tables hold what their initialisers lay. -/
import Derived.Test.YtanfhlkfmmglhaaDoorGMul
import Derived.Test.YtanfhlkfmmglhaaDoorGSum
import Derived.Test.YtanfhlkfmmglhaaDoorGLaw
namespace Go.Proofs.YtanfhlkfmmglhaaDoor
open Go.ChangeShapes Go.WideShapes Go.ChangeAt Go.RowKit
attribute [local go_sem ↓] Go.wp_at_zero Go.wp_at_succ

set_option maxRecDepth 100000 in
set_option maxHeartbeats 4000000 in
theorem add_bad (s how a e b f c : Int) (w : World) (ht : Tab w) (la : -9223372036854775808 ≤ a) (ha : a ≤ 9223372036854775807) (lb : -9223372036854775808 ≤ b) (hb : b ≤ 9223372036854775807) (hc : ckR s how [(a, e), (b, f)] = c) (h0 : (c != 0) = true) :
    Calls Tryd.prog 7 #[.int .i64 s, .int .i64 how, .agg #[.int .i64 a, .int .i64 e], .agg #[.int .i64 b, .int .i64 f]] w fun x w' => x = .returned (.tuple #[.agg #[.int .i64 0, .int .i64 0], .int .i64 c]) ∧ Kept w w' := by
  have hlt := ht.lt
  have hlt0 := ht.lt0
  have hck := fun o1 o2 o3 => check_two s how a e b f w ht o1 o2 o3 la ha lb hb
  rw [hc] at hck
  have HC := Lib.hid hck
  clear hck hc
  go_enter Tryd.func7, Tryd.ntmps7
  go_wp2_with (first | (go_at_call 33; (with_reducible refine (HC.out _ _ _).mono ?_); rintro e w1 ⟨rfl, hk1⟩; obtain ⟨hc1, hf1⟩ := bcell hk1.2; have ht1 := hk1.1; have hz1 := hk1.2.size; (try simp only [World.size_alloc] at hz1); (try simp only [sz_drew] at hz1); (try simp only [sz_drewN] at hz1); (try simp only [World.size_alloc] at hz1); (try simp only [sz_drew] at hc1 hf1); (try simp only [sz_drewN] at hc1 hf1); (try have hw1 : w.heap.size < w1.heap.size := by omega); (try have hv1 : w.heap.size + 1 < w1.heap.size := by omega); (try have hu1 : w.heap.size + 2 < w1.heap.size := by omega)))
  have hI := ((Inv.three ht 25 [.int .i64 a, .int .i64 e] 25 [.int .i64 b, .int .i64 f] 25 [.int .i64 0, .int .i64 0]).alloc _).call hk1
  have hF := ((hI.own 2 _ rfl).put 0 (.int .i64 0)).put 1 (.int .i64 0)
  refine bodyPost_ret (ret_own_tmp rfl hF rfl Tryd.underlying25 rfl (by kernel_rfl)) rfl ?_
  exact ⟨rfl, (by repeat' (first | (with_reducible assumption) | (with_reducible exact Kept.refl ht) | (with_reducible refine Kept.alloc ?_ _) | (with_reducible refine Kept.drew ?_) | (with_reducible refine Kept.drewN ?_ _) | (with_reducible refine Kept.setCell ?_ ?_ _ ?_ ?_) | (with_reducible refine Kept.trans ?_ (by assumption)) | omega | (simp; done) | (simp; omega)))⟩

set_option maxRecDepth 100000 in
set_option maxHeartbeats 4000000 in
theorem sub_bad (s how a e b f c : Int) (w : World) (ht : Tab w) (la : -9223372036854775808 ≤ a) (ha : a ≤ 9223372036854775807) (lb : -9223372036854775808 ≤ b) (hb : b ≤ 9223372036854775807) (hc : ckR s how [(a, e), (b, f)] = c) (h0 : (c != 0) = true) :
    Calls Tryd.prog 9 #[.int .i64 s, .int .i64 how, .agg #[.int .i64 a, .int .i64 e], .agg #[.int .i64 b, .int .i64 f]] w fun x w' => x = .returned (.tuple #[.agg #[.int .i64 0, .int .i64 0], .int .i64 c]) ∧ Kept w w' := by
  have hlt := ht.lt
  have hlt0 := ht.lt0
  have hck := fun o1 o2 o3 => check_two s how a e b f w ht o1 o2 o3 la ha lb hb
  rw [hc] at hck
  have HC := Lib.hid hck
  clear hck hc
  go_enter Tryd.func9, Tryd.ntmps9
  go_wp2_with (first | (go_at_call 33; (with_reducible refine (HC.out _ _ _).mono ?_); rintro e w1 ⟨rfl, hk1⟩; obtain ⟨hc1, hf1⟩ := bcell hk1.2; have ht1 := hk1.1; have hz1 := hk1.2.size; (try simp only [World.size_alloc] at hz1); (try simp only [sz_drew] at hz1); (try simp only [sz_drewN] at hz1); (try simp only [World.size_alloc] at hz1); (try simp only [sz_drew] at hc1 hf1); (try simp only [sz_drewN] at hc1 hf1); (try have hw1 : w.heap.size < w1.heap.size := by omega); (try have hv1 : w.heap.size + 1 < w1.heap.size := by omega); (try have hu1 : w.heap.size + 2 < w1.heap.size := by omega)))
  have hI := ((Inv.three ht 25 [.int .i64 a, .int .i64 e] 25 [.int .i64 b, .int .i64 f] 25 [.int .i64 0, .int .i64 0]).alloc _).call hk1
  have hF := ((hI.own 2 _ rfl).put 0 (.int .i64 0)).put 1 (.int .i64 0)
  refine bodyPost_ret (ret_own_tmp rfl hF rfl Tryd.underlying25 rfl (by kernel_rfl)) rfl ?_
  exact ⟨rfl, (by repeat' (first | (with_reducible assumption) | (with_reducible exact Kept.refl ht) | (with_reducible refine Kept.alloc ?_ _) | (with_reducible refine Kept.drew ?_) | (with_reducible refine Kept.drewN ?_ _) | (with_reducible refine Kept.setCell ?_ ?_ _ ?_ ?_) | (with_reducible refine Kept.trans ?_ (by assumption)) | omega | (simp; done) | (simp; omega)))⟩

set_option maxRecDepth 100000 in
set_option maxHeartbeats 16000000 in
theorem add_good (s how a e b f : Int) (w : World) (ht : Tab w) (hc : ckR s how [(a, e), (b, f)] = 0) (M E X : Int) (neg : Bool) (Q : Nat) (T : Int) (mo : Bool)
    (hq : ∀ w, Tab w → Calls Tryd.prog 34 #[.agg #[.bool (decide (a < 0)), .int .u64 (hiW (mag a) : Int), .int .u64 (loW (mag a) : Int), .int .i64 e, .bool false], .agg #[.bool (decide (b < 0)), .int .u64 (hiW (mag b) : Int), .int .u64 (loW (mag b) : Int), .int .i64 f, .bool false]] w fun x w' => x = .returned (.agg #[.bool neg, .int .u64 (hiW Q : Int), .int .u64 (loW Q : Int), .int .i64 T, .bool mo]) ∧ Kept w w') (hQ : Q < 340282366920938463463374607431768211456) (hT1 : -1100 ≤ T) (hT2 : T ≤ 5000) (hmo : mo = true → pr s < dg Q)
    (hM : rM (pr s) how neg (sc Q T) mo = M) (hE : rE (pr s) how neg (sc Q T) mo = E) (hX : rX (pr s) how neg (sc Q T) mo = X) :
    Calls Tryd.prog 7 #[.int .i64 s, .int .i64 how, .agg #[.int .i64 a, .int .i64 e], .agg #[.int .i64 b, .int .i64 f]] w fun x w' => x = .returned (.tuple #[.agg #[.int .i64 M, .int .i64 E], .int .i64 X]) ∧ Kept w w' := by
  have hlt := ht.lt
  have hlt0 := ht.lt0
  obtain ⟨_, v1, v2⟩ := ck_facts hc
  obtain ⟨hs, a1, a2, a3, a4, a5⟩ := vld_facts v1
  obtain ⟨_, b1, b2, b3, b4, b5⟩ := vld_facts v2
  have hck := fun o1 o2 o3 => check_two s how a e b f w ht o1 o2 o3 (by omega) (by omega) (by omega) (by omega)
  rw [hc] at hck
  have HC := Lib.hid hck
  have H1 := Lib.hid (fun w ht => exactOf_any a e w ht (by omega) (by omega))
  have H2 := Lib.hid (fun w ht => exactOf_any b f w ht (by omega) (by omega))
  have H3 := Lib.hid hq
  have h4 := fun w ht => round_any neg Q T mo s how w ht hs hQ hT1 hT2 hmo
  rw [hM, hE, hX] at h4
  have H4 := Lib.hid h4
  clear hck hc v1 v2 a1 b1 h4 hM hE hX hs hq hQ hT1 hT2 hmo
  go_enter Tryd.func7, Tryd.ntmps7
  go_upto_region 4 with (first | (go_at_call 33; (with_reducible refine (HC.out _ _ _).mono ?_); rintro e w1 ⟨rfl, hk1⟩; obtain ⟨hc1, hf1⟩ := bcell hk1.2; have ht1 := hk1.1; have hz1 := hk1.2.size; (try simp only [World.size_alloc] at hz1); (try simp only [sz_drew] at hz1); (try simp only [sz_drewN] at hz1); (try simp only [World.size_alloc] at hz1); (try simp only [sz_drew] at hc1 hf1); (try simp only [sz_drewN] at hc1 hf1); (try have hw1 : w.heap.size < w1.heap.size := by omega); (try have hv1 : w.heap.size + 1 < w1.heap.size := by omega); (try have hu1 : w.heap.size + 2 < w1.heap.size := by omega)))
  have hI := ((Inv.three ht 25 [.int .i64 a, .int .i64 e] 25 [.int .i64 b, .int .i64 f] 25 [.int .i64 0, .int .i64 0]).alloc _).call hk1
  clear hc1 hf1
  have HZ : Hid (Own w1 (w.heap.size + 1 + 1) 25 [.int .i64 0, .int .i64 0]) := Lib.hid (hI.own 2 _ rfl)
  have hJ : Inv w [(w.heap.size, 25, [.int .i64 a, .int .i64 e]), (w.heap.size + 1, 25, [.int .i64 b, .int .i64 f])] w1 := hI.init (bs := [_, _])
  (have z0 : w1.cell? ⟨w.heap.size + 1 + 1, 0, none⟩ = some (.int .i64 0) := (hI.own 2 _ rfl).cell 0; have z1 : w1.cell? ⟨w.heap.size + 1 + 1, 1, none⟩ = some (.int .i64 0) := (hI.own 2 _ rfl).cell 1; have zf := fun i => (hI.own 2 _ rfl).frozen i; have zl : w.heap.size + 1 + 1 < w1.heap.size := (hI.own 2 _ rfl).lt)
  clear hI
  go_region_held3 (fun w' => Inv w [(w.heap.size, 25, [.int .i64 a, .int .i64 e]), (w.heap.size + 1, 25, [.int .i64 b, .int .i64 f])] w' ∧ Tab w' ∧ w'.cell? ⟨w.heap.size, 0, none⟩ = some (.int .i64 a) ∧ w'.cell? ⟨w.heap.size, 1, none⟩ = some (.int .i64 e) ∧ w'.cell? ⟨w.heap.size + 1, 0, none⟩ = some (.int .i64 b) ∧ w'.cell? ⟨w.heap.size + 1, 1, none⟩ = some (.int .i64 f))
    ((refine reals_pack ?_; repeat' (first | (with_reducible assumption) | (with_reducible refine Inv.drew ?_) | (with_reducible refine Inv.alloc ?_ _) | (with_reducible refine Inv.call ?_ (by assumption)) | (with_reducible refine Inv.far ?_ ?_ ?_ ?_ ?_ _) | omega | (simp; done) | (simp; omega))))
    (first | (go_at_call 35; (with_reducible refine (H1.out _ (by repeat' (first | (with_reducible assumption) | (with_reducible refine Tab.alloc ?_ _) | (with_reducible refine Tab.drew ?_) | (with_reducible refine Tab.drewN ?_ _) | (with_reducible refine Tab.setCell ?_ ?_ ?_ _) | omega | (simp; done) | (simp; omega)))).mono ?_); rintro e w2 ⟨rfl, hk2⟩; obtain ⟨hc2, hf2⟩ := bcell hk2.2; have ht2 := hk2.1; have hz2 := hk2.2.size; (try simp only [World.size_alloc] at hz2); (try simp only [sz_drew] at hz2); (try simp only [sz_drewN] at hz2); (try simp only [World.size_alloc] at hz2); (try simp only [sz_drew] at hc2 hf2); (try simp only [sz_drewN] at hc2 hf2); (try have hw2 : w.heap.size < w2.heap.size := by omega); (try have hv2 : w.heap.size + 1 < w2.heap.size := by omega); (try have hu2 : w.heap.size + 2 < w2.heap.size := by omega)) | (go_at_call 35; (with_reducible refine (H2.out _ (by repeat' (first | (with_reducible assumption) | (with_reducible refine Tab.alloc ?_ _) | (with_reducible refine Tab.drew ?_) | (with_reducible refine Tab.drewN ?_ _) | (with_reducible refine Tab.setCell ?_ ?_ ?_ _) | omega | (simp; done) | (simp; omega)))).mono ?_); rintro e w3 ⟨rfl, hk3⟩; obtain ⟨hc3, hf3⟩ := bcell hk3.2; have ht3 := hk3.1; have hz3 := hk3.2.size; (try simp only [World.size_alloc] at hz3); (try simp only [sz_drew] at hz3); (try simp only [sz_drewN] at hz3); (try simp only [World.size_alloc] at hz3); (try simp only [sz_drew] at hc3 hf3); (try simp only [sz_drewN] at hc3 hf3); (try have hw3 : w.heap.size < w3.heap.size := by omega); (try have hv3 : w.heap.size + 1 < w3.heap.size := by omega); (try have hu3 : w.heap.size + 2 < w3.heap.size := by omega)) | (go_at_call 34; (with_reducible refine (H3.out _ (by repeat' (first | (with_reducible assumption) | (with_reducible refine Tab.alloc ?_ _) | (with_reducible refine Tab.drew ?_) | (with_reducible refine Tab.drewN ?_ _) | (with_reducible refine Tab.setCell ?_ ?_ ?_ _) | omega | (simp; done) | (simp; omega)))).mono ?_); rintro e w4 ⟨rfl, hk4⟩; obtain ⟨hc4, hf4⟩ := bcell hk4.2; have ht4 := hk4.1; have hz4 := hk4.2.size; (try simp only [World.size_alloc] at hz4); (try simp only [sz_drew] at hz4); (try simp only [sz_drewN] at hz4); (try simp only [World.size_alloc] at hz4); (try simp only [sz_drew] at hc4 hf4); (try simp only [sz_drewN] at hc4 hf4); (try have hw4 : w.heap.size < w4.heap.size := by omega); (try have hv4 : w.heap.size + 1 < w4.heap.size := by omega); (try have hu4 : w.heap.size + 2 < w4.heap.size := by omega)) | (go_at_call 36; (with_reducible refine (H4.out _ (by repeat' (first | (with_reducible assumption) | (with_reducible refine Tab.alloc ?_ _) | (with_reducible refine Tab.drew ?_) | (with_reducible refine Tab.drewN ?_ _) | (with_reducible refine Tab.setCell ?_ ?_ ?_ _) | omega | (simp; done) | (simp; omega)))).mono ?_); rintro e w5 ⟨rfl, hk5⟩; obtain ⟨hc5, hf5⟩ := bcell hk5.2; have ht5 := hk5.1; have hz5 := hk5.2.size; (try simp only [World.size_alloc] at hz5); (try simp only [sz_drew] at hz5); (try simp only [sz_drewN] at hz5); (try simp only [World.size_alloc] at hz5); (try simp only [sz_drew] at hc5 hf5); (try simp only [sz_drewN] at hc5 hf5); (try have hw5 : w.heap.size < w5.heap.size := by omega); (try have hv5 : w.heap.size + 1 < w5.heap.size := by omega); (try have hu5 : w.heap.size + 2 < w5.heap.size := by omega)))
  go_wp2_with fail
  have hF := (((((HZ.out.drew.call hk2).call hk3).call hk4).call hk5).put 0 (.int .i64 M)).put 1 (.int .i64 E)
  refine bodyPost_ret (ret_own_tmp rfl hF rfl Tryd.underlying25 rfl (by kernel_rfl)) rfl ?_
  exact ⟨rfl, (by repeat' (first | (with_reducible assumption) | (with_reducible exact Kept.refl ht) | (with_reducible refine Kept.alloc ?_ _) | (with_reducible refine Kept.drew ?_) | (with_reducible refine Kept.drewN ?_ _) | (with_reducible refine Kept.setCell ?_ ?_ _ ?_ ?_) | (with_reducible refine Kept.trans ?_ (by assumption)) | omega | (simp; done) | (simp; omega)))⟩
set_option maxRecDepth 100000 in
set_option maxHeartbeats 16000000 in
theorem sub_good (s how a e b f : Int) (w : World) (ht : Tab w) (hc : ckR s how [(a, e), (b, f)] = 0) (M E X : Int) (sb : Bool) (nb : Nat) (hsb : decide (-b < 0) = sb) (hnb : mag (-b) = nb) (neg : Bool) (Q : Nat) (T : Int) (mo : Bool)
    (hq : ∀ w, Tab w → Calls Tryd.prog 34 #[.agg #[.bool (decide (a < 0)), .int .u64 (hiW (mag a) : Int), .int .u64 (loW (mag a) : Int), .int .i64 e, .bool false], .agg #[.bool sb, .int .u64 (hiW nb : Int), .int .u64 (loW nb : Int), .int .i64 f, .bool false]] w fun x w' => x = .returned (.agg #[.bool neg, .int .u64 (hiW Q : Int), .int .u64 (loW Q : Int), .int .i64 T, .bool mo]) ∧ Kept w w') (hQ : Q < 340282366920938463463374607431768211456) (hT1 : -1100 ≤ T) (hT2 : T ≤ 5000) (hmo : mo = true → pr s < dg Q)
    (hM : rM (pr s) how neg (sc Q T) mo = M) (hE : rE (pr s) how neg (sc Q T) mo = E) (hX : rX (pr s) how neg (sc Q T) mo = X) :
    Calls Tryd.prog 9 #[.int .i64 s, .int .i64 how, .agg #[.int .i64 a, .int .i64 e], .agg #[.int .i64 b, .int .i64 f]] w fun x w' => x = .returned (.tuple #[.agg #[.int .i64 M, .int .i64 E], .int .i64 X]) ∧ Kept w w' := by
  have hlt := ht.lt
  have hlt0 := ht.lt0
  obtain ⟨_, v1, v2⟩ := ck_facts hc
  obtain ⟨hs, a1, a2, a3, a4, a5⟩ := vld_facts v1
  obtain ⟨_, b1, b2, b3, b4, b5⟩ := vld_facts v2
  have hck := fun o1 o2 o3 => check_two s how a e b f w ht o1 o2 o3 (by omega) (by omega) (by omega) (by omega)
  rw [hc] at hck
  have HC := Lib.hid hck
  have H1 := Lib.hid (fun w ht => exactOf_any a e w ht (by omega) (by omega))
  have h2 := fun w ht => exactOf_any (-b) f w ht (by omega) (by omega)
  rw [hsb, hnb] at h2
  have H2 := Lib.hid h2
  have H6 := Lib.hid (fun w ht => negative_any b f w ht (by omega) (by omega))
  have H3 := Lib.hid hq
  have h4 := fun w ht => round_any neg Q T mo s how w ht hs hQ hT1 hT2 hmo
  rw [hM, hE, hX] at h4
  have H4 := Lib.hid h4
  clear h2 hsb hnb hck hc v1 v2 a1 b1 h4 hM hE hX hs hq hQ hT1 hT2 hmo
  go_enter Tryd.func9, Tryd.ntmps9
  go_upto_region 4 with (first | (go_at_call 33; (with_reducible refine (HC.out _ _ _).mono ?_); rintro e w1 ⟨rfl, hk1⟩; obtain ⟨hc1, hf1⟩ := bcell hk1.2; have ht1 := hk1.1; have hz1 := hk1.2.size; (try simp only [World.size_alloc] at hz1); (try simp only [sz_drew] at hz1); (try simp only [sz_drewN] at hz1); (try simp only [World.size_alloc] at hz1); (try simp only [sz_drew] at hc1 hf1); (try simp only [sz_drewN] at hc1 hf1); (try have hw1 : w.heap.size < w1.heap.size := by omega); (try have hv1 : w.heap.size + 1 < w1.heap.size := by omega); (try have hu1 : w.heap.size + 2 < w1.heap.size := by omega)))
  have hI := ((Inv.three ht 25 [.int .i64 a, .int .i64 e] 25 [.int .i64 b, .int .i64 f] 25 [.int .i64 0, .int .i64 0]).alloc _).call hk1
  clear hc1 hf1
  have HZ : Hid (Own w1 (w.heap.size + 1 + 1) 25 [.int .i64 0, .int .i64 0]) := Lib.hid (hI.own 2 _ rfl)
  have hJ : Inv w [(w.heap.size, 25, [.int .i64 a, .int .i64 e]), (w.heap.size + 1, 25, [.int .i64 b, .int .i64 f])] w1 := hI.init (bs := [_, _])
  (have z0 : w1.cell? ⟨w.heap.size + 1 + 1, 0, none⟩ = some (.int .i64 0) := (hI.own 2 _ rfl).cell 0; have z1 : w1.cell? ⟨w.heap.size + 1 + 1, 1, none⟩ = some (.int .i64 0) := (hI.own 2 _ rfl).cell 1; have zf := fun i => (hI.own 2 _ rfl).frozen i; have zl : w.heap.size + 1 + 1 < w1.heap.size := (hI.own 2 _ rfl).lt)
  clear hI
  go_region_held3 (fun w' => Inv w [(w.heap.size, 25, [.int .i64 a, .int .i64 e]), (w.heap.size + 1, 25, [.int .i64 b, .int .i64 f])] w' ∧ Tab w' ∧ w'.cell? ⟨w.heap.size, 0, none⟩ = some (.int .i64 a) ∧ w'.cell? ⟨w.heap.size, 1, none⟩ = some (.int .i64 e) ∧ w'.cell? ⟨w.heap.size + 1, 0, none⟩ = some (.int .i64 b) ∧ w'.cell? ⟨w.heap.size + 1, 1, none⟩ = some (.int .i64 f))
    ((refine reals_pack ?_; repeat' (first | (with_reducible assumption) | (with_reducible refine Inv.drew ?_) | (with_reducible refine Inv.alloc ?_ _) | (with_reducible refine Inv.call ?_ (by assumption)) | (with_reducible refine Inv.far ?_ ?_ ?_ ?_ ?_ _) | omega | (simp; done) | (simp; omega))))
    (first | (go_at_call 35; (with_reducible refine (H1.out _ (by repeat' (first | (with_reducible assumption) | (with_reducible refine Tab.alloc ?_ _) | (with_reducible refine Tab.drew ?_) | (with_reducible refine Tab.drewN ?_ _) | (with_reducible refine Tab.setCell ?_ ?_ ?_ _) | omega | (simp; done) | (simp; omega)))).mono ?_); rintro e w2 ⟨rfl, hk2⟩; obtain ⟨hc2, hf2⟩ := bcell hk2.2; have ht2 := hk2.1; have hz2 := hk2.2.size; (try simp only [World.size_alloc] at hz2); (try simp only [sz_drew] at hz2); (try simp only [sz_drewN] at hz2); (try simp only [World.size_alloc] at hz2); (try simp only [sz_drew] at hc2 hf2); (try simp only [sz_drewN] at hc2 hf2); (try have hw2 : w.heap.size < w2.heap.size := by omega); (try have hv2 : w.heap.size + 1 < w2.heap.size := by omega); (try have hu2 : w.heap.size + 2 < w2.heap.size := by omega)) | (go_at_call 41; (with_reducible refine (H6.out _ (by repeat' (first | (with_reducible assumption) | (with_reducible refine Tab.alloc ?_ _) | (with_reducible refine Tab.drew ?_) | (with_reducible refine Tab.drewN ?_ _) | (with_reducible refine Tab.setCell ?_ ?_ ?_ _) | omega | (simp; done) | (simp; omega)))).mono ?_); rintro e w6 ⟨rfl, hk6⟩; obtain ⟨hc6, hf6⟩ := bcell hk6.2; have ht6 := hk6.1; have hz6 := hk6.2.size; (try simp only [World.size_alloc] at hz6); (try simp only [sz_drew] at hz6); (try simp only [sz_drewN] at hz6); (try simp only [World.size_alloc] at hz6); (try simp only [sz_drew] at hc6 hf6); (try simp only [sz_drewN] at hc6 hf6); (try have hw6 : w.heap.size < w6.heap.size := by omega); (try have hv6 : w.heap.size + 1 < w6.heap.size := by omega); (try have hu6 : w.heap.size + 2 < w6.heap.size := by omega)) | (go_at_call 35; (with_reducible refine (H2.out _ (by repeat' (first | (with_reducible assumption) | (with_reducible refine Tab.alloc ?_ _) | (with_reducible refine Tab.drew ?_) | (with_reducible refine Tab.drewN ?_ _) | (with_reducible refine Tab.setCell ?_ ?_ ?_ _) | omega | (simp; done) | (simp; omega)))).mono ?_); rintro e w3 ⟨rfl, hk3⟩; obtain ⟨hc3, hf3⟩ := bcell hk3.2; have ht3 := hk3.1; have hz3 := hk3.2.size; (try simp only [World.size_alloc] at hz3); (try simp only [sz_drew] at hz3); (try simp only [sz_drewN] at hz3); (try simp only [World.size_alloc] at hz3); (try simp only [sz_drew] at hc3 hf3); (try simp only [sz_drewN] at hc3 hf3); (try have hw3 : w.heap.size < w3.heap.size := by omega); (try have hv3 : w.heap.size + 1 < w3.heap.size := by omega); (try have hu3 : w.heap.size + 2 < w3.heap.size := by omega)) | (go_at_call 34; (with_reducible refine (H3.out _ (by repeat' (first | (with_reducible assumption) | (with_reducible refine Tab.alloc ?_ _) | (with_reducible refine Tab.drew ?_) | (with_reducible refine Tab.drewN ?_ _) | (with_reducible refine Tab.setCell ?_ ?_ ?_ _) | omega | (simp; done) | (simp; omega)))).mono ?_); rintro e w4 ⟨rfl, hk4⟩; obtain ⟨hc4, hf4⟩ := bcell hk4.2; have ht4 := hk4.1; have hz4 := hk4.2.size; (try simp only [World.size_alloc] at hz4); (try simp only [sz_drew] at hz4); (try simp only [sz_drewN] at hz4); (try simp only [World.size_alloc] at hz4); (try simp only [sz_drew] at hc4 hf4); (try simp only [sz_drewN] at hc4 hf4); (try have hw4 : w.heap.size < w4.heap.size := by omega); (try have hv4 : w.heap.size + 1 < w4.heap.size := by omega); (try have hu4 : w.heap.size + 2 < w4.heap.size := by omega)) | (go_at_call 36; (with_reducible refine (H4.out _ (by repeat' (first | (with_reducible assumption) | (with_reducible refine Tab.alloc ?_ _) | (with_reducible refine Tab.drew ?_) | (with_reducible refine Tab.drewN ?_ _) | (with_reducible refine Tab.setCell ?_ ?_ ?_ _) | omega | (simp; done) | (simp; omega)))).mono ?_); rintro e w5 ⟨rfl, hk5⟩; obtain ⟨hc5, hf5⟩ := bcell hk5.2; have ht5 := hk5.1; have hz5 := hk5.2.size; (try simp only [World.size_alloc] at hz5); (try simp only [sz_drew] at hz5); (try simp only [sz_drewN] at hz5); (try simp only [World.size_alloc] at hz5); (try simp only [sz_drew] at hc5 hf5); (try simp only [sz_drewN] at hc5 hf5); (try have hw5 : w.heap.size < w5.heap.size := by omega); (try have hv5 : w.heap.size + 1 < w5.heap.size := by omega); (try have hu5 : w.heap.size + 2 < w5.heap.size := by omega)))
  go_wp2_with fail
  have hF := ((((((HZ.out.drew.call hk2).call hk6).call hk3).call hk4).call hk5).put 0 (.int .i64 M)).put 1 (.int .i64 E)
  refine bodyPost_ret (ret_own_tmp rfl hF rfl Tryd.underlying25 rfl (by kernel_rfl)) rfl ?_
  exact ⟨rfl, (by repeat' (first | (with_reducible assumption) | (with_reducible exact Kept.refl ht) | (with_reducible refine Kept.alloc ?_ _) | (with_reducible refine Kept.drew ?_) | (with_reducible refine Kept.drewN ?_ _) | (with_reducible refine Kept.setCell ?_ ?_ _ ?_ ?_) | (with_reducible refine Kept.trans ?_ (by assumption)) | omega | (simp; done) | (simp; omega)))⟩
end Go.Proofs.YtanfhlkfmmglhaaDoor
/- The program's quotient of exact numbers. Conditions: the tables hold what their initialisers lay; the divisor is not 0. -/
namespace Go.Proofs.YtanfhlkfmmglhaaDoor
open Go.ChangeShapes Go.WideShapes Go.ChangeAt Go.RowKit
attribute [local go_sem ↓] Go.wp_at_zero Go.wp_at_succ

theorem bne0 (R : Nat) : ((R : Int) != 0) = !decide (R = 0) := by
  rw [Bool.eq_iff_iff]
  simp
set_option maxRecDepth 100000 in
set_option maxHeartbeats 2000000 in
theorem quotient_zero (a b m1 m2 : Bool) (k : Nat) (e f : Int) (w : World) (ht : Tab w) :
    Calls Tryd.prog 45 #[.agg #[.bool a, .int .u64 (hiW 0 : Int), .int .u64 (loW 0 : Int), .int .i64 e, .bool m1], .agg #[.bool b, .int .u64 (hiW k : Int), .int .u64 (loW k : Int), .int .i64 f, .bool m2]] w fun x w' => x = .returned (.agg #[.bool a, .int .u64 (hiW 0 : Int), .int .u64 (loW 0 : Int), .int .i64 e, .bool m1]) ∧ Kept w w' := by
  have hlt := ht.lt
  have hlt0 := ht.lt0
  go_enter Tryd.func45, Tryd.ntmps45
  go_wp2_with (first | (go_at_call 62; (with_reducible refine (isZero_any 0 _ (by repeat' (first | (with_reducible assumption) | (with_reducible refine Tab.alloc ?_ _) | (with_reducible refine Tab.drew ?_) | (with_reducible refine Tab.drewN ?_ _) | (with_reducible refine Tab.setCell ?_ ?_ ?_ _) | omega | (simp; done) | (simp; omega)))).mono ?_); rintro e w1 ⟨rfl, hk1⟩; obtain ⟨hc1, hf1⟩ := bcell hk1.2; have ht1 := hk1.1; have hz1 := hk1.2.size; (try simp only [World.size_alloc] at hz1); (try simp only [sz_drew] at hz1); (try simp only [sz_drewN] at hz1); (try simp only [World.size_alloc] at hz1); (try simp only [sz_drew] at hc1 hf1); (try simp only [sz_drewN] at hc1 hf1); (try have hw1 : w.heap.size < w1.heap.size := by omega); (try have hv1 : w.heap.size + 1 < w1.heap.size := by omega); (try have hu1 : w.heap.size + 2 < w1.heap.size := by omega)))
  have hF := (((((((Inv.three ht 44 [.bool a, .int .u64 (hiW 0 : Int), .int .u64 (loW 0 : Int), .int .i64 e, .bool m1] 44 [.bool b, .int .u64 (hiW k : Int), .int .u64 (loW k : Int), .int .i64 f, .bool m2] 44 [.bool false, .int .u64 0, .int .u64 0, .int .i64 0, .bool false]).call hk1).own 2 _ rfl).put 0 (.bool a)).put 1 (.int .u64 (hiW 0 : Int))).put 2 (.int .u64 (loW 0 : Int))).put 3 (.int .i64 e)).put 4 (.bool m1)
  refine bodyPost_ret (ret_own rfl hF rfl Tryd.underlying44 rfl (by kernel_rfl)) rfl ?_
  exact ⟨rfl, (by repeat' (first | (with_reducible assumption) | (with_reducible exact Kept.refl ht) | (with_reducible refine Kept.alloc ?_ _) | (with_reducible refine Kept.drew ?_) | (with_reducible refine Kept.drewN ?_ _) | (with_reducible refine Kept.setCell ?_ ?_ _ ?_ ?_) | (with_reducible refine Kept.trans ?_ (by assumption)) | omega | (simp; done) | (simp; omega)))⟩

set_option maxRecDepth 100000 in
set_option maxHeartbeats 2000000 in
theorem quotient_any (a b m1 m2 : Bool) (n k : Nat) (e f : Int) (w : World) (ht : Tab w) (hn0 : n ≠ 0) (hn : n < 18446744073709551616) (hk0 : 0 < k) (hk : k < 18446744073709551616) (he : -100000 ≤ e) (he' : e ≤ 100000) (hf : -100000 ≤ f) (hf' : f ≤ 100000)
    (N Q R : Nat) (d : Int) (hN : n * 10 ^ (37 - dg n) = N) (hd : ((37 - dg n : Nat) : Int) = d) (hQ : N / k = Q) (hR : N % k = R) :
    Calls Tryd.prog 45 #[.agg #[.bool a, .int .u64 (hiW n : Int), .int .u64 (loW n : Int), .int .i64 e, .bool m1], .agg #[.bool b, .int .u64 (hiW k : Int), .int .u64 (loW k : Int), .int .i64 f, .bool m2]] w fun x w' => x = .returned (.agg #[.bool (a != b), .int .u64 (hiW Q : Int), .int .u64 (loW Q : Int), .int .i64 (e - d - f), .bool (decide (R ≠ 0))]) ∧ Kept w w' := by
  have hlt := ht.lt
  have hlt0 := ht.lt0
  have hd0 : decide (n = 0) = false := decide_eq_false hn0
  have hlo : loW k = k := by unfold loW; omega
  have hNb : N < 340282366920938463463374607431768211456 := by
    rw [← hN]
    exact lo_bound (D := 37) (by omega) (by omega)
  have hlg := fun w ht => longer_any a n e m1 37 w ht (by omega) (by omega) (by omega) (by omega) (by omega)
  rw [show (37 : Int).toNat = 37 by decide, hN, hd] at hlg
  have hov := fun w ht => over_any N k w ht hNb hk0 hk
  rw [hQ, hR] at hov
  have hRb : R < 18446744073709551616 := by rw [← hR]; exact Nat.lt_trans (Nat.mod_lt _ hk0) hk
  have HL := Lib.hid hlg
  have HO := Lib.hid (show ∀ w, Tab w → Calls Tryd.prog 83 #[.agg #[.int .u64 (hiW N : Int), .int .u64 (loW N : Int)], .int .u64 (loW k : Int)] w fun e w' => e = .returned (.tuple #[.agg #[.int .u64 (hiW Q : Int), .int .u64 (loW Q : Int)], .int .u64 (R : Int)]) ∧ Kept w w' by
    intro w ht
    have := hov w ht
    rw [hlo]
    exact this)
  have hdb : 0 ≤ d := by omega
  have hdb' : d ≤ 37 := by omega
  clear hQ hR hlg hov hlo hn0 hn hk0 hk hNb hN hd
  go_enter Tryd.func45, Tryd.ntmps45
  go_upto_region 3 with (first | (go_at_call 62; (with_reducible refine (isZero_any n _ (by repeat' (first | (with_reducible assumption) | (with_reducible refine Tab.alloc ?_ _) | (with_reducible refine Tab.drew ?_) | (with_reducible refine Tab.drewN ?_ _) | (with_reducible refine Tab.setCell ?_ ?_ ?_ _) | omega | (simp; done) | (simp; omega)))).mono ?_); rintro e w1 ⟨rfl, hk1⟩; obtain ⟨hc1, hf1⟩ := bcell hk1.2; have ht1 := hk1.1; have hz1 := hk1.2.size; (try simp only [World.size_alloc] at hz1); (try simp only [sz_drew] at hz1); (try simp only [sz_drewN] at hz1); (try simp only [World.size_alloc] at hz1); (try simp only [sz_drew] at hc1 hf1); (try simp only [sz_drewN] at hc1 hf1); (try have hw1 : w.heap.size < w1.heap.size := by omega); (try have hv1 : w.heap.size + 1 < w1.heap.size := by omega); (try have hu1 : w.heap.size + 2 < w1.heap.size := by omega)))
  have hI := (Inv.three ht 44 [.bool a, .int .u64 (hiW n : Int), .int .u64 (loW n : Int), .int .i64 e, .bool m1] 44 [.bool b, .int .u64 (hiW k : Int), .int .u64 (loW k : Int), .int .i64 f, .bool m2] 44 [.bool false, .int .u64 0, .int .u64 0, .int .i64 0, .bool false]).call hk1
  clear hc1 hf1
  (have x0 : w1.cell? ⟨w.heap.size, 0, none⟩ = some (.bool a) := (hI.own 0 _ rfl).cell 0; have x1 : w1.cell? ⟨w.heap.size, 1, none⟩ = some (.int .u64 (hiW n : Int)) := (hI.own 0 _ rfl).cell 1; have x2 : w1.cell? ⟨w.heap.size, 2, none⟩ = some (.int .u64 (loW n : Int)) := (hI.own 0 _ rfl).cell 2; have x3 : w1.cell? ⟨w.heap.size, 3, none⟩ = some (.int .i64 e) := (hI.own 0 _ rfl).cell 3; have x4 : w1.cell? ⟨w.heap.size, 4, none⟩ = some (.bool m1) := (hI.own 0 _ rfl).cell 4; have xf := fun i => (hI.own 0 _ rfl).frozen i; have xl : w.heap.size < w1.heap.size := (hI.own 0 _ rfl).lt)
  (have w1t := hI.kept.1; have w1k := hI.kept; have w1g := hI.kept.1.lt; have w1g0 := hI.kept.1.lt0; have w1z := hI.kept.2.size)
  have HI := Lib.hid hI
  clear hI
  go_cut [] (fun wx => Inv w [(w.heap.size, 44, [.bool a, .int .u64 (hiW N : Int), .int .u64 (loW N : Int), .int .i64 (e - d), .bool m1]), (w.heap.size + 1, 44, [.bool b, .int .u64 (hiW k : Int), .int .u64 (loW k : Int), .int .i64 f, .bool m2]), (w.heap.size + 2, 44, [.bool false, .int .u64 0, .int .u64 0, .int .i64 0, .bool false])] wx)
  case first =>
    go_wp2_with (first | (go_at_call 82; (with_reducible refine (HL.out _ (by repeat' (first | (with_reducible assumption) | (with_reducible refine Tab.alloc ?_ _) | (with_reducible refine Tab.drew ?_) | (with_reducible refine Tab.drewN ?_ _) | (with_reducible refine Tab.setCell ?_ ?_ ?_ _) | omega | (simp; done) | (simp; omega)))).mono ?_); rintro e w2 ⟨rfl, hk2⟩; obtain ⟨hc2, hf2⟩ := bcell hk2.2; have ht2 := hk2.1; have hz2 := hk2.2.size; (try simp only [World.size_alloc] at hz2); (try simp only [sz_drew] at hz2); (try simp only [sz_drewN] at hz2); (try simp only [World.size_alloc] at hz2); (try simp only [sz_drew] at hc2 hf2); (try simp only [sz_drewN] at hc2 hf2); (try have hw2 : w.heap.size < w2.heap.size := by omega); (try have hv2 : w.heap.size + 1 < w2.heap.size := by omega); (try have hu2 : w.heap.size + 2 < w2.heap.size := by omega)))
    go_meet
    exact (((((HI.out.call hk2).put 0 rfl 0 _ (by simp) (by omega) hlt hlt0).put 0 rfl 1 _ (by simp) (by omega) hlt hlt0).put 0 rfl 2 _ (by simp) (by omega) hlt hlt0).put 0 rfl 3 _ (by simp) (by omega) hlt hlt0).put 0 rfl 4 _ (by simp) (by omega) hlt hlt0
  case rest =>
    clear HI x0 x1 x2 x3 x4 xf xl
    (have x0 : wc.cell? ⟨w.heap.size, 0, none⟩ = some (.bool a) := (hcut.own 0 _ rfl).cell 0; have x1 : wc.cell? ⟨w.heap.size, 1, none⟩ = some (.int .u64 (hiW N : Int)) := (hcut.own 0 _ rfl).cell 1; have x2 : wc.cell? ⟨w.heap.size, 2, none⟩ = some (.int .u64 (loW N : Int)) := (hcut.own 0 _ rfl).cell 2; have x3 : wc.cell? ⟨w.heap.size, 3, none⟩ = some (.int .i64 (e - d)) := (hcut.own 0 _ rfl).cell 3; have x4 : wc.cell? ⟨w.heap.size, 4, none⟩ = some (.bool m1) := (hcut.own 0 _ rfl).cell 4; have xf := fun i => (hcut.own 0 _ rfl).frozen i; have xl : w.heap.size < wc.heap.size := (hcut.own 0 _ rfl).lt)
    (have y0 : wc.cell? ⟨w.heap.size + 1, 0, none⟩ = some (.bool b) := (hcut.own 1 _ rfl).cell 0; have y1 : wc.cell? ⟨w.heap.size + 1, 1, none⟩ = some (.int .u64 (hiW k : Int)) := (hcut.own 1 _ rfl).cell 1; have y2 : wc.cell? ⟨w.heap.size + 1, 2, none⟩ = some (.int .u64 (loW k : Int)) := (hcut.own 1 _ rfl).cell 2; have y3 : wc.cell? ⟨w.heap.size + 1, 3, none⟩ = some (.int .i64 f) := (hcut.own 1 _ rfl).cell 3; have y4 : wc.cell? ⟨w.heap.size + 1, 4, none⟩ = some (.bool m2) := (hcut.own 1 _ rfl).cell 4; have yf := fun i => (hcut.own 1 _ rfl).frozen i; have yl : w.heap.size + 1 < wc.heap.size := (hcut.own 1 _ rfl).lt)
    (have wct := hcut.kept.1; have wck := hcut.kept; have wcg := hcut.kept.1.lt; have wcg0 := hcut.kept.1.lt0; have wcz := hcut.kept.2.size)
    have HI := Lib.hid hcut
    clear hcut
    go_upto_region 4 with fail
    go_cut [5, 6] (fun s5 s6 wx => ∃ B : Nat, s5 = .pointer (some ⟨B, 0, none⟩) ∧ s6 = .int .u64 (R : Int) ∧ w.heap.size + 2 < B ∧ Inv w [(w.heap.size, 44, [.bool a, .int .u64 (hiW N : Int), .int .u64 (loW N : Int), .int .i64 (e - d), .bool m1]), (w.heap.size + 1, 44, [.bool b, .int .u64 (hiW k : Int), .int .u64 (loW k : Int), .int .i64 f, .bool m2]), (w.heap.size + 2, 44, [.bool false, .int .u64 0, .int .u64 0, .int .i64 0, .bool false]), (B, 42, [.int .u64 (hiW Q : Int), .int .u64 (loW Q : Int)])] wx)
    case first =>
      have hzl : w.heap.size + 2 < wc.heap.size := (HI.out.own 2 _ rfl).lt
      go_wp2_with (first | (go_at_call 83; (with_reducible refine (HO.out _ (by repeat' (first | (with_reducible assumption) | (with_reducible refine Tab.alloc ?_ _) | (with_reducible refine Tab.drew ?_) | (with_reducible refine Tab.drewN ?_ _) | (with_reducible refine Tab.setCell ?_ ?_ ?_ _) | omega | (simp; done) | (simp; omega)))).mono ?_); rintro e w3 ⟨rfl, hk3⟩; obtain ⟨hc3, hf3⟩ := bcell hk3.2; have ht3 := hk3.1; have hz3 := hk3.2.size; (try simp only [World.size_alloc] at hz3); (try simp only [sz_drew] at hz3); (try simp only [sz_drewN] at hz3); (try simp only [World.size_alloc] at hz3); (try simp only [sz_drew] at hc3 hf3); (try simp only [sz_drewN] at hc3 hf3); (try have hw3 : w.heap.size < w3.heap.size := by omega); (try have hv3 : w.heap.size + 1 < w3.heap.size := by omega); (try have hu3 : w.heap.size + 2 < w3.heap.size := by omega)))
      go_meet
      exact ⟨_, rfl, rfl, by omega, ((HI.out.call hk3).alloc _).more (bs := [_, _, _]) (Own.new w3 _ [_, _])⟩
    case rest =>
      obtain ⟨B, rfl, rfl, hB, hI⟩ := hcut
      clear HI x0 x1 x2 x3 x4 xf xl y0 y1 y2 y3 y4 yf yl
      (have x0 : wc.cell? ⟨w.heap.size, 0, none⟩ = some (.bool a) := (hI.own 0 _ rfl).cell 0; have x1 : wc.cell? ⟨w.heap.size, 1, none⟩ = some (.int .u64 (hiW N : Int)) := (hI.own 0 _ rfl).cell 1; have x2 : wc.cell? ⟨w.heap.size, 2, none⟩ = some (.int .u64 (loW N : Int)) := (hI.own 0 _ rfl).cell 2; have x3 : wc.cell? ⟨w.heap.size, 3, none⟩ = some (.int .i64 (e - d)) := (hI.own 0 _ rfl).cell 3; have x4 : wc.cell? ⟨w.heap.size, 4, none⟩ = some (.bool m1) := (hI.own 0 _ rfl).cell 4; have xf := fun i => (hI.own 0 _ rfl).frozen i; have xl : w.heap.size < wc.heap.size := (hI.own 0 _ rfl).lt)
      (have y0 : wc.cell? ⟨w.heap.size + 1, 0, none⟩ = some (.bool b) := (hI.own 1 _ rfl).cell 0; have y1 : wc.cell? ⟨w.heap.size + 1, 1, none⟩ = some (.int .u64 (hiW k : Int)) := (hI.own 1 _ rfl).cell 1; have y2 : wc.cell? ⟨w.heap.size + 1, 2, none⟩ = some (.int .u64 (loW k : Int)) := (hI.own 1 _ rfl).cell 2; have y3 : wc.cell? ⟨w.heap.size + 1, 3, none⟩ = some (.int .i64 f) := (hI.own 1 _ rfl).cell 3; have y4 : wc.cell? ⟨w.heap.size + 1, 4, none⟩ = some (.bool m2) := (hI.own 1 _ rfl).cell 4; have yf := fun i => (hI.own 1 _ rfl).frozen i; have yl : w.heap.size + 1 < wc.heap.size := (hI.own 1 _ rfl).lt)
      (have z0 : wc.cell? ⟨w.heap.size + 2, 0, none⟩ = some (.bool false) := (hI.own 2 _ rfl).cell 0; have z1 : wc.cell? ⟨w.heap.size + 2, 1, none⟩ = some (.int .u64 0) := (hI.own 2 _ rfl).cell 1; have z2 : wc.cell? ⟨w.heap.size + 2, 2, none⟩ = some (.int .u64 0) := (hI.own 2 _ rfl).cell 2; have z3 : wc.cell? ⟨w.heap.size + 2, 3, none⟩ = some (.int .i64 0) := (hI.own 2 _ rfl).cell 3; have z4 : wc.cell? ⟨w.heap.size + 2, 4, none⟩ = some (.bool false) := (hI.own 2 _ rfl).cell 4; have zf := fun i => (hI.own 2 _ rfl).frozen i; have zl : w.heap.size + 2 < wc.heap.size := (hI.own 2 _ rfl).lt)
      (have q0 : wc.cell? ⟨B, 0, none⟩ = some (.int .u64 (hiW Q : Int)) := (hI.own 3 _ rfl).cell 0; have q1 : wc.cell? ⟨B, 1, none⟩ = some (.int .u64 (loW Q : Int)) := (hI.own 3 _ rfl).cell 1; have qf := fun i => (hI.own 3 _ rfl).frozen i; have ql : B < wc.heap.size := (hI.own 3 _ rfl).lt)
      (have wct := hI.kept.1; have wck := hI.kept; have wcg := hI.kept.1.lt; have wcg0 := hI.kept.1.lt0; have wcz := hI.kept.2.size)
      have HZ := Lib.hid (hI.own 2 _ rfl)
      clear hI
      go_wp2_with fail
      have hF := ((((HZ.out.put 0 (.bool (a != b))).put 1 (.int .u64 (hiW Q : Int))).put 2 (.int .u64 (loW Q : Int))).put 3 (.int .i64 (e - d - f))).put 4 (.bool ((R : Int) != 0))
      refine bodyPost_ret (ret_own rfl hF rfl Tryd.underlying44 rfl (by kernel_rfl)) rfl ?_
      exact ⟨ex_eq rfl rfl (bne0 R) _, (by repeat' (first | (with_reducible assumption) | (with_reducible exact Kept.refl ht) | (with_reducible refine Kept.alloc ?_ _) | (with_reducible refine Kept.drew ?_) | (with_reducible refine Kept.drewN ?_ _) | (with_reducible refine Kept.setCell ?_ ?_ _ ?_ ?_) | (with_reducible refine Kept.trans ?_ (by assumption)) | omega | (simp; done) | (simp; omega)))⟩
end Go.Proofs.YtanfhlkfmmglhaaDoor
/- The program's quotient of two reals. Condition: the tables hold what their initialisers lay. -/
namespace Go.Proofs.YtanfhlkfmmglhaaDoor
open Go.ChangeShapes Go.WideShapes Go.ChangeAt Go.RowKit
attribute [local go_sem ↓] Go.wp_at_zero Go.wp_at_succ

set_option maxRecDepth 100000 in
set_option maxHeartbeats 4000000 in
theorem div_bad (s how a e b f c : Int) (w : World) (ht : Tab w) (la : -9223372036854775808 ≤ a) (ha : a ≤ 9223372036854775807) (lb : -9223372036854775808 ≤ b) (hb : b ≤ 9223372036854775807) (hc : ckR s how [(a, e), (b, f)] = c) (h0 : (c != 0) = true) :
    Calls Tryd.prog 13 #[.int .i64 s, .int .i64 how, .agg #[.int .i64 a, .int .i64 e], .agg #[.int .i64 b, .int .i64 f]] w fun x w' => x = .returned (.tuple #[.agg #[.int .i64 0, .int .i64 0], .int .i64 c]) ∧ Kept w w' := by
  have hlt := ht.lt
  have hlt0 := ht.lt0
  have hck := fun o1 o2 o3 => check_two s how a e b f w ht o1 o2 o3 la ha lb hb
  rw [hc] at hck
  have HC := Lib.hid hck
  clear hck hc
  go_enter Tryd.func13, Tryd.ntmps13
  go_wp2_with (first | (go_at_call 33; (with_reducible refine (HC.out _ _ _).mono ?_); rintro e w1 ⟨rfl, hk1⟩; obtain ⟨hc1, hf1⟩ := bcell hk1.2; have ht1 := hk1.1; have hz1 := hk1.2.size; (try simp only [World.size_alloc] at hz1); (try simp only [sz_drew] at hz1); (try simp only [sz_drewN] at hz1); (try simp only [World.size_alloc] at hz1); (try simp only [sz_drew] at hc1 hf1); (try simp only [sz_drewN] at hc1 hf1); (try have hw1 : w.heap.size < w1.heap.size := by omega); (try have hv1 : w.heap.size + 1 < w1.heap.size := by omega); (try have hu1 : w.heap.size + 2 < w1.heap.size := by omega)))
  have hI := ((Inv.three ht 25 [.int .i64 a, .int .i64 e] 25 [.int .i64 b, .int .i64 f] 25 [.int .i64 0, .int .i64 0]).alloc _).call hk1
  have hF := ((hI.own 2 _ rfl).put 0 (.int .i64 0)).put 1 (.int .i64 0)
  refine bodyPost_ret (ret_own_tmp rfl hF rfl Tryd.underlying25 rfl (by kernel_rfl)) rfl ?_
  exact ⟨rfl, (by repeat' (first | (with_reducible assumption) | (with_reducible exact Kept.refl ht) | (with_reducible refine Kept.alloc ?_ _) | (with_reducible refine Kept.drew ?_) | (with_reducible refine Kept.drewN ?_ _) | (with_reducible refine Kept.setCell ?_ ?_ _ ?_ ?_) | (with_reducible refine Kept.trans ?_ (by assumption)) | omega | (simp; done) | (simp; omega)))⟩

set_option maxRecDepth 100000 in
set_option maxHeartbeats 16000000 in
theorem div_good (s how a e b f : Int) (w : World) (ht : Tab w) (hc : ckR s how [(a, e), (b, f)] = 0) (hb0 : b ≠ 0) (M E X : Int) (neg : Bool) (Q : Nat) (T : Int) (mo : Bool)
    (hq : ∀ w, Tab w → Calls Tryd.prog 45 #[.agg #[.bool (decide (a < 0)), .int .u64 (hiW (mag a) : Int), .int .u64 (loW (mag a) : Int), .int .i64 e, .bool false], .agg #[.bool (decide (b < 0)), .int .u64 (hiW (mag b) : Int), .int .u64 (loW (mag b) : Int), .int .i64 f, .bool false]] w fun x w' => x = .returned (.agg #[.bool neg, .int .u64 (hiW Q : Int), .int .u64 (loW Q : Int), .int .i64 T, .bool mo]) ∧ Kept w w') (hQ : Q < 340282366920938463463374607431768211456) (hT1 : -1100 ≤ T) (hT2 : T ≤ 5000) (hmo : mo = true → pr s < dg Q)
    (hM : rM (pr s) how neg (sc Q T) mo = M) (hE : rE (pr s) how neg (sc Q T) mo = E) (hX : rX (pr s) how neg (sc Q T) mo = X) :
    Calls Tryd.prog 13 #[.int .i64 s, .int .i64 how, .agg #[.int .i64 a, .int .i64 e], .agg #[.int .i64 b, .int .i64 f]] w fun x w' => x = .returned (.tuple #[.agg #[.int .i64 M, .int .i64 E], .int .i64 X]) ∧ Kept w w' := by
  have hlt := ht.lt
  have hlt0 := ht.lt0
  obtain ⟨_, v1, v2⟩ := ck_facts hc
  obtain ⟨hs, a1, a2, a3, a4, a5⟩ := vld_facts v1
  obtain ⟨_, b1, b2, b3, b4, b5⟩ := vld_facts v2
  have hck := fun o1 o2 o3 => check_two s how a e b f w ht o1 o2 o3 (by omega) (by omega) (by omega) (by omega)
  rw [hc] at hck
  have HC := Lib.hid hck
  have H1 := Lib.hid (fun w ht => exactOf_any a e w ht (by omega) (by omega))
  have H2 := Lib.hid (fun w ht => exactOf_any b f w ht (by omega) (by omega))
  have H3 := Lib.hid hq
  have h4 := fun w ht => round_any neg Q T mo s how w ht hs hQ hT1 hT2 hmo
  rw [hM, hE, hX] at h4
  have hbb : (b == 0) = false := by rw [beq_eq_false_iff_ne]; exact hb0
  have H4 := Lib.hid h4
  clear hck hc v1 v2 a1 b1 h4 hM hE hX hs hq hQ hT1 hT2 hmo hb0
  go_enter Tryd.func13, Tryd.ntmps13
  go_upto_region 6 with (first | (go_at_call 33; (with_reducible refine (HC.out _ _ _).mono ?_); rintro e w1 ⟨rfl, hk1⟩; obtain ⟨hc1, hf1⟩ := bcell hk1.2; have ht1 := hk1.1; have hz1 := hk1.2.size; (try simp only [World.size_alloc] at hz1); (try simp only [sz_drew] at hz1); (try simp only [sz_drewN] at hz1); (try simp only [World.size_alloc] at hz1); (try simp only [sz_drew] at hc1 hf1); (try simp only [sz_drewN] at hc1 hf1); (try have hw1 : w.heap.size < w1.heap.size := by omega); (try have hv1 : w.heap.size + 1 < w1.heap.size := by omega); (try have hu1 : w.heap.size + 2 < w1.heap.size := by omega)))
  have hI := ((Inv.three ht 25 [.int .i64 a, .int .i64 e] 25 [.int .i64 b, .int .i64 f] 25 [.int .i64 0, .int .i64 0]).alloc _).call hk1
  clear hc1 hf1
  have HZ : Hid (Own w1 (w.heap.size + 1 + 1) 25 [.int .i64 0, .int .i64 0]) := Lib.hid (hI.own 2 _ rfl)
  have hJ : Inv w [(w.heap.size, 25, [.int .i64 a, .int .i64 e]), (w.heap.size + 1, 25, [.int .i64 b, .int .i64 f])] w1 := hI.init (bs := [_, _])
  (have z0 : w1.cell? ⟨w.heap.size + 1 + 1, 0, none⟩ = some (.int .i64 0) := (hI.own 2 _ rfl).cell 0; have z1 : w1.cell? ⟨w.heap.size + 1 + 1, 1, none⟩ = some (.int .i64 0) := (hI.own 2 _ rfl).cell 1; have zf := fun i => (hI.own 2 _ rfl).frozen i; have zl : w.heap.size + 1 + 1 < w1.heap.size := (hI.own 2 _ rfl).lt)
  clear hI
  go_region_held3 (fun w' => Inv w [(w.heap.size, 25, [.int .i64 a, .int .i64 e]), (w.heap.size + 1, 25, [.int .i64 b, .int .i64 f])] w' ∧ Tab w' ∧ w'.cell? ⟨w.heap.size, 0, none⟩ = some (.int .i64 a) ∧ w'.cell? ⟨w.heap.size, 1, none⟩ = some (.int .i64 e) ∧ w'.cell? ⟨w.heap.size + 1, 0, none⟩ = some (.int .i64 b) ∧ w'.cell? ⟨w.heap.size + 1, 1, none⟩ = some (.int .i64 f))
    ((refine reals_pack ?_; repeat' (first | (with_reducible assumption) | (with_reducible refine Inv.drew ?_) | (with_reducible refine Inv.alloc ?_ _) | (with_reducible refine Inv.call ?_ (by assumption)) | (with_reducible refine Inv.far ?_ ?_ ?_ ?_ ?_ _) | omega | (simp; done) | (simp; omega))))
    (first | (go_at_call 35; (with_reducible refine (H1.out _ (by repeat' (first | (with_reducible assumption) | (with_reducible refine Tab.alloc ?_ _) | (with_reducible refine Tab.drew ?_) | (with_reducible refine Tab.drewN ?_ _) | (with_reducible refine Tab.setCell ?_ ?_ ?_ _) | omega | (simp; done) | (simp; omega)))).mono ?_); rintro e w2 ⟨rfl, hk2⟩; obtain ⟨hc2, hf2⟩ := bcell hk2.2; have ht2 := hk2.1; have hz2 := hk2.2.size; (try simp only [World.size_alloc] at hz2); (try simp only [sz_drew] at hz2); (try simp only [sz_drewN] at hz2); (try simp only [World.size_alloc] at hz2); (try simp only [sz_drew] at hc2 hf2); (try simp only [sz_drewN] at hc2 hf2); (try have hw2 : w.heap.size < w2.heap.size := by omega); (try have hv2 : w.heap.size + 1 < w2.heap.size := by omega); (try have hu2 : w.heap.size + 2 < w2.heap.size := by omega)) | (go_at_call 35; (with_reducible refine (H2.out _ (by repeat' (first | (with_reducible assumption) | (with_reducible refine Tab.alloc ?_ _) | (with_reducible refine Tab.drew ?_) | (with_reducible refine Tab.drewN ?_ _) | (with_reducible refine Tab.setCell ?_ ?_ ?_ _) | omega | (simp; done) | (simp; omega)))).mono ?_); rintro e w3 ⟨rfl, hk3⟩; obtain ⟨hc3, hf3⟩ := bcell hk3.2; have ht3 := hk3.1; have hz3 := hk3.2.size; (try simp only [World.size_alloc] at hz3); (try simp only [sz_drew] at hz3); (try simp only [sz_drewN] at hz3); (try simp only [World.size_alloc] at hz3); (try simp only [sz_drew] at hc3 hf3); (try simp only [sz_drewN] at hc3 hf3); (try have hw3 : w.heap.size < w3.heap.size := by omega); (try have hv3 : w.heap.size + 1 < w3.heap.size := by omega); (try have hu3 : w.heap.size + 2 < w3.heap.size := by omega)) | (go_at_call 45; (with_reducible refine (H3.out _ (by repeat' (first | (with_reducible assumption) | (with_reducible refine Tab.alloc ?_ _) | (with_reducible refine Tab.drew ?_) | (with_reducible refine Tab.drewN ?_ _) | (with_reducible refine Tab.setCell ?_ ?_ ?_ _) | omega | (simp; done) | (simp; omega)))).mono ?_); rintro e w4 ⟨rfl, hk4⟩; obtain ⟨hc4, hf4⟩ := bcell hk4.2; have ht4 := hk4.1; have hz4 := hk4.2.size; (try simp only [World.size_alloc] at hz4); (try simp only [sz_drew] at hz4); (try simp only [sz_drewN] at hz4); (try simp only [World.size_alloc] at hz4); (try simp only [sz_drew] at hc4 hf4); (try simp only [sz_drewN] at hc4 hf4); (try have hw4 : w.heap.size < w4.heap.size := by omega); (try have hv4 : w.heap.size + 1 < w4.heap.size := by omega); (try have hu4 : w.heap.size + 2 < w4.heap.size := by omega)) | (go_at_call 36; (with_reducible refine (H4.out _ (by repeat' (first | (with_reducible assumption) | (with_reducible refine Tab.alloc ?_ _) | (with_reducible refine Tab.drew ?_) | (with_reducible refine Tab.drewN ?_ _) | (with_reducible refine Tab.setCell ?_ ?_ ?_ _) | omega | (simp; done) | (simp; omega)))).mono ?_); rintro e w5 ⟨rfl, hk5⟩; obtain ⟨hc5, hf5⟩ := bcell hk5.2; have ht5 := hk5.1; have hz5 := hk5.2.size; (try simp only [World.size_alloc] at hz5); (try simp only [sz_drew] at hz5); (try simp only [sz_drewN] at hz5); (try simp only [World.size_alloc] at hz5); (try simp only [sz_drew] at hc5 hf5); (try simp only [sz_drewN] at hc5 hf5); (try have hw5 : w.heap.size < w5.heap.size := by omega); (try have hv5 : w.heap.size + 1 < w5.heap.size := by omega); (try have hu5 : w.heap.size + 2 < w5.heap.size := by omega)))
  go_wp2_with fail
  have hF := (((((HZ.out.drew.call hk2).call hk3).call hk4).call hk5).put 0 (.int .i64 M)).put 1 (.int .i64 E)
  refine bodyPost_ret (ret_own_tmp rfl hF rfl Tryd.underlying25 rfl (by kernel_rfl)) rfl ?_
  exact ⟨rfl, (by repeat' (first | (with_reducible assumption) | (with_reducible exact Kept.refl ht) | (with_reducible refine Kept.alloc ?_ _) | (with_reducible refine Kept.drew ?_) | (with_reducible refine Kept.drewN ?_ _) | (with_reducible refine Kept.setCell ?_ ?_ _ ?_ ?_) | (with_reducible refine Kept.trans ?_ (by assumption)) | omega | (simp; done) | (simp; omega)))⟩
end Go.Proofs.YtanfhlkfmmglhaaDoor
/- The program's operations with one operand: Neg and Abs. Condition: the tables hold what their initialisers lay. -/
namespace Go.Proofs.YtanfhlkfmmglhaaDoor
open Go.ChangeShapes Go.WideShapes Go.ChangeAt Go.RowKit
attribute [local go_sem ↓] Go.wp_at_zero Go.wp_at_succ

theorem check_one (s how a e : Int) (w : World) (ht : Tab w) (o1 o2 : Obj) (la : -9223372036854775808 ≤ a) (ha : a ≤ 9223372036854775807) :
    Calls Tryd.prog 33 #[.int .i64 s, .int .i64 how, .slice (some ⟨w.heap.size + 1 + 1, 0, none⟩) 1 1] (((w.alloc o1).alloc o2).alloc (.cells #[.int .i64 a, .int .i64 e] 25)) fun x w' => x = .returned (.int .i64 (ckR s how [(a, e)])) ∧ Kept (((w.alloc o1).alloc o2).alloc (.cells #[.int .i64 a, .int .i64 e] 25)) w' := by
  have ht3 := (((ht.alloc o1).alloc o2).alloc (.cells #[.int .i64 a, .int .i64 e] 25))
  have hO := Own.new ((w.alloc o1).alloc o2) 25 [.int .i64 a, .int .i64 e]
  rw [World.size_alloc, World.size_alloc] at hO
  unfold ckR
  cases hg : (isSz s && isDir how)
  · simp only [Bool.false_eq_true, if_false]
    exact check_bad s how _ _ ht3 hg
  · simp only [if_true]
    refine check_good s how [(a, e)] (w.heap.size + 1 + 1) 1 _ ht3 hg hO.lt (by simp) ?_
    intro k x hx
    match k, hx with
    | 0, hx => obtain rfl := Option.some.inj hx; exact ⟨hO.cell 0, hO.cell 1, la, ha⟩
    | k + 1, hx => simp at hx
theorem ck1_facts {s how a e : Int} (h : ckR s how [(a, e)] = 0) : isDir how = true ∧ vld s a e = true := by
  unfold ckR at h
  cases hg : (isSz s && isDir how)
  · rw [hg] at h; simp at h
  · rw [hg] at h
    simp only [if_true] at h
    rw [Bool.and_eq_true] at hg
    refine ⟨hg.2, ?_⟩
    unfold ckO at h
    by_cases hv : ([(a, e)].all fun x => vld s x.1 x.2) = true
    · simpa using hv
    · rw [if_neg hv] at h; omega

set_option maxRecDepth 100000 in
set_option maxHeartbeats 4000000 in
theorem neg_bad (s a e c : Int) (w : World) (ht : Tab w) (la : -9223372036854775808 ≤ a) (ha : a ≤ 9223372036854775807) (hc : ckR s 0 [(a, e)] = c) (h0 : (c != 0) = true) :
    Calls Tryd.prog 17 #[.int .i64 s, .agg #[.int .i64 a, .int .i64 e]] w fun x w' => x = .returned (.tuple #[.agg #[.int .i64 0, .int .i64 0], .int .i64 c]) ∧ Kept w w' := by
  have hlt := ht.lt
  have hlt0 := ht.lt0
  have hck := fun o1 o2 => check_one s 0 a e w ht o1 o2 la ha
  rw [hc] at hck
  have HC := Lib.hid hck
  clear hck hc
  go_enter Tryd.func17, Tryd.ntmps17
  go_wp2_with (first | (go_at_call 33; (with_reducible refine (HC.out _ _).mono ?_); rintro e w1 ⟨rfl, hk1⟩; obtain ⟨hc1, hf1⟩ := bcell hk1.2; have ht1 := hk1.1; have hz1 := hk1.2.size; (try simp only [World.size_alloc] at hz1); (try simp only [sz_drew] at hz1); (try simp only [sz_drewN] at hz1); (try simp only [World.size_alloc] at hz1); (try simp only [sz_drew] at hc1 hf1); (try simp only [sz_drewN] at hc1 hf1); (try have hw1 : w.heap.size < w1.heap.size := by omega); (try have hv1 : w.heap.size + 1 < w1.heap.size := by omega); (try have hu1 : w.heap.size + 2 < w1.heap.size := by omega)))
  have hI := ((Inv.two ht 25 [.int .i64 a, .int .i64 e] 25 [.int .i64 0, .int .i64 0]).alloc _).call hk1
  have hF := ((hI.own 1 _ rfl).put 0 (.int .i64 0)).put 1 (.int .i64 0)
  refine bodyPost_ret (ret_own_tmp rfl hF rfl Tryd.underlying25 rfl (by kernel_rfl)) rfl ?_
  exact ⟨rfl, (by repeat' (first | (with_reducible assumption) | (with_reducible exact Kept.refl ht) | (with_reducible refine Kept.alloc ?_ _) | (with_reducible refine Kept.drew ?_) | (with_reducible refine Kept.drewN ?_ _) | (with_reducible refine Kept.setCell ?_ ?_ _ ?_ ?_) | (with_reducible refine Kept.trans ?_ (by assumption)) | omega | (simp; done) | (simp; omega)))⟩

set_option maxRecDepth 100000 in
set_option maxHeartbeats 4000000 in
theorem neg_good (s a e : Int) (w : World) (ht : Tab w) (hc : ckR s 0 [(a, e)] = 0) :
    Calls Tryd.prog 17 #[.int .i64 s, .agg #[.int .i64 a, .int .i64 e]] w fun x w' => x = .returned (.tuple #[.agg #[.int .i64 (-a), .int .i64 e], .int .i64 0]) ∧ Kept w w' := by
  have hlt := ht.lt
  have hlt0 := ht.lt0
  obtain ⟨_, v1⟩ := ck1_facts hc
  obtain ⟨_, _, _, _, a4, a5⟩ := vld_facts v1
  have hck := fun o1 o2 => check_one s 0 a e w ht o1 o2 (by omega) (by omega)
  rw [hc] at hck
  have HC := Lib.hid hck
  have HN := Lib.hid (fun w ht => negative_any a e w ht (by omega) (by omega))
  clear hck hc v1
  go_enter Tryd.func17, Tryd.ntmps17
  go_upto_region 4 with (first | (go_at_call 33; (with_reducible refine (HC.out _ _).mono ?_); rintro e w1 ⟨rfl, hk1⟩; obtain ⟨hc1, hf1⟩ := bcell hk1.2; have ht1 := hk1.1; have hz1 := hk1.2.size; (try simp only [World.size_alloc] at hz1); (try simp only [sz_drew] at hz1); (try simp only [sz_drewN] at hz1); (try simp only [World.size_alloc] at hz1); (try simp only [sz_drew] at hc1 hf1); (try simp only [sz_drewN] at hc1 hf1); (try have hw1 : w.heap.size < w1.heap.size := by omega); (try have hv1 : w.heap.size + 1 < w1.heap.size := by omega); (try have hu1 : w.heap.size + 2 < w1.heap.size := by omega)))
  have hI := ((Inv.two ht 25 [.int .i64 a, .int .i64 e] 25 [.int .i64 0, .int .i64 0]).alloc _).call hk1
  clear hc1 hf1
  have HZ : Hid (Own w1 (w.heap.size + 1) 25 [.int .i64 0, .int .i64 0]) := Lib.hid (hI.own 1 _ rfl)
  (have x0 : w1.cell? ⟨w.heap.size, 0, none⟩ = some (.int .i64 a) := (hI.own 0 _ rfl).cell 0; have x1 : w1.cell? ⟨w.heap.size, 1, none⟩ = some (.int .i64 e) := (hI.own 0 _ rfl).cell 1; have xf := fun i => (hI.own 0 _ rfl).frozen i; have xl : w.heap.size < w1.heap.size := (hI.own 0 _ rfl).lt)
  (have z0 : w1.cell? ⟨w.heap.size + 1, 0, none⟩ = some (.int .i64 0) := (hI.own 1 _ rfl).cell 0; have z1 : w1.cell? ⟨w.heap.size + 1, 1, none⟩ = some (.int .i64 0) := (hI.own 1 _ rfl).cell 1; have zf := fun i => (hI.own 1 _ rfl).frozen i; have zl : w.heap.size + 1 < w1.heap.size := (hI.own 1 _ rfl).lt)
  clear hI
  go_wp2_with (first | (go_at_call 41; (with_reducible refine (HN.out _ (by repeat' (first | (with_reducible assumption) | (with_reducible refine Tab.alloc ?_ _) | (with_reducible refine Tab.drew ?_) | (with_reducible refine Tab.drewN ?_ _) | (with_reducible refine Tab.setCell ?_ ?_ ?_ _) | omega | (simp; done) | (simp; omega)))).mono ?_); rintro e w2 ⟨rfl, hk2⟩; obtain ⟨hc2, hf2⟩ := bcell hk2.2; have ht2 := hk2.1; have hz2 := hk2.2.size; (try simp only [World.size_alloc] at hz2); (try simp only [sz_drew] at hz2); (try simp only [sz_drewN] at hz2); (try simp only [World.size_alloc] at hz2); (try simp only [sz_drew] at hc2 hf2); (try simp only [sz_drewN] at hc2 hf2); (try have hw2 : w.heap.size < w2.heap.size := by omega); (try have hv2 : w.heap.size + 1 < w2.heap.size := by omega); (try have hu2 : w.heap.size + 2 < w2.heap.size := by omega)))
  have hF := ((HZ.out.call hk2).put 0 (.int .i64 (-a))).put 1 (.int .i64 e)
  refine bodyPost_ret (ret_own_tmp rfl hF rfl Tryd.underlying25 rfl (by kernel_rfl)) rfl ?_
  exact ⟨rfl, (by repeat' (first | (with_reducible assumption) | (with_reducible exact Kept.refl ht) | (with_reducible refine Kept.alloc ?_ _) | (with_reducible refine Kept.drew ?_) | (with_reducible refine Kept.drewN ?_ _) | (with_reducible refine Kept.setCell ?_ ?_ _ ?_ ?_) | (with_reducible refine Kept.trans ?_ (by assumption)) | omega | (simp; done) | (simp; omega)))⟩

set_option maxRecDepth 100000 in
set_option maxHeartbeats 4000000 in
theorem abs_bad (s a e c : Int) (w : World) (ht : Tab w) (la : -9223372036854775808 ≤ a) (ha : a ≤ 9223372036854775807) (hc : ckR s 0 [(a, e)] = c) (h0 : (c != 0) = true) :
    Calls Tryd.prog 19 #[.int .i64 s, .agg #[.int .i64 a, .int .i64 e]] w fun x w' => x = .returned (.tuple #[.agg #[.int .i64 0, .int .i64 0], .int .i64 c]) ∧ Kept w w' := by
  have hlt := ht.lt
  have hlt0 := ht.lt0
  have hck := fun o1 o2 => check_one s 0 a e w ht o1 o2 la ha
  rw [hc] at hck
  have HC := Lib.hid hck
  clear hck hc
  go_enter Tryd.func19, Tryd.ntmps19
  go_wp2_with (first | (go_at_call 33; (with_reducible refine (HC.out _ _).mono ?_); rintro e w1 ⟨rfl, hk1⟩; obtain ⟨hc1, hf1⟩ := bcell hk1.2; have ht1 := hk1.1; have hz1 := hk1.2.size; (try simp only [World.size_alloc] at hz1); (try simp only [sz_drew] at hz1); (try simp only [sz_drewN] at hz1); (try simp only [World.size_alloc] at hz1); (try simp only [sz_drew] at hc1 hf1); (try simp only [sz_drewN] at hc1 hf1); (try have hw1 : w.heap.size < w1.heap.size := by omega); (try have hv1 : w.heap.size + 1 < w1.heap.size := by omega); (try have hu1 : w.heap.size + 2 < w1.heap.size := by omega)))
  have hI := ((Inv.two ht 25 [.int .i64 a, .int .i64 e] 25 [.int .i64 0, .int .i64 0]).alloc _).call hk1
  have hF := ((hI.own 1 _ rfl).put 0 (.int .i64 0)).put 1 (.int .i64 0)
  refine bodyPost_ret (ret_own_tmp rfl hF rfl Tryd.underlying25 rfl (by kernel_rfl)) rfl ?_
  exact ⟨rfl, (by repeat' (first | (with_reducible assumption) | (with_reducible exact Kept.refl ht) | (with_reducible refine Kept.alloc ?_ _) | (with_reducible refine Kept.drew ?_) | (with_reducible refine Kept.drewN ?_ _) | (with_reducible refine Kept.setCell ?_ ?_ _ ?_ ?_) | (with_reducible refine Kept.trans ?_ (by assumption)) | omega | (simp; done) | (simp; omega)))⟩

set_option maxRecDepth 100000 in
set_option maxHeartbeats 4000000 in
theorem leng_bad (s a e c : Int) (w : World) (ht : Tab w) (hs1 : (s == 1) = false) (la : -9223372036854775808 ≤ a) (ha : a ≤ 9223372036854775807) (hc : ckR s 0 [(a, e)] = c) (h0 : (c != 0) = true) :
    Calls Tryd.prog 27 #[.int .i64 s, .agg #[.int .i64 a, .int .i64 e]] w fun x w' => x = .returned (.tuple #[.agg #[.int .i64 0, .int .i64 0], .int .i64 c]) ∧ Kept w w' := by
  have hlt := ht.lt
  have hlt0 := ht.lt0
  have hck := fun o1 o2 => check_one s 0 a e w ht o1 o2 la ha
  rw [hc] at hck
  have HC := Lib.hid hck
  clear hck hc
  go_enter Tryd.func27, Tryd.ntmps27
  go_wp2_with (first | (go_at_call 33; (with_reducible refine (HC.out _ _).mono ?_); rintro e w1 ⟨rfl, hk1⟩; obtain ⟨hc1, hf1⟩ := bcell hk1.2; have ht1 := hk1.1; have hz1 := hk1.2.size; (try simp only [World.size_alloc] at hz1); (try simp only [sz_drew] at hz1); (try simp only [sz_drewN] at hz1); (try simp only [World.size_alloc] at hz1); (try simp only [sz_drew] at hc1 hf1); (try simp only [sz_drewN] at hc1 hf1); (try have hw1 : w.heap.size < w1.heap.size := by omega); (try have hv1 : w.heap.size + 1 < w1.heap.size := by omega); (try have hu1 : w.heap.size + 2 < w1.heap.size := by omega)))
  have hI := ((Inv.two ht 25 [.int .i64 a, .int .i64 e] 25 [.int .i64 0, .int .i64 0]).alloc _).call hk1
  have hF := ((hI.own 1 _ rfl).put 0 (.int .i64 0)).put 1 (.int .i64 0)
  refine bodyPost_ret (ret_own_tmp rfl hF rfl Tryd.underlying25 rfl (by kernel_rfl)) rfl ?_
  exact ⟨rfl, (by repeat' (first | (with_reducible assumption) | (with_reducible exact Kept.refl ht) | (with_reducible refine Kept.alloc ?_ _) | (with_reducible refine Kept.drew ?_) | (with_reducible refine Kept.drewN ?_ _) | (with_reducible refine Kept.setCell ?_ ?_ _ ?_ ?_) | (with_reducible refine Kept.trans ?_ (by assumption)) | omega | (simp; done) | (simp; omega)))⟩

set_option maxRecDepth 100000 in
set_option maxHeartbeats 4000000 in
theorem sqrt_bad (s how a e c : Int) (w : World) (ht : Tab w) (la : -9223372036854775808 ≤ a) (ha : a ≤ 9223372036854775807) (hc : ckR s how [(a, e)] = c) (h0 : (c != 0) = true) :
    Calls Tryd.prog 15 #[.int .i64 s, .int .i64 how, .agg #[.int .i64 a, .int .i64 e]] w fun x w' => x = .returned (.tuple #[.agg #[.int .i64 0, .int .i64 0], .int .i64 c]) ∧ Kept w w' := by
  have hlt := ht.lt
  have hlt0 := ht.lt0
  have hck := fun o1 o2 => check_one s how a e w ht o1 o2 la ha
  rw [hc] at hck
  have HC := Lib.hid hck
  clear hck hc
  go_enter Tryd.func15, Tryd.ntmps15
  go_wp2_with (first | (go_at_call 33; (with_reducible refine (HC.out _ _).mono ?_); rintro e w1 ⟨rfl, hk1⟩; obtain ⟨hc1, hf1⟩ := bcell hk1.2; have ht1 := hk1.1; have hz1 := hk1.2.size; (try simp only [World.size_alloc] at hz1); (try simp only [sz_drew] at hz1); (try simp only [sz_drewN] at hz1); (try simp only [World.size_alloc] at hz1); (try simp only [sz_drew] at hc1 hf1); (try simp only [sz_drewN] at hc1 hf1); (try have hw1 : w.heap.size < w1.heap.size := by omega); (try have hv1 : w.heap.size + 1 < w1.heap.size := by omega); (try have hu1 : w.heap.size + 2 < w1.heap.size := by omega)))
  have hI := ((Inv.two ht 25 [.int .i64 a, .int .i64 e] 25 [.int .i64 0, .int .i64 0]).alloc _).call hk1
  have hF := ((hI.own 1 _ rfl).put 0 (.int .i64 0)).put 1 (.int .i64 0)
  refine bodyPost_ret (ret_own_tmp rfl hF rfl Tryd.underlying25 rfl (by kernel_rfl)) rfl ?_
  exact ⟨rfl, (by repeat' (first | (with_reducible assumption) | (with_reducible exact Kept.refl ht) | (with_reducible refine Kept.alloc ?_ _) | (with_reducible refine Kept.drew ?_) | (with_reducible refine Kept.drewN ?_ _) | (with_reducible refine Kept.setCell ?_ ?_ _ ?_ ?_) | (with_reducible refine Kept.trans ?_ (by assumption)) | omega | (simp; done) | (simp; omega)))⟩

set_option maxRecDepth 100000 in
set_option maxHeartbeats 4000000 in
theorem shorten_bad (s how a e c : Int) (w : World) (ht : Tab w) (hs1 : (s == -1) = false) (la : -9223372036854775808 ≤ a) (ha : a ≤ 9223372036854775807) (hc : ckR s how [(a, e)] = c) (h0 : (c != 0) = true) :
    Calls Tryd.prog 29 #[.int .i64 s, .int .i64 how, .agg #[.int .i64 a, .int .i64 e]] w fun x w' => x = .returned (.tuple #[.agg #[.int .i64 0, .int .i64 0], .int .i64 c]) ∧ Kept w w' := by
  have hlt := ht.lt
  have hlt0 := ht.lt0
  have hck := fun o1 o2 => check_one s how a e w ht o1 o2 la ha
  rw [hc] at hck
  have HC := Lib.hid hck
  clear hck hc
  go_enter Tryd.func29, Tryd.ntmps29
  go_wp2_with (first | (go_at_call 33; (with_reducible refine (HC.out _ _).mono ?_); rintro e w1 ⟨rfl, hk1⟩; obtain ⟨hc1, hf1⟩ := bcell hk1.2; have ht1 := hk1.1; have hz1 := hk1.2.size; (try simp only [World.size_alloc] at hz1); (try simp only [sz_drew] at hz1); (try simp only [sz_drewN] at hz1); (try simp only [World.size_alloc] at hz1); (try simp only [sz_drew] at hc1 hf1); (try simp only [sz_drewN] at hc1 hf1); (try have hw1 : w.heap.size < w1.heap.size := by omega); (try have hv1 : w.heap.size + 1 < w1.heap.size := by omega); (try have hu1 : w.heap.size + 2 < w1.heap.size := by omega)))
  have hI := ((Inv.two ht 25 [.int .i64 a, .int .i64 e] 25 [.int .i64 0, .int .i64 0]).alloc _).call hk1
  have hF := ((hI.own 1 _ rfl).put 0 (.int .i64 0)).put 1 (.int .i64 0)
  refine bodyPost_ret (ret_own_tmp rfl hF rfl Tryd.underlying25 rfl (by kernel_rfl)) rfl ?_
  exact ⟨rfl, (by repeat' (first | (with_reducible assumption) | (with_reducible exact Kept.refl ht) | (with_reducible refine Kept.alloc ?_ _) | (with_reducible refine Kept.drew ?_) | (with_reducible refine Kept.drewN ?_ _) | (with_reducible refine Kept.setCell ?_ ?_ _ ?_ ?_) | (with_reducible refine Kept.trans ?_ (by assumption)) | omega | (simp; done) | (simp; omega)))⟩

set_option maxRecDepth 100000 in
theorem leng_size (a e : Int) (w : World) (ht : Tab w) :
    Calls Tryd.prog 27 #[.int .i64 1, .agg #[.int .i64 a, .int .i64 e]] w fun x w' => x = .returned (.tuple #[.agg #[.int .i64 0, .int .i64 0], .int .i64 1]) ∧ Kept w w' := by
  have hlt := ht.lt
  have hlt0 := ht.lt0
  go_enter Tryd.func27, Tryd.ntmps27
  go_wp2
  have hI := (Inv.two ht 25 [.int .i64 a, .int .i64 e] 25 [.int .i64 0, .int .i64 0])
  have hF := hI.own 1 _ rfl
  refine bodyPost_ret (ret_own_tmp rfl hF rfl Tryd.underlying25 rfl (by kernel_rfl)) rfl ?_
  exact ⟨rfl, (by repeat' (first | (with_reducible assumption) | (with_reducible exact Kept.refl ht) | (with_reducible refine Kept.alloc ?_ _) | (with_reducible refine Kept.drew ?_) | (with_reducible refine Kept.drewN ?_ _) | (with_reducible refine Kept.setCell ?_ ?_ _ ?_ ?_) | (with_reducible refine Kept.trans ?_ (by assumption)) | omega | (simp; done) | (simp; omega)))⟩

set_option maxRecDepth 100000 in
theorem shorten_size (how a e : Int) (w : World) (ht : Tab w) :
    Calls Tryd.prog 29 #[.int .i64 (-1), .int .i64 how, .agg #[.int .i64 a, .int .i64 e]] w fun x w' => x = .returned (.tuple #[.agg #[.int .i64 0, .int .i64 0], .int .i64 1]) ∧ Kept w w' := by
  have hlt := ht.lt
  have hlt0 := ht.lt0
  go_enter Tryd.func29, Tryd.ntmps29
  go_wp2
  have hI := (Inv.two ht 25 [.int .i64 a, .int .i64 e] 25 [.int .i64 0, .int .i64 0])
  have hF := hI.own 1 _ rfl
  refine bodyPost_ret (ret_own_tmp rfl hF rfl Tryd.underlying25 rfl (by kernel_rfl)) rfl ?_
  exact ⟨rfl, (by repeat' (first | (with_reducible assumption) | (with_reducible exact Kept.refl ht) | (with_reducible refine Kept.alloc ?_ _) | (with_reducible refine Kept.drew ?_) | (with_reducible refine Kept.drewN ?_ _) | (with_reducible refine Kept.setCell ?_ ?_ _ ?_ ?_) | (with_reducible refine Kept.trans ?_ (by assumption)) | omega | (simp; done) | (simp; omega)))⟩

set_option maxRecDepth 100000 in
set_option maxHeartbeats 4000000 in
theorem abs_neg (s a e : Int) (w : World) (ht : Tab w) (hc : ckR s 0 [(a, e)] = 0) (hn : decide (a < 0) = true) :
    Calls Tryd.prog 19 #[.int .i64 s, .agg #[.int .i64 a, .int .i64 e]] w fun x w' => x = .returned (.tuple #[.agg #[.int .i64 (-a), .int .i64 e], .int .i64 0]) ∧ Kept w w' := by
  have hlt := ht.lt
  have hlt0 := ht.lt0
  obtain ⟨_, v1⟩ := ck1_facts hc
  obtain ⟨_, _, _, _, a4, a5⟩ := vld_facts v1
  have hck := fun o1 o2 => check_one s 0 a e w ht o1 o2 (by omega) (by omega)
  rw [hc] at hck
  have HC := Lib.hid hck
  have HN := Lib.hid (fun w ht => negative_any a e w ht (by omega) (by omega))
  clear hck hc v1
  go_enter Tryd.func19, Tryd.ntmps19
  go_upto_region 4 with (first | (go_at_call 33; (with_reducible refine (HC.out _ _).mono ?_); rintro e w1 ⟨rfl, hk1⟩; obtain ⟨hc1, hf1⟩ := bcell hk1.2; have ht1 := hk1.1; have hz1 := hk1.2.size; (try simp only [World.size_alloc] at hz1); (try simp only [sz_drew] at hz1); (try simp only [sz_drewN] at hz1); (try simp only [World.size_alloc] at hz1); (try simp only [sz_drew] at hc1 hf1); (try simp only [sz_drewN] at hc1 hf1); (try have hw1 : w.heap.size < w1.heap.size := by omega); (try have hv1 : w.heap.size + 1 < w1.heap.size := by omega); (try have hu1 : w.heap.size + 2 < w1.heap.size := by omega)))
  have hI := ((Inv.two ht 25 [.int .i64 a, .int .i64 e] 25 [.int .i64 0, .int .i64 0]).alloc _).call hk1
  clear hc1 hf1
  have HZ : Hid (Own w1 (w.heap.size + 1) 25 [.int .i64 0, .int .i64 0]) := Lib.hid (hI.own 1 _ rfl)
  (have x0 : w1.cell? ⟨w.heap.size, 0, none⟩ = some (.int .i64 a) := (hI.own 0 _ rfl).cell 0; have x1 : w1.cell? ⟨w.heap.size, 1, none⟩ = some (.int .i64 e) := (hI.own 0 _ rfl).cell 1; have xf := fun i => (hI.own 0 _ rfl).frozen i; have xl : w.heap.size < w1.heap.size := (hI.own 0 _ rfl).lt)
  (have z0 : w1.cell? ⟨w.heap.size + 1, 0, none⟩ = some (.int .i64 0) := (hI.own 1 _ rfl).cell 0; have z1 : w1.cell? ⟨w.heap.size + 1, 1, none⟩ = some (.int .i64 0) := (hI.own 1 _ rfl).cell 1; have zf := fun i => (hI.own 1 _ rfl).frozen i; have zl : w.heap.size + 1 < w1.heap.size := (hI.own 1 _ rfl).lt)
  clear hI
  go_wp2_with (first | (go_at_call 41; (with_reducible refine (HN.out _ (by repeat' (first | (with_reducible assumption) | (with_reducible refine Tab.alloc ?_ _) | (with_reducible refine Tab.drew ?_) | (with_reducible refine Tab.drewN ?_ _) | (with_reducible refine Tab.setCell ?_ ?_ ?_ _) | omega | (simp; done) | (simp; omega)))).mono ?_); rintro e w2 ⟨rfl, hk2⟩; obtain ⟨hc2, hf2⟩ := bcell hk2.2; have ht2 := hk2.1; have hz2 := hk2.2.size; (try simp only [World.size_alloc] at hz2); (try simp only [sz_drew] at hz2); (try simp only [sz_drewN] at hz2); (try simp only [World.size_alloc] at hz2); (try simp only [sz_drew] at hc2 hf2); (try simp only [sz_drewN] at hc2 hf2); (try have hw2 : w.heap.size < w2.heap.size := by omega); (try have hv2 : w.heap.size + 1 < w2.heap.size := by omega); (try have hu2 : w.heap.size + 2 < w2.heap.size := by omega)))
  have hF := ((HZ.out.call hk2).put 0 (.int .i64 (-a))).put 1 (.int .i64 e)
  refine bodyPost_ret (ret_own_tmp rfl hF rfl Tryd.underlying25 rfl (by kernel_rfl)) rfl ?_
  exact ⟨rfl, (by repeat' (first | (with_reducible assumption) | (with_reducible exact Kept.refl ht) | (with_reducible refine Kept.alloc ?_ _) | (with_reducible refine Kept.drew ?_) | (with_reducible refine Kept.drewN ?_ _) | (with_reducible refine Kept.setCell ?_ ?_ _ ?_ ?_) | (with_reducible refine Kept.trans ?_ (by assumption)) | omega | (simp; done) | (simp; omega)))⟩

set_option maxRecDepth 100000 in
set_option maxHeartbeats 4000000 in
theorem abs_pos (s a e : Int) (w : World) (ht : Tab w) (hc : ckR s 0 [(a, e)] = 0) (hn : decide (a < 0) = false) :
    Calls Tryd.prog 19 #[.int .i64 s, .agg #[.int .i64 a, .int .i64 e]] w fun x w' => x = .returned (.tuple #[.agg #[.int .i64 a, .int .i64 e], .int .i64 0]) ∧ Kept w w' := by
  have hlt := ht.lt
  have hlt0 := ht.lt0
  obtain ⟨_, v1⟩ := ck1_facts hc
  obtain ⟨_, _, _, _, a4, a5⟩ := vld_facts v1
  have hck := fun o1 o2 => check_one s 0 a e w ht o1 o2 (by omega) (by omega)
  rw [hc] at hck
  have HC := Lib.hid hck
  clear hck hc v1
  go_enter Tryd.func19, Tryd.ntmps19
  go_upto_region 4 with (first | (go_at_call 33; (with_reducible refine (HC.out _ _).mono ?_); rintro e w1 ⟨rfl, hk1⟩; obtain ⟨hc1, hf1⟩ := bcell hk1.2; have ht1 := hk1.1; have hz1 := hk1.2.size; (try simp only [World.size_alloc] at hz1); (try simp only [sz_drew] at hz1); (try simp only [sz_drewN] at hz1); (try simp only [World.size_alloc] at hz1); (try simp only [sz_drew] at hc1 hf1); (try simp only [sz_drewN] at hc1 hf1); (try have hw1 : w.heap.size < w1.heap.size := by omega); (try have hv1 : w.heap.size + 1 < w1.heap.size := by omega); (try have hu1 : w.heap.size + 2 < w1.heap.size := by omega)))
  have hI := ((Inv.two ht 25 [.int .i64 a, .int .i64 e] 25 [.int .i64 0, .int .i64 0]).alloc _).call hk1
  clear hc1 hf1
  have HZ : Hid (Own w1 (w.heap.size + 1) 25 [.int .i64 0, .int .i64 0]) := Lib.hid (hI.own 1 _ rfl)
  (have x0 : w1.cell? ⟨w.heap.size, 0, none⟩ = some (.int .i64 a) := (hI.own 0 _ rfl).cell 0; have x1 : w1.cell? ⟨w.heap.size, 1, none⟩ = some (.int .i64 e) := (hI.own 0 _ rfl).cell 1; have xf := fun i => (hI.own 0 _ rfl).frozen i; have xl : w.heap.size < w1.heap.size := (hI.own 0 _ rfl).lt)
  (have z0 : w1.cell? ⟨w.heap.size + 1, 0, none⟩ = some (.int .i64 0) := (hI.own 1 _ rfl).cell 0; have z1 : w1.cell? ⟨w.heap.size + 1, 1, none⟩ = some (.int .i64 0) := (hI.own 1 _ rfl).cell 1; have zf := fun i => (hI.own 1 _ rfl).frozen i; have zl : w.heap.size + 1 < w1.heap.size := (hI.own 1 _ rfl).lt)
  clear hI
  go_wp2
  have hF := ((HZ.out).put 0 (.int .i64 a)).put 1 (.int .i64 e)
  refine bodyPost_ret (ret_own_tmp rfl hF rfl Tryd.underlying25 rfl (by kernel_rfl)) rfl ?_
  exact ⟨rfl, (by repeat' (first | (with_reducible assumption) | (with_reducible exact Kept.refl ht) | (with_reducible refine Kept.alloc ?_ _) | (with_reducible refine Kept.drew ?_) | (with_reducible refine Kept.drewN ?_ _) | (with_reducible refine Kept.setCell ?_ ?_ _ ?_ ?_) | (with_reducible refine Kept.trans ?_ (by assumption)) | omega | (simp; done) | (simp; omega)))⟩

set_option maxRecDepth 100000 in
set_option maxHeartbeats 4000000 in
theorem leng_good (s a e : Int) (w : World) (ht : Tab w) (hs1 : (s == 1) = false) (hc : ckR s 0 [(a, e)] = 0) :
    Calls Tryd.prog 27 #[.int .i64 s, .agg #[.int .i64 a, .int .i64 e]] w fun x w' => x = .returned (.tuple #[.agg #[.int .i64 a, .int .i64 e], .int .i64 0]) ∧ Kept w w' := by
  have hlt := ht.lt
  have hlt0 := ht.lt0
  obtain ⟨_, v1⟩ := ck1_facts hc
  obtain ⟨_, _, _, _, a4, a5⟩ := vld_facts v1
  have hck := fun o1 o2 => check_one s 0 a e w ht o1 o2 (by omega) (by omega)
  rw [hc] at hck
  have HC := Lib.hid hck
  clear hck hc v1
  go_enter Tryd.func27, Tryd.ntmps27
  go_upto_region 6 with (first | (go_at_call 33; (with_reducible refine (HC.out _ _).mono ?_); rintro e w1 ⟨rfl, hk1⟩; obtain ⟨hc1, hf1⟩ := bcell hk1.2; have ht1 := hk1.1; have hz1 := hk1.2.size; (try simp only [World.size_alloc] at hz1); (try simp only [sz_drew] at hz1); (try simp only [sz_drewN] at hz1); (try simp only [World.size_alloc] at hz1); (try simp only [sz_drew] at hc1 hf1); (try simp only [sz_drewN] at hc1 hf1); (try have hw1 : w.heap.size < w1.heap.size := by omega); (try have hv1 : w.heap.size + 1 < w1.heap.size := by omega); (try have hu1 : w.heap.size + 2 < w1.heap.size := by omega)))
  have hI := ((Inv.two ht 25 [.int .i64 a, .int .i64 e] 25 [.int .i64 0, .int .i64 0]).alloc _).call hk1
  clear hc1 hf1
  have HZ : Hid (Own w1 (w.heap.size + 1) 25 [.int .i64 0, .int .i64 0]) := Lib.hid (hI.own 1 _ rfl)
  (have x0 : w1.cell? ⟨w.heap.size, 0, none⟩ = some (.int .i64 a) := (hI.own 0 _ rfl).cell 0; have x1 : w1.cell? ⟨w.heap.size, 1, none⟩ = some (.int .i64 e) := (hI.own 0 _ rfl).cell 1; have xf := fun i => (hI.own 0 _ rfl).frozen i; have xl : w.heap.size < w1.heap.size := (hI.own 0 _ rfl).lt)
  (have z0 : w1.cell? ⟨w.heap.size + 1, 0, none⟩ = some (.int .i64 0) := (hI.own 1 _ rfl).cell 0; have z1 : w1.cell? ⟨w.heap.size + 1, 1, none⟩ = some (.int .i64 0) := (hI.own 1 _ rfl).cell 1; have zf := fun i => (hI.own 1 _ rfl).frozen i; have zl : w.heap.size + 1 < w1.heap.size := (hI.own 1 _ rfl).lt)
  clear hI
  go_wp2
  have hF := ((HZ.out).put 0 (.int .i64 a)).put 1 (.int .i64 e)
  refine bodyPost_ret (ret_own_tmp rfl hF rfl Tryd.underlying25 rfl (by kernel_rfl)) rfl ?_
  exact ⟨rfl, (by repeat' (first | (with_reducible assumption) | (with_reducible exact Kept.refl ht) | (with_reducible refine Kept.alloc ?_ _) | (with_reducible refine Kept.drew ?_) | (with_reducible refine Kept.drewN ?_ _) | (with_reducible refine Kept.setCell ?_ ?_ _ ?_ ?_) | (with_reducible refine Kept.trans ?_ (by assumption)) | omega | (simp; done) | (simp; omega)))⟩
end Go.Proofs.YtanfhlkfmmglhaaDoor
