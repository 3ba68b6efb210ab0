/- The reference's Sqrt. Condition: the tables hold what their initialisers lay. -/
import Derived.Test.YtanfhlkfmmglhaaDoorGRu
import Derived.Test.YtanfhlkfmmglhaaDoorGRk
import Derived.Test.YtanfhlkfmmglhaaDoorGRi
namespace Go.Proofs.YtanfhlkfmmglhaaDoor
open Go.ChangeShapes Go.WideShapes Go.ChangeAt Go.RowKit
attribute [local go_sem ↓] Go.wp_at_zero Go.wp_at_succ

theorem tdiv_half {x T : Int} (h : x = 2 * T) : x.tdiv 2 = T := by rw [h]; exact Int.mul_tdiv_cancel_left _ (by decide)
theorem tmod_odd_neg {e : Int} (h : e < 0) (h2 : e % 2 = 1) : e.tmod 2 = -1 := by
  obtain ⟨m, rfl⟩ : ∃ m : Int, e = -m := ⟨-e, by omega⟩
  rw [Int.neg_tmod, Int.tmod_eq_emod_of_nonneg (by omega)]
  omega
theorem tmod_even_neg {e : Int} (h : e < 0) (h2 : e % 2 = 0) : e.tmod 2 = 0 := by
  obtain ⟨m, rfl⟩ : ∃ m : Int, e = -m := ⟨-e, by omega⟩
  rw [Int.neg_tmod, Int.tmod_eq_emod_of_nonneg (by omega)]
  omega
set_option maxRecDepth 100000 in
set_option maxHeartbeats 16000000 in
theorem rsqrt_neg (s how a e : Int) (w : World) (ht : Tab w) (hc : ckR s how [(a, e)] = 0) (hn : a < 0) :
    Calls Tryd.prog 16 #[.int .i64 s, .int .i64 how, .agg #[.int .i64 a, .int .i64 e]] w fun x w' => x = .returned (.tuple #[.agg #[.int .i64 0, .int .i64 0], .int .i64 11]) ∧ Kept w w' := by
  have hlt := ht.lt
  have hlt0 := ht.lt0
  obtain ⟨_, v1⟩ := ck1_facts hc
  obtain ⟨_, _, _, _, a4, a5⟩ := vld_facts v1
  have hck := fun w ht => right_one s how a e w ht (by omega) (by omega)
  rw [hc] at hck
  have HC := Lib.hid hck
  clear hck hc v1
  go_enter Tryd.func16, Tryd.ntmps16
  go_upto_region 4 with (first | (go_at_call 37; (with_reducible refine (HC.out _ (by repeat' (first | (with_reducible assumption) | (with_reducible refine Tab.alloc ?_ _) | (with_reducible refine Tab.drew ?_) | (with_reducible refine Tab.drewN ?_ _) | (with_reducible refine Tab.setCell ?_ ?_ ?_ _) | omega | (simp; done) | (simp; omega)))).mono ?_); rintro e w1 ⟨rfl, hk1⟩; obtain ⟨hc1, hf1⟩ := bcell hk1.2; have ht1 := hk1.1; have hz1 := hk1.2.size; (try simp only [World.size_alloc] at hz1); (try simp only [sz_drew] at hz1); (try simp only [sz_drewN] at hz1); (try simp only [World.size_alloc] at hz1); (try simp only [sz_drew] at hc1 hf1); (try simp only [sz_drewN] at hc1 hf1); (try have hw1 : w.heap.size < w1.heap.size := by omega); (try have hv1 : w.heap.size + 1 < w1.heap.size := by omega); (try have hu1 : w.heap.size + 2 < w1.heap.size := by omega)))
  have hI := (Inv.two ht 25 [.int .i64 a, .int .i64 e] 25 [.int .i64 0, .int .i64 0]).call hk1
  clear hc1 hf1
  have HZ : Hid (Own w1 (w.heap.size + 1) 25 [.int .i64 0, .int .i64 0]) := Lib.hid (hI.own 1 _ rfl)
  (have x0 : w1.cell? ⟨w.heap.size, 0, none⟩ = some (.int .i64 a) := (hI.own 0 _ rfl).cell 0; have x1 : w1.cell? ⟨w.heap.size, 1, none⟩ = some (.int .i64 e) := (hI.own 0 _ rfl).cell 1; have xf := fun i => (hI.own 0 _ rfl).frozen i; have xl : w.heap.size < w1.heap.size := (hI.own 0 _ rfl).lt)
  (have z0 : w1.cell? ⟨w.heap.size + 1, 0, none⟩ = some (.int .i64 0) := (hI.own 1 _ rfl).cell 0; have z1 : w1.cell? ⟨w.heap.size + 1, 1, none⟩ = some (.int .i64 0) := (hI.own 1 _ rfl).cell 1; have zf := fun i => (hI.own 1 _ rfl).frozen i; have zl : w.heap.size + 1 < w1.heap.size := (hI.own 1 _ rfl).lt)
  clear hI
  go_wp2_with fail
  have hF := (HZ.out.put 0 (.int .i64 0)).put 1 (.int .i64 0)
  refine bodyPost_ret (ret_own_tmp rfl hF rfl Tryd.underlying25 rfl (by kernel_rfl)) rfl ?_
  exact ⟨rfl, (by repeat' (first | (with_reducible assumption) | (with_reducible exact Kept.refl ht) | (with_reducible refine Kept.alloc ?_ _) | (with_reducible refine Kept.drew ?_) | (with_reducible refine Kept.drewN ?_ _) | (with_reducible refine Kept.setCell ?_ ?_ _ ?_ ?_) | (with_reducible refine Kept.trans ?_ (by assumption)) | omega | (simp; done) | (simp; omega)))⟩
set_option maxRecDepth 100000 in
set_option maxHeartbeats 16000000 in
theorem rsqrt_evpa (s how a e T M E X : Int) (w : World) (ht : Tab w) (hc : ckR s how [(a, e)] = 0) (hn : ¬ a < 0) (hT : e - 60 = 2 * T) (hsg : 0 ≤ e - 60) (_hpe : 0 ≤ e) (hM : sRes s how a e = ⟨M, E, X⟩) :
    Calls Tryd.prog 16 #[.int .i64 s, .int .i64 how, .agg #[.int .i64 a, .int .i64 e]] w fun x w' => x = .returned (.tuple #[.agg #[.int .i64 M, .int .i64 E], .int .i64 X]) ∧ Kept w w' := by
  have hlt := ht.lt
  have hlt0 := ht.lt0
  obtain ⟨hd, v1⟩ := ck1_facts hc
  obtain ⟨hs, a1, a2, a3, a4, a5⟩ := vld_facts v1
  have hsz : isSz s = true := decide_eq_true hs
  have d1 := dg18 a1
  have hck := fun w ht => right_one s how a e w ht (by omega) (by omega)
  rw [hc] at hck
  have HC := Lib.hid hck
  have H1 := Lib.hid (fun w ht => Of_any a w ht (by omega) (by omega))
  have hr : rRes (pr s) how false (sc (isq (mag a * 10 ^ 60)) T) (decide (isq (mag a * 10 ^ 60) * isq (mag a * 10 ^ 60) ≠ mag a * 10 ^ 60)) = ⟨M, E, X⟩ := by
    rw [← hM]
    unfold sRes
    rw [okOr_zero _ hc, if_neg hn]
    by_cases ha0 : a = 0
    · rw [if_pos ha0]
      subst ha0
      rw [show mag 0 = 0 from rfl, Nat.zero_mul, show isq 0 = 0 by rw [isq]; simp]
      exact zero_rRes
    · rw [if_neg ha0]
      have := root_same (p := pr s) (how := how) (k := 60) (e := e) (n := mag a) (pr18 s) (by unfold mag; omega) d1 (by omega) (by omega) (by omega)
      rwa [show (e - ((60 : Nat) : Int)) / 2 = T by omega] at this
  have hmo : isq (mag a * 10 ^ 60) * isq (mag a * 10 ^ 60) ≠ mag a * 10 ^ 60 → 18 < dg (isq (mag a * 10 ^ 60)) := fun h => by
    by_cases ha0 : a = 0
    · subst ha0
      exact absurd (by rw [show mag 0 = 0 from rfl, Nat.zero_mul, show isq 0 = 0 by rw [isq]; simp]) h
    · exact root_dg (e := e) (by unfold mag; omega) d1 (by omega) (by omega)
  have hd60 : dg (mag a * 10 ^ 60) ≤ 90 := by
    have h1 := dg_mulle (mag a) (10 ^ 60)
    have h2 : dg (10 ^ 60) ≤ 62 := (dg_iff _ _).2 (Nat.pow_lt_pow_right (by omega) (by omega))
    omega
  have hsq := isq_spec (mag a * 10 ^ 60)
  have hdQ : dg (isq (mag a * 10 ^ 60)) ≤ 90 := by
    refine Nat.le_trans (dg_mono (Nat.le_trans (Nat.le_mul_self _) hsq.1)) hd60
  obtain ⟨lr, hlr⟩ : ∃ lr, (ds (mag a * 10 ^ 60 - isq (mag a * 10 ^ 60) * isq (mag a * 10 ^ 60))).length = lr := ⟨_, rfl⟩
  have H3 : Hid (∀ W, Tab W → ∀ u, Sl W u (ds (mag a)) → Calls Tryd.prog 47 #[u, .int .i64 60] W fun e w' => ∃ v', e = .returned v' ∧ Sl w' v' (ds (mag a * 10 ^ 60)) ∧ Kept W w') := Lib.hid (fun W h u hu => refshift u (mag a) 60 W h hu (by omega) (by omega))
  have H5 : Hid (∀ W, Tab W → ∀ u, Sl W u (ds (mag a * 10 ^ 60)) → Calls Tryd.prog 49 #[u] W fun x w' => ∃ b1 o1 n1 c1 b2 o2 c2 : Nat, x = .returned (.tuple #[.slice (some ⟨b1, o1, none⟩) n1 c1, .slice (some ⟨b2, o2, none⟩) lr c2]) ∧ Sl w' (.slice (some ⟨b1, o1, none⟩) n1 c1) (ds (isq (mag a * 10 ^ 60))) ∧ Kept W w') := Lib.hid (fun W h u hu => by
    refine (refroot u _ W h hu (by omega)).mono fun x w' ⟨q, r, hx, hq, hr, hk⟩ => ?_
    obtain ⟨b1, o1, c1, rfl, _⟩ := hq.form
    obtain ⟨b2, o2, c2, rfl, _⟩ := hr.form
    rw [hlr] at hx
    exact ⟨_, _, _, _, _, _, _, hx, hq, hk⟩)
  have H4 := Lib.hid (fun (v : Value) w ht h => gives_out2 hr (refRounded s how false (decide (isq (mag a * 10 ^ 60) * isq (mag a * 10 ^ 60) ≠ mag a * 10 ^ 60)) (isq (mag a * 10 ^ 60)) T v w ht h hsz hd (by omega) (by omega) (by omega) (fun h => hmo (of_decide_eq_true h))))
  have hcs : (isq (mag a * 10 ^ 60) * isq (mag a * 10 ^ 60) = mag a * 10 ^ 60 ∧ lr = 0) ∨ (isq (mag a * 10 ^ 60) * isq (mag a * 10 ^ 60) ≠ mag a * 10 ^ 60 ∧ 0 < lr) := by
    rw [← hlr, ds_len]
    by_cases h : isq (mag a * 10 ^ 60) * isq (mag a * 10 ^ 60) = mag a * 10 ^ 60
    · left; refine ⟨h, ?_⟩; rw [h, Nat.sub_self, dg_zero]
    · refine Or.inr ⟨h, ?_⟩
      have := dg_ne (n := mag a * 10 ^ 60 - isq (mag a * 10 ^ 60) * isq (mag a * 10 ^ 60)) (by omega)
      omega
  generalize isq (mag a * 10 ^ 60) = Q at *
  generalize mag a * 10 ^ 60 = R at *
  have t1 : e % 2 = 0 := by omega
  have t2 : (e - 60) / 2 = T := by first | (exact tdiv_half hT) | omega
  have t3 : -2000 ≤ T := by omega
  have t4 : T ≤ 2000 := by omega
  have t5 : (60 : Int) - 60 = 0 := by omega
  clear t5
  clear hck hc v1 a1 hM hr hs hsz hd d1 hmo hd60 hdQ hlr hsq hT
  rcases hcs with ⟨hR, rfl⟩ | ⟨hR, hlr0⟩
  all_goals
    (first | rw [decide_eq_true hR] at H4 | rw [decide_eq_false (not_not_intro hR)] at H4)
    clear hR
    go_enter Tryd.func16, Tryd.ntmps16
    go_upto_region 4 with (first | (go_at_call 37; (with_reducible refine (HC.out _ (by repeat' (first | (with_reducible assumption) | (with_reducible refine Tab.alloc ?_ _) | (with_reducible refine Tab.drew ?_) | (with_reducible refine Tab.drewN ?_ _) | (with_reducible refine Tab.setCell ?_ ?_ ?_ _) | omega | (simp; done) | (simp; omega)))).mono ?_); rintro e w1 ⟨rfl, hk1⟩; obtain ⟨hc1, hf1⟩ := bcell hk1.2; have ht1 := hk1.1; have hz1 := hk1.2.size; (try simp only [World.size_alloc] at hz1); (try simp only [sz_drew] at hz1); (try simp only [sz_drewN] at hz1); (try simp only [World.size_alloc] at hz1); (try simp only [sz_drew] at hc1 hf1); (try simp only [sz_drewN] at hc1 hf1); (try have hw1 : w.heap.size < w1.heap.size := by omega); (try have hv1 : w.heap.size + 1 < w1.heap.size := by omega); (try have hu1 : w.heap.size + 2 < w1.heap.size := by omega)))
    have hI := (Inv.two ht 25 [.int .i64 a, .int .i64 e] 25 [.int .i64 0, .int .i64 0]).call hk1
    clear hc1 hf1
    (have x0 : w1.cell? ⟨w.heap.size, 0, none⟩ = some (.int .i64 a) := (hI.own 0 _ rfl).cell 0; have x1 : w1.cell? ⟨w.heap.size, 1, none⟩ = some (.int .i64 e) := (hI.own 0 _ rfl).cell 1; have xf := fun i => (hI.own 0 _ rfl).frozen i; have xl : w.heap.size < w1.heap.size := (hI.own 0 _ rfl).lt)
    go_upto_region 10 with (first | (go_at_call 44; (with_reducible refine (H1.out _ (by repeat' (first | (with_reducible assumption) | (with_reducible refine Tab.alloc ?_ _) | (with_reducible refine Tab.drew ?_) | (with_reducible refine Tab.drewN ?_ _) | (with_reducible refine Tab.setCell ?_ ?_ ?_ _) | omega | (simp; done) | (simp; omega)))).mono ?_); rintro e w2 ⟨v2, rfl, hs2, hk2, -⟩; obtain ⟨hc2, hf2⟩ := bcell hk2.2; have ht2 := hk2.1; have hz2 := hk2.2.size; (try simp only [World.size_alloc] at hz2); (try simp only [sz_drew] at hz2); (try simp only [sz_drewN] at hz2); (try simp only [World.size_alloc] at hz2); (try simp only [sz_drew] at hc2 hf2); (try simp only [sz_drewN] at hc2 hf2); (try have hw2 : w.heap.size < w2.heap.size := by omega); (try have hv2 : w.heap.size + 1 < w2.heap.size := by omega); (try have hu2 : w.heap.size + 2 < w2.heap.size := by omega)) | (go_at_call 47; (with_reducible refine Calls.mono (H3.out _ (by repeat' (first | (with_reducible assumption) | (with_reducible refine Tab.alloc ?_ _) | (with_reducible refine Tab.drew ?_) | (with_reducible refine Tab.drewN ?_ _) | (with_reducible refine Tab.setCell ?_ ?_ ?_ _) | omega | (simp; done) | (simp; omega))) _ ?_) ?_); (focus (repeat' (first | (with_reducible assumption) | (with_reducible refine Sl.alloc ?_ _) | (with_reducible refine Sl.drew ?_) | (with_reducible refine Sl.drewN ?_ _) | (with_reducible refine Sl.call ?_ (by assumption))))); rintro e w3 ⟨v3, rfl, hs3, hk3⟩; obtain ⟨hc3, hf3⟩ := bcell hk3.2; have ht3 := hk3.1; have hz3 := hk3.2.size; (try simp only [World.size_alloc] at hz3); (try simp only [sz_drew] at hz3); (try simp only [sz_drewN] at hz3); (try simp only [World.size_alloc] at hz3); (try simp only [sz_drew] at hc3 hf3); (try simp only [sz_drewN] at hc3 hf3); (try have hw3 : w.heap.size < w3.heap.size := by omega); (try have hv3 : w.heap.size + 1 < w3.heap.size := by omega); (try have hu3 : w.heap.size + 2 < w3.heap.size := by omega)) | (go_at_call 49; (with_reducible refine Calls.mono (H5.out _ (by repeat' (first | (with_reducible assumption) | (with_reducible refine Tab.alloc ?_ _) | (with_reducible refine Tab.drew ?_) | (with_reducible refine Tab.drewN ?_ _) | (with_reducible refine Tab.setCell ?_ ?_ ?_ _) | omega | (simp; done) | (simp; omega))) _ ?_) ?_); (focus (repeat' (first | (with_reducible assumption) | (with_reducible refine Sl.alloc ?_ _) | (with_reducible refine Sl.drew ?_) | (with_reducible refine Sl.drewN ?_ _) | (with_reducible refine Sl.call ?_ (by assumption))))); rintro e w5 ⟨p5, q5, n5, r5, i5, j5, k5, rfl, hs5, hk5⟩; obtain ⟨hc5, hf5⟩ := bcell hk5.2; have ht5 := hk5.1; have hz5 := hk5.2.size; (try simp only [World.size_alloc] at hz5); (try simp only [sz_drew] at hz5); (try simp only [sz_drewN] at hz5); (try simp only [World.size_alloc] at hz5); (try simp only [sz_drew] at hc5 hf5); (try simp only [sz_drewN] at hc5 hf5); (try have hw5 : w.heap.size < w5.heap.size := by omega); (try have hv5 : w.heap.size + 1 < w5.heap.size := by omega); (try have hu5 : w.heap.size + 2 < w5.heap.size := by omega)))
    clear hc2 hf2 hc3 hf3 hc5 hf5
    have hI5 : Inv w [(w.heap.size, 25, [.int .i64 a, .int .i64 e]), (w.heap.size + 1, 25, [.int .i64 0, .int .i64 0])] w5 := by repeat' (first | (with_reducible assumption) | (with_reducible refine Inv.drew ?_) | (with_reducible refine Inv.alloc ?_ _) | (with_reducible refine Inv.call ?_ (by assumption)) | (with_reducible refine Inv.far ?_ ?_ ?_ ?_ ?_ _) | omega | (simp; done) | (simp; omega))
    have HZ : Hid (Own w5 (w.heap.size + 1) 25 [.int .i64 0, .int .i64 0]) := Lib.hid (hI5.own 1 _ rfl)
    clear x0 x1 xf xl hI
    (have x0 : w5.cell? ⟨w.heap.size, 0, none⟩ = some (.int .i64 a) := (hI5.own 0 _ rfl).cell 0; have x1 : w5.cell? ⟨w.heap.size, 1, none⟩ = some (.int .i64 e) := (hI5.own 0 _ rfl).cell 1; have xf := fun i => (hI5.own 0 _ rfl).frozen i; have xl : w.heap.size < w5.heap.size := (hI5.own 0 _ rfl).lt)
    (have z0 : w5.cell? ⟨w.heap.size + 1, 0, none⟩ = some (.int .i64 0) := (hI5.own 1 _ rfl).cell 0; have z1 : w5.cell? ⟨w.heap.size + 1, 1, none⟩ = some (.int .i64 0) := (hI5.own 1 _ rfl).cell 1; have zf := fun i => (hI5.own 1 _ rfl).frozen i; have zl : w.heap.size + 1 < w5.heap.size := (hI5.own 1 _ rfl).lt)
    have hw5 := hI5.kept
    go_wp2_with (first | (go_at_call 38; (with_reducible refine Calls.mono (H4.out _ _ (by repeat' (first | (with_reducible assumption) | (with_reducible refine Tab.alloc ?_ _) | (with_reducible refine Tab.drew ?_) | (with_reducible refine Tab.drewN ?_ _) | (with_reducible refine Tab.setCell ?_ ?_ ?_ _) | omega | (simp; done) | (simp; omega))) ?_) ?_); (focus (repeat' (first | (with_reducible assumption) | (with_reducible refine Sl.alloc ?_ _) | (with_reducible refine Sl.drew ?_) | (with_reducible refine Sl.drewN ?_ _) | (with_reducible refine Sl.call ?_ (by assumption))))); rintro e w6 ⟨rfl, hk6⟩; obtain ⟨hc6, hf6⟩ := bcell hk6.2; have ht6 := hk6.1; have hz6 := hk6.2.size; (try simp only [World.size_alloc] at hz6); (try simp only [sz_drew] at hz6); (try simp only [sz_drewN] at hz6); (try simp only [World.size_alloc] at hz6); (try simp only [sz_drew] at hc6 hf6); (try simp only [sz_drewN] at hc6 hf6); (try have hw6 : w.heap.size < w6.heap.size := by omega); (try have hv6 : w.heap.size + 1 < w6.heap.size := by omega); (try have hu6 : w.heap.size + 2 < w6.heap.size := by omega)))
    have hF := ((HZ.out.call hk6).put 0 (.int .i64 M)).put 1 (.int .i64 E)
    refine bodyPost_ret (ret_own_tmp rfl hF rfl Tryd.underlying25 rfl (by kernel_rfl)) rfl ?_
    exact ⟨rfl, (by repeat' (first | (with_reducible assumption) | (with_reducible exact Kept.refl ht) | (with_reducible refine Kept.alloc ?_ _) | (with_reducible refine Kept.drew ?_) | (with_reducible refine Kept.drewN ?_ _) | (with_reducible refine Kept.setCell ?_ ?_ _ ?_ ?_) | (with_reducible refine Kept.trans ?_ (by assumption)) | omega | (simp; done) | (simp; omega)))⟩
set_option maxRecDepth 100000 in
set_option maxHeartbeats 16000000 in
theorem rsqrt_evna (s how a e T M E X : Int) (w : World) (ht : Tab w) (hc : ckR s how [(a, e)] = 0) (hn : ¬ a < 0) (hT : e - 60 = 2 * T) (hsg : e - 60 < 0) (hpe : 0 ≤ e) (hM : sRes s how a e = ⟨M, E, X⟩) :
    Calls Tryd.prog 16 #[.int .i64 s, .int .i64 how, .agg #[.int .i64 a, .int .i64 e]] w fun x w' => x = .returned (.tuple #[.agg #[.int .i64 M, .int .i64 E], .int .i64 X]) ∧ Kept w w' := by
  have hlt := ht.lt
  have hlt0 := ht.lt0
  obtain ⟨hd, v1⟩ := ck1_facts hc
  obtain ⟨hs, a1, a2, a3, a4, a5⟩ := vld_facts v1
  have hsz : isSz s = true := decide_eq_true hs
  have d1 := dg18 a1
  have hck := fun w ht => right_one s how a e w ht (by omega) (by omega)
  rw [hc] at hck
  have HC := Lib.hid hck
  have H1 := Lib.hid (fun w ht => Of_any a w ht (by omega) (by omega))
  have hr : rRes (pr s) how false (sc (isq (mag a * 10 ^ 60)) T) (decide (isq (mag a * 10 ^ 60) * isq (mag a * 10 ^ 60) ≠ mag a * 10 ^ 60)) = ⟨M, E, X⟩ := by
    rw [← hM]
    unfold sRes
    rw [okOr_zero _ hc, if_neg hn]
    by_cases ha0 : a = 0
    · rw [if_pos ha0]
      subst ha0
      rw [show mag 0 = 0 from rfl, Nat.zero_mul, show isq 0 = 0 by rw [isq]; simp]
      exact zero_rRes
    · rw [if_neg ha0]
      have := root_same (p := pr s) (how := how) (k := 60) (e := e) (n := mag a) (pr18 s) (by unfold mag; omega) d1 (by omega) (by omega) (by omega)
      rwa [show (e - ((60 : Nat) : Int)) / 2 = T by omega] at this
  have hmo : isq (mag a * 10 ^ 60) * isq (mag a * 10 ^ 60) ≠ mag a * 10 ^ 60 → 18 < dg (isq (mag a * 10 ^ 60)) := fun h => by
    by_cases ha0 : a = 0
    · subst ha0
      exact absurd (by rw [show mag 0 = 0 from rfl, Nat.zero_mul, show isq 0 = 0 by rw [isq]; simp]) h
    · exact root_dg (e := e) (by unfold mag; omega) d1 (by omega) (by omega)
  have hd60 : dg (mag a * 10 ^ 60) ≤ 90 := by
    have h1 := dg_mulle (mag a) (10 ^ 60)
    have h2 : dg (10 ^ 60) ≤ 62 := (dg_iff _ _).2 (Nat.pow_lt_pow_right (by omega) (by omega))
    omega
  have hsq := isq_spec (mag a * 10 ^ 60)
  have hdQ : dg (isq (mag a * 10 ^ 60)) ≤ 90 := by
    refine Nat.le_trans (dg_mono (Nat.le_trans (Nat.le_mul_self _) hsq.1)) hd60
  obtain ⟨lr, hlr⟩ : ∃ lr, (ds (mag a * 10 ^ 60 - isq (mag a * 10 ^ 60) * isq (mag a * 10 ^ 60))).length = lr := ⟨_, rfl⟩
  have H3 : Hid (∀ W, Tab W → ∀ u, Sl W u (ds (mag a)) → Calls Tryd.prog 47 #[u, .int .i64 60] W fun e w' => ∃ v', e = .returned v' ∧ Sl w' v' (ds (mag a * 10 ^ 60)) ∧ Kept W w') := Lib.hid (fun W h u hu => refshift u (mag a) 60 W h hu (by omega) (by omega))
  have H5 : Hid (∀ W, Tab W → ∀ u, Sl W u (ds (mag a * 10 ^ 60)) → Calls Tryd.prog 49 #[u] W fun x w' => ∃ b1 o1 n1 c1 b2 o2 c2 : Nat, x = .returned (.tuple #[.slice (some ⟨b1, o1, none⟩) n1 c1, .slice (some ⟨b2, o2, none⟩) lr c2]) ∧ Sl w' (.slice (some ⟨b1, o1, none⟩) n1 c1) (ds (isq (mag a * 10 ^ 60))) ∧ Kept W w') := Lib.hid (fun W h u hu => by
    refine (refroot u _ W h hu (by omega)).mono fun x w' ⟨q, r, hx, hq, hr, hk⟩ => ?_
    obtain ⟨b1, o1, c1, rfl, _⟩ := hq.form
    obtain ⟨b2, o2, c2, rfl, _⟩ := hr.form
    rw [hlr] at hx
    exact ⟨_, _, _, _, _, _, _, hx, hq, hk⟩)
  have H4 := Lib.hid (fun (v : Value) w ht h => gives_out2 hr (refRounded s how false (decide (isq (mag a * 10 ^ 60) * isq (mag a * 10 ^ 60) ≠ mag a * 10 ^ 60)) (isq (mag a * 10 ^ 60)) T v w ht h hsz hd (by omega) (by omega) (by omega) (fun h => hmo (of_decide_eq_true h))))
  have hcs : (isq (mag a * 10 ^ 60) * isq (mag a * 10 ^ 60) = mag a * 10 ^ 60 ∧ lr = 0) ∨ (isq (mag a * 10 ^ 60) * isq (mag a * 10 ^ 60) ≠ mag a * 10 ^ 60 ∧ 0 < lr) := by
    rw [← hlr, ds_len]
    by_cases h : isq (mag a * 10 ^ 60) * isq (mag a * 10 ^ 60) = mag a * 10 ^ 60
    · left; refine ⟨h, ?_⟩; rw [h, Nat.sub_self, dg_zero]
    · refine Or.inr ⟨h, ?_⟩
      have := dg_ne (n := mag a * 10 ^ 60 - isq (mag a * 10 ^ 60) * isq (mag a * 10 ^ 60)) (by omega)
      omega
  generalize isq (mag a * 10 ^ 60) = Q at *
  generalize mag a * 10 ^ 60 = R at *
  have t1 : e % 2 = 0 := by omega
  have t2 : (e - 60).tdiv 2 = T := by first | (exact tdiv_half hT) | omega
  have t3 : -2000 ≤ T := by omega
  have t4 : T ≤ 2000 := by omega
  have t5 : (60 : Int) - 60 = 0 := by omega
  clear t5
  clear hck hc v1 a1 hM hr hs hsz hd d1 hmo hd60 hdQ hlr hsq hT
  rcases hcs with ⟨hR, rfl⟩ | ⟨hR, hlr0⟩
  all_goals
    (first | rw [decide_eq_true hR] at H4 | rw [decide_eq_false (not_not_intro hR)] at H4)
    clear hR
    go_enter Tryd.func16, Tryd.ntmps16
    go_upto_region 4 with (first | (go_at_call 37; (with_reducible refine (HC.out _ (by repeat' (first | (with_reducible assumption) | (with_reducible refine Tab.alloc ?_ _) | (with_reducible refine Tab.drew ?_) | (with_reducible refine Tab.drewN ?_ _) | (with_reducible refine Tab.setCell ?_ ?_ ?_ _) | omega | (simp; done) | (simp; omega)))).mono ?_); rintro e w1 ⟨rfl, hk1⟩; obtain ⟨hc1, hf1⟩ := bcell hk1.2; have ht1 := hk1.1; have hz1 := hk1.2.size; (try simp only [World.size_alloc] at hz1); (try simp only [sz_drew] at hz1); (try simp only [sz_drewN] at hz1); (try simp only [World.size_alloc] at hz1); (try simp only [sz_drew] at hc1 hf1); (try simp only [sz_drewN] at hc1 hf1); (try have hw1 : w.heap.size < w1.heap.size := by omega); (try have hv1 : w.heap.size + 1 < w1.heap.size := by omega); (try have hu1 : w.heap.size + 2 < w1.heap.size := by omega)))
    have hI := (Inv.two ht 25 [.int .i64 a, .int .i64 e] 25 [.int .i64 0, .int .i64 0]).call hk1
    clear hc1 hf1
    (have x0 : w1.cell? ⟨w.heap.size, 0, none⟩ = some (.int .i64 a) := (hI.own 0 _ rfl).cell 0; have x1 : w1.cell? ⟨w.heap.size, 1, none⟩ = some (.int .i64 e) := (hI.own 0 _ rfl).cell 1; have xf := fun i => (hI.own 0 _ rfl).frozen i; have xl : w.heap.size < w1.heap.size := (hI.own 0 _ rfl).lt)
    go_upto_region 10 with (first | (go_at_call 44; (with_reducible refine (H1.out _ (by repeat' (first | (with_reducible assumption) | (with_reducible refine Tab.alloc ?_ _) | (with_reducible refine Tab.drew ?_) | (with_reducible refine Tab.drewN ?_ _) | (with_reducible refine Tab.setCell ?_ ?_ ?_ _) | omega | (simp; done) | (simp; omega)))).mono ?_); rintro e w2 ⟨v2, rfl, hs2, hk2, -⟩; obtain ⟨hc2, hf2⟩ := bcell hk2.2; have ht2 := hk2.1; have hz2 := hk2.2.size; (try simp only [World.size_alloc] at hz2); (try simp only [sz_drew] at hz2); (try simp only [sz_drewN] at hz2); (try simp only [World.size_alloc] at hz2); (try simp only [sz_drew] at hc2 hf2); (try simp only [sz_drewN] at hc2 hf2); (try have hw2 : w.heap.size < w2.heap.size := by omega); (try have hv2 : w.heap.size + 1 < w2.heap.size := by omega); (try have hu2 : w.heap.size + 2 < w2.heap.size := by omega)) | (go_at_call 47; (with_reducible refine Calls.mono (H3.out _ (by repeat' (first | (with_reducible assumption) | (with_reducible refine Tab.alloc ?_ _) | (with_reducible refine Tab.drew ?_) | (with_reducible refine Tab.drewN ?_ _) | (with_reducible refine Tab.setCell ?_ ?_ ?_ _) | omega | (simp; done) | (simp; omega))) _ ?_) ?_); (focus (repeat' (first | (with_reducible assumption) | (with_reducible refine Sl.alloc ?_ _) | (with_reducible refine Sl.drew ?_) | (with_reducible refine Sl.drewN ?_ _) | (with_reducible refine Sl.call ?_ (by assumption))))); rintro e w3 ⟨v3, rfl, hs3, hk3⟩; obtain ⟨hc3, hf3⟩ := bcell hk3.2; have ht3 := hk3.1; have hz3 := hk3.2.size; (try simp only [World.size_alloc] at hz3); (try simp only [sz_drew] at hz3); (try simp only [sz_drewN] at hz3); (try simp only [World.size_alloc] at hz3); (try simp only [sz_drew] at hc3 hf3); (try simp only [sz_drewN] at hc3 hf3); (try have hw3 : w.heap.size < w3.heap.size := by omega); (try have hv3 : w.heap.size + 1 < w3.heap.size := by omega); (try have hu3 : w.heap.size + 2 < w3.heap.size := by omega)) | (go_at_call 49; (with_reducible refine Calls.mono (H5.out _ (by repeat' (first | (with_reducible assumption) | (with_reducible refine Tab.alloc ?_ _) | (with_reducible refine Tab.drew ?_) | (with_reducible refine Tab.drewN ?_ _) | (with_reducible refine Tab.setCell ?_ ?_ ?_ _) | omega | (simp; done) | (simp; omega))) _ ?_) ?_); (focus (repeat' (first | (with_reducible assumption) | (with_reducible refine Sl.alloc ?_ _) | (with_reducible refine Sl.drew ?_) | (with_reducible refine Sl.drewN ?_ _) | (with_reducible refine Sl.call ?_ (by assumption))))); rintro e w5 ⟨p5, q5, n5, r5, i5, j5, k5, rfl, hs5, hk5⟩; obtain ⟨hc5, hf5⟩ := bcell hk5.2; have ht5 := hk5.1; have hz5 := hk5.2.size; (try simp only [World.size_alloc] at hz5); (try simp only [sz_drew] at hz5); (try simp only [sz_drewN] at hz5); (try simp only [World.size_alloc] at hz5); (try simp only [sz_drew] at hc5 hf5); (try simp only [sz_drewN] at hc5 hf5); (try have hw5 : w.heap.size < w5.heap.size := by omega); (try have hv5 : w.heap.size + 1 < w5.heap.size := by omega); (try have hu5 : w.heap.size + 2 < w5.heap.size := by omega)))
    clear hc2 hf2 hc3 hf3 hc5 hf5
    have hI5 : Inv w [(w.heap.size, 25, [.int .i64 a, .int .i64 e]), (w.heap.size + 1, 25, [.int .i64 0, .int .i64 0])] w5 := by repeat' (first | (with_reducible assumption) | (with_reducible refine Inv.drew ?_) | (with_reducible refine Inv.alloc ?_ _) | (with_reducible refine Inv.call ?_ (by assumption)) | (with_reducible refine Inv.far ?_ ?_ ?_ ?_ ?_ _) | omega | (simp; done) | (simp; omega))
    have HZ : Hid (Own w5 (w.heap.size + 1) 25 [.int .i64 0, .int .i64 0]) := Lib.hid (hI5.own 1 _ rfl)
    clear x0 x1 xf xl hI
    (have x0 : w5.cell? ⟨w.heap.size, 0, none⟩ = some (.int .i64 a) := (hI5.own 0 _ rfl).cell 0; have x1 : w5.cell? ⟨w.heap.size, 1, none⟩ = some (.int .i64 e) := (hI5.own 0 _ rfl).cell 1; have xf := fun i => (hI5.own 0 _ rfl).frozen i; have xl : w.heap.size < w5.heap.size := (hI5.own 0 _ rfl).lt)
    (have z0 : w5.cell? ⟨w.heap.size + 1, 0, none⟩ = some (.int .i64 0) := (hI5.own 1 _ rfl).cell 0; have z1 : w5.cell? ⟨w.heap.size + 1, 1, none⟩ = some (.int .i64 0) := (hI5.own 1 _ rfl).cell 1; have zf := fun i => (hI5.own 1 _ rfl).frozen i; have zl : w.heap.size + 1 < w5.heap.size := (hI5.own 1 _ rfl).lt)
    have hw5 := hI5.kept
    go_wp2_with (first | (go_at_call 38; (with_reducible refine Calls.mono (H4.out _ _ (by repeat' (first | (with_reducible assumption) | (with_reducible refine Tab.alloc ?_ _) | (with_reducible refine Tab.drew ?_) | (with_reducible refine Tab.drewN ?_ _) | (with_reducible refine Tab.setCell ?_ ?_ ?_ _) | omega | (simp; done) | (simp; omega))) ?_) ?_); (focus (repeat' (first | (with_reducible assumption) | (with_reducible refine Sl.alloc ?_ _) | (with_reducible refine Sl.drew ?_) | (with_reducible refine Sl.drewN ?_ _) | (with_reducible refine Sl.call ?_ (by assumption))))); rintro e w6 ⟨rfl, hk6⟩; obtain ⟨hc6, hf6⟩ := bcell hk6.2; have ht6 := hk6.1; have hz6 := hk6.2.size; (try simp only [World.size_alloc] at hz6); (try simp only [sz_drew] at hz6); (try simp only [sz_drewN] at hz6); (try simp only [World.size_alloc] at hz6); (try simp only [sz_drew] at hc6 hf6); (try simp only [sz_drewN] at hc6 hf6); (try have hw6 : w.heap.size < w6.heap.size := by omega); (try have hv6 : w.heap.size + 1 < w6.heap.size := by omega); (try have hu6 : w.heap.size + 2 < w6.heap.size := by omega)))
    have hF := ((HZ.out.call hk6).put 0 (.int .i64 M)).put 1 (.int .i64 E)
    refine bodyPost_ret (ret_own_tmp rfl hF rfl Tryd.underlying25 rfl (by kernel_rfl)) rfl ?_
    exact ⟨rfl, (by repeat' (first | (with_reducible assumption) | (with_reducible exact Kept.refl ht) | (with_reducible refine Kept.alloc ?_ _) | (with_reducible refine Kept.drew ?_) | (with_reducible refine Kept.drewN ?_ _) | (with_reducible refine Kept.setCell ?_ ?_ _ ?_ ?_) | (with_reducible refine Kept.trans ?_ (by assumption)) | omega | (simp; done) | (simp; omega)))⟩
set_option maxRecDepth 100000 in
set_option maxHeartbeats 16000000 in
theorem rsqrt_evnb (s how a e T M E X : Int) (w : World) (ht : Tab w) (hc : ckR s how [(a, e)] = 0) (hn : ¬ a < 0) (hT : e - 60 = 2 * T) (_hsg : e - 60 < 0) (hpe : e < 0) (hM : sRes s how a e = ⟨M, E, X⟩) :
    Calls Tryd.prog 16 #[.int .i64 s, .int .i64 how, .agg #[.int .i64 a, .int .i64 e]] w fun x w' => x = .returned (.tuple #[.agg #[.int .i64 M, .int .i64 E], .int .i64 X]) ∧ Kept w w' := by
  have hlt := ht.lt
  have hlt0 := ht.lt0
  obtain ⟨hd, v1⟩ := ck1_facts hc
  obtain ⟨hs, a1, a2, a3, a4, a5⟩ := vld_facts v1
  have hsz : isSz s = true := decide_eq_true hs
  have d1 := dg18 a1
  have hck := fun w ht => right_one s how a e w ht (by omega) (by omega)
  rw [hc] at hck
  have HC := Lib.hid hck
  have H1 := Lib.hid (fun w ht => Of_any a w ht (by omega) (by omega))
  have hr : rRes (pr s) how false (sc (isq (mag a * 10 ^ 60)) T) (decide (isq (mag a * 10 ^ 60) * isq (mag a * 10 ^ 60) ≠ mag a * 10 ^ 60)) = ⟨M, E, X⟩ := by
    rw [← hM]
    unfold sRes
    rw [okOr_zero _ hc, if_neg hn]
    by_cases ha0 : a = 0
    · rw [if_pos ha0]
      subst ha0
      rw [show mag 0 = 0 from rfl, Nat.zero_mul, show isq 0 = 0 by rw [isq]; simp]
      exact zero_rRes
    · rw [if_neg ha0]
      have := root_same (p := pr s) (how := how) (k := 60) (e := e) (n := mag a) (pr18 s) (by unfold mag; omega) d1 (by omega) (by omega) (by omega)
      rwa [show (e - ((60 : Nat) : Int)) / 2 = T by omega] at this
  have hmo : isq (mag a * 10 ^ 60) * isq (mag a * 10 ^ 60) ≠ mag a * 10 ^ 60 → 18 < dg (isq (mag a * 10 ^ 60)) := fun h => by
    by_cases ha0 : a = 0
    · subst ha0
      exact absurd (by rw [show mag 0 = 0 from rfl, Nat.zero_mul, show isq 0 = 0 by rw [isq]; simp]) h
    · exact root_dg (e := e) (by unfold mag; omega) d1 (by omega) (by omega)
  have hd60 : dg (mag a * 10 ^ 60) ≤ 90 := by
    have h1 := dg_mulle (mag a) (10 ^ 60)
    have h2 : dg (10 ^ 60) ≤ 62 := (dg_iff _ _).2 (Nat.pow_lt_pow_right (by omega) (by omega))
    omega
  have hsq := isq_spec (mag a * 10 ^ 60)
  have hdQ : dg (isq (mag a * 10 ^ 60)) ≤ 90 := by
    refine Nat.le_trans (dg_mono (Nat.le_trans (Nat.le_mul_self _) hsq.1)) hd60
  obtain ⟨lr, hlr⟩ : ∃ lr, (ds (mag a * 10 ^ 60 - isq (mag a * 10 ^ 60) * isq (mag a * 10 ^ 60))).length = lr := ⟨_, rfl⟩
  have H3 : Hid (∀ W, Tab W → ∀ u, Sl W u (ds (mag a)) → Calls Tryd.prog 47 #[u, .int .i64 60] W fun e w' => ∃ v', e = .returned v' ∧ Sl w' v' (ds (mag a * 10 ^ 60)) ∧ Kept W w') := Lib.hid (fun W h u hu => refshift u (mag a) 60 W h hu (by omega) (by omega))
  have H5 : Hid (∀ W, Tab W → ∀ u, Sl W u (ds (mag a * 10 ^ 60)) → Calls Tryd.prog 49 #[u] W fun x w' => ∃ b1 o1 n1 c1 b2 o2 c2 : Nat, x = .returned (.tuple #[.slice (some ⟨b1, o1, none⟩) n1 c1, .slice (some ⟨b2, o2, none⟩) lr c2]) ∧ Sl w' (.slice (some ⟨b1, o1, none⟩) n1 c1) (ds (isq (mag a * 10 ^ 60))) ∧ Kept W w') := Lib.hid (fun W h u hu => by
    refine (refroot u _ W h hu (by omega)).mono fun x w' ⟨q, r, hx, hq, hr, hk⟩ => ?_
    obtain ⟨b1, o1, c1, rfl, _⟩ := hq.form
    obtain ⟨b2, o2, c2, rfl, _⟩ := hr.form
    rw [hlr] at hx
    exact ⟨_, _, _, _, _, _, _, hx, hq, hk⟩)
  have H4 := Lib.hid (fun (v : Value) w ht h => gives_out2 hr (refRounded s how false (decide (isq (mag a * 10 ^ 60) * isq (mag a * 10 ^ 60) ≠ mag a * 10 ^ 60)) (isq (mag a * 10 ^ 60)) T v w ht h hsz hd (by omega) (by omega) (by omega) (fun h => hmo (of_decide_eq_true h))))
  have hcs : (isq (mag a * 10 ^ 60) * isq (mag a * 10 ^ 60) = mag a * 10 ^ 60 ∧ lr = 0) ∨ (isq (mag a * 10 ^ 60) * isq (mag a * 10 ^ 60) ≠ mag a * 10 ^ 60 ∧ 0 < lr) := by
    rw [← hlr, ds_len]
    by_cases h : isq (mag a * 10 ^ 60) * isq (mag a * 10 ^ 60) = mag a * 10 ^ 60
    · left; refine ⟨h, ?_⟩; rw [h, Nat.sub_self, dg_zero]
    · refine Or.inr ⟨h, ?_⟩
      have := dg_ne (n := mag a * 10 ^ 60 - isq (mag a * 10 ^ 60) * isq (mag a * 10 ^ 60)) (by omega)
      omega
  generalize isq (mag a * 10 ^ 60) = Q at *
  generalize mag a * 10 ^ 60 = R at *
  have t1 : e.tmod 2 = 0 := tmod_even_neg hpe (by omega)
  have t2 : (e - 60).tdiv 2 = T := by first | (exact tdiv_half hT) | omega
  have t3 : -2000 ≤ T := by omega
  have t4 : T ≤ 2000 := by omega
  have t5 : (60 : Int) - 60 = 0 := by omega
  clear t5
  clear hck hc v1 a1 hM hr hs hsz hd d1 hmo hd60 hdQ hlr hsq hT
  rcases hcs with ⟨hR, rfl⟩ | ⟨hR, hlr0⟩
  all_goals
    (first | rw [decide_eq_true hR] at H4 | rw [decide_eq_false (not_not_intro hR)] at H4)
    clear hR
    go_enter Tryd.func16, Tryd.ntmps16
    go_upto_region 4 with (first | (go_at_call 37; (with_reducible refine (HC.out _ (by repeat' (first | (with_reducible assumption) | (with_reducible refine Tab.alloc ?_ _) | (with_reducible refine Tab.drew ?_) | (with_reducible refine Tab.drewN ?_ _) | (with_reducible refine Tab.setCell ?_ ?_ ?_ _) | omega | (simp; done) | (simp; omega)))).mono ?_); rintro e w1 ⟨rfl, hk1⟩; obtain ⟨hc1, hf1⟩ := bcell hk1.2; have ht1 := hk1.1; have hz1 := hk1.2.size; (try simp only [World.size_alloc] at hz1); (try simp only [sz_drew] at hz1); (try simp only [sz_drewN] at hz1); (try simp only [World.size_alloc] at hz1); (try simp only [sz_drew] at hc1 hf1); (try simp only [sz_drewN] at hc1 hf1); (try have hw1 : w.heap.size < w1.heap.size := by omega); (try have hv1 : w.heap.size + 1 < w1.heap.size := by omega); (try have hu1 : w.heap.size + 2 < w1.heap.size := by omega)))
    have hI := (Inv.two ht 25 [.int .i64 a, .int .i64 e] 25 [.int .i64 0, .int .i64 0]).call hk1
    clear hc1 hf1
    (have x0 : w1.cell? ⟨w.heap.size, 0, none⟩ = some (.int .i64 a) := (hI.own 0 _ rfl).cell 0; have x1 : w1.cell? ⟨w.heap.size, 1, none⟩ = some (.int .i64 e) := (hI.own 0 _ rfl).cell 1; have xf := fun i => (hI.own 0 _ rfl).frozen i; have xl : w.heap.size < w1.heap.size := (hI.own 0 _ rfl).lt)
    go_upto_region 10 with (first | (go_at_call 44; (with_reducible refine (H1.out _ (by repeat' (first | (with_reducible assumption) | (with_reducible refine Tab.alloc ?_ _) | (with_reducible refine Tab.drew ?_) | (with_reducible refine Tab.drewN ?_ _) | (with_reducible refine Tab.setCell ?_ ?_ ?_ _) | omega | (simp; done) | (simp; omega)))).mono ?_); rintro e w2 ⟨v2, rfl, hs2, hk2, -⟩; obtain ⟨hc2, hf2⟩ := bcell hk2.2; have ht2 := hk2.1; have hz2 := hk2.2.size; (try simp only [World.size_alloc] at hz2); (try simp only [sz_drew] at hz2); (try simp only [sz_drewN] at hz2); (try simp only [World.size_alloc] at hz2); (try simp only [sz_drew] at hc2 hf2); (try simp only [sz_drewN] at hc2 hf2); (try have hw2 : w.heap.size < w2.heap.size := by omega); (try have hv2 : w.heap.size + 1 < w2.heap.size := by omega); (try have hu2 : w.heap.size + 2 < w2.heap.size := by omega)) | (go_at_call 47; (with_reducible refine Calls.mono (H3.out _ (by repeat' (first | (with_reducible assumption) | (with_reducible refine Tab.alloc ?_ _) | (with_reducible refine Tab.drew ?_) | (with_reducible refine Tab.drewN ?_ _) | (with_reducible refine Tab.setCell ?_ ?_ ?_ _) | omega | (simp; done) | (simp; omega))) _ ?_) ?_); (focus (repeat' (first | (with_reducible assumption) | (with_reducible refine Sl.alloc ?_ _) | (with_reducible refine Sl.drew ?_) | (with_reducible refine Sl.drewN ?_ _) | (with_reducible refine Sl.call ?_ (by assumption))))); rintro e w3 ⟨v3, rfl, hs3, hk3⟩; obtain ⟨hc3, hf3⟩ := bcell hk3.2; have ht3 := hk3.1; have hz3 := hk3.2.size; (try simp only [World.size_alloc] at hz3); (try simp only [sz_drew] at hz3); (try simp only [sz_drewN] at hz3); (try simp only [World.size_alloc] at hz3); (try simp only [sz_drew] at hc3 hf3); (try simp only [sz_drewN] at hc3 hf3); (try have hw3 : w.heap.size < w3.heap.size := by omega); (try have hv3 : w.heap.size + 1 < w3.heap.size := by omega); (try have hu3 : w.heap.size + 2 < w3.heap.size := by omega)) | (go_at_call 49; (with_reducible refine Calls.mono (H5.out _ (by repeat' (first | (with_reducible assumption) | (with_reducible refine Tab.alloc ?_ _) | (with_reducible refine Tab.drew ?_) | (with_reducible refine Tab.drewN ?_ _) | (with_reducible refine Tab.setCell ?_ ?_ ?_ _) | omega | (simp; done) | (simp; omega))) _ ?_) ?_); (focus (repeat' (first | (with_reducible assumption) | (with_reducible refine Sl.alloc ?_ _) | (with_reducible refine Sl.drew ?_) | (with_reducible refine Sl.drewN ?_ _) | (with_reducible refine Sl.call ?_ (by assumption))))); rintro e w5 ⟨p5, q5, n5, r5, i5, j5, k5, rfl, hs5, hk5⟩; obtain ⟨hc5, hf5⟩ := bcell hk5.2; have ht5 := hk5.1; have hz5 := hk5.2.size; (try simp only [World.size_alloc] at hz5); (try simp only [sz_drew] at hz5); (try simp only [sz_drewN] at hz5); (try simp only [World.size_alloc] at hz5); (try simp only [sz_drew] at hc5 hf5); (try simp only [sz_drewN] at hc5 hf5); (try have hw5 : w.heap.size < w5.heap.size := by omega); (try have hv5 : w.heap.size + 1 < w5.heap.size := by omega); (try have hu5 : w.heap.size + 2 < w5.heap.size := by omega)))
    clear hc2 hf2 hc3 hf3 hc5 hf5
    have hI5 : Inv w [(w.heap.size, 25, [.int .i64 a, .int .i64 e]), (w.heap.size + 1, 25, [.int .i64 0, .int .i64 0])] w5 := by repeat' (first | (with_reducible assumption) | (with_reducible refine Inv.drew ?_) | (with_reducible refine Inv.alloc ?_ _) | (with_reducible refine Inv.call ?_ (by assumption)) | (with_reducible refine Inv.far ?_ ?_ ?_ ?_ ?_ _) | omega | (simp; done) | (simp; omega))
    have HZ : Hid (Own w5 (w.heap.size + 1) 25 [.int .i64 0, .int .i64 0]) := Lib.hid (hI5.own 1 _ rfl)
    clear x0 x1 xf xl hI
    (have x0 : w5.cell? ⟨w.heap.size, 0, none⟩ = some (.int .i64 a) := (hI5.own 0 _ rfl).cell 0; have x1 : w5.cell? ⟨w.heap.size, 1, none⟩ = some (.int .i64 e) := (hI5.own 0 _ rfl).cell 1; have xf := fun i => (hI5.own 0 _ rfl).frozen i; have xl : w.heap.size < w5.heap.size := (hI5.own 0 _ rfl).lt)
    (have z0 : w5.cell? ⟨w.heap.size + 1, 0, none⟩ = some (.int .i64 0) := (hI5.own 1 _ rfl).cell 0; have z1 : w5.cell? ⟨w.heap.size + 1, 1, none⟩ = some (.int .i64 0) := (hI5.own 1 _ rfl).cell 1; have zf := fun i => (hI5.own 1 _ rfl).frozen i; have zl : w.heap.size + 1 < w5.heap.size := (hI5.own 1 _ rfl).lt)
    have hw5 := hI5.kept
    go_wp2_with (first | (go_at_call 38; (with_reducible refine Calls.mono (H4.out _ _ (by repeat' (first | (with_reducible assumption) | (with_reducible refine Tab.alloc ?_ _) | (with_reducible refine Tab.drew ?_) | (with_reducible refine Tab.drewN ?_ _) | (with_reducible refine Tab.setCell ?_ ?_ ?_ _) | omega | (simp; done) | (simp; omega))) ?_) ?_); (focus (repeat' (first | (with_reducible assumption) | (with_reducible refine Sl.alloc ?_ _) | (with_reducible refine Sl.drew ?_) | (with_reducible refine Sl.drewN ?_ _) | (with_reducible refine Sl.call ?_ (by assumption))))); rintro e w6 ⟨rfl, hk6⟩; obtain ⟨hc6, hf6⟩ := bcell hk6.2; have ht6 := hk6.1; have hz6 := hk6.2.size; (try simp only [World.size_alloc] at hz6); (try simp only [sz_drew] at hz6); (try simp only [sz_drewN] at hz6); (try simp only [World.size_alloc] at hz6); (try simp only [sz_drew] at hc6 hf6); (try simp only [sz_drewN] at hc6 hf6); (try have hw6 : w.heap.size < w6.heap.size := by omega); (try have hv6 : w.heap.size + 1 < w6.heap.size := by omega); (try have hu6 : w.heap.size + 2 < w6.heap.size := by omega)))
    have hF := ((HZ.out.call hk6).put 0 (.int .i64 M)).put 1 (.int .i64 E)
    refine bodyPost_ret (ret_own_tmp rfl hF rfl Tryd.underlying25 rfl (by kernel_rfl)) rfl ?_
    exact ⟨rfl, (by repeat' (first | (with_reducible assumption) | (with_reducible exact Kept.refl ht) | (with_reducible refine Kept.alloc ?_ _) | (with_reducible refine Kept.drew ?_) | (with_reducible refine Kept.drewN ?_ _) | (with_reducible refine Kept.setCell ?_ ?_ _ ?_ ?_) | (with_reducible refine Kept.trans ?_ (by assumption)) | omega | (simp; done) | (simp; omega)))⟩
set_option maxRecDepth 100000 in
set_option maxHeartbeats 16000000 in
theorem rsqrt_odpa (s how a e T M E X : Int) (w : World) (ht : Tab w) (hc : ckR s how [(a, e)] = 0) (hn : ¬ a < 0) (hT : e - 61 = 2 * T) (hsg : 0 ≤ e - 61) (_hpe : 0 ≤ e) (hM : sRes s how a e = ⟨M, E, X⟩) :
    Calls Tryd.prog 16 #[.int .i64 s, .int .i64 how, .agg #[.int .i64 a, .int .i64 e]] w fun x w' => x = .returned (.tuple #[.agg #[.int .i64 M, .int .i64 E], .int .i64 X]) ∧ Kept w w' := by
  have hlt := ht.lt
  have hlt0 := ht.lt0
  obtain ⟨hd, v1⟩ := ck1_facts hc
  obtain ⟨hs, a1, a2, a3, a4, a5⟩ := vld_facts v1
  have hsz : isSz s = true := decide_eq_true hs
  have d1 := dg18 a1
  have hck := fun w ht => right_one s how a e w ht (by omega) (by omega)
  rw [hc] at hck
  have HC := Lib.hid hck
  have H1 := Lib.hid (fun w ht => Of_any a w ht (by omega) (by omega))
  have hr : rRes (pr s) how false (sc (isq (mag a * 10 ^ 61)) T) (decide (isq (mag a * 10 ^ 61) * isq (mag a * 10 ^ 61) ≠ mag a * 10 ^ 61)) = ⟨M, E, X⟩ := by
    rw [← hM]
    unfold sRes
    rw [okOr_zero _ hc, if_neg hn]
    by_cases ha0 : a = 0
    · rw [if_pos ha0]
      subst ha0
      rw [show mag 0 = 0 from rfl, Nat.zero_mul, show isq 0 = 0 by rw [isq]; simp]
      exact zero_rRes
    · rw [if_neg ha0]
      have := root_same (p := pr s) (how := how) (k := 61) (e := e) (n := mag a) (pr18 s) (by unfold mag; omega) d1 (by omega) (by omega) (by omega)
      rwa [show (e - ((61 : Nat) : Int)) / 2 = T by omega] at this
  have hmo : isq (mag a * 10 ^ 61) * isq (mag a * 10 ^ 61) ≠ mag a * 10 ^ 61 → 18 < dg (isq (mag a * 10 ^ 61)) := fun h => by
    by_cases ha0 : a = 0
    · subst ha0
      exact absurd (by rw [show mag 0 = 0 from rfl, Nat.zero_mul, show isq 0 = 0 by rw [isq]; simp]) h
    · exact root_dg (e := e) (by unfold mag; omega) d1 (by omega) (by omega)
  have hd60 : dg (mag a * 10 ^ 61) ≤ 90 := by
    have h1 := dg_mulle (mag a) (10 ^ 61)
    have h2 : dg (10 ^ 61) ≤ 62 := (dg_iff _ _).2 (Nat.pow_lt_pow_right (by omega) (by omega))
    omega
  have hsq := isq_spec (mag a * 10 ^ 61)
  have hdQ : dg (isq (mag a * 10 ^ 61)) ≤ 90 := by
    refine Nat.le_trans (dg_mono (Nat.le_trans (Nat.le_mul_self _) hsq.1)) hd60
  obtain ⟨lr, hlr⟩ : ∃ lr, (ds (mag a * 10 ^ 61 - isq (mag a * 10 ^ 61) * isq (mag a * 10 ^ 61))).length = lr := ⟨_, rfl⟩
  have H3 : Hid (∀ W, Tab W → ∀ u, Sl W u (ds (mag a)) → Calls Tryd.prog 47 #[u, .int .i64 61] W fun e w' => ∃ v', e = .returned v' ∧ Sl w' v' (ds (mag a * 10 ^ 61)) ∧ Kept W w') := Lib.hid (fun W h u hu => refshift u (mag a) 61 W h hu (by omega) (by omega))
  have H5 : Hid (∀ W, Tab W → ∀ u, Sl W u (ds (mag a * 10 ^ 61)) → Calls Tryd.prog 49 #[u] W fun x w' => ∃ b1 o1 n1 c1 b2 o2 c2 : Nat, x = .returned (.tuple #[.slice (some ⟨b1, o1, none⟩) n1 c1, .slice (some ⟨b2, o2, none⟩) lr c2]) ∧ Sl w' (.slice (some ⟨b1, o1, none⟩) n1 c1) (ds (isq (mag a * 10 ^ 61))) ∧ Kept W w') := Lib.hid (fun W h u hu => by
    refine (refroot u _ W h hu (by omega)).mono fun x w' ⟨q, r, hx, hq, hr, hk⟩ => ?_
    obtain ⟨b1, o1, c1, rfl, _⟩ := hq.form
    obtain ⟨b2, o2, c2, rfl, _⟩ := hr.form
    rw [hlr] at hx
    exact ⟨_, _, _, _, _, _, _, hx, hq, hk⟩)
  have H4 := Lib.hid (fun (v : Value) w ht h => gives_out2 hr (refRounded s how false (decide (isq (mag a * 10 ^ 61) * isq (mag a * 10 ^ 61) ≠ mag a * 10 ^ 61)) (isq (mag a * 10 ^ 61)) T v w ht h hsz hd (by omega) (by omega) (by omega) (fun h => hmo (of_decide_eq_true h))))
  have hcs : (isq (mag a * 10 ^ 61) * isq (mag a * 10 ^ 61) = mag a * 10 ^ 61 ∧ lr = 0) ∨ (isq (mag a * 10 ^ 61) * isq (mag a * 10 ^ 61) ≠ mag a * 10 ^ 61 ∧ 0 < lr) := by
    rw [← hlr, ds_len]
    by_cases h : isq (mag a * 10 ^ 61) * isq (mag a * 10 ^ 61) = mag a * 10 ^ 61
    · left; refine ⟨h, ?_⟩; rw [h, Nat.sub_self, dg_zero]
    · refine Or.inr ⟨h, ?_⟩
      have := dg_ne (n := mag a * 10 ^ 61 - isq (mag a * 10 ^ 61) * isq (mag a * 10 ^ 61)) (by omega)
      omega
  generalize isq (mag a * 10 ^ 61) = Q at *
  generalize mag a * 10 ^ 61 = R at *
  have t1 : e % 2 = 1 := by omega
  have t2 : (e - 61) / 2 = T := by first | (exact tdiv_half hT) | omega
  have t3 : -2000 ≤ T := by omega
  have t4 : T ≤ 2000 := by omega
  have t5 : (61 : Int) - 61 = 0 := by omega
  clear t5
  clear hck hc v1 a1 hM hr hs hsz hd d1 hmo hd60 hdQ hlr hsq hT
  rcases hcs with ⟨hR, rfl⟩ | ⟨hR, hlr0⟩
  all_goals
    (first | rw [decide_eq_true hR] at H4 | rw [decide_eq_false (not_not_intro hR)] at H4)
    clear hR
    go_enter Tryd.func16, Tryd.ntmps16
    go_upto_region 4 with (first | (go_at_call 37; (with_reducible refine (HC.out _ (by repeat' (first | (with_reducible assumption) | (with_reducible refine Tab.alloc ?_ _) | (with_reducible refine Tab.drew ?_) | (with_reducible refine Tab.drewN ?_ _) | (with_reducible refine Tab.setCell ?_ ?_ ?_ _) | omega | (simp; done) | (simp; omega)))).mono ?_); rintro e w1 ⟨rfl, hk1⟩; obtain ⟨hc1, hf1⟩ := bcell hk1.2; have ht1 := hk1.1; have hz1 := hk1.2.size; (try simp only [World.size_alloc] at hz1); (try simp only [sz_drew] at hz1); (try simp only [sz_drewN] at hz1); (try simp only [World.size_alloc] at hz1); (try simp only [sz_drew] at hc1 hf1); (try simp only [sz_drewN] at hc1 hf1); (try have hw1 : w.heap.size < w1.heap.size := by omega); (try have hv1 : w.heap.size + 1 < w1.heap.size := by omega); (try have hu1 : w.heap.size + 2 < w1.heap.size := by omega)))
    have hI := (Inv.two ht 25 [.int .i64 a, .int .i64 e] 25 [.int .i64 0, .int .i64 0]).call hk1
    clear hc1 hf1
    (have x0 : w1.cell? ⟨w.heap.size, 0, none⟩ = some (.int .i64 a) := (hI.own 0 _ rfl).cell 0; have x1 : w1.cell? ⟨w.heap.size, 1, none⟩ = some (.int .i64 e) := (hI.own 0 _ rfl).cell 1; have xf := fun i => (hI.own 0 _ rfl).frozen i; have xl : w.heap.size < w1.heap.size := (hI.own 0 _ rfl).lt)
    go_upto_region 10 with (first | (go_at_call 44; (with_reducible refine (H1.out _ (by repeat' (first | (with_reducible assumption) | (with_reducible refine Tab.alloc ?_ _) | (with_reducible refine Tab.drew ?_) | (with_reducible refine Tab.drewN ?_ _) | (with_reducible refine Tab.setCell ?_ ?_ ?_ _) | omega | (simp; done) | (simp; omega)))).mono ?_); rintro e w2 ⟨v2, rfl, hs2, hk2, -⟩; obtain ⟨hc2, hf2⟩ := bcell hk2.2; have ht2 := hk2.1; have hz2 := hk2.2.size; (try simp only [World.size_alloc] at hz2); (try simp only [sz_drew] at hz2); (try simp only [sz_drewN] at hz2); (try simp only [World.size_alloc] at hz2); (try simp only [sz_drew] at hc2 hf2); (try simp only [sz_drewN] at hc2 hf2); (try have hw2 : w.heap.size < w2.heap.size := by omega); (try have hv2 : w.heap.size + 1 < w2.heap.size := by omega); (try have hu2 : w.heap.size + 2 < w2.heap.size := by omega)) | (go_at_call 47; (with_reducible refine Calls.mono (H3.out _ (by repeat' (first | (with_reducible assumption) | (with_reducible refine Tab.alloc ?_ _) | (with_reducible refine Tab.drew ?_) | (with_reducible refine Tab.drewN ?_ _) | (with_reducible refine Tab.setCell ?_ ?_ ?_ _) | omega | (simp; done) | (simp; omega))) _ ?_) ?_); (focus (repeat' (first | (with_reducible assumption) | (with_reducible refine Sl.alloc ?_ _) | (with_reducible refine Sl.drew ?_) | (with_reducible refine Sl.drewN ?_ _) | (with_reducible refine Sl.call ?_ (by assumption))))); rintro e w3 ⟨v3, rfl, hs3, hk3⟩; obtain ⟨hc3, hf3⟩ := bcell hk3.2; have ht3 := hk3.1; have hz3 := hk3.2.size; (try simp only [World.size_alloc] at hz3); (try simp only [sz_drew] at hz3); (try simp only [sz_drewN] at hz3); (try simp only [World.size_alloc] at hz3); (try simp only [sz_drew] at hc3 hf3); (try simp only [sz_drewN] at hc3 hf3); (try have hw3 : w.heap.size < w3.heap.size := by omega); (try have hv3 : w.heap.size + 1 < w3.heap.size := by omega); (try have hu3 : w.heap.size + 2 < w3.heap.size := by omega)) | (go_at_call 49; (with_reducible refine Calls.mono (H5.out _ (by repeat' (first | (with_reducible assumption) | (with_reducible refine Tab.alloc ?_ _) | (with_reducible refine Tab.drew ?_) | (with_reducible refine Tab.drewN ?_ _) | (with_reducible refine Tab.setCell ?_ ?_ ?_ _) | omega | (simp; done) | (simp; omega))) _ ?_) ?_); (focus (repeat' (first | (with_reducible assumption) | (with_reducible refine Sl.alloc ?_ _) | (with_reducible refine Sl.drew ?_) | (with_reducible refine Sl.drewN ?_ _) | (with_reducible refine Sl.call ?_ (by assumption))))); rintro e w5 ⟨p5, q5, n5, r5, i5, j5, k5, rfl, hs5, hk5⟩; obtain ⟨hc5, hf5⟩ := bcell hk5.2; have ht5 := hk5.1; have hz5 := hk5.2.size; (try simp only [World.size_alloc] at hz5); (try simp only [sz_drew] at hz5); (try simp only [sz_drewN] at hz5); (try simp only [World.size_alloc] at hz5); (try simp only [sz_drew] at hc5 hf5); (try simp only [sz_drewN] at hc5 hf5); (try have hw5 : w.heap.size < w5.heap.size := by omega); (try have hv5 : w.heap.size + 1 < w5.heap.size := by omega); (try have hu5 : w.heap.size + 2 < w5.heap.size := by omega)))
    clear hc2 hf2 hc3 hf3 hc5 hf5
    have hI5 : Inv w [(w.heap.size, 25, [.int .i64 a, .int .i64 e]), (w.heap.size + 1, 25, [.int .i64 0, .int .i64 0])] w5 := by repeat' (first | (with_reducible assumption) | (with_reducible refine Inv.drew ?_) | (with_reducible refine Inv.alloc ?_ _) | (with_reducible refine Inv.call ?_ (by assumption)) | (with_reducible refine Inv.far ?_ ?_ ?_ ?_ ?_ _) | omega | (simp; done) | (simp; omega))
    have HZ : Hid (Own w5 (w.heap.size + 1) 25 [.int .i64 0, .int .i64 0]) := Lib.hid (hI5.own 1 _ rfl)
    clear x0 x1 xf xl hI
    (have x0 : w5.cell? ⟨w.heap.size, 0, none⟩ = some (.int .i64 a) := (hI5.own 0 _ rfl).cell 0; have x1 : w5.cell? ⟨w.heap.size, 1, none⟩ = some (.int .i64 e) := (hI5.own 0 _ rfl).cell 1; have xf := fun i => (hI5.own 0 _ rfl).frozen i; have xl : w.heap.size < w5.heap.size := (hI5.own 0 _ rfl).lt)
    (have z0 : w5.cell? ⟨w.heap.size + 1, 0, none⟩ = some (.int .i64 0) := (hI5.own 1 _ rfl).cell 0; have z1 : w5.cell? ⟨w.heap.size + 1, 1, none⟩ = some (.int .i64 0) := (hI5.own 1 _ rfl).cell 1; have zf := fun i => (hI5.own 1 _ rfl).frozen i; have zl : w.heap.size + 1 < w5.heap.size := (hI5.own 1 _ rfl).lt)
    have hw5 := hI5.kept
    go_wp2_with (first | (go_at_call 38; (with_reducible refine Calls.mono (H4.out _ _ (by repeat' (first | (with_reducible assumption) | (with_reducible refine Tab.alloc ?_ _) | (with_reducible refine Tab.drew ?_) | (with_reducible refine Tab.drewN ?_ _) | (with_reducible refine Tab.setCell ?_ ?_ ?_ _) | omega | (simp; done) | (simp; omega))) ?_) ?_); (focus (repeat' (first | (with_reducible assumption) | (with_reducible refine Sl.alloc ?_ _) | (with_reducible refine Sl.drew ?_) | (with_reducible refine Sl.drewN ?_ _) | (with_reducible refine Sl.call ?_ (by assumption))))); rintro e w6 ⟨rfl, hk6⟩; obtain ⟨hc6, hf6⟩ := bcell hk6.2; have ht6 := hk6.1; have hz6 := hk6.2.size; (try simp only [World.size_alloc] at hz6); (try simp only [sz_drew] at hz6); (try simp only [sz_drewN] at hz6); (try simp only [World.size_alloc] at hz6); (try simp only [sz_drew] at hc6 hf6); (try simp only [sz_drewN] at hc6 hf6); (try have hw6 : w.heap.size < w6.heap.size := by omega); (try have hv6 : w.heap.size + 1 < w6.heap.size := by omega); (try have hu6 : w.heap.size + 2 < w6.heap.size := by omega)))
    have hF := ((HZ.out.call hk6).put 0 (.int .i64 M)).put 1 (.int .i64 E)
    refine bodyPost_ret (ret_own_tmp rfl hF rfl Tryd.underlying25 rfl (by kernel_rfl)) rfl ?_
    exact ⟨rfl, (by repeat' (first | (with_reducible assumption) | (with_reducible exact Kept.refl ht) | (with_reducible refine Kept.alloc ?_ _) | (with_reducible refine Kept.drew ?_) | (with_reducible refine Kept.drewN ?_ _) | (with_reducible refine Kept.setCell ?_ ?_ _ ?_ ?_) | (with_reducible refine Kept.trans ?_ (by assumption)) | omega | (simp; done) | (simp; omega)))⟩
set_option maxRecDepth 100000 in
set_option maxHeartbeats 16000000 in
theorem rsqrt_odna (s how a e T M E X : Int) (w : World) (ht : Tab w) (hc : ckR s how [(a, e)] = 0) (hn : ¬ a < 0) (hT : e - 61 = 2 * T) (hsg : e - 61 < 0) (hpe : 0 ≤ e) (hM : sRes s how a e = ⟨M, E, X⟩) :
    Calls Tryd.prog 16 #[.int .i64 s, .int .i64 how, .agg #[.int .i64 a, .int .i64 e]] w fun x w' => x = .returned (.tuple #[.agg #[.int .i64 M, .int .i64 E], .int .i64 X]) ∧ Kept w w' := by
  have hlt := ht.lt
  have hlt0 := ht.lt0
  obtain ⟨hd, v1⟩ := ck1_facts hc
  obtain ⟨hs, a1, a2, a3, a4, a5⟩ := vld_facts v1
  have hsz : isSz s = true := decide_eq_true hs
  have d1 := dg18 a1
  have hck := fun w ht => right_one s how a e w ht (by omega) (by omega)
  rw [hc] at hck
  have HC := Lib.hid hck
  have H1 := Lib.hid (fun w ht => Of_any a w ht (by omega) (by omega))
  have hr : rRes (pr s) how false (sc (isq (mag a * 10 ^ 61)) T) (decide (isq (mag a * 10 ^ 61) * isq (mag a * 10 ^ 61) ≠ mag a * 10 ^ 61)) = ⟨M, E, X⟩ := by
    rw [← hM]
    unfold sRes
    rw [okOr_zero _ hc, if_neg hn]
    by_cases ha0 : a = 0
    · rw [if_pos ha0]
      subst ha0
      rw [show mag 0 = 0 from rfl, Nat.zero_mul, show isq 0 = 0 by rw [isq]; simp]
      exact zero_rRes
    · rw [if_neg ha0]
      have := root_same (p := pr s) (how := how) (k := 61) (e := e) (n := mag a) (pr18 s) (by unfold mag; omega) d1 (by omega) (by omega) (by omega)
      rwa [show (e - ((61 : Nat) : Int)) / 2 = T by omega] at this
  have hmo : isq (mag a * 10 ^ 61) * isq (mag a * 10 ^ 61) ≠ mag a * 10 ^ 61 → 18 < dg (isq (mag a * 10 ^ 61)) := fun h => by
    by_cases ha0 : a = 0
    · subst ha0
      exact absurd (by rw [show mag 0 = 0 from rfl, Nat.zero_mul, show isq 0 = 0 by rw [isq]; simp]) h
    · exact root_dg (e := e) (by unfold mag; omega) d1 (by omega) (by omega)
  have hd60 : dg (mag a * 10 ^ 61) ≤ 90 := by
    have h1 := dg_mulle (mag a) (10 ^ 61)
    have h2 : dg (10 ^ 61) ≤ 62 := (dg_iff _ _).2 (Nat.pow_lt_pow_right (by omega) (by omega))
    omega
  have hsq := isq_spec (mag a * 10 ^ 61)
  have hdQ : dg (isq (mag a * 10 ^ 61)) ≤ 90 := by
    refine Nat.le_trans (dg_mono (Nat.le_trans (Nat.le_mul_self _) hsq.1)) hd60
  obtain ⟨lr, hlr⟩ : ∃ lr, (ds (mag a * 10 ^ 61 - isq (mag a * 10 ^ 61) * isq (mag a * 10 ^ 61))).length = lr := ⟨_, rfl⟩
  have H3 : Hid (∀ W, Tab W → ∀ u, Sl W u (ds (mag a)) → Calls Tryd.prog 47 #[u, .int .i64 61] W fun e w' => ∃ v', e = .returned v' ∧ Sl w' v' (ds (mag a * 10 ^ 61)) ∧ Kept W w') := Lib.hid (fun W h u hu => refshift u (mag a) 61 W h hu (by omega) (by omega))
  have H5 : Hid (∀ W, Tab W → ∀ u, Sl W u (ds (mag a * 10 ^ 61)) → Calls Tryd.prog 49 #[u] W fun x w' => ∃ b1 o1 n1 c1 b2 o2 c2 : Nat, x = .returned (.tuple #[.slice (some ⟨b1, o1, none⟩) n1 c1, .slice (some ⟨b2, o2, none⟩) lr c2]) ∧ Sl w' (.slice (some ⟨b1, o1, none⟩) n1 c1) (ds (isq (mag a * 10 ^ 61))) ∧ Kept W w') := Lib.hid (fun W h u hu => by
    refine (refroot u _ W h hu (by omega)).mono fun x w' ⟨q, r, hx, hq, hr, hk⟩ => ?_
    obtain ⟨b1, o1, c1, rfl, _⟩ := hq.form
    obtain ⟨b2, o2, c2, rfl, _⟩ := hr.form
    rw [hlr] at hx
    exact ⟨_, _, _, _, _, _, _, hx, hq, hk⟩)
  have H4 := Lib.hid (fun (v : Value) w ht h => gives_out2 hr (refRounded s how false (decide (isq (mag a * 10 ^ 61) * isq (mag a * 10 ^ 61) ≠ mag a * 10 ^ 61)) (isq (mag a * 10 ^ 61)) T v w ht h hsz hd (by omega) (by omega) (by omega) (fun h => hmo (of_decide_eq_true h))))
  have hcs : (isq (mag a * 10 ^ 61) * isq (mag a * 10 ^ 61) = mag a * 10 ^ 61 ∧ lr = 0) ∨ (isq (mag a * 10 ^ 61) * isq (mag a * 10 ^ 61) ≠ mag a * 10 ^ 61 ∧ 0 < lr) := by
    rw [← hlr, ds_len]
    by_cases h : isq (mag a * 10 ^ 61) * isq (mag a * 10 ^ 61) = mag a * 10 ^ 61
    · left; refine ⟨h, ?_⟩; rw [h, Nat.sub_self, dg_zero]
    · refine Or.inr ⟨h, ?_⟩
      have := dg_ne (n := mag a * 10 ^ 61 - isq (mag a * 10 ^ 61) * isq (mag a * 10 ^ 61)) (by omega)
      omega
  generalize isq (mag a * 10 ^ 61) = Q at *
  generalize mag a * 10 ^ 61 = R at *
  have t1 : e % 2 = 1 := by omega
  have t2 : (e - 61).tdiv 2 = T := by first | (exact tdiv_half hT) | omega
  have t3 : -2000 ≤ T := by omega
  have t4 : T ≤ 2000 := by omega
  have t5 : (61 : Int) - 61 = 0 := by omega
  clear t5
  clear hck hc v1 a1 hM hr hs hsz hd d1 hmo hd60 hdQ hlr hsq hT
  rcases hcs with ⟨hR, rfl⟩ | ⟨hR, hlr0⟩
  all_goals
    (first | rw [decide_eq_true hR] at H4 | rw [decide_eq_false (not_not_intro hR)] at H4)
    clear hR
    go_enter Tryd.func16, Tryd.ntmps16
    go_upto_region 4 with (first | (go_at_call 37; (with_reducible refine (HC.out _ (by repeat' (first | (with_reducible assumption) | (with_reducible refine Tab.alloc ?_ _) | (with_reducible refine Tab.drew ?_) | (with_reducible refine Tab.drewN ?_ _) | (with_reducible refine Tab.setCell ?_ ?_ ?_ _) | omega | (simp; done) | (simp; omega)))).mono ?_); rintro e w1 ⟨rfl, hk1⟩; obtain ⟨hc1, hf1⟩ := bcell hk1.2; have ht1 := hk1.1; have hz1 := hk1.2.size; (try simp only [World.size_alloc] at hz1); (try simp only [sz_drew] at hz1); (try simp only [sz_drewN] at hz1); (try simp only [World.size_alloc] at hz1); (try simp only [sz_drew] at hc1 hf1); (try simp only [sz_drewN] at hc1 hf1); (try have hw1 : w.heap.size < w1.heap.size := by omega); (try have hv1 : w.heap.size + 1 < w1.heap.size := by omega); (try have hu1 : w.heap.size + 2 < w1.heap.size := by omega)))
    have hI := (Inv.two ht 25 [.int .i64 a, .int .i64 e] 25 [.int .i64 0, .int .i64 0]).call hk1
    clear hc1 hf1
    (have x0 : w1.cell? ⟨w.heap.size, 0, none⟩ = some (.int .i64 a) := (hI.own 0 _ rfl).cell 0; have x1 : w1.cell? ⟨w.heap.size, 1, none⟩ = some (.int .i64 e) := (hI.own 0 _ rfl).cell 1; have xf := fun i => (hI.own 0 _ rfl).frozen i; have xl : w.heap.size < w1.heap.size := (hI.own 0 _ rfl).lt)
    go_upto_region 10 with (first | (go_at_call 44; (with_reducible refine (H1.out _ (by repeat' (first | (with_reducible assumption) | (with_reducible refine Tab.alloc ?_ _) | (with_reducible refine Tab.drew ?_) | (with_reducible refine Tab.drewN ?_ _) | (with_reducible refine Tab.setCell ?_ ?_ ?_ _) | omega | (simp; done) | (simp; omega)))).mono ?_); rintro e w2 ⟨v2, rfl, hs2, hk2, -⟩; obtain ⟨hc2, hf2⟩ := bcell hk2.2; have ht2 := hk2.1; have hz2 := hk2.2.size; (try simp only [World.size_alloc] at hz2); (try simp only [sz_drew] at hz2); (try simp only [sz_drewN] at hz2); (try simp only [World.size_alloc] at hz2); (try simp only [sz_drew] at hc2 hf2); (try simp only [sz_drewN] at hc2 hf2); (try have hw2 : w.heap.size < w2.heap.size := by omega); (try have hv2 : w.heap.size + 1 < w2.heap.size := by omega); (try have hu2 : w.heap.size + 2 < w2.heap.size := by omega)) | (go_at_call 47; (with_reducible refine Calls.mono (H3.out _ (by repeat' (first | (with_reducible assumption) | (with_reducible refine Tab.alloc ?_ _) | (with_reducible refine Tab.drew ?_) | (with_reducible refine Tab.drewN ?_ _) | (with_reducible refine Tab.setCell ?_ ?_ ?_ _) | omega | (simp; done) | (simp; omega))) _ ?_) ?_); (focus (repeat' (first | (with_reducible assumption) | (with_reducible refine Sl.alloc ?_ _) | (with_reducible refine Sl.drew ?_) | (with_reducible refine Sl.drewN ?_ _) | (with_reducible refine Sl.call ?_ (by assumption))))); rintro e w3 ⟨v3, rfl, hs3, hk3⟩; obtain ⟨hc3, hf3⟩ := bcell hk3.2; have ht3 := hk3.1; have hz3 := hk3.2.size; (try simp only [World.size_alloc] at hz3); (try simp only [sz_drew] at hz3); (try simp only [sz_drewN] at hz3); (try simp only [World.size_alloc] at hz3); (try simp only [sz_drew] at hc3 hf3); (try simp only [sz_drewN] at hc3 hf3); (try have hw3 : w.heap.size < w3.heap.size := by omega); (try have hv3 : w.heap.size + 1 < w3.heap.size := by omega); (try have hu3 : w.heap.size + 2 < w3.heap.size := by omega)) | (go_at_call 49; (with_reducible refine Calls.mono (H5.out _ (by repeat' (first | (with_reducible assumption) | (with_reducible refine Tab.alloc ?_ _) | (with_reducible refine Tab.drew ?_) | (with_reducible refine Tab.drewN ?_ _) | (with_reducible refine Tab.setCell ?_ ?_ ?_ _) | omega | (simp; done) | (simp; omega))) _ ?_) ?_); (focus (repeat' (first | (with_reducible assumption) | (with_reducible refine Sl.alloc ?_ _) | (with_reducible refine Sl.drew ?_) | (with_reducible refine Sl.drewN ?_ _) | (with_reducible refine Sl.call ?_ (by assumption))))); rintro e w5 ⟨p5, q5, n5, r5, i5, j5, k5, rfl, hs5, hk5⟩; obtain ⟨hc5, hf5⟩ := bcell hk5.2; have ht5 := hk5.1; have hz5 := hk5.2.size; (try simp only [World.size_alloc] at hz5); (try simp only [sz_drew] at hz5); (try simp only [sz_drewN] at hz5); (try simp only [World.size_alloc] at hz5); (try simp only [sz_drew] at hc5 hf5); (try simp only [sz_drewN] at hc5 hf5); (try have hw5 : w.heap.size < w5.heap.size := by omega); (try have hv5 : w.heap.size + 1 < w5.heap.size := by omega); (try have hu5 : w.heap.size + 2 < w5.heap.size := by omega)))
    clear hc2 hf2 hc3 hf3 hc5 hf5
    have hI5 : Inv w [(w.heap.size, 25, [.int .i64 a, .int .i64 e]), (w.heap.size + 1, 25, [.int .i64 0, .int .i64 0])] w5 := by repeat' (first | (with_reducible assumption) | (with_reducible refine Inv.drew ?_) | (with_reducible refine Inv.alloc ?_ _) | (with_reducible refine Inv.call ?_ (by assumption)) | (with_reducible refine Inv.far ?_ ?_ ?_ ?_ ?_ _) | omega | (simp; done) | (simp; omega))
    have HZ : Hid (Own w5 (w.heap.size + 1) 25 [.int .i64 0, .int .i64 0]) := Lib.hid (hI5.own 1 _ rfl)
    clear x0 x1 xf xl hI
    (have x0 : w5.cell? ⟨w.heap.size, 0, none⟩ = some (.int .i64 a) := (hI5.own 0 _ rfl).cell 0; have x1 : w5.cell? ⟨w.heap.size, 1, none⟩ = some (.int .i64 e) := (hI5.own 0 _ rfl).cell 1; have xf := fun i => (hI5.own 0 _ rfl).frozen i; have xl : w.heap.size < w5.heap.size := (hI5.own 0 _ rfl).lt)
    (have z0 : w5.cell? ⟨w.heap.size + 1, 0, none⟩ = some (.int .i64 0) := (hI5.own 1 _ rfl).cell 0; have z1 : w5.cell? ⟨w.heap.size + 1, 1, none⟩ = some (.int .i64 0) := (hI5.own 1 _ rfl).cell 1; have zf := fun i => (hI5.own 1 _ rfl).frozen i; have zl : w.heap.size + 1 < w5.heap.size := (hI5.own 1 _ rfl).lt)
    have hw5 := hI5.kept
    go_wp2_with (first | (go_at_call 38; (with_reducible refine Calls.mono (H4.out _ _ (by repeat' (first | (with_reducible assumption) | (with_reducible refine Tab.alloc ?_ _) | (with_reducible refine Tab.drew ?_) | (with_reducible refine Tab.drewN ?_ _) | (with_reducible refine Tab.setCell ?_ ?_ ?_ _) | omega | (simp; done) | (simp; omega))) ?_) ?_); (focus (repeat' (first | (with_reducible assumption) | (with_reducible refine Sl.alloc ?_ _) | (with_reducible refine Sl.drew ?_) | (with_reducible refine Sl.drewN ?_ _) | (with_reducible refine Sl.call ?_ (by assumption))))); rintro e w6 ⟨rfl, hk6⟩; obtain ⟨hc6, hf6⟩ := bcell hk6.2; have ht6 := hk6.1; have hz6 := hk6.2.size; (try simp only [World.size_alloc] at hz6); (try simp only [sz_drew] at hz6); (try simp only [sz_drewN] at hz6); (try simp only [World.size_alloc] at hz6); (try simp only [sz_drew] at hc6 hf6); (try simp only [sz_drewN] at hc6 hf6); (try have hw6 : w.heap.size < w6.heap.size := by omega); (try have hv6 : w.heap.size + 1 < w6.heap.size := by omega); (try have hu6 : w.heap.size + 2 < w6.heap.size := by omega)))
    have hF := ((HZ.out.call hk6).put 0 (.int .i64 M)).put 1 (.int .i64 E)
    refine bodyPost_ret (ret_own_tmp rfl hF rfl Tryd.underlying25 rfl (by kernel_rfl)) rfl ?_
    exact ⟨rfl, (by repeat' (first | (with_reducible assumption) | (with_reducible exact Kept.refl ht) | (with_reducible refine Kept.alloc ?_ _) | (with_reducible refine Kept.drew ?_) | (with_reducible refine Kept.drewN ?_ _) | (with_reducible refine Kept.setCell ?_ ?_ _ ?_ ?_) | (with_reducible refine Kept.trans ?_ (by assumption)) | omega | (simp; done) | (simp; omega)))⟩
set_option maxRecDepth 100000 in
set_option maxHeartbeats 16000000 in
theorem rsqrt_odnb (s how a e T M E X : Int) (w : World) (ht : Tab w) (hc : ckR s how [(a, e)] = 0) (hn : ¬ a < 0) (hT : e - 61 = 2 * T) (_hsg : e - 61 < 0) (hpe : e < 0) (hM : sRes s how a e = ⟨M, E, X⟩) :
    Calls Tryd.prog 16 #[.int .i64 s, .int .i64 how, .agg #[.int .i64 a, .int .i64 e]] w fun x w' => x = .returned (.tuple #[.agg #[.int .i64 M, .int .i64 E], .int .i64 X]) ∧ Kept w w' := by
  have hlt := ht.lt
  have hlt0 := ht.lt0
  obtain ⟨hd, v1⟩ := ck1_facts hc
  obtain ⟨hs, a1, a2, a3, a4, a5⟩ := vld_facts v1
  have hsz : isSz s = true := decide_eq_true hs
  have d1 := dg18 a1
  have hck := fun w ht => right_one s how a e w ht (by omega) (by omega)
  rw [hc] at hck
  have HC := Lib.hid hck
  have H1 := Lib.hid (fun w ht => Of_any a w ht (by omega) (by omega))
  have hr : rRes (pr s) how false (sc (isq (mag a * 10 ^ 61)) T) (decide (isq (mag a * 10 ^ 61) * isq (mag a * 10 ^ 61) ≠ mag a * 10 ^ 61)) = ⟨M, E, X⟩ := by
    rw [← hM]
    unfold sRes
    rw [okOr_zero _ hc, if_neg hn]
    by_cases ha0 : a = 0
    · rw [if_pos ha0]
      subst ha0
      rw [show mag 0 = 0 from rfl, Nat.zero_mul, show isq 0 = 0 by rw [isq]; simp]
      exact zero_rRes
    · rw [if_neg ha0]
      have := root_same (p := pr s) (how := how) (k := 61) (e := e) (n := mag a) (pr18 s) (by unfold mag; omega) d1 (by omega) (by omega) (by omega)
      rwa [show (e - ((61 : Nat) : Int)) / 2 = T by omega] at this
  have hmo : isq (mag a * 10 ^ 61) * isq (mag a * 10 ^ 61) ≠ mag a * 10 ^ 61 → 18 < dg (isq (mag a * 10 ^ 61)) := fun h => by
    by_cases ha0 : a = 0
    · subst ha0
      exact absurd (by rw [show mag 0 = 0 from rfl, Nat.zero_mul, show isq 0 = 0 by rw [isq]; simp]) h
    · exact root_dg (e := e) (by unfold mag; omega) d1 (by omega) (by omega)
  have hd60 : dg (mag a * 10 ^ 61) ≤ 90 := by
    have h1 := dg_mulle (mag a) (10 ^ 61)
    have h2 : dg (10 ^ 61) ≤ 62 := (dg_iff _ _).2 (Nat.pow_lt_pow_right (by omega) (by omega))
    omega
  have hsq := isq_spec (mag a * 10 ^ 61)
  have hdQ : dg (isq (mag a * 10 ^ 61)) ≤ 90 := by
    refine Nat.le_trans (dg_mono (Nat.le_trans (Nat.le_mul_self _) hsq.1)) hd60
  obtain ⟨lr, hlr⟩ : ∃ lr, (ds (mag a * 10 ^ 61 - isq (mag a * 10 ^ 61) * isq (mag a * 10 ^ 61))).length = lr := ⟨_, rfl⟩
  have H3 : Hid (∀ W, Tab W → ∀ u, Sl W u (ds (mag a)) → Calls Tryd.prog 47 #[u, .int .i64 61] W fun e w' => ∃ v', e = .returned v' ∧ Sl w' v' (ds (mag a * 10 ^ 61)) ∧ Kept W w') := Lib.hid (fun W h u hu => refshift u (mag a) 61 W h hu (by omega) (by omega))
  have H5 : Hid (∀ W, Tab W → ∀ u, Sl W u (ds (mag a * 10 ^ 61)) → Calls Tryd.prog 49 #[u] W fun x w' => ∃ b1 o1 n1 c1 b2 o2 c2 : Nat, x = .returned (.tuple #[.slice (some ⟨b1, o1, none⟩) n1 c1, .slice (some ⟨b2, o2, none⟩) lr c2]) ∧ Sl w' (.slice (some ⟨b1, o1, none⟩) n1 c1) (ds (isq (mag a * 10 ^ 61))) ∧ Kept W w') := Lib.hid (fun W h u hu => by
    refine (refroot u _ W h hu (by omega)).mono fun x w' ⟨q, r, hx, hq, hr, hk⟩ => ?_
    obtain ⟨b1, o1, c1, rfl, _⟩ := hq.form
    obtain ⟨b2, o2, c2, rfl, _⟩ := hr.form
    rw [hlr] at hx
    exact ⟨_, _, _, _, _, _, _, hx, hq, hk⟩)
  have H4 := Lib.hid (fun (v : Value) w ht h => gives_out2 hr (refRounded s how false (decide (isq (mag a * 10 ^ 61) * isq (mag a * 10 ^ 61) ≠ mag a * 10 ^ 61)) (isq (mag a * 10 ^ 61)) T v w ht h hsz hd (by omega) (by omega) (by omega) (fun h => hmo (of_decide_eq_true h))))
  have hcs : (isq (mag a * 10 ^ 61) * isq (mag a * 10 ^ 61) = mag a * 10 ^ 61 ∧ lr = 0) ∨ (isq (mag a * 10 ^ 61) * isq (mag a * 10 ^ 61) ≠ mag a * 10 ^ 61 ∧ 0 < lr) := by
    rw [← hlr, ds_len]
    by_cases h : isq (mag a * 10 ^ 61) * isq (mag a * 10 ^ 61) = mag a * 10 ^ 61
    · left; refine ⟨h, ?_⟩; rw [h, Nat.sub_self, dg_zero]
    · refine Or.inr ⟨h, ?_⟩
      have := dg_ne (n := mag a * 10 ^ 61 - isq (mag a * 10 ^ 61) * isq (mag a * 10 ^ 61)) (by omega)
      omega
  generalize isq (mag a * 10 ^ 61) = Q at *
  generalize mag a * 10 ^ 61 = R at *
  have t1 : e.tmod 2 = -1 := tmod_odd_neg hpe (by omega)
  have t2 : (e - 61).tdiv 2 = T := by first | (exact tdiv_half hT) | omega
  have t3 : -2000 ≤ T := by omega
  have t4 : T ≤ 2000 := by omega
  have t5 : (61 : Int) - 61 = 0 := by omega
  clear t5
  clear hck hc v1 a1 hM hr hs hsz hd d1 hmo hd60 hdQ hlr hsq hT
  rcases hcs with ⟨hR, rfl⟩ | ⟨hR, hlr0⟩
  all_goals
    (first | rw [decide_eq_true hR] at H4 | rw [decide_eq_false (not_not_intro hR)] at H4)
    clear hR
    go_enter Tryd.func16, Tryd.ntmps16
    go_upto_region 4 with (first | (go_at_call 37; (with_reducible refine (HC.out _ (by repeat' (first | (with_reducible assumption) | (with_reducible refine Tab.alloc ?_ _) | (with_reducible refine Tab.drew ?_) | (with_reducible refine Tab.drewN ?_ _) | (with_reducible refine Tab.setCell ?_ ?_ ?_ _) | omega | (simp; done) | (simp; omega)))).mono ?_); rintro e w1 ⟨rfl, hk1⟩; obtain ⟨hc1, hf1⟩ := bcell hk1.2; have ht1 := hk1.1; have hz1 := hk1.2.size; (try simp only [World.size_alloc] at hz1); (try simp only [sz_drew] at hz1); (try simp only [sz_drewN] at hz1); (try simp only [World.size_alloc] at hz1); (try simp only [sz_drew] at hc1 hf1); (try simp only [sz_drewN] at hc1 hf1); (try have hw1 : w.heap.size < w1.heap.size := by omega); (try have hv1 : w.heap.size + 1 < w1.heap.size := by omega); (try have hu1 : w.heap.size + 2 < w1.heap.size := by omega)))
    have hI := (Inv.two ht 25 [.int .i64 a, .int .i64 e] 25 [.int .i64 0, .int .i64 0]).call hk1
    clear hc1 hf1
    (have x0 : w1.cell? ⟨w.heap.size, 0, none⟩ = some (.int .i64 a) := (hI.own 0 _ rfl).cell 0; have x1 : w1.cell? ⟨w.heap.size, 1, none⟩ = some (.int .i64 e) := (hI.own 0 _ rfl).cell 1; have xf := fun i => (hI.own 0 _ rfl).frozen i; have xl : w.heap.size < w1.heap.size := (hI.own 0 _ rfl).lt)
    go_upto_region 10 with (first | (go_at_call 44; (with_reducible refine (H1.out _ (by repeat' (first | (with_reducible assumption) | (with_reducible refine Tab.alloc ?_ _) | (with_reducible refine Tab.drew ?_) | (with_reducible refine Tab.drewN ?_ _) | (with_reducible refine Tab.setCell ?_ ?_ ?_ _) | omega | (simp; done) | (simp; omega)))).mono ?_); rintro e w2 ⟨v2, rfl, hs2, hk2, -⟩; obtain ⟨hc2, hf2⟩ := bcell hk2.2; have ht2 := hk2.1; have hz2 := hk2.2.size; (try simp only [World.size_alloc] at hz2); (try simp only [sz_drew] at hz2); (try simp only [sz_drewN] at hz2); (try simp only [World.size_alloc] at hz2); (try simp only [sz_drew] at hc2 hf2); (try simp only [sz_drewN] at hc2 hf2); (try have hw2 : w.heap.size < w2.heap.size := by omega); (try have hv2 : w.heap.size + 1 < w2.heap.size := by omega); (try have hu2 : w.heap.size + 2 < w2.heap.size := by omega)) | (go_at_call 47; (with_reducible refine Calls.mono (H3.out _ (by repeat' (first | (with_reducible assumption) | (with_reducible refine Tab.alloc ?_ _) | (with_reducible refine Tab.drew ?_) | (with_reducible refine Tab.drewN ?_ _) | (with_reducible refine Tab.setCell ?_ ?_ ?_ _) | omega | (simp; done) | (simp; omega))) _ ?_) ?_); (focus (repeat' (first | (with_reducible assumption) | (with_reducible refine Sl.alloc ?_ _) | (with_reducible refine Sl.drew ?_) | (with_reducible refine Sl.drewN ?_ _) | (with_reducible refine Sl.call ?_ (by assumption))))); rintro e w3 ⟨v3, rfl, hs3, hk3⟩; obtain ⟨hc3, hf3⟩ := bcell hk3.2; have ht3 := hk3.1; have hz3 := hk3.2.size; (try simp only [World.size_alloc] at hz3); (try simp only [sz_drew] at hz3); (try simp only [sz_drewN] at hz3); (try simp only [World.size_alloc] at hz3); (try simp only [sz_drew] at hc3 hf3); (try simp only [sz_drewN] at hc3 hf3); (try have hw3 : w.heap.size < w3.heap.size := by omega); (try have hv3 : w.heap.size + 1 < w3.heap.size := by omega); (try have hu3 : w.heap.size + 2 < w3.heap.size := by omega)) | (go_at_call 49; (with_reducible refine Calls.mono (H5.out _ (by repeat' (first | (with_reducible assumption) | (with_reducible refine Tab.alloc ?_ _) | (with_reducible refine Tab.drew ?_) | (with_reducible refine Tab.drewN ?_ _) | (with_reducible refine Tab.setCell ?_ ?_ ?_ _) | omega | (simp; done) | (simp; omega))) _ ?_) ?_); (focus (repeat' (first | (with_reducible assumption) | (with_reducible refine Sl.alloc ?_ _) | (with_reducible refine Sl.drew ?_) | (with_reducible refine Sl.drewN ?_ _) | (with_reducible refine Sl.call ?_ (by assumption))))); rintro e w5 ⟨p5, q5, n5, r5, i5, j5, k5, rfl, hs5, hk5⟩; obtain ⟨hc5, hf5⟩ := bcell hk5.2; have ht5 := hk5.1; have hz5 := hk5.2.size; (try simp only [World.size_alloc] at hz5); (try simp only [sz_drew] at hz5); (try simp only [sz_drewN] at hz5); (try simp only [World.size_alloc] at hz5); (try simp only [sz_drew] at hc5 hf5); (try simp only [sz_drewN] at hc5 hf5); (try have hw5 : w.heap.size < w5.heap.size := by omega); (try have hv5 : w.heap.size + 1 < w5.heap.size := by omega); (try have hu5 : w.heap.size + 2 < w5.heap.size := by omega)))
    clear hc2 hf2 hc3 hf3 hc5 hf5
    have hI5 : Inv w [(w.heap.size, 25, [.int .i64 a, .int .i64 e]), (w.heap.size + 1, 25, [.int .i64 0, .int .i64 0])] w5 := by repeat' (first | (with_reducible assumption) | (with_reducible refine Inv.drew ?_) | (with_reducible refine Inv.alloc ?_ _) | (with_reducible refine Inv.call ?_ (by assumption)) | (with_reducible refine Inv.far ?_ ?_ ?_ ?_ ?_ _) | omega | (simp; done) | (simp; omega))
    have HZ : Hid (Own w5 (w.heap.size + 1) 25 [.int .i64 0, .int .i64 0]) := Lib.hid (hI5.own 1 _ rfl)
    clear x0 x1 xf xl hI
    (have x0 : w5.cell? ⟨w.heap.size, 0, none⟩ = some (.int .i64 a) := (hI5.own 0 _ rfl).cell 0; have x1 : w5.cell? ⟨w.heap.size, 1, none⟩ = some (.int .i64 e) := (hI5.own 0 _ rfl).cell 1; have xf := fun i => (hI5.own 0 _ rfl).frozen i; have xl : w.heap.size < w5.heap.size := (hI5.own 0 _ rfl).lt)
    (have z0 : w5.cell? ⟨w.heap.size + 1, 0, none⟩ = some (.int .i64 0) := (hI5.own 1 _ rfl).cell 0; have z1 : w5.cell? ⟨w.heap.size + 1, 1, none⟩ = some (.int .i64 0) := (hI5.own 1 _ rfl).cell 1; have zf := fun i => (hI5.own 1 _ rfl).frozen i; have zl : w.heap.size + 1 < w5.heap.size := (hI5.own 1 _ rfl).lt)
    have hw5 := hI5.kept
    go_wp2_with (first | (go_at_call 38; (with_reducible refine Calls.mono (H4.out _ _ (by repeat' (first | (with_reducible assumption) | (with_reducible refine Tab.alloc ?_ _) | (with_reducible refine Tab.drew ?_) | (with_reducible refine Tab.drewN ?_ _) | (with_reducible refine Tab.setCell ?_ ?_ ?_ _) | omega | (simp; done) | (simp; omega))) ?_) ?_); (focus (repeat' (first | (with_reducible assumption) | (with_reducible refine Sl.alloc ?_ _) | (with_reducible refine Sl.drew ?_) | (with_reducible refine Sl.drewN ?_ _) | (with_reducible refine Sl.call ?_ (by assumption))))); rintro e w6 ⟨rfl, hk6⟩; obtain ⟨hc6, hf6⟩ := bcell hk6.2; have ht6 := hk6.1; have hz6 := hk6.2.size; (try simp only [World.size_alloc] at hz6); (try simp only [sz_drew] at hz6); (try simp only [sz_drewN] at hz6); (try simp only [World.size_alloc] at hz6); (try simp only [sz_drew] at hc6 hf6); (try simp only [sz_drewN] at hc6 hf6); (try have hw6 : w.heap.size < w6.heap.size := by omega); (try have hv6 : w.heap.size + 1 < w6.heap.size := by omega); (try have hu6 : w.heap.size + 2 < w6.heap.size := by omega)))
    have hF := ((HZ.out.call hk6).put 0 (.int .i64 M)).put 1 (.int .i64 E)
    refine bodyPost_ret (ret_own_tmp rfl hF rfl Tryd.underlying25 rfl (by kernel_rfl)) rfl ?_
    exact ⟨rfl, (by repeat' (first | (with_reducible assumption) | (with_reducible exact Kept.refl ht) | (with_reducible refine Kept.alloc ?_ _) | (with_reducible refine Kept.drew ?_) | (with_reducible refine Kept.drewN ?_ _) | (with_reducible refine Kept.setCell ?_ ?_ _ ?_ ?_) | (with_reducible refine Kept.trans ?_ (by assumption)) | omega | (simp; done) | (simp; omega)))⟩
theorem rsqrt_any (s how a e : Int) (w : World) (ht : Tab w) (la : -9223372036854775808 ≤ a) (ha : a ≤ 9223372036854775807) :
    Calls Tryd.prog 16 #[.int .i64 s, .int .i64 how, .agg #[.int .i64 a, .int .i64 e]] w (Gives (sRes s how a e) w) := by
  rcases ck_cases (c := ckR s how [(a, e)]) with hc | hc
  · by_cases hn : a < 0
    · unfold sRes
      rw [okOr_zero _ hc, if_pos hn]
      exact gives_mk _ _ _ (rsqrt_neg s how a e w ht hc hn)
    · rcases (by omega : e % 2 = 0 ∨ e % 2 = 1) with h2 | h2
      · obtain ⟨T, hT⟩ : ∃ T, e - 60 = 2 * T := ⟨(e - 60) / 2, by omega⟩
        rcases (by omega : (0 ≤ e - 60 ∧ 0 ≤ e) ∨ (e - 60 < 0 ∧ 0 ≤ e) ∨ (e - 60 < 0 ∧ e < 0)) with ⟨h3, h4⟩ | ⟨h3, h4⟩ | ⟨h3, h4⟩
        · exact gives_mk _ _ _ (rsqrt_evpa s how a e T _ _ _ w ht hc hn hT h3 h4 rfl)
        · exact gives_mk _ _ _ (rsqrt_evna s how a e T _ _ _ w ht hc hn hT h3 h4 rfl)
        · exact gives_mk _ _ _ (rsqrt_evnb s how a e T _ _ _ w ht hc hn hT h3 h4 rfl)
      · obtain ⟨T, hT⟩ : ∃ T, e - 61 = 2 * T := ⟨(e - 61) / 2, by omega⟩
        rcases (by omega : (0 ≤ e - 61 ∧ 0 ≤ e) ∨ (e - 61 < 0 ∧ 0 ≤ e) ∨ (e - 61 < 0 ∧ e < 0)) with ⟨h3, h4⟩ | ⟨h3, h4⟩ | ⟨h3, h4⟩
        · exact gives_mk _ _ _ (rsqrt_odpa s how a e T _ _ _ w ht hc hn hT h3 h4 rfl)
        · exact gives_mk _ _ _ (rsqrt_odna s how a e T _ _ _ w ht hc hn hT h3 h4 rfl)
        · exact gives_mk _ _ _ (rsqrt_odnb s how a e T _ _ _ w ht hc hn hT h3 h4 rfl)
  · unfold sRes
    rw [okOr_ne _ hc]
    exact gives_mk _ _ _ (rsqrt_bad s how a e _ w ht la ha rfl hc)
end Go.Proofs.YtanfhlkfmmglhaaDoor
