/- The program's integer (e is below 0, Round). Condition: the tables hold what their initialisers lay. -/
import Derived.Test.YtanfhlkfmmglhaaDoorGIc
import Derived.Test.YtanfhlkfmmglhaaDoorGCut
import Derived.Test.YtanfhlkfmmglhaaDoorGMem
import Derived.Deep.RegionHeld3
import Derived.IntWalk
import Derived.RegionTactic
import Derived.BigRegion
namespace Go.Proofs.YtanfhlkfmmglhaaDoor
open Go.ChangeShapes Go.WideShapes Go.ChangeAt Go.RowKit
attribute [local go_sem ↓] Go.wp_at_zero Go.wp_at_succ

set_option maxRecDepth 100000 in
set_option maxHeartbeats 8000000 in
theorem int_4 (s a : Int) (j n q t _g0 : Nat) (neg g : Bool) (r Q : Int) (hQ : (q : Int) = Q) (w : World) (ht : Tab w) (hs : Szs w) (hsz : s = -1 ∨ s = 0 ∨ s = 1) (la : -1000000000000000000 < a) (ha : a < 1000000000000000000) (hneg : decide (a < 0) = neg) (hn : mag a = n) (hj0 : 0 < j) (hj : j ≤ 400) (hn18 : dg n ≤ 18) (hq : n / 10 ^ j = q) (htt : tl n false j = t)
    (HG : Hid (∀ W, Kept w W → Calls Tryd.prog 54 #[.int .i64 (t : Int)] W fun x w' => x = .returned (.bool g) ∧ Kept W w'))
    (hr : rI neg g q = r) :
    Calls Tryd.prog 50 #[.int .i64 s, .agg #[.int .i64 a, .int .i64 (-(j : Int))], .func (.func 54) #[] #[]] w fun x w' => x = .returned (rP s r) ∧ Kept w w' := by
  have hlt := ht.lt
  have hlt0 := ht.lt0
  have hn0 : n < 1000000000000000000 := by rw [← hn]; unfold mag; omega
  have e18 : (10 : Nat) ^ 18 = 1000000000000000000 := by decide
  have hq18 : q < 1000000000000000000 := by rw [← hq]; exact Nat.lt_of_le_of_lt (Nat.div_le_self _ _) hn0
  have H1 := Lib.hid (fun w => magnitude_any a w (by omega) (by omega))
  have H2 := Lib.hid (fun w ht => digitsOf_any n w ht (by omega))
  have H3 := Lib.hid (fun w ht => exactOf_any a (-(j : Int)) w ht (by omega) (by omega))
  have h4 := fun w ht => by have := cut_yes neg n (-(j : Int)) false j w ht (by omega) (by omega) (by omega) hj0 (by omega); rwa [show -(j : Int) + (j : Int) = 0 by omega] at this
  rw [hn] at H1 H3
  rw [hneg] at H3
  rw [htt, hq] at h4
  have H4 := Lib.hid h4
  have HIS := Lib.hid (fun w ht hs => Is_any s r w ht hs hsz)
  have HSZ := Lib.hid hs
  obtain ⟨d, hd⟩ : ∃ d : Int, (dg n : Int) = d := ⟨_, rfl⟩
  rw [hd] at H2
  have hd1 : d + (-(j : Int)) < 19 := by omega
  have hd0 : 0 ≤ d := by omega
  have hd2 : d ≤ 18 := by rw [← hd]; have := (dg_iff n 18).2 (by rw [e18]; exact hn0); omega
  have HB := Lib.hid (And.intro la ha)
  obtain ⟨hi0, lo0⟩ : hiW q = 0 ∧ loW q = q := by unfold hiW loW; omega
  rw [hi0, lo0] at H4
  obtain ⟨hi1, lo1⟩ : hiW n = 0 ∧ loW n = n := by unfold hiW loW; omega
  (try rw [hi1, lo1] at H3)
  (try rw [hi1, lo1] at H4)
  have hz0 : ((0 : Nat) : Int) = 0 := rfl
  (try rw [hz0] at H3)
  (try rw [hz0] at H4)
  clear hz0
  have hpr : ((q : Nat) : Int) * ((tn 0 : Nat) : Int) = Q := by
    rw [← Int.natCast_mul]
    rw [← hQ]
    exact congrArg (fun z : Nat => (z : Int)) (show q * tn 0 = q from by show q * 10 ^ 0 = q; rw [Nat.pow_zero, Nat.mul_one])
  have hq1 : (q : Int) < 1000000000000000000 := by omega
  have HPR := Lib.hid hpr
  have HQE := Lib.hid hq
  have HQQ := Lib.hid hQ
  clear hpr hq1
  have HTE : Hid (∀ W, Tab W → W.cell? ⟨0, 0, none⟩ = some (.int .u64 ((tn 0 : Nat) : Int))) := Lib.hid (fun W h => h.tens 0 (by omega))
  have HR := Lib.hid hr
  have HNEG := Lib.hid hneg
  clear hd hr hq hQ htt hn hn0 hq18 e18 hi0 lo0 hi1 lo1 h4 la ha hs hneg
  have HP : Hid (∀ w', Inv w [(w.heap.size, 25, [.int .i64 a, .int .i64 (-(j : Int))])] w' → Inv w [(w.heap.size, 25, [.int .i64 a, .int .i64 (-(j : Int))])] w' ∧ Tab w' ∧ w'.cell? ⟨w.heap.size, 0, none⟩ = some (.int .i64 a) ∧ w'.cell? ⟨w.heap.size, 1, none⟩ = some (.int .i64 (-(j : Int)))) := Lib.hid (fun w' h => ⟨h, h.kept.1, (h.own 0 _ rfl).cell 0, (h.own 0 _ rfl).cell 1⟩)
  go_enter Tryd.func50, Tryd.ntmps50
  go_upto_region 1 with fail
  have hI := Inv.one ht 25 [.int .i64 a, .int .i64 (-(j : Int))]
  have q1 : IntKind.i64.wrap (d + (-(j : Int))) = d + (-(j : Int)) := IntWalk.i64_in _ (by omega)
  go_region_held3 (fun w' => Inv w [(w.heap.size, 25, [.int .i64 a, .int .i64 (-(j : Int))])] w' ∧ Tab w' ∧ w'.cell? ⟨w.heap.size, 0, none⟩ = some (.int .i64 a) ∧ w'.cell? ⟨w.heap.size, 1, none⟩ = some (.int .i64 (-(j : Int)))) ((refine HP.out _ ?_; repeat' (first | (with_reducible assumption) | (with_reducible refine Inv.drew ?_) | (with_reducible refine Inv.alloc ?_ _) | (with_reducible refine Inv.call ?_ (by assumption)) | (with_reducible refine Inv.far ?_ ?_ ?_ ?_ ?_ _) | omega | (simp; done) | (simp; omega)))) (first | (go_at_call 67; (with_reducible refine (H1.out _).mono ?_); rintro e w' ⟨rfl, rfl⟩) | (go_at_call 86; (with_reducible refine (H2.out _ (by repeat' (first | (with_reducible assumption) | (with_reducible refine Tab.alloc ?_ _) | (with_reducible refine Tab.drew ?_) | (with_reducible refine Tab.drewN ?_ _) | (with_reducible refine Tab.setCell ?_ ?_ ?_ _) | omega | (simp; done) | (simp; omega)))).mono ?_); rintro e w' ⟨rfl, rfl⟩))
  clear q1
  have h19 : decide (19 ≤ d + (-(j : Int))) = false := decide_eq_false (by omega)
  go_wp2_with fail
  have q2 : IntKind.i64.wrap ((j : Int)) = (j : Int) := IntWalk.i64_in _ (by omega)
  go_region_held3 (fun w' => Inv w [(w.heap.size, 25, [.int .i64 a, .int .i64 (-(j : Int))])] w' ∧ Tab w' ∧ w'.cell? ⟨w.heap.size, 0, none⟩ = some (.int .i64 a) ∧ w'.cell? ⟨w.heap.size, 1, none⟩ = some (.int .i64 (-(j : Int)))) ((refine HP.out _ ?_; repeat' (first | (with_reducible assumption) | (with_reducible refine Inv.drew ?_) | (with_reducible refine Inv.alloc ?_ _) | (with_reducible refine Inv.call ?_ (by assumption)) | (with_reducible refine Inv.far ?_ ?_ ?_ ?_ ?_ _) | omega | (simp; done) | (simp; omega)))) (first | (go_at_call 35; (with_reducible refine (H3.out _ (by repeat' (first | (with_reducible assumption) | (with_reducible refine Tab.alloc ?_ _) | (with_reducible refine Tab.drew ?_) | (with_reducible refine Tab.drewN ?_ _) | (with_reducible refine Tab.setCell ?_ ?_ ?_ _) | omega | (simp; done) | (simp; omega)))).mono ?_); rintro e w1 ⟨rfl, hk1⟩; obtain ⟨hc1, hf1⟩ := bcell hk1.2; have ht1 := hk1.1; have hz1 := hk1.2.size; (try simp only [World.size_alloc] at hz1); (try simp only [sz_drew] at hz1); (try simp only [sz_drewN] at hz1); (try simp only [World.size_alloc] at hz1); (try simp only [sz_drew] at hc1 hf1); (try simp only [sz_drewN] at hc1 hf1); (try have hw1 : w.heap.size < w1.heap.size := by omega); (try have hv1 : w.heap.size + 1 < w1.heap.size := by omega); (try have hu1 : w.heap.size + 2 < w1.heap.size := by omega)) | (go_at_call 69; (with_reducible refine (H4.out _ (by repeat' (first | (with_reducible assumption) | (with_reducible refine Tab.alloc ?_ _) | (with_reducible refine Tab.drew ?_) | (with_reducible refine Tab.drewN ?_ _) | (with_reducible refine Tab.setCell ?_ ?_ ?_ _) | omega | (simp; done) | (simp; omega)))).mono ?_); rintro e w2 ⟨rfl, hk2⟩; obtain ⟨hc2, hf2⟩ := bcell hk2.2; have ht2 := hk2.1; have hz2 := hk2.2.size; (try simp only [World.size_alloc] at hz2); (try simp only [sz_drew] at hz2); (try simp only [sz_drewN] at hz2); (try simp only [World.size_alloc] at hz2); (try simp only [sz_drew] at hc2 hf2); (try simp only [sz_drewN] at hc2 hf2); (try have hw2 : w.heap.size < w2.heap.size := by omega); (try have hv2 : w.heap.size + 1 < w2.heap.size := by omega); (try have hu2 : w.heap.size + 2 < w2.heap.size := by omega)))
  clear q2
  have hI2 : Inv w [(w.heap.size, 25, [.int .i64 a, .int .i64 (-(j : Int))])] w2 := by repeat' (first | (with_reducible assumption) | (with_reducible refine Inv.drew ?_) | (with_reducible refine Inv.alloc ?_ _) | (with_reducible refine Inv.call ?_ (by assumption)) | (with_reducible refine Inv.far ?_ ?_ ?_ ?_ ?_ _) | omega | (simp; done) | (simp; omega))
  have hI3 : Inv w ([(w.heap.size, 25, [.int .i64 a, .int .i64 (-(j : Int))])] ++ [(w2.heap.size, 44, [.bool neg, .int .u64 0, .int .u64 ((q : Nat) : Int), .int .i64 0, .bool false])]) (w2.alloc (.cells #[.bool neg, .int .u64 0, .int .u64 ((q : Nat) : Int), .int .i64 0, .bool false] 44)) := (hI2.alloc _).more (Own.new w2 44 [.bool neg, .int .u64 0, .int .u64 ((q : Nat) : Int), .int .i64 0, .bool false])
  clear hI2
  generalize w2.alloc (.cells #[.bool neg, .int .u64 0, .int .u64 ((q : Nat) : Int), .int .i64 0, .bool false] 44) = W at hI3 ⊢
  have c0 : W.cell? ⟨w2.heap.size, 0, none⟩ = some (.bool neg) := (hI3.own 1 _ rfl).cell 0
  have c1 : W.cell? ⟨w2.heap.size, 1, none⟩ = some (.int .u64 0) := (hI3.own 1 _ rfl).cell 1
  have c2 : W.cell? ⟨w2.heap.size, 2, none⟩ = some (.int .u64 ((q : Nat) : Int)) := (hI3.own 1 _ rfl).cell 2
  have c3 : W.cell? ⟨w2.heap.size, 3, none⟩ = some (.int .i64 0) := (hI3.own 1 _ rfl).cell 3
  have c4 : W.cell? ⟨w2.heap.size, 4, none⟩ = some (.bool false) := (hI3.own 1 _ rfl).cell 4
  clear hI hk1 hk2 ht1 ht2 hz1 hz2 hc1 hf1 hc2 hf2
  (try clear hw1)
  (try clear hv1)
  (try clear hu1)
  (try clear hw2)
  (try clear hv2)
  (try clear hu2)
  rotate_left
  have hJ : Inv w ([(w.heap.size, 25, [.int .i64 a, .int .i64 (-(j : Int))])] ++ [(w1.heap.size, 44, [.bool false, .int .u64 0, .int .u64 0, .int .i64 0, .bool false])]) w2 := by repeat' (first | (with_reducible assumption) | (with_reducible refine Inv.call ?_ (by assumption)) | (with_reducible refine Inv.drew ?_) | (with_reducible refine Inv.more (Inv.alloc ?_ _) (Own.new _ _ _)))
  have hI3 : Inv w ([(w.heap.size, 25, [.int .i64 a, .int .i64 (-(j : Int))])] ++ [(w1.heap.size, 44, [.bool neg, .int .u64 0, .int .u64 ((q : Nat) : Int), .int .i64 0, .bool false])]) ((((((w2).setCell ⟨w1.heap.size, 0, none⟩ (.bool neg)).setCell ⟨w1.heap.size, 1, none⟩ (.int .u64 0)).setCell ⟨w1.heap.size, 2, none⟩ (.int .u64 ((q : Nat) : Int))).setCell ⟨w1.heap.size, 3, none⟩ (.int .i64 0)).setCell ⟨w1.heap.size, 4, none⟩ (.bool false)) := (((((hJ).put 1 rfl 0 (.bool neg) (by first | (simp; done) | (simp; omega)) (by omega) (by omega) (by omega)).put 1 rfl 1 (.int .u64 0) (by first | (simp; done) | (simp; omega)) (by omega) (by omega) (by omega)).put 1 rfl 2 (.int .u64 ((q : Nat) : Int)) (by first | (simp; done) | (simp; omega)) (by omega) (by omega) (by omega)).put 1 rfl 3 (.int .i64 0) (by first | (simp; done) | (simp; omega)) (by omega) (by omega) (by omega)).put 1 rfl 4 (.bool false) (by first | (simp; done) | (simp; omega)) (by omega) (by omega) (by omega)
  clear hJ
  generalize (((((w2).setCell ⟨w1.heap.size, 0, none⟩ (.bool neg)).setCell ⟨w1.heap.size, 1, none⟩ (.int .u64 0)).setCell ⟨w1.heap.size, 2, none⟩ (.int .u64 ((q : Nat) : Int))).setCell ⟨w1.heap.size, 3, none⟩ (.int .i64 0)).setCell ⟨w1.heap.size, 4, none⟩ (.bool false) = W at hI3 ⊢
  have c0 : W.cell? ⟨w1.heap.size, 0, none⟩ = some (.bool neg) := (hI3.own 1 _ rfl).cell 0
  have c1 : W.cell? ⟨w1.heap.size, 1, none⟩ = some (.int .u64 0) := (hI3.own 1 _ rfl).cell 1
  have c2 : W.cell? ⟨w1.heap.size, 2, none⟩ = some (.int .u64 ((q : Nat) : Int)) := (hI3.own 1 _ rfl).cell 2
  have c3 : W.cell? ⟨w1.heap.size, 3, none⟩ = some (.int .i64 0) := (hI3.own 1 _ rfl).cell 3
  have c4 : W.cell? ⟨w1.heap.size, 4, none⟩ = some (.bool false) := (hI3.own 1 _ rfl).cell 4
  clear hI hk1 hk2 ht1 ht2 hz1 hz2 hc1 hf1 hc2 hf2
  (try clear hw1)
  (try clear hv1)
  (try clear hu1)
  (try clear hw2)
  (try clear hv2)
  (try clear hu2)
  rotate_left
  have hJ : Inv w ([(w.heap.size, 25, [.int .i64 a, .int .i64 (-(j : Int))])] ++ [(w.heap.size + 1, 44, [.bool false, .int .u64 0, .int .u64 0, .int .i64 0, .bool false])]) w2 := by repeat' (first | (with_reducible assumption) | (with_reducible refine Inv.call ?_ (by assumption)) | (with_reducible refine Inv.drew ?_) | (with_reducible refine Inv.more (Inv.alloc ?_ _) (Own.new1 _ _ _ _)))
  have hI3 : Inv w ([(w.heap.size, 25, [.int .i64 a, .int .i64 (-(j : Int))])] ++ [(w.heap.size + 1, 44, [.bool neg, .int .u64 0, .int .u64 ((q : Nat) : Int), .int .i64 0, .bool false])]) ((((((w2).setCell ⟨w.heap.size + 1, 0, none⟩ (.bool neg)).setCell ⟨w.heap.size + 1, 1, none⟩ (.int .u64 0)).setCell ⟨w.heap.size + 1, 2, none⟩ (.int .u64 ((q : Nat) : Int))).setCell ⟨w.heap.size + 1, 3, none⟩ (.int .i64 0)).setCell ⟨w.heap.size + 1, 4, none⟩ (.bool false)) := (((((hJ).put 1 rfl 0 (.bool neg) (by first | (simp; done) | (simp; omega)) (by omega) (by omega) (by omega)).put 1 rfl 1 (.int .u64 0) (by first | (simp; done) | (simp; omega)) (by omega) (by omega) (by omega)).put 1 rfl 2 (.int .u64 ((q : Nat) : Int)) (by first | (simp; done) | (simp; omega)) (by omega) (by omega) (by omega)).put 1 rfl 3 (.int .i64 0) (by first | (simp; done) | (simp; omega)) (by omega) (by omega) (by omega)).put 1 rfl 4 (.bool false) (by first | (simp; done) | (simp; omega)) (by omega) (by omega) (by omega)
  clear hJ
  generalize (((((w2).setCell ⟨w.heap.size + 1, 0, none⟩ (.bool neg)).setCell ⟨w.heap.size + 1, 1, none⟩ (.int .u64 0)).setCell ⟨w.heap.size + 1, 2, none⟩ (.int .u64 ((q : Nat) : Int))).setCell ⟨w.heap.size + 1, 3, none⟩ (.int .i64 0)).setCell ⟨w.heap.size + 1, 4, none⟩ (.bool false) = W at hI3 ⊢
  have c0 : W.cell? ⟨w.heap.size + 1, 0, none⟩ = some (.bool neg) := (hI3.own 1 _ rfl).cell 0
  have c1 : W.cell? ⟨w.heap.size + 1, 1, none⟩ = some (.int .u64 0) := (hI3.own 1 _ rfl).cell 1
  have c2 : W.cell? ⟨w.heap.size + 1, 2, none⟩ = some (.int .u64 ((q : Nat) : Int)) := (hI3.own 1 _ rfl).cell 2
  have c3 : W.cell? ⟨w.heap.size + 1, 3, none⟩ = some (.int .i64 0) := (hI3.own 1 _ rfl).cell 3
  have c4 : W.cell? ⟨w.heap.size + 1, 4, none⟩ = some (.bool false) := (hI3.own 1 _ rfl).cell 4
  clear hI hk1 hk2 ht1 ht2 hz1 hz2 hc1 hf1 hc2 hf2
  (try clear hw1)
  (try clear hv1)
  (try clear hu1)
  (try clear hw2)
  (try clear hv2)
  (try clear hu2)
  rotate_left

  all_goals
    go_upto_region 4 with fail
    have HI3 := Lib.hid hI3
    have hT2 := hI3.kept.1
    have hte := HTE.out W hT2
    have hpr := HPR.out
    have hq1 : Q < 1000000000000000000 := by rw [← HQQ.out]; exact q_dn hn18 HQE.out
    have hq0 : (0 : Int) ≤ Q := by rw [← HQQ.out]; exact Int.natCast_nonneg q
    have htl := hT2.lt
    have _htl0 := hT2.lt0
    clear hI3
    go_region
    all_goals
      clear hte
      go_upto_region 5 with fail
      have hKW := HI3.out.kept
      have htW := hKW.1
      have hzW := hKW.2.size
      (try clear hpr)
      have HRP : (isI s r = true ∧ rP s r = .tuple #[.int .i64 r, .int .i64 0]) ∨ (isI s r = false ∧ rP s r = .tuple #[.int .i64 0, .int .i64 11]) := by
        cases h : isI s r
        · exact Or.inr ⟨rfl, rP_no h⟩
        · exact Or.inl ⟨rfl, rP_yes h⟩
      rcases HRP with ⟨hi, hp⟩ | ⟨hi, hp⟩
      all_goals
        rw [hi] at HIS
        have HP2 := Lib.hid hp
        clear hi hp
        rcases Bool.eq_false_or_eq_true g with hg | hg <;> rcases Bool.eq_false_or_eq_true neg with hnn | hnn
        all_goals
          rw [hg] at HG HR
          rw [hnn] at HNEG HR
          clear hg hnn
          (first | have sa : a < 0 := of_decide_eq_true HNEG.out | have sa : ¬ a < 0 := of_decide_eq_false HNEG.out)
          have hr1 := HR.out
          (first | rw [rI_tt] at hr1 | rw [rI_tf] at hr1 | rw [rI_ft] at hr1 | rw [rI_ff] at hr1)
          rw [HQQ.out] at hr1
          clear HR HNEG
          rw [← hr1] at HIS
          have HR1 := Lib.hid hr1
          clear hr1
          go_wp2_with (first
            | (go_at_call 54; (with_reducible refine (HG.out _ (by repeat' (first | (with_reducible assumption) | (with_reducible exact Kept.refl ht) | (with_reducible refine Kept.alloc ?_ _) | (with_reducible refine Kept.drew ?_) | (with_reducible refine Kept.drewN ?_ _) | (with_reducible refine Kept.setCell ?_ ?_ _ ?_ ?_) | (with_reducible refine Kept.trans ?_ (by assumption)) | omega | (simp; done) | (simp; omega)))).mono ?_); rintro e' w5 ⟨rfl, hk5⟩; (have x0 : w5.cell? ⟨w.heap.size, 0, none⟩ = some (.int .i64 a) := by first | exact ((HI3.out.drew.call hk5).own 0 _ rfl).cell 0 | exact ((HI3.out.call hk5).own 0 _ rfl).cell 0); have ht5 := hk5.1; (have hK5 : Kept w w5 := (by repeat' (first | (with_reducible assumption) | (with_reducible exact Kept.refl ht) | (with_reducible refine Kept.alloc ?_ _) | (with_reducible refine Kept.drew ?_) | (with_reducible refine Kept.drewN ?_ _) | (with_reducible refine Kept.setCell ?_ ?_ _ ?_ ?_) | (with_reducible refine Kept.trans ?_ (by assumption)) | omega | (simp; done) | (simp; omega)))))
            | (go_at_call 87; (with_reducible refine (HIS.out _ (by repeat' (first | (with_reducible assumption) | (with_reducible refine Tab.alloc ?_ _) | (with_reducible refine Tab.drew ?_) | (with_reducible refine Tab.drewN ?_ _) | (with_reducible refine Tab.setCell ?_ ?_ ?_ _) | omega | (simp; done) | (simp; omega))) (HSZ.out.call (by repeat' (first | (with_reducible assumption) | (with_reducible exact Kept.refl ht) | (with_reducible refine Kept.alloc ?_ _) | (with_reducible refine Kept.drew ?_) | (with_reducible refine Kept.drewN ?_ _) | (with_reducible refine Kept.setCell ?_ ?_ _ ?_ ?_) | (with_reducible refine Kept.trans ?_ (by assumption)) | omega | (simp; done) | (simp; omega))))).mono ?_); rintro e' w6 ⟨rfl, hk6⟩))
          go_ret2
          exact ⟨by first | (rw [HP2.out, ← HR1.out]; done) | (rw [HP2.out, ← HR1.out]; rfl) | (rw [HP2.out]; rfl), (by repeat' (first | (with_reducible assumption) | (with_reducible exact Kept.refl ht) | (with_reducible refine Kept.alloc ?_ _) | (with_reducible refine Kept.drew ?_) | (with_reducible refine Kept.drewN ?_ _) | (with_reducible refine Kept.setCell ?_ ?_ _ ?_ ?_) | (with_reducible refine Kept.trans ?_ (by assumption)) | omega | (simp; done) | (simp; omega)))⟩
end Go.Proofs.YtanfhlkfmmglhaaDoor
