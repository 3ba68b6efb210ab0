/- The walk of RealsOrdered: it returns true for every size, direction and numbers. Condition: the tables hold what their initialisers lay. -/
import Derived.Test.YtcmgphfcpgebfaaDoorOne1
import Derived.Test.YtcmgphfcpgebfaaDoorOfac
import Derived.RegionTactic
import Derived.BigRegion
namespace Go.Proofs.YtcmgphfcpgebfaaDoor
open Go.ChangeShapes Go.WideShapes Go.ChangeAt Go.RowKit
attribute [local go_sem ↓] Go.wp_at_zero Go.wp_at_succ

theorem Inv.and {w w' : World} {bs : List (Nat × TypeId × List Value)} {g : Nat} {t : TypeId} {l : List Value} (h : Inv w bs w') (k : Own w' g t l) : Inv w (bs ++ [(g, t, l)]) w' := h.more k
set_option maxRecDepth 100000 in
set_option maxHeartbeats 16000000 in
theorem RealsOrdered_walk (s how a e b f c g : Int) (w : World) (ht : Tab w) (la : -9223372036854775808 ≤ a) (ha : a ≤ 9223372036854775807) (le : -9223372036854775808 ≤ e) (he : e ≤ 9223372036854775807) (lb : -9223372036854775808 ≤ b) (hb : b ≤ 9223372036854775807) (lf : -9223372036854775808 ≤ f) (hf : f ≤ 9223372036854775807) (lc : -9223372036854775808 ≤ c) (hc : c ≤ 9223372036854775807) :
    Calls Tryd.prog 8 #[.agg #[.int .i64 s, .int .i64 how], .agg #[.int .i64 a, .int .i64 e, .int .i64 b, .int .i64 f, .int .i64 c, .int .i64 g]] w fun x w' => x = .returned (.bool true) ∧ Kept w w' := by
  have hlt := ht.lt
  have hlt0 := ht.lt0
  have HA := Lib.hid (fun w ht => awake_any w ht)
  obtain ⟨d, hd⟩ : ∃ d, cmpR a e b f = d := ⟨_, rfl⟩
  have h0 := fun w ht => compare_any a e b f w ht la ha lb hb le he lf hf
  rw [hd] at h0
  have H0 := Lib.hid h0
  have HD := Lib.hid hd
  have HB := Lib.hid (And.intro (And.intro la ha) (And.intro (And.intro lb hb) (And.intro lc hc)))
  clear h0 hd la ha lb hb lc hc le he lf hf
  go_enter Tryd.func8, Tryd.ntmps8
  go_upto_region 3 with (first | (go_at_call 11; (with_reducible refine (HA.out _ (by repeat' (first | (with_reducible assumption) | (with_reducible refine Tab.alloc ?_ _) | (with_reducible refine Tab.drew ?_) | (with_reducible refine Tab.drewN ?_ _) | (with_reducible refine Tab.setCell ?_ ?_ ?_ _) | omega | (simp; done) | (simp; omega)))).mono ?_); rintro e w1 ⟨rfl, hk1⟩; obtain ⟨hc1, hf1⟩ := bcell hk1.2; have ht1 := hk1.1; have hz1 := hk1.2.size; (try simp only [World.size_alloc] at hz1); (try simp only [sz_drew] at hz1); (try simp only [sz_drewN] at hz1); (try simp only [World.size_alloc] at hz1); (try simp only [sz_drew] at hc1 hf1); (try simp only [sz_drewN] at hc1 hf1); (try have hw1 : w.heap.size < w1.heap.size := by omega); (try have hv1 : w.heap.size + 1 < w1.heap.size := by omega); (try have hu1 : w.heap.size + 2 < w1.heap.size := by omega)))
  have hI := (Inv.two ht 23 [.int .i64 s, .int .i64 how] 50 [.int .i64 a, .int .i64 e, .int .i64 b, .int .i64 f, .int .i64 c, .int .i64 g]).call hk1
  clear hc1 hf1 hk1 ht1 hz1
  generalize w1 = W at hI ⊢
  have q00 : W.cell? ⟨w.heap.size, 0, none⟩ = some (.int .i64 s) := (hI.own 0 _ rfl).cell 0
  have q01 : W.cell? ⟨w.heap.size, 1, none⟩ = some (.int .i64 how) := (hI.own 0 _ rfl).cell 1
  have q0f := fun i => (hI.own 0 _ rfl).frozen i
  have q0l : w.heap.size < W.heap.size := (hI.own 0 _ rfl).lt
  have q10 : W.cell? ⟨w.heap.size + 1, 0, none⟩ = some (.int .i64 a) := (hI.own 1 _ rfl).cell 0
  have q11 : W.cell? ⟨w.heap.size + 1, 1, none⟩ = some (.int .i64 e) := (hI.own 1 _ rfl).cell 1
  have q12 : W.cell? ⟨w.heap.size + 1, 2, none⟩ = some (.int .i64 b) := (hI.own 1 _ rfl).cell 2
  have q13 : W.cell? ⟨w.heap.size + 1, 3, none⟩ = some (.int .i64 f) := (hI.own 1 _ rfl).cell 3
  have q14 : W.cell? ⟨w.heap.size + 1, 4, none⟩ = some (.int .i64 c) := (hI.own 1 _ rfl).cell 4
  have q15 : W.cell? ⟨w.heap.size + 1, 5, none⟩ = some (.int .i64 g) := (hI.own 1 _ rfl).cell 5
  have q1f := fun i => (hI.own 1 _ rfl).frozen i
  have q1l : w.heap.size + 1 < W.heap.size := (hI.own 1 _ rfl).lt
  (have Wt := hI.kept.1; have Wk := hI.kept; have Wg := hI.kept.1.lt; have Wg0 := hI.kept.1.lt0; have Wz := hI.kept.2.size)
  have HI := Lib.hid hI
  clear hI
  go_cut [5, 6, 7] (fun c5 c6 c7 wx => ∃ A B C : Nat, c5 = .pointer (some ⟨A, 0, none⟩) ∧ c6 = .pointer (some ⟨B, 0, none⟩) ∧ c7 = .pointer (some ⟨C, 0, none⟩) ∧ (A ≠ B ∧ A ≠ C ∧ B ≠ C ∧ w.heap.size < A ∧ w.heap.size < B ∧ w.heap.size < C) ∧ Inv w [(w.heap.size, 23, [.int .i64 s, .int .i64 how]), (A, 29, [.int .i64 a, .int .i64 e]), (B, 29, [.int .i64 b, .int .i64 f]), (C, 29, [.int .i64 c, .int .i64 g])] wx)
  case first =>
    have hI := HI.out.init (bs := [_])
    go_region
    all_goals
      go_wp2_with fail
      go_meet
      (refine ⟨_, _, _, rfl, rfl, rfl, ?_, Inv.and (bs := [_, _, _]) (Inv.and (bs := [_, _]) (Inv.and (bs := [_]) ?_ ?_) ?_) ?_⟩)
      all_goals (repeat' (first | (with_reducible exact Own.new _ _ _) | (with_reducible exact Own.new1 _ _ _ _) | (with_reducible exact Own.new2 _ _ _ _ _) | (with_reducible exact Own.new' (by simp)) | (with_reducible refine Own.put' (l := ?_) ?_ _ _ ?_) | (with_reducible refine Own.alloc ?_ _) | (with_reducible refine Own.drew ?_) | (with_reducible refine Own.far ?_ ?_ _) | (with_reducible assumption) | (with_reducible refine Inv.drew ?_) | (with_reducible refine Inv.alloc ?_ _) | (with_reducible refine Inv.far ?_ ?_ ?_ ?_ ?_ _) | rfl | omega | (simp; done) | (simp; omega)))
  case rest =>
    obtain ⟨A, B, C, rfl, rfl, rfl, ⟨hAB, hAC, hBC, lA, lB, lC⟩, hI⟩ := hcut
    clear HI q00 q01 q0f q0l q10 q11 q12 q13 q14 q15 q1f q1l Wt Wk Wg Wg0 Wz
    have q00 : wc.cell? ⟨w.heap.size, 0, none⟩ = some (.int .i64 s) := (hI.own 0 _ rfl).cell 0
    have q01 : wc.cell? ⟨w.heap.size, 1, none⟩ = some (.int .i64 how) := (hI.own 0 _ rfl).cell 1
    have q0f := fun i => (hI.own 0 _ rfl).frozen i
    have q0l : w.heap.size < wc.heap.size := (hI.own 0 _ rfl).lt
    have q10 : wc.cell? ⟨A, 0, none⟩ = some (.int .i64 a) := (hI.own 1 _ rfl).cell 0
    have q11 : wc.cell? ⟨A, 1, none⟩ = some (.int .i64 e) := (hI.own 1 _ rfl).cell 1
    have q1f := fun i => (hI.own 1 _ rfl).frozen i
    have q1l : A < wc.heap.size := (hI.own 1 _ rfl).lt
    have q20 : wc.cell? ⟨B, 0, none⟩ = some (.int .i64 b) := (hI.own 2 _ rfl).cell 0
    have q21 : wc.cell? ⟨B, 1, none⟩ = some (.int .i64 f) := (hI.own 2 _ rfl).cell 1
    have q2f := fun i => (hI.own 2 _ rfl).frozen i
    have q2l : B < wc.heap.size := (hI.own 2 _ rfl).lt
    have q30 : wc.cell? ⟨C, 0, none⟩ = some (.int .i64 c) := (hI.own 3 _ rfl).cell 0
    have q31 : wc.cell? ⟨C, 1, none⟩ = some (.int .i64 g) := (hI.own 3 _ rfl).cell 1
    have q3f := fun i => (hI.own 3 _ rfl).frozen i
    have q3l : C < wc.heap.size := (hI.own 3 _ rfl).lt
    (have wct := hI.kept.1; have wck := hI.kept; have wcg := hI.kept.1.lt; have wcg0 := hI.kept.1.lt0; have wcz := hI.kept.2.size)
    have HI := Lib.hid hI
    clear hI
    go_upto_if 23 with (first | (go_at_call 39; (with_reducible refine (H0.out _ (by repeat' (first | (with_reducible assumption) | (with_reducible refine Tab.alloc ?_ _) | (with_reducible refine Tab.drew ?_) | (with_reducible refine Tab.drewN ?_ _) | (with_reducible refine Tab.setCell ?_ ?_ ?_ _) | omega | (simp; done) | (simp; omega)))).mono ?_); rintro e w2 ⟨rfl, hk2⟩; obtain ⟨hc2, hf2⟩ := bcell hk2.2; have ht2 := hk2.1; have hz2 := hk2.2.size; (try simp only [World.size_alloc] at hz2); (try simp only [sz_drew] at hz2); (try simp only [sz_drewN] at hz2); (try simp only [World.size_alloc] at hz2); (try simp only [sz_drew] at hc2 hf2); (try simp only [sz_drewN] at hc2 hf2); (try have hw2 : w.heap.size < w2.heap.size := by omega); (try have hv2 : w.heap.size + 1 < w2.heap.size := by omega); (try have hu2 : w.heap.size + 2 < w2.heap.size := by omega)))
    have hJ := HI.out.call hk2
    clear hc2 hf2 ht2 hz2 hk2 HI q00 q01 q0f q0l q10 q11 q1f q1l q20 q21 q2f q2l q30 q31 q3f q3l wct wck wcg wcg0 wcz
    generalize w2 = W2 at hJ ⊢
    go_cut [] (fun wx => ∃ a1 e1 b1 f1 : Int, ((-9223372036854775808 ≤ a1 ∧ a1 ≤ 9223372036854775807) ∧ -9223372036854775808 ≤ b1 ∧ b1 ≤ 9223372036854775807) ∧ (∀ s, vld s a1 e1 = true → vld s b1 f1 = true → sv a1 e1 ≤ sv b1 f1) ∧ Inv w [(w.heap.size, 23, [.int .i64 s, .int .i64 how]), (A, 29, [.int .i64 a1, .int .i64 e1]), (B, 29, [.int .i64 b1, .int .i64 f1]), (C, 29, [.int .i64 c, .int .i64 g])] wx)
    case first =>
      have q00 : W2.cell? ⟨w.heap.size, 0, none⟩ = some (.int .i64 s) := (hJ.own 0 _ rfl).cell 0
      have q01 : W2.cell? ⟨w.heap.size, 1, none⟩ = some (.int .i64 how) := (hJ.own 0 _ rfl).cell 1
      have q0f := fun i => (hJ.own 0 _ rfl).frozen i
      have q0l : w.heap.size < W2.heap.size := (hJ.own 0 _ rfl).lt
      have q10 : W2.cell? ⟨A, 0, none⟩ = some (.int .i64 a) := (hJ.own 1 _ rfl).cell 0
      have q11 : W2.cell? ⟨A, 1, none⟩ = some (.int .i64 e) := (hJ.own 1 _ rfl).cell 1
      have q1f := fun i => (hJ.own 1 _ rfl).frozen i
      have q1l : A < W2.heap.size := (hJ.own 1 _ rfl).lt
      have q20 : W2.cell? ⟨B, 0, none⟩ = some (.int .i64 b) := (hJ.own 2 _ rfl).cell 0
      have q21 : W2.cell? ⟨B, 1, none⟩ = some (.int .i64 f) := (hJ.own 2 _ rfl).cell 1
      have q2f := fun i => (hJ.own 2 _ rfl).frozen i
      have q2l : B < W2.heap.size := (hJ.own 2 _ rfl).lt
      have q30 : W2.cell? ⟨C, 0, none⟩ = some (.int .i64 c) := (hJ.own 3 _ rfl).cell 0
      have q31 : W2.cell? ⟨C, 1, none⟩ = some (.int .i64 g) := (hJ.own 3 _ rfl).cell 1
      have q3f := fun i => (hJ.own 3 _ rfl).frozen i
      have q3l : C < W2.heap.size := (hJ.own 3 _ rfl).lt
      (have W2t := hJ.kept.1; have W2k := hJ.kept; have W2g := hJ.kept.1.lt; have W2g0 := hJ.kept.1.lt0; have W2z := hJ.kept.2.size)
      have HI := Lib.hid hJ
      clear hJ
      by_cases hp : 0 < d
      · have hg := Lib.hid (show 0 < cmpR a e b f by rw [HD.out]; exact hp)
        have hpd : decide (0 < d) = true := decide_eq_true hp
        go_wp2_with fail
        go_meet
        exact ⟨b, f, a, e, ⟨HB.out.2.1, HB.out.1⟩, ord_ge hg.out, ((((HI.out.put 1 rfl 0 (.int .i64 b) (by simp; omega) (by omega) hlt hlt0).put 1 rfl 1 (.int .i64 f) (by simp; omega) (by omega) hlt hlt0).put 2 rfl 0 (.int .i64 a) (by simp; omega) (by omega) hlt hlt0).put 2 rfl 1 (.int .i64 e) (by simp; omega) (by omega) hlt hlt0)⟩
      · have hg := Lib.hid (show cmpR a e b f ≤ 0 by rw [HD.out]; omega)
        have hpd : decide (0 < d) = false := decide_eq_false hp
        go_wp2_with fail
        go_meet
        exact ⟨a, e, b, f, ⟨HB.out.1, HB.out.2.1⟩, ord_le hg.out, HI.out⟩
    case rest =>
      obtain ⟨a1, e1, b1, f1, hbd, hle, hI⟩ := hcut
      clear hJ
      have hbc := HB.out.2.2
      have hle' := hle s
      clear hle
      obtain ⟨⟨M1, E1, X1⟩, h1⟩ : ∃ r, aRes s how a1 e1 c g = r := ⟨_, rfl⟩
      obtain ⟨⟨M2, E2, X2⟩, h2⟩ : ∃ r, aRes s how b1 f1 c g = r := ⟨_, rfl⟩
      obtain ⟨⟨M3, E3, X3⟩, h3⟩ : ∃ r, mRes s how a1 e1 c g = r := ⟨_, rfl⟩
      obtain ⟨⟨M4, E4, X4⟩, h4⟩ : ∃ r, mRes s how b1 f1 c g = r := ⟨_, rfl⟩
      have B1 := bd_a s how a1 e1 c g
      have B2 := bd_a s how b1 f1 c g
      have B3 := bd_m s how a1 e1 c g
      have B4 := bd_m s how b1 f1 c g
      rw [h1] at B1
      rw [h2] at B2
      rw [h3] at B3
      rw [h4] at B4
      obtain ⟨d1, hd1⟩ : ∃ d, cmpR M1 E1 M2 E2 = d := ⟨_, rfl⟩
      obtain ⟨d2, hd2⟩ : ∃ d, cmpR M3 E3 M4 E4 = d := ⟨_, rfl⟩
      have o1 : X1 = 0 → X2 = 0 → d1 ≤ 0 := by
        rintro rfl rfl
        rw [← hd1]
        exact ord_sum h1 h2 hle'
      have o2 : 0 ≤ c → X3 = 0 → X4 = 0 → d2 ≤ 0 := by
        rintro hc rfl rfl
        rw [← hd2]
        exact ord_mul hc h3 h4 hle'
      have H1 := Lib.hid (fun w ht => gives_out h1 (add_any s how a1 e1 c g w ht hbd.1.1 hbd.1.2 hbc.1 hbc.2))
      have H2 := Lib.hid (fun w ht => gives_out h2 (add_any s how b1 f1 c g w ht hbd.2.1 hbd.2.2 hbc.1 hbc.2))
      have H3 := Lib.hid (fun w ht => gives_out h3 (mul_any s how a1 e1 c g w ht hbd.1.1 hbd.1.2 hbc.1 hbc.2))
      have H4 := Lib.hid (fun w ht => gives_out h4 (mul_any s how b1 f1 c g w ht hbd.2.1 hbd.2.2 hbc.1 hbc.2))
      have h5 := fun w ht => compare_any M1 E1 M2 E2 w ht B1.1 B1.2.1 B2.1 B2.2.1 B1.2.2.1 B1.2.2.2 B2.2.2.1 B2.2.2.2
      have h6 := fun w ht => compare_any M3 E3 M4 E4 w ht B3.1 B3.2.1 B4.1 B4.2.1 B3.2.2.1 B3.2.2.2 B4.2.2.1 B4.2.2.2
      rw [hd1] at h5
      rw [hd2] at h6
      have H5 := Lib.hid h5
      have H6 := Lib.hid h6
      have O1 := Lib.hid o1
      have O2 := Lib.hid o2
      clear h1 h2 h3 h4 B1 B2 B3 B4 hd1 hd2 o1 o2 h5 h6 hbd hbc hle' HB HD H0 HA
      have q00 : wc.cell? ⟨w.heap.size, 0, none⟩ = some (.int .i64 s) := (hI.own 0 _ rfl).cell 0
      have q01 : wc.cell? ⟨w.heap.size, 1, none⟩ = some (.int .i64 how) := (hI.own 0 _ rfl).cell 1
      have q0f := fun i => (hI.own 0 _ rfl).frozen i
      have q0l : w.heap.size < wc.heap.size := (hI.own 0 _ rfl).lt
      have q10 : wc.cell? ⟨A, 0, none⟩ = some (.int .i64 a1) := (hI.own 1 _ rfl).cell 0
      have q11 : wc.cell? ⟨A, 1, none⟩ = some (.int .i64 e1) := (hI.own 1 _ rfl).cell 1
      have q1f := fun i => (hI.own 1 _ rfl).frozen i
      have q1l : A < wc.heap.size := (hI.own 1 _ rfl).lt
      have q20 : wc.cell? ⟨B, 0, none⟩ = some (.int .i64 b1) := (hI.own 2 _ rfl).cell 0
      have q21 : wc.cell? ⟨B, 1, none⟩ = some (.int .i64 f1) := (hI.own 2 _ rfl).cell 1
      have q2f := fun i => (hI.own 2 _ rfl).frozen i
      have q2l : B < wc.heap.size := (hI.own 2 _ rfl).lt
      have q30 : wc.cell? ⟨C, 0, none⟩ = some (.int .i64 c) := (hI.own 3 _ rfl).cell 0
      have q31 : wc.cell? ⟨C, 1, none⟩ = some (.int .i64 g) := (hI.own 3 _ rfl).cell 1
      have q3f := fun i => (hI.own 3 _ rfl).frozen i
      have q3l : C < wc.heap.size := (hI.own 3 _ rfl).lt
      (have wct := hI.kept.1; have wck := hI.kept; have wcg := hI.kept.1.lt; have wcg0 := hI.kept.1.lt0; have wcz := hI.kept.2.size)
      have HI := Lib.hid hI
      clear hI
      go_upto_region 7 with (first | (go_at_call 19; (with_reducible refine (H1.out _ (by repeat' (first | (with_reducible assumption) | (with_reducible refine Tab.alloc ?_ _) | (with_reducible refine Tab.drew ?_) | (with_reducible refine Tab.drewN ?_ _) | (with_reducible refine Tab.setCell ?_ ?_ ?_ _) | omega | (simp; done) | (simp; omega)))).mono ?_); rintro e w3 ⟨rfl, hk3⟩; obtain ⟨hc3, hf3⟩ := bcell hk3.2; have ht3 := hk3.1; have hz3 := hk3.2.size; (try simp only [World.size_alloc] at hz3); (try simp only [sz_drew] at hz3); (try simp only [sz_drewN] at hz3); (try simp only [World.size_alloc] at hz3); (try simp only [sz_drew] at hc3 hf3); (try simp only [sz_drewN] at hc3 hf3); (try have hw3 : w.heap.size < w3.heap.size := by omega); (try have hv3 : w.heap.size + 1 < w3.heap.size := by omega); (try have hu3 : w.heap.size + 2 < w3.heap.size := by omega)))
      have hJ := (HI.out.call hk3).grow 29 [.int .i64 M1, .int .i64 E1]
      have hnD : w.heap.size < w3.heap.size ∧ A < w3.heap.size ∧ B < w3.heap.size ∧ C < w3.heap.size := by have := hk3.2.size; (try simp only [World.size_alloc] at this); omega
      clear hc3 hf3 ht3 hz3 hk3 q00 q01 q0f q0l q10 q11 q1f q1l q20 q21 q2f q2l q30 q31 q3f q3l wct wck wcg wcg0 wcz HI
      change Inv w [(w.heap.size, 23, [.int .i64 s, .int .i64 how]), (A, 29, [.int .i64 a1, .int .i64 e1]), (B, 29, [.int .i64 b1, .int .i64 f1]), (C, 29, [.int .i64 c, .int .i64 g]), (w3.heap.size, 29, [.int .i64 M1, .int .i64 E1])] _ at hJ
      generalize w3.alloc (.cells #[.int .i64 M1, .int .i64 E1] 29) = W3 at hJ ⊢
      generalize w3.heap.size = D at hJ hnD ⊢
      have q00 : W3.cell? ⟨w.heap.size, 0, none⟩ = some (.int .i64 s) := (hJ.own 0 _ rfl).cell 0
      have q01 : W3.cell? ⟨w.heap.size, 1, none⟩ = some (.int .i64 how) := (hJ.own 0 _ rfl).cell 1
      have q0f := fun i => (hJ.own 0 _ rfl).frozen i
      have q0l : w.heap.size < W3.heap.size := (hJ.own 0 _ rfl).lt
      have q10 : W3.cell? ⟨A, 0, none⟩ = some (.int .i64 a1) := (hJ.own 1 _ rfl).cell 0
      have q11 : W3.cell? ⟨A, 1, none⟩ = some (.int .i64 e1) := (hJ.own 1 _ rfl).cell 1
      have q1f := fun i => (hJ.own 1 _ rfl).frozen i
      have q1l : A < W3.heap.size := (hJ.own 1 _ rfl).lt
      have q20 : W3.cell? ⟨B, 0, none⟩ = some (.int .i64 b1) := (hJ.own 2 _ rfl).cell 0
      have q21 : W3.cell? ⟨B, 1, none⟩ = some (.int .i64 f1) := (hJ.own 2 _ rfl).cell 1
      have q2f := fun i => (hJ.own 2 _ rfl).frozen i
      have q2l : B < W3.heap.size := (hJ.own 2 _ rfl).lt
      have q30 : W3.cell? ⟨C, 0, none⟩ = some (.int .i64 c) := (hJ.own 3 _ rfl).cell 0
      have q31 : W3.cell? ⟨C, 1, none⟩ = some (.int .i64 g) := (hJ.own 3 _ rfl).cell 1
      have q3f := fun i => (hJ.own 3 _ rfl).frozen i
      have q3l : C < W3.heap.size := (hJ.own 3 _ rfl).lt
      have q40 : W3.cell? ⟨D, 0, none⟩ = some (.int .i64 M1) := (hJ.own 4 _ rfl).cell 0
      have q41 : W3.cell? ⟨D, 1, none⟩ = some (.int .i64 E1) := (hJ.own 4 _ rfl).cell 1
      have q4f := fun i => (hJ.own 4 _ rfl).frozen i
      have q4l : D < W3.heap.size := (hJ.own 4 _ rfl).lt
      (have W3t := hJ.kept.1; have W3k := hJ.kept; have W3g := hJ.kept.1.lt; have W3g0 := hJ.kept.1.lt0; have W3z := hJ.kept.2.size)
      have HI := Lib.hid hJ
      clear hJ
      go_upto_region 8 with (first | (go_at_call 19; (with_reducible refine (H2.out _ (by repeat' (first | (with_reducible assumption) | (with_reducible refine Tab.alloc ?_ _) | (with_reducible refine Tab.drew ?_) | (with_reducible refine Tab.drewN ?_ _) | (with_reducible refine Tab.setCell ?_ ?_ ?_ _) | omega | (simp; done) | (simp; omega)))).mono ?_); rintro e w4 ⟨rfl, hk4⟩; obtain ⟨hc4, hf4⟩ := bcell hk4.2; have ht4 := hk4.1; have hz4 := hk4.2.size; (try simp only [World.size_alloc] at hz4); (try simp only [sz_drew] at hz4); (try simp only [sz_drewN] at hz4); (try simp only [World.size_alloc] at hz4); (try simp only [sz_drew] at hc4 hf4); (try simp only [sz_drewN] at hc4 hf4); (try have hw4 : w.heap.size < w4.heap.size := by omega); (try have hv4 : w.heap.size + 1 < w4.heap.size := by omega); (try have hu4 : w.heap.size + 2 < w4.heap.size := by omega)))
      have hJ := (HI.out.call hk4).grow 29 [.int .i64 M2, .int .i64 E2]
      have hnF : w.heap.size < w4.heap.size ∧ A < w4.heap.size ∧ B < w4.heap.size ∧ C < w4.heap.size ∧ D < w4.heap.size := by have := hk4.2.size; (try simp only [World.size_alloc] at this); omega
      clear hc4 hf4 ht4 hz4 hk4 q00 q01 q0f q0l q10 q11 q1f q1l q20 q21 q2f q2l q30 q31 q3f q3l q40 q41 q4f q4l W3t W3k W3g W3g0 W3z HI
      change Inv w [(w.heap.size, 23, [.int .i64 s, .int .i64 how]), (A, 29, [.int .i64 a1, .int .i64 e1]), (B, 29, [.int .i64 b1, .int .i64 f1]), (C, 29, [.int .i64 c, .int .i64 g]), (D, 29, [.int .i64 M1, .int .i64 E1]), (w4.heap.size, 29, [.int .i64 M2, .int .i64 E2])] _ at hJ
      generalize w4.alloc (.cells #[.int .i64 M2, .int .i64 E2] 29) = W4 at hJ ⊢
      generalize w4.heap.size = F at hJ hnF ⊢
      have q00 : W4.cell? ⟨w.heap.size, 0, none⟩ = some (.int .i64 s) := (hJ.own 0 _ rfl).cell 0
      have q01 : W4.cell? ⟨w.heap.size, 1, none⟩ = some (.int .i64 how) := (hJ.own 0 _ rfl).cell 1
      have q0f := fun i => (hJ.own 0 _ rfl).frozen i
      have q0l : w.heap.size < W4.heap.size := (hJ.own 0 _ rfl).lt
      have q10 : W4.cell? ⟨A, 0, none⟩ = some (.int .i64 a1) := (hJ.own 1 _ rfl).cell 0
      have q11 : W4.cell? ⟨A, 1, none⟩ = some (.int .i64 e1) := (hJ.own 1 _ rfl).cell 1
      have q1f := fun i => (hJ.own 1 _ rfl).frozen i
      have q1l : A < W4.heap.size := (hJ.own 1 _ rfl).lt
      have q20 : W4.cell? ⟨B, 0, none⟩ = some (.int .i64 b1) := (hJ.own 2 _ rfl).cell 0
      have q21 : W4.cell? ⟨B, 1, none⟩ = some (.int .i64 f1) := (hJ.own 2 _ rfl).cell 1
      have q2f := fun i => (hJ.own 2 _ rfl).frozen i
      have q2l : B < W4.heap.size := (hJ.own 2 _ rfl).lt
      have q30 : W4.cell? ⟨C, 0, none⟩ = some (.int .i64 c) := (hJ.own 3 _ rfl).cell 0
      have q31 : W4.cell? ⟨C, 1, none⟩ = some (.int .i64 g) := (hJ.own 3 _ rfl).cell 1
      have q3f := fun i => (hJ.own 3 _ rfl).frozen i
      have q3l : C < W4.heap.size := (hJ.own 3 _ rfl).lt
      have q40 : W4.cell? ⟨D, 0, none⟩ = some (.int .i64 M1) := (hJ.own 4 _ rfl).cell 0
      have q41 : W4.cell? ⟨D, 1, none⟩ = some (.int .i64 E1) := (hJ.own 4 _ rfl).cell 1
      have q4f := fun i => (hJ.own 4 _ rfl).frozen i
      have q4l : D < W4.heap.size := (hJ.own 4 _ rfl).lt
      have q50 : W4.cell? ⟨F, 0, none⟩ = some (.int .i64 M2) := (hJ.own 5 _ rfl).cell 0
      have q51 : W4.cell? ⟨F, 1, none⟩ = some (.int .i64 E2) := (hJ.own 5 _ rfl).cell 1
      have q5f := fun i => (hJ.own 5 _ rfl).frozen i
      have q5l : F < W4.heap.size := (hJ.own 5 _ rfl).lt
      (have W4t := hJ.kept.1; have W4k := hJ.kept; have W4g := hJ.kept.1.lt; have W4g0 := hJ.kept.1.lt0; have W4z := hJ.kept.2.size)
      have HI := Lib.hid hJ
      clear hJ
      go_cut [57] (fun c57 wx => c57 = .bool false ∧ Inv w [(w.heap.size, 23, [.int .i64 s, .int .i64 how]), (A, 29, [.int .i64 a1, .int .i64 e1]), (B, 29, [.int .i64 b1, .int .i64 f1]), (C, 29, [.int .i64 c, .int .i64 g]), (D, 29, [.int .i64 M1, .int .i64 E1]), (F, 29, [.int .i64 M2, .int .i64 E2])] wx)
      case first =>
        by_cases hX : X1 = 0
        · subst hX
          by_cases hY : X2 = 0
          · subst hY
            have hd : decide (0 < d1) = false := decide_eq_false (by have := O1.out rfl rfl; omega)
            go_wp2_with (first | (go_at_call 39; (with_reducible refine (H5.out _ (by repeat' (first | (with_reducible assumption) | (with_reducible refine Tab.alloc ?_ _) | (with_reducible refine Tab.drew ?_) | (with_reducible refine Tab.drewN ?_ _) | (with_reducible refine Tab.setCell ?_ ?_ ?_ _) | omega | (simp; done) | (simp; omega)))).mono ?_); rintro e w5 ⟨rfl, hk5⟩; obtain ⟨hc5, hf5⟩ := bcell hk5.2; have ht5 := hk5.1; have hz5 := hk5.2.size; (try simp only [World.size_alloc] at hz5); (try simp only [sz_drew] at hz5); (try simp only [sz_drewN] at hz5); (try simp only [World.size_alloc] at hz5); (try simp only [sz_drew] at hc5 hf5); (try simp only [sz_drewN] at hc5 hf5); (try have hw5 : w.heap.size < w5.heap.size := by omega); (try have hv5 : w.heap.size + 1 < w5.heap.size := by omega); (try have hu5 : w.heap.size + 2 < w5.heap.size := by omega)))
            go_meet
            have hI := HI.out
            exact ⟨rfl, by repeat' (first | (with_reducible assumption) | (with_reducible refine Inv.drew ?_) | (with_reducible refine Inv.alloc ?_ _) | (with_reducible refine Inv.call ?_ (by assumption)) | (with_reducible refine Inv.far ?_ ?_ ?_ ?_ ?_ _) | omega | (simp; done) | (simp; omega))⟩
          · have hYb : (X2 == 0) = false := by simpa using hY
            go_wp2_with fail
            go_meet
            exact ⟨rfl, HI.out⟩
        · have hXb : (X1 == 0) = false := by simpa using hX
          go_wp2_with fail
          go_meet
          exact ⟨rfl, HI.out⟩
      case rest =>
        obtain ⟨rfl, hI⟩ := hcut
        clear HI q00 q01 q0f q0l q10 q11 q1f q1l q20 q21 q2f q2l q30 q31 q3f q3l q40 q41 q4f q4l q50 q51 q5f q5l W4t W4k W4g W4g0 W4z
        have q00 : wc.cell? ⟨w.heap.size, 0, none⟩ = some (.int .i64 s) := (hI.own 0 _ rfl).cell 0
        have q01 : wc.cell? ⟨w.heap.size, 1, none⟩ = some (.int .i64 how) := (hI.own 0 _ rfl).cell 1
        have q0f := fun i => (hI.own 0 _ rfl).frozen i
        have q0l : w.heap.size < wc.heap.size := (hI.own 0 _ rfl).lt
        have q10 : wc.cell? ⟨A, 0, none⟩ = some (.int .i64 a1) := (hI.own 1 _ rfl).cell 0
        have q11 : wc.cell? ⟨A, 1, none⟩ = some (.int .i64 e1) := (hI.own 1 _ rfl).cell 1
        have q1f := fun i => (hI.own 1 _ rfl).frozen i
        have q1l : A < wc.heap.size := (hI.own 1 _ rfl).lt
        have q20 : wc.cell? ⟨B, 0, none⟩ = some (.int .i64 b1) := (hI.own 2 _ rfl).cell 0
        have q21 : wc.cell? ⟨B, 1, none⟩ = some (.int .i64 f1) := (hI.own 2 _ rfl).cell 1
        have q2f := fun i => (hI.own 2 _ rfl).frozen i
        have q2l : B < wc.heap.size := (hI.own 2 _ rfl).lt
        have q30 : wc.cell? ⟨C, 0, none⟩ = some (.int .i64 c) := (hI.own 3 _ rfl).cell 0
        have q31 : wc.cell? ⟨C, 1, none⟩ = some (.int .i64 g) := (hI.own 3 _ rfl).cell 1
        have q3f := fun i => (hI.own 3 _ rfl).frozen i
        have q3l : C < wc.heap.size := (hI.own 3 _ rfl).lt
        have q40 : wc.cell? ⟨D, 0, none⟩ = some (.int .i64 M1) := (hI.own 4 _ rfl).cell 0
        have q41 : wc.cell? ⟨D, 1, none⟩ = some (.int .i64 E1) := (hI.own 4 _ rfl).cell 1
        have q4f := fun i => (hI.own 4 _ rfl).frozen i
        have q4l : D < wc.heap.size := (hI.own 4 _ rfl).lt
        have q50 : wc.cell? ⟨F, 0, none⟩ = some (.int .i64 M2) := (hI.own 5 _ rfl).cell 0
        have q51 : wc.cell? ⟨F, 1, none⟩ = some (.int .i64 E2) := (hI.own 5 _ rfl).cell 1
        have q5f := fun i => (hI.own 5 _ rfl).frozen i
        have q5l : F < wc.heap.size := (hI.own 5 _ rfl).lt
        (have wct := hI.kept.1; have wck := hI.kept; have wcg := hI.kept.1.lt; have wcg0 := hI.kept.1.lt0; have wcz := hI.kept.2.size)
        have HI := Lib.hid hI
        clear hI
        go_upto_region 11 with (first | (go_at_call 23; (with_reducible refine (H3.out _ (by repeat' (first | (with_reducible assumption) | (with_reducible refine Tab.alloc ?_ _) | (with_reducible refine Tab.drew ?_) | (with_reducible refine Tab.drewN ?_ _) | (with_reducible refine Tab.setCell ?_ ?_ ?_ _) | omega | (simp; done) | (simp; omega)))).mono ?_); rintro e w6 ⟨rfl, hk6⟩; obtain ⟨hc6, hf6⟩ := bcell hk6.2; have ht6 := hk6.1; have hz6 := hk6.2.size; (try simp only [World.size_alloc] at hz6); (try simp only [sz_drew] at hz6); (try simp only [sz_drewN] at hz6); (try simp only [World.size_alloc] at hz6); (try simp only [sz_drew] at hc6 hf6); (try simp only [sz_drewN] at hc6 hf6); (try have hw6 : w.heap.size < w6.heap.size := by omega); (try have hv6 : w.heap.size + 1 < w6.heap.size := by omega); (try have hu6 : w.heap.size + 2 < w6.heap.size := by omega)))
        have hJ := (((HI.out.call hk6).put 4 rfl 0 (.int .i64 M3) (by simp; omega) (by omega) hlt hlt0).put 4 rfl 1 (.int .i64 E3) (by simp; omega) (by omega) hlt hlt0)
        clear hc6 hf6 ht6 hz6 hk6 q00 q01 q0f q0l q10 q11 q1f q1l q20 q21 q2f q2l q30 q31 q3f q3l q40 q41 q4f q4l q50 q51 q5f q5l wct wck wcg wcg0 wcz HI
        change Inv w [(w.heap.size, 23, [.int .i64 s, .int .i64 how]), (A, 29, [.int .i64 a1, .int .i64 e1]), (B, 29, [.int .i64 b1, .int .i64 f1]), (C, 29, [.int .i64 c, .int .i64 g]), (D, 29, [.int .i64 M3, .int .i64 E3]), (F, 29, [.int .i64 M2, .int .i64 E2])] _ at hJ
        generalize (w6.setCell ⟨D, 0, none⟩ (.int .i64 M3)).setCell ⟨D, 1, none⟩ (.int .i64 E3) = W5 at hJ ⊢
        have q00 : W5.cell? ⟨w.heap.size, 0, none⟩ = some (.int .i64 s) := (hJ.own 0 _ rfl).cell 0
        have q01 : W5.cell? ⟨w.heap.size, 1, none⟩ = some (.int .i64 how) := (hJ.own 0 _ rfl).cell 1
        have q0f := fun i => (hJ.own 0 _ rfl).frozen i
        have q0l : w.heap.size < W5.heap.size := (hJ.own 0 _ rfl).lt
        have q10 : W5.cell? ⟨A, 0, none⟩ = some (.int .i64 a1) := (hJ.own 1 _ rfl).cell 0
        have q11 : W5.cell? ⟨A, 1, none⟩ = some (.int .i64 e1) := (hJ.own 1 _ rfl).cell 1
        have q1f := fun i => (hJ.own 1 _ rfl).frozen i
        have q1l : A < W5.heap.size := (hJ.own 1 _ rfl).lt
        have q20 : W5.cell? ⟨B, 0, none⟩ = some (.int .i64 b1) := (hJ.own 2 _ rfl).cell 0
        have q21 : W5.cell? ⟨B, 1, none⟩ = some (.int .i64 f1) := (hJ.own 2 _ rfl).cell 1
        have q2f := fun i => (hJ.own 2 _ rfl).frozen i
        have q2l : B < W5.heap.size := (hJ.own 2 _ rfl).lt
        have q30 : W5.cell? ⟨C, 0, none⟩ = some (.int .i64 c) := (hJ.own 3 _ rfl).cell 0
        have q31 : W5.cell? ⟨C, 1, none⟩ = some (.int .i64 g) := (hJ.own 3 _ rfl).cell 1
        have q3f := fun i => (hJ.own 3 _ rfl).frozen i
        have q3l : C < W5.heap.size := (hJ.own 3 _ rfl).lt
        have q40 : W5.cell? ⟨D, 0, none⟩ = some (.int .i64 M3) := (hJ.own 4 _ rfl).cell 0
        have q41 : W5.cell? ⟨D, 1, none⟩ = some (.int .i64 E3) := (hJ.own 4 _ rfl).cell 1
        have q4f := fun i => (hJ.own 4 _ rfl).frozen i
        have q4l : D < W5.heap.size := (hJ.own 4 _ rfl).lt
        have q50 : W5.cell? ⟨F, 0, none⟩ = some (.int .i64 M2) := (hJ.own 5 _ rfl).cell 0
        have q51 : W5.cell? ⟨F, 1, none⟩ = some (.int .i64 E2) := (hJ.own 5 _ rfl).cell 1
        have q5f := fun i => (hJ.own 5 _ rfl).frozen i
        have q5l : F < W5.heap.size := (hJ.own 5 _ rfl).lt
        (have W5t := hJ.kept.1; have W5k := hJ.kept; have W5g := hJ.kept.1.lt; have W5g0 := hJ.kept.1.lt0; have W5z := hJ.kept.2.size)
        have HI := Lib.hid hJ
        clear hJ
        go_upto_region 12 with (first | (go_at_call 23; (with_reducible refine (H4.out _ (by repeat' (first | (with_reducible assumption) | (with_reducible refine Tab.alloc ?_ _) | (with_reducible refine Tab.drew ?_) | (with_reducible refine Tab.drewN ?_ _) | (with_reducible refine Tab.setCell ?_ ?_ ?_ _) | omega | (simp; done) | (simp; omega)))).mono ?_); rintro e w7 ⟨rfl, hk7⟩; obtain ⟨hc7, hf7⟩ := bcell hk7.2; have ht7 := hk7.1; have hz7 := hk7.2.size; (try simp only [World.size_alloc] at hz7); (try simp only [sz_drew] at hz7); (try simp only [sz_drewN] at hz7); (try simp only [World.size_alloc] at hz7); (try simp only [sz_drew] at hc7 hf7); (try simp only [sz_drewN] at hc7 hf7); (try have hw7 : w.heap.size < w7.heap.size := by omega); (try have hv7 : w.heap.size + 1 < w7.heap.size := by omega); (try have hu7 : w.heap.size + 2 < w7.heap.size := by omega)))
        have hJ := (((HI.out.call hk7).put 5 rfl 0 (.int .i64 M4) (by simp; omega) (by omega) hlt hlt0).put 5 rfl 1 (.int .i64 E4) (by simp; omega) (by omega) hlt hlt0)
        clear hc7 hf7 ht7 hz7 hk7 q00 q01 q0f q0l q10 q11 q1f q1l q20 q21 q2f q2l q30 q31 q3f q3l q40 q41 q4f q4l q50 q51 q5f q5l W5t W5k W5g W5g0 W5z HI
        change Inv w [(w.heap.size, 23, [.int .i64 s, .int .i64 how]), (A, 29, [.int .i64 a1, .int .i64 e1]), (B, 29, [.int .i64 b1, .int .i64 f1]), (C, 29, [.int .i64 c, .int .i64 g]), (D, 29, [.int .i64 M3, .int .i64 E3]), (F, 29, [.int .i64 M4, .int .i64 E4])] _ at hJ
        generalize (w7.setCell ⟨F, 0, none⟩ (.int .i64 M4)).setCell ⟨F, 1, none⟩ (.int .i64 E4) = W6 at hJ ⊢
        have q00 : W6.cell? ⟨w.heap.size, 0, none⟩ = some (.int .i64 s) := (hJ.own 0 _ rfl).cell 0
        have q01 : W6.cell? ⟨w.heap.size, 1, none⟩ = some (.int .i64 how) := (hJ.own 0 _ rfl).cell 1
        have q0f := fun i => (hJ.own 0 _ rfl).frozen i
        have q0l : w.heap.size < W6.heap.size := (hJ.own 0 _ rfl).lt
        have q10 : W6.cell? ⟨A, 0, none⟩ = some (.int .i64 a1) := (hJ.own 1 _ rfl).cell 0
        have q11 : W6.cell? ⟨A, 1, none⟩ = some (.int .i64 e1) := (hJ.own 1 _ rfl).cell 1
        have q1f := fun i => (hJ.own 1 _ rfl).frozen i
        have q1l : A < W6.heap.size := (hJ.own 1 _ rfl).lt
        have q20 : W6.cell? ⟨B, 0, none⟩ = some (.int .i64 b1) := (hJ.own 2 _ rfl).cell 0
        have q21 : W6.cell? ⟨B, 1, none⟩ = some (.int .i64 f1) := (hJ.own 2 _ rfl).cell 1
        have q2f := fun i => (hJ.own 2 _ rfl).frozen i
        have q2l : B < W6.heap.size := (hJ.own 2 _ rfl).lt
        have q30 : W6.cell? ⟨C, 0, none⟩ = some (.int .i64 c) := (hJ.own 3 _ rfl).cell 0
        have q31 : W6.cell? ⟨C, 1, none⟩ = some (.int .i64 g) := (hJ.own 3 _ rfl).cell 1
        have q3f := fun i => (hJ.own 3 _ rfl).frozen i
        have q3l : C < W6.heap.size := (hJ.own 3 _ rfl).lt
        have q40 : W6.cell? ⟨D, 0, none⟩ = some (.int .i64 M3) := (hJ.own 4 _ rfl).cell 0
        have q41 : W6.cell? ⟨D, 1, none⟩ = some (.int .i64 E3) := (hJ.own 4 _ rfl).cell 1
        have q4f := fun i => (hJ.own 4 _ rfl).frozen i
        have q4l : D < W6.heap.size := (hJ.own 4 _ rfl).lt
        have q50 : W6.cell? ⟨F, 0, none⟩ = some (.int .i64 M4) := (hJ.own 5 _ rfl).cell 0
        have q51 : W6.cell? ⟨F, 1, none⟩ = some (.int .i64 E4) := (hJ.own 5 _ rfl).cell 1
        have q5f := fun i => (hJ.own 5 _ rfl).frozen i
        have q5l : F < W6.heap.size := (hJ.own 5 _ rfl).lt
        (have W6t := hJ.kept.1; have W6k := hJ.kept; have W6g := hJ.kept.1.lt; have W6g0 := hJ.kept.1.lt0; have W6z := hJ.kept.2.size)
        have HI := Lib.hid hJ
        have hK := hJ.kept
        clear hJ
        by_cases hc : c < 0
        · have hcd : decide (c < 0) = true := decide_eq_true hc
          go_wp2_with fail
          go_returns
          exact ⟨rfl, hK⟩
        · have hcd : decide (c < 0) = false := decide_eq_false hc
          by_cases hX : X3 = 0
          · subst hX
            by_cases hY : X4 = 0
            · subst hY
              have hd : decide (d2 ≤ 0) = true := decide_eq_true (O2.out (by omega) rfl rfl)
              go_wp2_with (first | (go_at_call 39; (with_reducible refine (H6.out _ (by repeat' (first | (with_reducible assumption) | (with_reducible refine Tab.alloc ?_ _) | (with_reducible refine Tab.drew ?_) | (with_reducible refine Tab.drewN ?_ _) | (with_reducible refine Tab.setCell ?_ ?_ ?_ _) | omega | (simp; done) | (simp; omega)))).mono ?_); rintro e w8 ⟨rfl, hk8⟩; obtain ⟨hc8, hf8⟩ := bcell hk8.2; have ht8 := hk8.1; have hz8 := hk8.2.size; (try simp only [World.size_alloc] at hz8); (try simp only [sz_drew] at hz8); (try simp only [sz_drewN] at hz8); (try simp only [World.size_alloc] at hz8); (try simp only [sz_drew] at hc8 hf8); (try simp only [sz_drewN] at hc8 hf8); (try have hw8 : w.heap.size < w8.heap.size := by omega); (try have hv8 : w.heap.size + 1 < w8.heap.size := by omega); (try have hu8 : w.heap.size + 2 < w8.heap.size := by omega)))
              go_returns
              exact ⟨rfl, (by repeat' (first | (with_reducible assumption) | (with_reducible exact Kept.refl ht) | (with_reducible refine Kept.alloc ?_ _) | (with_reducible refine Kept.drew ?_) | (with_reducible refine Kept.drewN ?_ _) | (with_reducible refine Kept.setCell ?_ ?_ _ ?_ ?_) | (with_reducible refine Kept.trans ?_ (by assumption)) | omega | (simp; done) | (simp; omega)))⟩
            · have hYb : (X4 != 0) = true := by simpa using hY
              go_wp2_with fail
              go_returns
              exact ⟨rfl, hK⟩
          · have hXb : (X3 != 0) = true := by simpa using hX
            go_wp2_with fail
            go_returns
            exact ⟨rfl, hK⟩
end Go.Proofs.YtcmgphfcpgebfaaDoor
