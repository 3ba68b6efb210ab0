/- The walk of RealsRoots: it returns true for every size and number. Condition: the tables hold what their initialisers lay. -/
import Derived.Test.YtcmgphfcpgebfaaDoorOne1
import Derived.Test.YtcmgphfcpgebfaaDoorRfac
namespace Go.Proofs.YtcmgphfcpgebfaaDoor
open Go.ChangeShapes Go.WideShapes Go.ChangeAt Go.RowKit
attribute [local go_sem ↓] Go.wp_at_zero Go.wp_at_succ

set_option maxRecDepth 100000 in
set_option maxHeartbeats 8000000 in
theorem RealsRoots_walk (s a e : Int) (w : World) (ht : Tab w) (la : -9223372036854775808 ≤ a) (ha : a ≤ 9223372036854775807) (le : -9223372036854775808 ≤ e) (he : e ≤ 9223372036854775807) :
    Calls Tryd.prog 10 #[.int .i64 s, .agg #[.int .i64 a, .int .i64 e]] w fun x w' => x = .returned (.bool true) ∧ Kept w w' := by
  have hlt := ht.lt
  have hlt0 := ht.lt0
  have HA := Lib.hid (fun w ht => awake_any w ht)
  obtain ⟨⟨M1, E1, X1⟩, h1⟩ : ∃ r, sRes s 2 a e = r := ⟨_, rfl⟩
  have b1 := bd_s s 2 a e
  rw [h1] at b1
  obtain ⟨b11, b12, b13, b14⟩ := b1
  simp only at b11 b12 b13 b14
  have H1 := Lib.hid (fun w ht => gives_out h1 (sqrt_any s 2 a e w ht la ha))
  obtain ⟨⟨M2, E2, X2⟩, h2⟩ : ∃ r, mRes s 2 M1 E1 M1 E1 = r := ⟨_, rfl⟩
  have b2 := bd_m s 2 M1 E1 M1 E1
  rw [h2] at b2
  obtain ⟨b21, b22, b23, b24⟩ := b2
  simp only at b21 b22 b23 b24
  have H2 := Lib.hid (fun w ht => gives_out h2 (mul_any s 2 M1 E1 M1 E1 w ht b11 b12 b11 b12))
  have H3 := Lib.hid (fun w ht => compare_any M2 E2 a e w ht b21 b22 la ha b23 b24 le he)
  have hd : X1 = 0 → X2 = 0 ∧ cmpR M2 E2 a e ≤ 0 := by
    rintro rfl
    have := roots_down h1
    rw [h2] at this
    exact this
  generalize cmpR M2 E2 a e = c at hd H3
  obtain ⟨⟨M3, E3, X3⟩, h3⟩ : ∃ r, mRes s 2 a e a e = r := ⟨_, rfl⟩
  have b3 := bd_m s 2 a e a e
  rw [h3] at b3
  obtain ⟨b31, b32, b33, b34⟩ := b3
  simp only at b31 b32 b33 b34
  have H4 := Lib.hid (fun w ht => gives_out h3 (mul_any s 2 a e a e w ht la ha la ha))
  obtain ⟨⟨M4, E4, X4⟩, h4⟩ : ∃ r, mRes s 1 a e a e = r := ⟨_, rfl⟩
  have H5 := Lib.hid (fun w ht => gives_out h4 (mul_any s 1 a e a e w ht la ha la ha))
  have HS := Lib.hid (fun (hx : X3 = 0) (hy : X4 = 0) (hm : M3 = M4) (hn : E3 = E4) => roots_sq (s := s) (a := a) (e := e) (M := M3) (E := E3) (by rw [h3, hx]) (by rw [h4, hy, hm, hn]))
  have HB := Lib.hid (And.intro la ha)
  have HC := Lib.hid (And.intro b31 b32)
  clear h1 h2 h3 h4 b11 b12 b13 b14 b21 b22 b23 b24 b31 b32 b33 b34 la ha le he
  go_enter Tryd.func10, Tryd.ntmps10
  go_upto_region 3 with (first | (go_at_call 11; (with_reducible refine (HA.out _ (by repeat' (first | (with_reducible assumption) | (with_reducible refine Tab.alloc ?_ _) | (with_reducible refine Tab.drew ?_) | (with_reducible refine Tab.drewN ?_ _) | (with_reducible refine Tab.setCell ?_ ?_ ?_ _) | omega | (simp; done) | (simp; omega)))).mono ?_); rintro e w1 ⟨rfl, hk1⟩; obtain ⟨hc1, hf1⟩ := bcell hk1.2; have ht1 := hk1.1; have hz1 := hk1.2.size; (try simp only [World.size_alloc] at hz1); (try simp only [sz_drew] at hz1); (try simp only [sz_drewN] at hz1); (try simp only [World.size_alloc] at hz1); (try simp only [sz_drew] at hc1 hf1); (try simp only [sz_drewN] at hc1 hf1); (try have hw1 : w.heap.size < w1.heap.size := by omega); (try have hv1 : w.heap.size + 1 < w1.heap.size := by omega); (try have hu1 : w.heap.size + 2 < w1.heap.size := by omega)))
  have hI := (Inv.one ht 29 [.int .i64 a, .int .i64 e]).call hk1
  clear hc1 hf1 hk1 ht1 hz1
  generalize w1 = W at hI ⊢
  have q00 : W.cell? ⟨w.heap.size, 0, none⟩ = some (.int .i64 a) := (hI.own 0 _ rfl).cell 0
  have q01 : W.cell? ⟨w.heap.size, 1, none⟩ = some (.int .i64 e) := (hI.own 0 _ rfl).cell 1
  have q0l : w.heap.size < W.heap.size := (hI.own 0 _ rfl).lt
  (have Wt := hI.kept.1; have Wk := hI.kept; have Wg := hI.kept.1.lt; have Wg0 := hI.kept.1.lt0; have Wz := hI.kept.2.size)
  have HI := Lib.hid hI
  clear hI
  go_upto_if 23 with (first | (go_at_call 27; (with_reducible refine (H1.out _ (by repeat' (first | (with_reducible assumption) | (with_reducible refine Tab.alloc ?_ _) | (with_reducible refine Tab.drew ?_) | (with_reducible refine Tab.drewN ?_ _) | (with_reducible refine Tab.setCell ?_ ?_ ?_ _) | omega | (simp; done) | (simp; omega)))).mono ?_); rintro e w2 ⟨rfl, hk2⟩; obtain ⟨hc2, hf2⟩ := bcell hk2.2; have ht2 := hk2.1; have hz2 := hk2.2.size; (try simp only [World.size_alloc] at hz2); (try simp only [sz_drew] at hz2); (try simp only [sz_drewN] at hz2); (try simp only [World.size_alloc] at hz2); (try simp only [sz_drew] at hc2 hf2); (try simp only [sz_drewN] at hc2 hf2); (try have hw2 : w.heap.size < w2.heap.size := by omega); (try have hv2 : w.heap.size + 1 < w2.heap.size := by omega); (try have hu2 : w.heap.size + 2 < w2.heap.size := by omega)))
  have hI2 := (HI.out.call hk2).grow 29 [.int .i64 M1, .int .i64 E1]
  clear hc2 hf2 ht2 hz2 hk2
  clear q00 q01 q0l Wt Wk Wg Wg0 Wz HI
  change Inv w [(w.heap.size, 29, [.int .i64 a, .int .i64 e]), (w2.heap.size, 29, [.int .i64 M1, .int .i64 E1])] _ at hI2
  generalize w2.alloc (.cells #[.int .i64 M1, .int .i64 E1] 29) = W2 at hI2 ⊢
  generalize w2.heap.size = A2 at hI2 ⊢
  have hI := hI2.init (bs := [_])
  go_cut [] (fun wx => Inv w [(w.heap.size, 29, [.int .i64 a, .int .i64 e])] wx)
  case first =>
    have q00 : W2.cell? ⟨w.heap.size, 0, none⟩ = some (.int .i64 a) := (hI2.own 0 _ rfl).cell 0
    have q01 : W2.cell? ⟨w.heap.size, 1, none⟩ = some (.int .i64 e) := (hI2.own 0 _ rfl).cell 1
    have q0l : w.heap.size < W2.heap.size := (hI2.own 0 _ rfl).lt
    have q10 : W2.cell? ⟨A2, 0, none⟩ = some (.int .i64 M1) := (hI2.own 1 _ rfl).cell 0
    have q11 : W2.cell? ⟨A2, 1, none⟩ = some (.int .i64 E1) := (hI2.own 1 _ rfl).cell 1
    have q1l : A2 < W2.heap.size := (hI2.own 1 _ rfl).lt
    (have W2t := hI2.kept.1; have W2k := hI2.kept; have W2g := hI2.kept.1.lt; have W2g0 := hI2.kept.1.lt0; have W2z := hI2.kept.2.size)
    have HI := Lib.hid hI
    have HI2 := Lib.hid hI2
    clear hI hI2
    by_cases hX : X1 = 0
    · obtain ⟨rfl, hc⟩ := hd hX
      subst hX
      clear hd
      have hcd : decide (0 < c) = false := decide_eq_false (by omega)
      clear hc
      go_upto_region 6 with (first | (go_at_call 23; (with_reducible refine (H2.out _ (by repeat' (first | (with_reducible assumption) | (with_reducible refine Tab.alloc ?_ _) | (with_reducible refine Tab.drew ?_) | (with_reducible refine Tab.drewN ?_ _) | (with_reducible refine Tab.setCell ?_ ?_ ?_ _) | omega | (simp; done) | (simp; omega)))).mono ?_); rintro e w3 ⟨rfl, hk3⟩; obtain ⟨hc3, hf3⟩ := bcell hk3.2; have ht3 := hk3.1; have hz3 := hk3.2.size; (try simp only [World.size_alloc] at hz3); (try simp only [sz_drew] at hz3); (try simp only [sz_drewN] at hz3); (try simp only [World.size_alloc] at hz3); (try simp only [sz_drew] at hc3 hf3); (try simp only [sz_drewN] at hc3 hf3); (try have hw3 : w.heap.size < w3.heap.size := by omega); (try have hv3 : w.heap.size + 1 < w3.heap.size := by omega); (try have hu3 : w.heap.size + 2 < w3.heap.size := by omega)))
      have hI3 := (HI2.out.call hk3).grow 29 [.int .i64 M2, .int .i64 E2]
      clear hc3 hf3 ht3 hz3 hk3 q00 q01 q0l q10 q11 q1l W2t W2k W2g W2g0 W2z HI HI2
      change Inv w [(w.heap.size, 29, [.int .i64 a, .int .i64 e]), (A2, 29, [.int .i64 M1, .int .i64 E1]), (w3.heap.size, 29, [.int .i64 M2, .int .i64 E2])] _ at hI3
      generalize w3.alloc (.cells #[.int .i64 M2, .int .i64 E2] 29) = W3 at hI3 ⊢
      generalize w3.heap.size = A3 at hI3 ⊢
      have q00 : W3.cell? ⟨w.heap.size, 0, none⟩ = some (.int .i64 a) := (hI3.own 0 _ rfl).cell 0
      have q01 : W3.cell? ⟨w.heap.size, 1, none⟩ = some (.int .i64 e) := (hI3.own 0 _ rfl).cell 1
      have q0l : w.heap.size < W3.heap.size := (hI3.own 0 _ rfl).lt
      have q10 : W3.cell? ⟨A2, 0, none⟩ = some (.int .i64 M1) := (hI3.own 1 _ rfl).cell 0
      have q11 : W3.cell? ⟨A2, 1, none⟩ = some (.int .i64 E1) := (hI3.own 1 _ rfl).cell 1
      have q1l : A2 < W3.heap.size := (hI3.own 1 _ rfl).lt
      have q20 : W3.cell? ⟨A3, 0, none⟩ = some (.int .i64 M2) := (hI3.own 2 _ rfl).cell 0
      have q21 : W3.cell? ⟨A3, 1, none⟩ = some (.int .i64 E2) := (hI3.own 2 _ rfl).cell 1
      have q2l : A3 < W3.heap.size := (hI3.own 2 _ rfl).lt
      (have W3t := hI3.kept.1; have W3k := hI3.kept; have W3g := hI3.kept.1.lt; have W3g0 := hI3.kept.1.lt0; have W3z := hI3.kept.2.size)
      have hI := (hI3.init (bs := [_, _])).init (bs := [_])
      clear hI3
      go_wp2_with (first | (go_at_call 39; (with_reducible refine (H3.out _ (by repeat' (first | (with_reducible assumption) | (with_reducible refine Tab.alloc ?_ _) | (with_reducible refine Tab.drew ?_) | (with_reducible refine Tab.drewN ?_ _) | (with_reducible refine Tab.setCell ?_ ?_ ?_ _) | omega | (simp; done) | (simp; omega)))).mono ?_); rintro e w4 ⟨rfl, hk4⟩; obtain ⟨hc4, hf4⟩ := bcell hk4.2; have ht4 := hk4.1; have hz4 := hk4.2.size; (try simp only [World.size_alloc] at hz4); (try simp only [sz_drew] at hz4); (try simp only [sz_drewN] at hz4); (try simp only [World.size_alloc] at hz4); (try simp only [sz_drew] at hc4 hf4); (try simp only [sz_drewN] at hc4 hf4); (try have hw4 : w.heap.size < w4.heap.size := by omega); (try have hv4 : w.heap.size + 1 < w4.heap.size := by omega); (try have hu4 : w.heap.size + 2 < w4.heap.size := by omega)))
      go_meet
      exact (by repeat' (first | (with_reducible assumption) | (with_reducible refine Inv.drew ?_) | (with_reducible refine Inv.alloc ?_ _) | (with_reducible refine Inv.call ?_ (by assumption)) | (with_reducible refine Inv.far ?_ ?_ ?_ ?_ ?_ _) | omega | (simp; done) | (simp; omega)))
    · clear hd
      have hXb : (X1 == 0) = false := by simpa using hX
      go_wp2_with fail
      go_meet
      exact HI.out
  case rest =>
    have hI := hcut
    clear hI2 hcut
    have q00 : wc.cell? ⟨w.heap.size, 0, none⟩ = some (.int .i64 a) := (hI.own 0 _ rfl).cell 0
    have q01 : wc.cell? ⟨w.heap.size, 1, none⟩ = some (.int .i64 e) := (hI.own 0 _ rfl).cell 1
    have q0l : w.heap.size < wc.heap.size := (hI.own 0 _ rfl).lt
    (have wct := hI.kept.1; have wck := hI.kept; have wcg := hI.kept.1.lt; have wcg0 := hI.kept.1.lt0; have wcz := hI.kept.2.size)
    have HI := Lib.hid hI
    clear hI
    go_upto_region 9 with (first | (go_at_call 23; (with_reducible refine (H4.out _ (by repeat' (first | (with_reducible assumption) | (with_reducible refine Tab.alloc ?_ _) | (with_reducible refine Tab.drew ?_) | (with_reducible refine Tab.drewN ?_ _) | (with_reducible refine Tab.setCell ?_ ?_ ?_ _) | omega | (simp; done) | (simp; omega)))).mono ?_); rintro e w5 ⟨rfl, hk5⟩; obtain ⟨hc5, hf5⟩ := bcell hk5.2; have ht5 := hk5.1; have hz5 := hk5.2.size; (try simp only [World.size_alloc] at hz5); (try simp only [sz_drew] at hz5); (try simp only [sz_drewN] at hz5); (try simp only [World.size_alloc] at hz5); (try simp only [sz_drew] at hc5 hf5); (try simp only [sz_drewN] at hc5 hf5); (try have hw5 : w.heap.size < w5.heap.size := by omega); (try have hv5 : w.heap.size + 1 < w5.heap.size := by omega); (try have hu5 : w.heap.size + 2 < w5.heap.size := by omega)))
    have hI2 := (HI.out.call hk5).grow 29 [.int .i64 M3, .int .i64 E3]
    clear hc5 hf5 ht5 hz5 hk5
    clear q00 q01 q0l wct wck wcg wcg0 wcz HI
    change Inv w [(w.heap.size, 29, [.int .i64 a, .int .i64 e]), (w5.heap.size, 29, [.int .i64 M3, .int .i64 E3])] _ at hI2
    generalize w5.alloc (.cells #[.int .i64 M3, .int .i64 E3] 29) = W2 at hI2 ⊢
    generalize w5.heap.size = A2 at hI2 ⊢
    have q00 : W2.cell? ⟨w.heap.size, 0, none⟩ = some (.int .i64 a) := (hI2.own 0 _ rfl).cell 0
    have q01 : W2.cell? ⟨w.heap.size, 1, none⟩ = some (.int .i64 e) := (hI2.own 0 _ rfl).cell 1
    have q0l : w.heap.size < W2.heap.size := (hI2.own 0 _ rfl).lt
    have q10 : W2.cell? ⟨A2, 0, none⟩ = some (.int .i64 M3) := (hI2.own 1 _ rfl).cell 0
    have q11 : W2.cell? ⟨A2, 1, none⟩ = some (.int .i64 E3) := (hI2.own 1 _ rfl).cell 1
    have q1l : A2 < W2.heap.size := (hI2.own 1 _ rfl).lt
    (have W2t := hI2.kept.1; have W2k := hI2.kept; have W2g := hI2.kept.1.lt; have W2g0 := hI2.kept.1.lt0; have W2z := hI2.kept.2.size)
    have HI := Lib.hid hI2
    clear hI2
    go_upto_region 10 with (first | (go_at_call 23; (with_reducible refine (H5.out _ (by repeat' (first | (with_reducible assumption) | (with_reducible refine Tab.alloc ?_ _) | (with_reducible refine Tab.drew ?_) | (with_reducible refine Tab.drewN ?_ _) | (with_reducible refine Tab.setCell ?_ ?_ ?_ _) | omega | (simp; done) | (simp; omega)))).mono ?_); rintro e w6 ⟨rfl, hk6⟩; obtain ⟨hc6, hf6⟩ := bcell hk6.2; have ht6 := hk6.1; have hz6 := hk6.2.size; (try simp only [World.size_alloc] at hz6); (try simp only [sz_drew] at hz6); (try simp only [sz_drewN] at hz6); (try simp only [World.size_alloc] at hz6); (try simp only [sz_drew] at hc6 hf6); (try simp only [sz_drewN] at hc6 hf6); (try have hw6 : w.heap.size < w6.heap.size := by omega); (try have hv6 : w.heap.size + 1 < w6.heap.size := by omega); (try have hu6 : w.heap.size + 2 < w6.heap.size := by omega)))
    have hI3 := (HI.out.call hk6).grow 29 [.int .i64 M4, .int .i64 E4]
    clear hc6 hf6 ht6 hz6 hk6
    clear q00 q01 q0l q10 q11 q1l W2t W2k W2g W2g0 W2z HI
    change Inv w [(w.heap.size, 29, [.int .i64 a, .int .i64 e]), (A2, 29, [.int .i64 M3, .int .i64 E3]), (w6.heap.size, 29, [.int .i64 M4, .int .i64 E4])] _ at hI3
    generalize w6.alloc (.cells #[.int .i64 M4, .int .i64 E4] 29) = W3 at hI3 ⊢
    generalize w6.heap.size = A3 at hI3 ⊢
    have q00 : W3.cell? ⟨w.heap.size, 0, none⟩ = some (.int .i64 a) := (hI3.own 0 _ rfl).cell 0
    have q01 : W3.cell? ⟨w.heap.size, 1, none⟩ = some (.int .i64 e) := (hI3.own 0 _ rfl).cell 1
    have q0l : w.heap.size < W3.heap.size := (hI3.own 0 _ rfl).lt
    have q10 : W3.cell? ⟨A2, 0, none⟩ = some (.int .i64 M3) := (hI3.own 1 _ rfl).cell 0
    have q11 : W3.cell? ⟨A2, 1, none⟩ = some (.int .i64 E3) := (hI3.own 1 _ rfl).cell 1
    have q1l : A2 < W3.heap.size := (hI3.own 1 _ rfl).lt
    have q20 : W3.cell? ⟨A3, 0, none⟩ = some (.int .i64 M4) := (hI3.own 2 _ rfl).cell 0
    have q21 : W3.cell? ⟨A3, 1, none⟩ = some (.int .i64 E4) := (hI3.own 2 _ rfl).cell 1
    have q2l : A3 < W3.heap.size := (hI3.own 2 _ rfl).lt
    (have W3t := hI3.kept.1; have W3k := hI3.kept; have W3g := hI3.kept.1.lt; have W3g0 := hI3.kept.1.lt0; have W3z := hI3.kept.2.size)
    have HI := Lib.hid hI3
    have hK := hI3.kept
    clear hI3
    by_cases hX3 : X3 = 0
    · subst hX3
      by_cases hX4 : X4 = 0
      · subst hX4
        by_cases hM : M3 = M4
        · by_cases hE : E3 = E4
          · subst hM hE
            obtain ⟨y, f, hy, hs⟩ := HS.out rfl rfl rfl rfl
            have H6 := Lib.hid (fun w ht => gives_out hy (abs_any s a e w ht HB.out.1 HB.out.2))
            have H7 := Lib.hid (fun w ht => gives_out hs (sqrt_any s 0 M3 E3 w ht HC.out.1 HC.out.2))
            clear hy hs
            go_upto_region 13 with (first | (go_at_call 31; (with_reducible refine (H6.out _ (by repeat' (first | (with_reducible assumption) | (with_reducible refine Tab.alloc ?_ _) | (with_reducible refine Tab.drew ?_) | (with_reducible refine Tab.drewN ?_ _) | (with_reducible refine Tab.setCell ?_ ?_ ?_ _) | omega | (simp; done) | (simp; omega)))).mono ?_); rintro e w7 ⟨rfl, hk7⟩; obtain ⟨hc7, hf7⟩ := bcell hk7.2; have ht7 := hk7.1; have hz7 := hk7.2.size; (try simp only [World.size_alloc] at hz7); (try simp only [sz_drew] at hz7); (try simp only [sz_drewN] at hz7); (try simp only [World.size_alloc] at hz7); (try simp only [sz_drew] at hc7 hf7); (try simp only [sz_drewN] at hc7 hf7); (try have hw7 : w.heap.size < w7.heap.size := by omega); (try have hv7 : w.heap.size + 1 < w7.heap.size := by omega); (try have hu7 : w.heap.size + 2 < w7.heap.size := by omega)))
            have hI4 := (HI.out.call hk7).grow 29 [.int .i64 y, .int .i64 f]
            clear hc7 hf7 ht7 hz7 hk7 q00 q01 q0l q10 q11 q1l q20 q21 q2l W3t W3k W3g W3g0 W3z HI hK
            change Inv w [(w.heap.size, 29, [.int .i64 a, .int .i64 e]), (A2, 29, [.int .i64 M3, .int .i64 E3]), (A3, 29, [.int .i64 M3, .int .i64 E3]), (w7.heap.size, 29, [.int .i64 y, .int .i64 f])] _ at hI4
            generalize w7.alloc (.cells #[.int .i64 y, .int .i64 f] 29) = W4 at hI4 ⊢
            generalize w7.heap.size = A4 at hI4 ⊢
            have q00 : W4.cell? ⟨w.heap.size, 0, none⟩ = some (.int .i64 a) := (hI4.own 0 _ rfl).cell 0
            have q01 : W4.cell? ⟨w.heap.size, 1, none⟩ = some (.int .i64 e) := (hI4.own 0 _ rfl).cell 1
            have q0l : w.heap.size < W4.heap.size := (hI4.own 0 _ rfl).lt
            have q10 : W4.cell? ⟨A2, 0, none⟩ = some (.int .i64 M3) := (hI4.own 1 _ rfl).cell 0
            have q11 : W4.cell? ⟨A2, 1, none⟩ = some (.int .i64 E3) := (hI4.own 1 _ rfl).cell 1
            have q1l : A2 < W4.heap.size := (hI4.own 1 _ rfl).lt
            have q20 : W4.cell? ⟨A3, 0, none⟩ = some (.int .i64 M3) := (hI4.own 2 _ rfl).cell 0
            have q21 : W4.cell? ⟨A3, 1, none⟩ = some (.int .i64 E3) := (hI4.own 2 _ rfl).cell 1
            have q2l : A3 < W4.heap.size := (hI4.own 2 _ rfl).lt
            have q30 : W4.cell? ⟨A4, 0, none⟩ = some (.int .i64 y) := (hI4.own 3 _ rfl).cell 0
            have q31 : W4.cell? ⟨A4, 1, none⟩ = some (.int .i64 f) := (hI4.own 3 _ rfl).cell 1
            have q3l : A4 < W4.heap.size := (hI4.own 3 _ rfl).lt
            (have W4t := hI4.kept.1; have W4k := hI4.kept; have W4g := hI4.kept.1.lt; have W4g0 := hI4.kept.1.lt0; have W4z := hI4.kept.2.size)
            have hK := hI4.kept
            have HP : Hid (∀ w', Inv w [(w.heap.size, 29, [.int .i64 a, .int .i64 e]), (A2, 29, [.int .i64 M3, .int .i64 E3]), (A3, 29, [.int .i64 M3, .int .i64 E3]), (A4, 29, [.int .i64 y, .int .i64 f])] w' → Inv w [(w.heap.size, 29, [.int .i64 a, .int .i64 e]), (A2, 29, [.int .i64 M3, .int .i64 E3]), (A3, 29, [.int .i64 M3, .int .i64 E3]), (A4, 29, [.int .i64 y, .int .i64 f])] w' ∧ Tab w' ∧ w'.cell? ⟨A2, 0, none⟩ = some (.int .i64 M3) ∧ w'.cell? ⟨A2, 1, none⟩ = some (.int .i64 E3) ∧ w'.cell? ⟨A4, 0, none⟩ = some (.int .i64 y) ∧ w'.cell? ⟨A4, 1, none⟩ = some (.int .i64 f)) := Lib.hid (fun w' h => ⟨h, h.kept.1, (h.own 1 _ rfl).cell 0, (h.own 1 _ rfl).cell 1, (h.own 3 _ rfl).cell 0, (h.own 3 _ rfl).cell 1⟩)
            go_region_held3 (fun w' => Inv w [(w.heap.size, 29, [.int .i64 a, .int .i64 e]), (A2, 29, [.int .i64 M3, .int .i64 E3]), (A3, 29, [.int .i64 M3, .int .i64 E3]), (A4, 29, [.int .i64 y, .int .i64 f])] w' ∧ Tab w' ∧ w'.cell? ⟨A2, 0, none⟩ = some (.int .i64 M3) ∧ w'.cell? ⟨A2, 1, none⟩ = some (.int .i64 E3) ∧ w'.cell? ⟨A4, 0, none⟩ = some (.int .i64 y) ∧ w'.cell? ⟨A4, 1, none⟩ = some (.int .i64 f)) ((refine HP.out _ ?_; repeat' (first | (with_reducible assumption) | (with_reducible refine Inv.drew ?_) | (with_reducible refine Inv.alloc ?_ _) | (with_reducible refine Inv.call ?_ (by assumption)) | (with_reducible refine Inv.far ?_ ?_ ?_ ?_ ?_ _) | omega | (simp; done) | (simp; omega)))) (first | (go_at_call 27; (with_reducible refine (H7.out _ (by repeat' (first | (with_reducible assumption) | (with_reducible refine Tab.alloc ?_ _) | (with_reducible refine Tab.drew ?_) | (with_reducible refine Tab.drewN ?_ _) | (with_reducible refine Tab.setCell ?_ ?_ ?_ _) | omega | (simp; done) | (simp; omega)))).mono ?_); rintro e w8 ⟨rfl, hk8⟩; obtain ⟨hc8, hf8⟩ := bcell hk8.2; have ht8 := hk8.1; have hz8 := hk8.2.size; (try simp only [World.size_alloc] at hz8); (try simp only [sz_drew] at hz8); (try simp only [sz_drewN] at hz8); (try simp only [World.size_alloc] at hz8); (try simp only [sz_drew] at hc8 hf8); (try simp only [sz_drewN] at hc8 hf8); (try have hw8 : w.heap.size < w8.heap.size := by omega); (try have hv8 : w.heap.size + 1 < w8.heap.size := by omega); (try have hu8 : w.heap.size + 2 < w8.heap.size := by omega)) | (go_at_call 16; (with_reducible refine (one_any _ _ _ _ (by repeat' (first | (with_reducible assumption) | (with_reducible refine Tab.alloc ?_ _) | (with_reducible refine Tab.drew ?_) | (with_reducible refine Tab.drewN ?_ _) | (with_reducible refine Tab.setCell ?_ ?_ ?_ _) | omega | (simp; done) | (simp; omega)))).mono ?_); rintro e w9 ⟨B9, C9, rfl, hB9, hC9, hk9⟩; obtain ⟨hc9, hf9⟩ := bcell hk9.2; have ht9 := hk9.1; have hz9 := hk9.2.size; (try simp only [World.size_alloc] at hz9); (try simp only [sz_drew, sz_drewN, World.size_alloc] at hz9); (try simp only [sz_drew, sz_drewN] at hc9 hf9)) | (go_at_call 49; (with_reducible refine (same_any _ _ _ _ _ _ (by repeat' (first | (with_reducible assumption) | (with_reducible refine Tab.alloc ?_ _) | (with_reducible refine Tab.drew ?_) | (with_reducible refine Tab.drewN ?_ _) | (with_reducible refine Tab.setCell ?_ ?_ ?_ _) | omega | (simp; done) | (simp; omega))) (by repeat' (first | (with_reducible assumption) | (with_reducible refine Own.drew ?_) | (with_reducible refine Own.drewN ?_ _) | (with_reducible refine Own.call ?_ (by assumption)))) (by repeat' (first | (with_reducible assumption) | (with_reducible refine Own.drew ?_) | (with_reducible refine Own.drewN ?_ _) | (with_reducible refine Own.call ?_ (by assumption))))).mono ?_); rintro e w10 ⟨rfl, hk10⟩; obtain ⟨hc10, hf10⟩ := bcell hk10.2; have ht10 := hk10.1; have hz10 := hk10.2.size; (try simp only [World.size_alloc] at hz10); (try simp only [sz_drew, sz_drewN, World.size_alloc] at hz10); (try simp only [sz_drew, sz_drewN] at hc10 hf10)))
            go_wp2_with fail
            go_returns
            exact ⟨rfl, (by repeat' (first | (with_reducible assumption) | (with_reducible exact Kept.refl ht) | (with_reducible refine Kept.alloc ?_ _) | (with_reducible refine Kept.drew ?_) | (with_reducible refine Kept.drewN ?_ _) | (with_reducible refine Kept.setCell ?_ ?_ _ ?_ ?_) | (with_reducible refine Kept.trans ?_ (by assumption)) | omega | (simp; done) | (simp; omega)))⟩
          · have hEb : (E3 == E4) = false := by simpa using hE
            subst hM
            go_wp2_with fail
            go_returns
            exact ⟨rfl, hK⟩
        · have hMb : (M3 == M4) = false := by simpa using hM
          go_wp2_with fail
          go_returns
          exact ⟨rfl, hK⟩
      · have hXb : (X4 != 0) = true := by simpa using hX4
        go_wp2_with fail
        go_returns
        exact ⟨rfl, hK⟩
    · have hXb : (X3 != 0) = true := by simpa using hX3
      go_wp2_with fail
      go_returns
      exact ⟨rfl, hK⟩
end Go.Proofs.YtcmgphfcpgebfaaDoor
