/- The walk of RealsTurns: it returns true for every size, direction and numbers. Condition: the tables hold what their initialisers lay. -/
import Derived.Test.YtcmgphfcpgebfaaDoorOne1
import Derived.Test.YtcmgphfcpgebfaaDoorTfac
namespace Go.Proofs.YtcmgphfcpgebfaaDoor
open Go.ChangeShapes Go.WideShapes Go.ChangeAt Go.RowKit
attribute [local go_sem ↓] Go.wp_at_zero Go.wp_at_succ

set_option maxRecDepth 100000 in
set_option maxHeartbeats 16000000 in
theorem RealsTurns_walk (s how a e b f : Int) (w : World) (ht : Tab w) (la : -9223372036854775808 ≤ a) (ha : a ≤ 9223372036854775807) (lb : -9223372036854775808 ≤ b) (hb : b ≤ 9223372036854775807) :
    Calls Tryd.prog 9 #[.agg #[.int .i64 s, .int .i64 how], .agg #[.int .i64 a, .int .i64 e], .agg #[.int .i64 b, .int .i64 f]] w fun x w' => x = .returned (.bool true) ∧ Kept w w' := by
  have hlt := ht.lt
  have hlt0 := ht.lt0
  have HA := Lib.hid (fun w ht => awake_any w ht)
  obtain ⟨⟨M1, E1, X1⟩, h1⟩ : ∃ r, aRes s how a e b f = r := ⟨_, rfl⟩
  have hb1 := bd_a s how a e b f
  rw [h1] at hb1
  have H1 := Lib.hid (fun w ht => gives_out h1 (add_any s how a e b f w ht la ha lb hb))
  have H1' := Lib.hid (fun w ht => gives_out ((add_comm s how b f a e).trans h1) (add_any s how b f a e w ht lb hb la ha))
  obtain ⟨⟨M2, E2, X2⟩, h2⟩ : ∃ r, mRes s how a e b f = r := ⟨_, rfl⟩
  have H2 := Lib.hid (fun w ht => gives_out h2 (mul_any s how a e b f w ht la ha lb hb))
  have H2' := Lib.hid (fun w ht => gives_out ((mul_comm s how b f a e).trans h2) (mul_any s how b f a e w ht lb hb la ha))
  obtain ⟨⟨M3, E3, X3⟩, h3⟩ : ∃ r, lRes s a e = r := ⟨_, rfl⟩
  have H3 := Lib.hid (fun w ht => gives_out h3 (leng_any s a e w ht la ha))
  have hS := Lib.hid (fun (hx : X3 = 0) (hd : isDir how = true) => back (s := s) (how := how) (a := a) (e := e) (M := M3) (E := E3) (by rw [h3, hx]) hd)
  have HV1 := Lib.hid (fun w ht => Valid_any s a e w ht la ha)
  have HV2 := Lib.hid (fun w ht => Valid_any s b f w ht lb hb)
  obtain ⟨k, hk⟩ : ∃ k, okT s how a e b f = k := ⟨_, rfl⟩
  have hO : Hid (k = (vld s a e && vld s b f && isDir how)) := Lib.hid (by rw [← hk]; rfl)
  have hE := Lib.hid (fun (h : k = false) => add_err (hk.trans h) h1)
  have hT := Lib.hid (fun (h : k = true) => turned (hk.trans h) h1)
  clear hk
  have HB := Lib.hid (And.intro (And.intro la ha) (And.intro (And.intro lb hb) hb1))
  clear h1 h2 h3 la ha lb hb hb1
  go_enter Tryd.func9, Tryd.ntmps9
  go_upto_region 3 with (first | (go_at_call 11; (with_reducible refine (HA.out _ (by repeat' (first | (with_reducible assumption) | (with_reducible refine Tab.alloc ?_ _) | (with_reducible refine Tab.drew ?_) | (with_reducible refine Tab.drewN ?_ _) | (with_reducible refine Tab.setCell ?_ ?_ ?_ _) | omega | (simp; done) | (simp; omega)))).mono ?_); rintro e w1 ⟨rfl, hk1⟩; obtain ⟨hc1, hf1⟩ := bcell hk1.2; have ht1 := hk1.1; have hz1 := hk1.2.size; (try simp only [World.size_alloc] at hz1); (try simp only [sz_drew] at hz1); (try simp only [sz_drewN] at hz1); (try simp only [World.size_alloc] at hz1); (try simp only [sz_drew] at hc1 hf1); (try simp only [sz_drewN] at hc1 hf1); (try have hw1 : w.heap.size < w1.heap.size := by omega); (try have hv1 : w.heap.size + 1 < w1.heap.size := by omega); (try have hu1 : w.heap.size + 2 < w1.heap.size := by omega)))
  have hI := (Inv.three ht 23 [.int .i64 s, .int .i64 how] 29 [.int .i64 a, .int .i64 e] 29 [.int .i64 b, .int .i64 f]).call hk1
  clear hc1 hf1 hk1 ht1 hz1
  generalize w1 = W at hI ⊢
  have q00 : W.cell? ⟨w.heap.size, 0, none⟩ = some (.int .i64 s) := (hI.own 0 _ rfl).cell 0
  have q01 : W.cell? ⟨w.heap.size, 1, none⟩ = some (.int .i64 how) := (hI.own 0 _ rfl).cell 1
  have hJ : Inv w [(w.heap.size + 1, 29, [.int .i64 a, .int .i64 e]), (w.heap.size + 2, 29, [.int .i64 b, .int .i64 f])] W := ⟨hI.kept, fun i x hx => hI.own (i + 1) x hx⟩
  have HI := Lib.hid hJ
  clear hI hJ
  go_cut [7, 8] (fun s7 s8 wx => s7 = .int .i64 s ∧ s8 = .int .i64 how ∧ Inv w [(w.heap.size + 1, 29, [.int .i64 a, .int .i64 e]), (w.heap.size + 2, 29, [.int .i64 b, .int .i64 f])] wx)
  case first => as_aux_lemma =>
    go_quiet (fail)
    all_goals
      go_wp2_with fail
      go_meet
      exact ⟨rfl, rfl, HI.out.drewN _⟩
  case rest =>
    obtain ⟨rfl, rfl, hI⟩ := hcut
    clear HI q00 q01
    have q00 : wc.cell? ⟨w.heap.size + 1, 0, none⟩ = some (.int .i64 a) := (hI.own 0 _ rfl).cell 0
    have q01 : wc.cell? ⟨w.heap.size + 1, 1, none⟩ = some (.int .i64 e) := (hI.own 0 _ rfl).cell 1
    have q0l : w.heap.size + 1 < wc.heap.size := (hI.own 0 _ rfl).lt
    have q10 : wc.cell? ⟨w.heap.size + 2, 0, none⟩ = some (.int .i64 b) := (hI.own 1 _ rfl).cell 0
    have q11 : wc.cell? ⟨w.heap.size + 2, 1, none⟩ = some (.int .i64 f) := (hI.own 1 _ rfl).cell 1
    have q1l : w.heap.size + 2 < wc.heap.size := (hI.own 1 _ rfl).lt
    (have wct := hI.kept.1; have wck := hI.kept; have wcg := hI.kept.1.lt; have wcg0 := hI.kept.1.lt0; have wcz := hI.kept.2.size)
    have HI := Lib.hid hI
    have hK := hI.kept
    clear hI
    go_upto_region 4 with fail
    go_cut [63] (fun c63 wx => c63 = .bool false ∧ Inv w [(w.heap.size + 1, 29, [.int .i64 a, .int .i64 e]), (w.heap.size + 2, 29, [.int .i64 b, .int .i64 f])] wx)
    case first => as_aux_lemma =>
      have hI := HI.out
      have HP : Hid (∀ w', Inv w [(w.heap.size + 1, 29, [.int .i64 a, .int .i64 e]), (w.heap.size + 2, 29, [.int .i64 b, .int .i64 f])] w' → Inv w [(w.heap.size + 1, 29, [.int .i64 a, .int .i64 e]), (w.heap.size + 2, 29, [.int .i64 b, .int .i64 f])] w' ∧ Tab w' ∧ w'.cell? ⟨w.heap.size + 1, 0, none⟩ = some (.int .i64 a) ∧ w'.cell? ⟨w.heap.size + 1, 1, none⟩ = some (.int .i64 e) ∧ w'.cell? ⟨w.heap.size + 2, 0, none⟩ = some (.int .i64 b) ∧ w'.cell? ⟨w.heap.size + 2, 1, none⟩ = some (.int .i64 f)) := Lib.hid (fun w' h => ⟨h, h.kept.1, (h.own 0 _ rfl).cell 0, (h.own 0 _ rfl).cell 1, (h.own 1 _ rfl).cell 0, (h.own 1 _ rfl).cell 1⟩)
      go_region_held3 (fun w' => Inv w [(w.heap.size + 1, 29, [.int .i64 a, .int .i64 e]), (w.heap.size + 2, 29, [.int .i64 b, .int .i64 f])] w' ∧ Tab w' ∧ w'.cell? ⟨w.heap.size + 1, 0, none⟩ = some (.int .i64 a) ∧ w'.cell? ⟨w.heap.size + 1, 1, none⟩ = some (.int .i64 e) ∧ w'.cell? ⟨w.heap.size + 2, 0, none⟩ = some (.int .i64 b) ∧ w'.cell? ⟨w.heap.size + 2, 1, none⟩ = some (.int .i64 f)) ((refine HP.out _ ?_; repeat' (first | (with_reducible assumption) | (with_reducible refine Inv.drew ?_) | (with_reducible refine Inv.alloc ?_ _) | (with_reducible refine Inv.call ?_ (by assumption)) | (with_reducible refine Inv.far ?_ ?_ ?_ ?_ ?_ _) | omega | (simp; done) | (simp; omega)))) (first | (go_at_call 19; (with_reducible refine (H1.out _ (by repeat' (first | (with_reducible assumption) | (with_reducible refine Tab.alloc ?_ _) | (with_reducible refine Tab.drew ?_) | (with_reducible refine Tab.drewN ?_ _) | (with_reducible refine Tab.setCell ?_ ?_ ?_ _) | omega | (simp; done) | (simp; omega)))).mono ?_); rintro e w2 ⟨rfl, hk2⟩; obtain ⟨hc2, hf2⟩ := bcell hk2.2; have ht2 := hk2.1; have hz2 := hk2.2.size; (try simp only [World.size_alloc] at hz2); (try simp only [sz_drew] at hz2); (try simp only [sz_drewN] at hz2); (try simp only [World.size_alloc] at hz2); (try simp only [sz_drew] at hc2 hf2); (try simp only [sz_drewN] at hc2 hf2); (try have hw2 : w.heap.size < w2.heap.size := by omega); (try have hv2 : w.heap.size + 1 < w2.heap.size := by omega); (try have hu2 : w.heap.size + 2 < w2.heap.size := by omega)) | (go_at_call 19; (with_reducible refine (H1'.out _ (by repeat' (first | (with_reducible assumption) | (with_reducible refine Tab.alloc ?_ _) | (with_reducible refine Tab.drew ?_) | (with_reducible refine Tab.drewN ?_ _) | (with_reducible refine Tab.setCell ?_ ?_ ?_ _) | omega | (simp; done) | (simp; omega)))).mono ?_); rintro e w3 ⟨rfl, hk3⟩; obtain ⟨hc3, hf3⟩ := bcell hk3.2; have ht3 := hk3.1; have hz3 := hk3.2.size; (try simp only [World.size_alloc] at hz3); (try simp only [sz_drew] at hz3); (try simp only [sz_drewN] at hz3); (try simp only [World.size_alloc] at hz3); (try simp only [sz_drew] at hc3 hf3); (try simp only [sz_drewN] at hc3 hf3); (try have hw3 : w.heap.size < w3.heap.size := by omega); (try have hv3 : w.heap.size + 1 < w3.heap.size := by omega); (try have hu3 : w.heap.size + 2 < w3.heap.size := by omega)) | (go_at_call 16; (with_reducible refine (one_any _ _ _ _ (by repeat' (first | (with_reducible assumption) | (with_reducible refine Tab.alloc ?_ _) | (with_reducible refine Tab.drew ?_) | (with_reducible refine Tab.drewN ?_ _) | (with_reducible refine Tab.setCell ?_ ?_ ?_ _) | omega | (simp; done) | (simp; omega)))).mono ?_); rintro e w4 ⟨B4, C4, rfl, hB4, hC4, hk4⟩; obtain ⟨hc4, hf4⟩ := bcell hk4.2; have ht4 := hk4.1; have hz4 := hk4.2.size; (try simp only [World.size_alloc] at hz4); (try simp only [sz_drew] at hz4); (try simp only [sz_drewN] at hz4); (try simp only [World.size_alloc] at hz4); (try simp only [sz_drew] at hc4 hf4); (try simp only [sz_drewN] at hc4 hf4)) | (go_at_call 49; (with_reducible refine (same_any _ _ _ _ _ _ (by repeat' (first | (with_reducible assumption) | (with_reducible refine Tab.alloc ?_ _) | (with_reducible refine Tab.drew ?_) | (with_reducible refine Tab.drewN ?_ _) | (with_reducible refine Tab.setCell ?_ ?_ ?_ _) | omega | (simp; done) | (simp; omega))) (by repeat' (first | (with_reducible assumption) | (with_reducible refine Own.drew ?_) | (with_reducible refine Own.drewN ?_ _) | (with_reducible refine Own.call ?_ (by assumption)))) (by repeat' (first | (with_reducible assumption) | (with_reducible refine Own.drew ?_) | (with_reducible refine Own.drewN ?_ _) | (with_reducible refine Own.call ?_ (by assumption))))).mono ?_); rintro e w5 ⟨rfl, hk5⟩; obtain ⟨hc5, hf5⟩ := bcell hk5.2; have ht5 := hk5.1; have hz5 := hk5.2.size; (try simp only [World.size_alloc] at hz5); (try simp only [sz_drew] at hz5); (try simp only [sz_drewN] at hz5); (try simp only [World.size_alloc] at hz5); (try simp only [sz_drew] at hc5 hf5); (try simp only [sz_drewN] at hc5 hf5)) | (go_at_call 23; (with_reducible refine (H2.out _ (by repeat' (first | (with_reducible assumption) | (with_reducible refine Tab.alloc ?_ _) | (with_reducible refine Tab.drew ?_) | (with_reducible refine Tab.drewN ?_ _) | (with_reducible refine Tab.setCell ?_ ?_ ?_ _) | omega | (simp; done) | (simp; omega)))).mono ?_); rintro e w6 ⟨rfl, hk6⟩; obtain ⟨hc6, hf6⟩ := bcell hk6.2; have ht6 := hk6.1; have hz6 := hk6.2.size; (try simp only [World.size_alloc] at hz6); (try simp only [sz_drew] at hz6); (try simp only [sz_drewN] at hz6); (try simp only [World.size_alloc] at hz6); (try simp only [sz_drew] at hc6 hf6); (try simp only [sz_drewN] at hc6 hf6); (try have hw6 : w.heap.size < w6.heap.size := by omega); (try have hv6 : w.heap.size + 1 < w6.heap.size := by omega); (try have hu6 : w.heap.size + 2 < w6.heap.size := by omega)) | (go_at_call 23; (with_reducible refine (H2'.out _ (by repeat' (first | (with_reducible assumption) | (with_reducible refine Tab.alloc ?_ _) | (with_reducible refine Tab.drew ?_) | (with_reducible refine Tab.drewN ?_ _) | (with_reducible refine Tab.setCell ?_ ?_ ?_ _) | omega | (simp; done) | (simp; omega)))).mono ?_); rintro e w7 ⟨rfl, hk7⟩; obtain ⟨hc7, hf7⟩ := bcell hk7.2; have ht7 := hk7.1; have hz7 := hk7.2.size; (try simp only [World.size_alloc] at hz7); (try simp only [sz_drew] at hz7); (try simp only [sz_drewN] at hz7); (try simp only [World.size_alloc] at hz7); (try simp only [sz_drew] at hc7 hf7); (try simp only [sz_drewN] at hc7 hf7); (try have hw7 : w.heap.size < w7.heap.size := by omega); (try have hv7 : w.heap.size + 1 < w7.heap.size := by omega); (try have hu7 : w.heap.size + 2 < w7.heap.size := by omega)))
      all_goals
        go_wp2_with fail
        go_meet
        exact ⟨rfl, And.left (by assumption)⟩
    case rest =>
      obtain ⟨rfl, hI⟩ := hcut
      clear HI hK q00 q01 q0l q10 q11 q1l wct wck wcg wcg0 wcz
      have q00 : wc.cell? ⟨w.heap.size + 1, 0, none⟩ = some (.int .i64 a) := (hI.own 0 _ rfl).cell 0
      have q01 : wc.cell? ⟨w.heap.size + 1, 1, none⟩ = some (.int .i64 e) := (hI.own 0 _ rfl).cell 1
      have q0l : w.heap.size + 1 < wc.heap.size := (hI.own 0 _ rfl).lt
      have q10 : wc.cell? ⟨w.heap.size + 2, 0, none⟩ = some (.int .i64 b) := (hI.own 1 _ rfl).cell 0
      have q11 : wc.cell? ⟨w.heap.size + 2, 1, none⟩ = some (.int .i64 f) := (hI.own 1 _ rfl).cell 1
      have q1l : w.heap.size + 2 < wc.heap.size := (hI.own 1 _ rfl).lt
      (have wct := hI.kept.1; have wck := hI.kept; have wcg := hI.kept.1.lt; have wcg0 := hI.kept.1.lt0; have wcz := hI.kept.2.size)
      go_upto_region 7 with (first | (go_at_call 41; (with_reducible refine (H3.out _ (by repeat' (first | (with_reducible assumption) | (with_reducible refine Tab.alloc ?_ _) | (with_reducible refine Tab.drew ?_) | (with_reducible refine Tab.drewN ?_ _) | (with_reducible refine Tab.setCell ?_ ?_ ?_ _) | omega | (simp; done) | (simp; omega)))).mono ?_); rintro e w8 ⟨rfl, hk8⟩; obtain ⟨hc8, hf8⟩ := bcell hk8.2; have ht8 := hk8.1; have hz8 := hk8.2.size; (try simp only [World.size_alloc] at hz8); (try simp only [sz_drew] at hz8); (try simp only [sz_drewN] at hz8); (try simp only [World.size_alloc] at hz8); (try simp only [sz_drew] at hc8 hf8); (try simp only [sz_drewN] at hc8 hf8); (try have hw8 : w.heap.size < w8.heap.size := by omega); (try have hv8 : w.heap.size + 1 < w8.heap.size := by omega); (try have hu8 : w.heap.size + 2 < w8.heap.size := by omega)))
      have hW3 := (hI.call hk8).grow 29 [.int .i64 M3, .int .i64 E3]
      clear hc8 hf8 ht8 hz8 hk8 q00 q01 q0l q10 q11 q1l wct wck wcg wcg0 wcz hI
      change Inv w [(w.heap.size + 1, 29, [.int .i64 a, .int .i64 e]), (w.heap.size + 2, 29, [.int .i64 b, .int .i64 f]), (w8.heap.size, 29, [.int .i64 M3, .int .i64 E3])] _ at hW3
      generalize w8.alloc (.cells #[.int .i64 M3, .int .i64 E3] 29) = W3 at hW3 ⊢
      generalize w8.heap.size = A3 at hW3 ⊢
      have q00 : W3.cell? ⟨w.heap.size + 1, 0, none⟩ = some (.int .i64 a) := (hW3.own 0 _ rfl).cell 0
      have q01 : W3.cell? ⟨w.heap.size + 1, 1, none⟩ = some (.int .i64 e) := (hW3.own 0 _ rfl).cell 1
      have q0l : w.heap.size + 1 < W3.heap.size := (hW3.own 0 _ rfl).lt
      have q10 : W3.cell? ⟨w.heap.size + 2, 0, none⟩ = some (.int .i64 b) := (hW3.own 1 _ rfl).cell 0
      have q11 : W3.cell? ⟨w.heap.size + 2, 1, none⟩ = some (.int .i64 f) := (hW3.own 1 _ rfl).cell 1
      have q1l : w.heap.size + 2 < W3.heap.size := (hW3.own 1 _ rfl).lt
      have q20 : W3.cell? ⟨A3, 0, none⟩ = some (.int .i64 M3) := (hW3.own 2 _ rfl).cell 0
      have q21 : W3.cell? ⟨A3, 1, none⟩ = some (.int .i64 E3) := (hW3.own 2 _ rfl).cell 1
      have q2l : A3 < W3.heap.size := (hW3.own 2 _ rfl).lt
      (have W3t := hW3.kept.1; have W3k := hW3.kept; have W3g := hW3.kept.1.lt; have W3g0 := hW3.kept.1.lt0; have W3z := hW3.kept.2.size)
      have HI := Lib.hid hW3
      clear hW3
      go_cut [92] (fun c92 wx => c92 = .bool false ∧ Inv w [(w.heap.size + 1, 29, [.int .i64 a, .int .i64 e]), (w.heap.size + 2, 29, [.int .i64 b, .int .i64 f])] wx)
      case first => as_aux_lemma =>
        by_cases hX : X3 = 0
        · subst hX
          by_cases hd : isDir how = true
          · obtain ⟨rfl, rfl, s1, s2, ht5⟩ := hS.out rfl hd
            have H5 := Lib.hid (fun w ht => gives_out ht5 (shorten_any (s + 1) how M3 E3 w ht HB.out.1.1 HB.out.1.2))
            clear ht5
            have hd' := of_decide_eq_true hd
            have d1 : decide (0 ≤ how) = true := decide_eq_true hd'.1
            have d2 : decide (how ≤ 3) = true := decide_eq_true hd'.2
            have hs1 : IntKind.i64.wrap (s + 1) = s + 1 := IntWalk.i64_in _ (by omega)
            clear hd hd'
            have hI := HI.out
            have HP : Hid (∀ w', Inv w [(w.heap.size + 1, 29, [.int .i64 M3, .int .i64 E3]), (w.heap.size + 2, 29, [.int .i64 b, .int .i64 f]), (A3, 29, [.int .i64 M3, .int .i64 E3])] w' → Inv w [(w.heap.size + 1, 29, [.int .i64 M3, .int .i64 E3]), (w.heap.size + 2, 29, [.int .i64 b, .int .i64 f]), (A3, 29, [.int .i64 M3, .int .i64 E3])] w' ∧ Tab w' ∧ w'.cell? ⟨w.heap.size + 1, 0, none⟩ = some (.int .i64 M3) ∧ w'.cell? ⟨w.heap.size + 1, 1, none⟩ = some (.int .i64 E3) ∧ w'.cell? ⟨A3, 0, none⟩ = some (.int .i64 M3) ∧ w'.cell? ⟨A3, 1, none⟩ = some (.int .i64 E3)) := Lib.hid (fun w' h => ⟨h, h.kept.1, (h.own 0 _ rfl).cell 0, (h.own 0 _ rfl).cell 1, (h.own 2 _ rfl).cell 0, (h.own 2 _ rfl).cell 1⟩)
            go_region_held3 (fun w' => Inv w [(w.heap.size + 1, 29, [.int .i64 M3, .int .i64 E3]), (w.heap.size + 2, 29, [.int .i64 b, .int .i64 f]), (A3, 29, [.int .i64 M3, .int .i64 E3])] w' ∧ Tab w' ∧ w'.cell? ⟨w.heap.size + 1, 0, none⟩ = some (.int .i64 M3) ∧ w'.cell? ⟨w.heap.size + 1, 1, none⟩ = some (.int .i64 E3) ∧ w'.cell? ⟨A3, 0, none⟩ = some (.int .i64 M3) ∧ w'.cell? ⟨A3, 1, none⟩ = some (.int .i64 E3)) ((refine HP.out _ ?_; repeat' (first | (with_reducible assumption) | (with_reducible refine Inv.drew ?_) | (with_reducible refine Inv.alloc ?_ _) | (with_reducible refine Inv.call ?_ (by assumption)) | (with_reducible refine Inv.far ?_ ?_ ?_ ?_ ?_ _) | omega | (simp; done) | (simp; omega)))) (first | (go_at_call 43; (with_reducible refine (H5.out _ (by repeat' (first | (with_reducible assumption) | (with_reducible refine Tab.alloc ?_ _) | (with_reducible refine Tab.drew ?_) | (with_reducible refine Tab.drewN ?_ _) | (with_reducible refine Tab.setCell ?_ ?_ ?_ _) | omega | (simp; done) | (simp; omega)))).mono ?_); rintro e w9 ⟨rfl, hk9⟩; obtain ⟨hc9, hf9⟩ := bcell hk9.2; have ht9 := hk9.1; have hz9 := hk9.2.size; (try simp only [World.size_alloc] at hz9); (try simp only [sz_drew] at hz9); (try simp only [sz_drewN] at hz9); (try simp only [World.size_alloc] at hz9); (try simp only [sz_drew] at hc9 hf9); (try simp only [sz_drewN] at hc9 hf9); (try have hw9 : w.heap.size < w9.heap.size := by omega); (try have hv9 : w.heap.size + 1 < w9.heap.size := by omega); (try have hu9 : w.heap.size + 2 < w9.heap.size := by omega)) | (go_at_call 16; (with_reducible refine (one_any _ _ _ _ (by repeat' (first | (with_reducible assumption) | (with_reducible refine Tab.alloc ?_ _) | (with_reducible refine Tab.drew ?_) | (with_reducible refine Tab.drewN ?_ _) | (with_reducible refine Tab.setCell ?_ ?_ ?_ _) | omega | (simp; done) | (simp; omega)))).mono ?_); rintro e w10 ⟨B10, C10, rfl, hB10, hC10, hk10⟩; obtain ⟨hc10, hf10⟩ := bcell hk10.2; have ht10 := hk10.1; have hz10 := hk10.2.size; (try simp only [World.size_alloc] at hz10); (try simp only [sz_drew] at hz10); (try simp only [sz_drewN] at hz10); (try simp only [World.size_alloc] at hz10); (try simp only [sz_drew] at hc10 hf10); (try simp only [sz_drewN] at hc10 hf10)) | (go_at_call 49; (with_reducible refine (same_any _ _ _ _ _ _ (by repeat' (first | (with_reducible assumption) | (with_reducible refine Tab.alloc ?_ _) | (with_reducible refine Tab.drew ?_) | (with_reducible refine Tab.drewN ?_ _) | (with_reducible refine Tab.setCell ?_ ?_ ?_ _) | omega | (simp; done) | (simp; omega))) (by repeat' (first | (with_reducible assumption) | (with_reducible refine Own.drew ?_) | (with_reducible refine Own.drewN ?_ _) | (with_reducible refine Own.call ?_ (by assumption)))) (by repeat' (first | (with_reducible assumption) | (with_reducible refine Own.drew ?_) | (with_reducible refine Own.drewN ?_ _) | (with_reducible refine Own.call ?_ (by assumption))))).mono ?_); rintro e w11 ⟨rfl, hk11⟩; obtain ⟨hc11, hf11⟩ := bcell hk11.2; have ht11 := hk11.1; have hz11 := hk11.2.size; (try simp only [World.size_alloc] at hz11); (try simp only [sz_drew] at hz11); (try simp only [sz_drewN] at hz11); (try simp only [World.size_alloc] at hz11); (try simp only [sz_drew] at hc11 hf11); (try simp only [sz_drewN] at hc11 hf11)))
            all_goals
              go_wp2_with fail
              go_meet
              exact ⟨rfl, Inv.init (bs := [_, _]) (And.left (by assumption))⟩
          · have hd' : ¬ (0 ≤ how ∧ how ≤ 3) := fun h => hd (decide_eq_true h)
            by_cases hl : 0 ≤ how
            · have d1 : decide (0 ≤ how) = true := decide_eq_true hl
              have d2 : decide (how ≤ 3) = false := decide_eq_false (by omega)
              clear hd hd'
              go_quiet (fail)
              all_goals
                go_wp2_with fail
                go_meet
                exact ⟨rfl, (Inv.init (bs := [_, _]) HI.out).drewN _⟩
            · have d1 : decide (0 ≤ how) = false := decide_eq_false hl
              clear hd hd'
              go_quiet (fail)
              all_goals
                go_wp2_with fail
                go_meet
                exact ⟨rfl, (Inv.init (bs := [_, _]) HI.out).drewN _⟩
        · have hXb : (X3 == 0) = false := by simpa using hX
          go_quiet (fail)
          all_goals
            go_wp2_with fail
            go_meet
            exact ⟨rfl, (Inv.init (bs := [_, _]) HI.out).drewN _⟩
      case rest =>
        obtain ⟨rfl, hI⟩ := hcut
        clear HI q00 q01 q0l q10 q11 q1l q20 q21 q2l W3t W3k W3g W3g0 W3z
        have q00 : wc.cell? ⟨w.heap.size + 1, 0, none⟩ = some (.int .i64 a) := (hI.own 0 _ rfl).cell 0
        have q01 : wc.cell? ⟨w.heap.size + 1, 1, none⟩ = some (.int .i64 e) := (hI.own 0 _ rfl).cell 1
        have q0l : w.heap.size + 1 < wc.heap.size := (hI.own 0 _ rfl).lt
        have q10 : wc.cell? ⟨w.heap.size + 2, 0, none⟩ = some (.int .i64 b) := (hI.own 1 _ rfl).cell 0
        have q11 : wc.cell? ⟨w.heap.size + 2, 1, none⟩ = some (.int .i64 f) := (hI.own 1 _ rfl).cell 1
        have q1l : w.heap.size + 2 < wc.heap.size := (hI.own 1 _ rfl).lt
        (have wct := hI.kept.1; have wck := hI.kept; have wcg := hI.kept.1.lt; have wcg0 := hI.kept.1.lt0; have wcz := hI.kept.2.size)
        have HI := Lib.hid hI
        clear hI
        go_upto_region 9 with fail
        go_cut [110] (fun c110 wx => c110 = .bool (!k) ∧ Inv w [(w.heap.size + 1, 29, [.int .i64 a, .int .i64 e]), (w.heap.size + 2, 29, [.int .i64 b, .int .i64 f])] wx)
        case first => as_aux_lemma =>
          have V1 := HV1.out
          have V2 := HV2.out
          cases hv1 : vld s a e
          · rw [hv1] at V1
            have HW1 := Lib.hid V1
            have HX1 := Lib.hid hv1
            clear V1 V2 hv1
            go_wp2_with (first | (go_at_call 14; (with_reducible refine (HW1.out _ (by repeat' (first | (with_reducible assumption) | (with_reducible refine Tab.alloc ?_ _) | (with_reducible refine Tab.drew ?_) | (with_reducible refine Tab.drewN ?_ _) | (with_reducible refine Tab.setCell ?_ ?_ ?_ _) | omega | (simp; done) | (simp; omega)))).mono ?_); rintro e w12 ⟨rfl, hk12⟩; obtain ⟨hc12, hf12⟩ := bcell hk12.2; have ht12 := hk12.1; have hz12 := hk12.2.size; (try simp only [World.size_alloc] at hz12); (try simp only [sz_drew] at hz12); (try simp only [sz_drewN] at hz12); (try simp only [World.size_alloc] at hz12); (try simp only [sz_drew] at hc12 hf12); (try simp only [sz_drewN] at hc12 hf12); (try have hw12 : w.heap.size < w12.heap.size := by omega); (try have hv12 : w.heap.size + 1 < w12.heap.size := by omega); (try have hu12 : w.heap.size + 2 < w12.heap.size := by omega)))
            go_meet
            have hI := HI.out
            exact ⟨by rw [hO.out, HX1.out]; rfl, by repeat' (first | (with_reducible assumption) | (with_reducible refine Inv.drew ?_) | (with_reducible refine Inv.alloc ?_ _) | (with_reducible refine Inv.call ?_ (by assumption)) | (with_reducible refine Inv.far ?_ ?_ ?_ ?_ ?_ _) | omega | (simp; done) | (simp; omega))⟩
          · rw [hv1] at V1
            have HW1 := Lib.hid V1
            have HX1 := Lib.hid hv1
            clear V1 hv1
            cases hv2 : vld s b f
            · rw [hv2] at V2
              have HW2 := Lib.hid V2
              have HX2 := Lib.hid hv2
              clear V2 hv2
              go_wp2_with (first | (go_at_call 14; (with_reducible refine (HW1.out _ (by repeat' (first | (with_reducible assumption) | (with_reducible refine Tab.alloc ?_ _) | (with_reducible refine Tab.drew ?_) | (with_reducible refine Tab.drewN ?_ _) | (with_reducible refine Tab.setCell ?_ ?_ ?_ _) | omega | (simp; done) | (simp; omega)))).mono ?_); rintro e w12 ⟨rfl, hk12⟩; obtain ⟨hc12, hf12⟩ := bcell hk12.2; have ht12 := hk12.1; have hz12 := hk12.2.size; (try simp only [World.size_alloc] at hz12); (try simp only [sz_drew] at hz12); (try simp only [sz_drewN] at hz12); (try simp only [World.size_alloc] at hz12); (try simp only [sz_drew] at hc12 hf12); (try simp only [sz_drewN] at hc12 hf12); (try have hw12 : w.heap.size < w12.heap.size := by omega); (try have hv12 : w.heap.size + 1 < w12.heap.size := by omega); (try have hu12 : w.heap.size + 2 < w12.heap.size := by omega)) | (go_at_call 14; (with_reducible refine (HW2.out _ (by repeat' (first | (with_reducible assumption) | (with_reducible refine Tab.alloc ?_ _) | (with_reducible refine Tab.drew ?_) | (with_reducible refine Tab.drewN ?_ _) | (with_reducible refine Tab.setCell ?_ ?_ ?_ _) | omega | (simp; done) | (simp; omega)))).mono ?_); rintro e w13 ⟨rfl, hk13⟩; obtain ⟨hc13, hf13⟩ := bcell hk13.2; have ht13 := hk13.1; have hz13 := hk13.2.size; (try simp only [World.size_alloc] at hz13); (try simp only [sz_drew] at hz13); (try simp only [sz_drewN] at hz13); (try simp only [World.size_alloc] at hz13); (try simp only [sz_drew] at hc13 hf13); (try simp only [sz_drewN] at hc13 hf13); (try have hw13 : w.heap.size < w13.heap.size := by omega); (try have hv13 : w.heap.size + 1 < w13.heap.size := by omega); (try have hu13 : w.heap.size + 2 < w13.heap.size := by omega)))
              go_meet
              have hI := HI.out
              exact ⟨by rw [hO.out, HX1.out, HX2.out]; rfl, by repeat' (first | (with_reducible assumption) | (with_reducible refine Inv.drew ?_) | (with_reducible refine Inv.alloc ?_ _) | (with_reducible refine Inv.call ?_ (by assumption)) | (with_reducible refine Inv.far ?_ ?_ ?_ ?_ ?_ _) | omega | (simp; done) | (simp; omega))⟩
            · rw [hv2] at V2
              have HW2 := Lib.hid V2
              have HX2 := Lib.hid hv2
              clear V2 hv2
              by_cases hl : how < 0
              · have HX3 : Hid (isDir how = false) := Lib.hid (decide_eq_false (by omega))
                have d1 : decide (how < 0) = true := decide_eq_true hl
                go_wp2_with (first | (go_at_call 14; (with_reducible refine (HW1.out _ (by repeat' (first | (with_reducible assumption) | (with_reducible refine Tab.alloc ?_ _) | (with_reducible refine Tab.drew ?_) | (with_reducible refine Tab.drewN ?_ _) | (with_reducible refine Tab.setCell ?_ ?_ ?_ _) | omega | (simp; done) | (simp; omega)))).mono ?_); rintro e w12 ⟨rfl, hk12⟩; obtain ⟨hc12, hf12⟩ := bcell hk12.2; have ht12 := hk12.1; have hz12 := hk12.2.size; (try simp only [World.size_alloc] at hz12); (try simp only [sz_drew] at hz12); (try simp only [sz_drewN] at hz12); (try simp only [World.size_alloc] at hz12); (try simp only [sz_drew] at hc12 hf12); (try simp only [sz_drewN] at hc12 hf12); (try have hw12 : w.heap.size < w12.heap.size := by omega); (try have hv12 : w.heap.size + 1 < w12.heap.size := by omega); (try have hu12 : w.heap.size + 2 < w12.heap.size := by omega)) | (go_at_call 14; (with_reducible refine (HW2.out _ (by repeat' (first | (with_reducible assumption) | (with_reducible refine Tab.alloc ?_ _) | (with_reducible refine Tab.drew ?_) | (with_reducible refine Tab.drewN ?_ _) | (with_reducible refine Tab.setCell ?_ ?_ ?_ _) | omega | (simp; done) | (simp; omega)))).mono ?_); rintro e w13 ⟨rfl, hk13⟩; obtain ⟨hc13, hf13⟩ := bcell hk13.2; have ht13 := hk13.1; have hz13 := hk13.2.size; (try simp only [World.size_alloc] at hz13); (try simp only [sz_drew] at hz13); (try simp only [sz_drewN] at hz13); (try simp only [World.size_alloc] at hz13); (try simp only [sz_drew] at hc13 hf13); (try simp only [sz_drewN] at hc13 hf13); (try have hw13 : w.heap.size < w13.heap.size := by omega); (try have hv13 : w.heap.size + 1 < w13.heap.size := by omega); (try have hu13 : w.heap.size + 2 < w13.heap.size := by omega)))
                go_meet
                have hI := HI.out
                exact ⟨by rw [hO.out, HX1.out, HX2.out, HX3.out]; rfl, by repeat' (first | (with_reducible assumption) | (with_reducible refine Inv.drew ?_) | (with_reducible refine Inv.alloc ?_ _) | (with_reducible refine Inv.call ?_ (by assumption)) | (with_reducible refine Inv.far ?_ ?_ ?_ ?_ ?_ _) | omega | (simp; done) | (simp; omega))⟩
              · have d1 : decide (how < 0) = false := decide_eq_false hl
                by_cases hg : 3 < how
                · have HX3 : Hid (isDir how = false) := Lib.hid (decide_eq_false (by omega))
                  have d2 : decide (3 < how) = true := decide_eq_true hg
                  go_wp2_with (first | (go_at_call 14; (with_reducible refine (HW1.out _ (by repeat' (first | (with_reducible assumption) | (with_reducible refine Tab.alloc ?_ _) | (with_reducible refine Tab.drew ?_) | (with_reducible refine Tab.drewN ?_ _) | (with_reducible refine Tab.setCell ?_ ?_ ?_ _) | omega | (simp; done) | (simp; omega)))).mono ?_); rintro e w12 ⟨rfl, hk12⟩; obtain ⟨hc12, hf12⟩ := bcell hk12.2; have ht12 := hk12.1; have hz12 := hk12.2.size; (try simp only [World.size_alloc] at hz12); (try simp only [sz_drew] at hz12); (try simp only [sz_drewN] at hz12); (try simp only [World.size_alloc] at hz12); (try simp only [sz_drew] at hc12 hf12); (try simp only [sz_drewN] at hc12 hf12); (try have hw12 : w.heap.size < w12.heap.size := by omega); (try have hv12 : w.heap.size + 1 < w12.heap.size := by omega); (try have hu12 : w.heap.size + 2 < w12.heap.size := by omega)) | (go_at_call 14; (with_reducible refine (HW2.out _ (by repeat' (first | (with_reducible assumption) | (with_reducible refine Tab.alloc ?_ _) | (with_reducible refine Tab.drew ?_) | (with_reducible refine Tab.drewN ?_ _) | (with_reducible refine Tab.setCell ?_ ?_ ?_ _) | omega | (simp; done) | (simp; omega)))).mono ?_); rintro e w13 ⟨rfl, hk13⟩; obtain ⟨hc13, hf13⟩ := bcell hk13.2; have ht13 := hk13.1; have hz13 := hk13.2.size; (try simp only [World.size_alloc] at hz13); (try simp only [sz_drew] at hz13); (try simp only [sz_drewN] at hz13); (try simp only [World.size_alloc] at hz13); (try simp only [sz_drew] at hc13 hf13); (try simp only [sz_drewN] at hc13 hf13); (try have hw13 : w.heap.size < w13.heap.size := by omega); (try have hv13 : w.heap.size + 1 < w13.heap.size := by omega); (try have hu13 : w.heap.size + 2 < w13.heap.size := by omega)))
                  go_meet
                  have hI := HI.out
                  exact ⟨by rw [hO.out, HX1.out, HX2.out, HX3.out]; rfl, by repeat' (first | (with_reducible assumption) | (with_reducible refine Inv.drew ?_) | (with_reducible refine Inv.alloc ?_ _) | (with_reducible refine Inv.call ?_ (by assumption)) | (with_reducible refine Inv.far ?_ ?_ ?_ ?_ ?_ _) | omega | (simp; done) | (simp; omega))⟩
                · have HX3 : Hid (isDir how = true) := Lib.hid (decide_eq_true (by omega))
                  have d2 : decide (3 < how) = false := decide_eq_false hg
                  go_wp2_with (first | (go_at_call 14; (with_reducible refine (HW1.out _ (by repeat' (first | (with_reducible assumption) | (with_reducible refine Tab.alloc ?_ _) | (with_reducible refine Tab.drew ?_) | (with_reducible refine Tab.drewN ?_ _) | (with_reducible refine Tab.setCell ?_ ?_ ?_ _) | omega | (simp; done) | (simp; omega)))).mono ?_); rintro e w12 ⟨rfl, hk12⟩; obtain ⟨hc12, hf12⟩ := bcell hk12.2; have ht12 := hk12.1; have hz12 := hk12.2.size; (try simp only [World.size_alloc] at hz12); (try simp only [sz_drew] at hz12); (try simp only [sz_drewN] at hz12); (try simp only [World.size_alloc] at hz12); (try simp only [sz_drew] at hc12 hf12); (try simp only [sz_drewN] at hc12 hf12); (try have hw12 : w.heap.size < w12.heap.size := by omega); (try have hv12 : w.heap.size + 1 < w12.heap.size := by omega); (try have hu12 : w.heap.size + 2 < w12.heap.size := by omega)) | (go_at_call 14; (with_reducible refine (HW2.out _ (by repeat' (first | (with_reducible assumption) | (with_reducible refine Tab.alloc ?_ _) | (with_reducible refine Tab.drew ?_) | (with_reducible refine Tab.drewN ?_ _) | (with_reducible refine Tab.setCell ?_ ?_ ?_ _) | omega | (simp; done) | (simp; omega)))).mono ?_); rintro e w13 ⟨rfl, hk13⟩; obtain ⟨hc13, hf13⟩ := bcell hk13.2; have ht13 := hk13.1; have hz13 := hk13.2.size; (try simp only [World.size_alloc] at hz13); (try simp only [sz_drew] at hz13); (try simp only [sz_drewN] at hz13); (try simp only [World.size_alloc] at hz13); (try simp only [sz_drew] at hc13 hf13); (try simp only [sz_drewN] at hc13 hf13); (try have hw13 : w.heap.size < w13.heap.size := by omega); (try have hv13 : w.heap.size + 1 < w13.heap.size := by omega); (try have hu13 : w.heap.size + 2 < w13.heap.size := by omega)))
                  go_meet
                  have hI := HI.out
                  exact ⟨by rw [hO.out, HX1.out, HX2.out, HX3.out]; rfl, by repeat' (first | (with_reducible assumption) | (with_reducible refine Inv.drew ?_) | (with_reducible refine Inv.alloc ?_ _) | (with_reducible refine Inv.call ?_ (by assumption)) | (with_reducible refine Inv.far ?_ ?_ ?_ ?_ ?_ _) | omega | (simp; done) | (simp; omega))⟩
        case rest =>
          obtain ⟨rfl, hI⟩ := hcut
          clear HI q00 q01 q0l q10 q11 q1l wct wck wcg wcg0 wcz
          have q00 : wc.cell? ⟨w.heap.size + 1, 0, none⟩ = some (.int .i64 a) := (hI.own 0 _ rfl).cell 0
          have q01 : wc.cell? ⟨w.heap.size + 1, 1, none⟩ = some (.int .i64 e) := (hI.own 0 _ rfl).cell 1
          have q0l : w.heap.size + 1 < wc.heap.size := (hI.own 0 _ rfl).lt
          have q10 : wc.cell? ⟨w.heap.size + 2, 0, none⟩ = some (.int .i64 b) := (hI.own 1 _ rfl).cell 0
          have q11 : wc.cell? ⟨w.heap.size + 2, 1, none⟩ = some (.int .i64 f) := (hI.own 1 _ rfl).cell 1
          have q1l : w.heap.size + 2 < wc.heap.size := (hI.own 1 _ rfl).lt
          (have wct := hI.kept.1; have wck := hI.kept; have wcg := hI.kept.1.lt; have wcg0 := hI.kept.1.lt0; have wcz := hI.kept.2.size)
          have HI := Lib.hid hI
          have hK := hI.kept
          clear hI
          cases k
          · have hx := hE.out rfl
            clear hE hT hO
            go_wp2_with (first | (go_at_call 19; (with_reducible refine (H1.out _ (by repeat' (first | (with_reducible assumption) | (with_reducible refine Tab.alloc ?_ _) | (with_reducible refine Tab.drew ?_) | (with_reducible refine Tab.drewN ?_ _) | (with_reducible refine Tab.setCell ?_ ?_ ?_ _) | omega | (simp; done) | (simp; omega)))).mono ?_); rintro e w14 ⟨rfl, hk14⟩; obtain ⟨hc14, hf14⟩ := bcell hk14.2; have ht14 := hk14.1; have hz14 := hk14.2.size; (try simp only [World.size_alloc] at hz14); (try simp only [sz_drew] at hz14); (try simp only [sz_drewN] at hz14); (try simp only [World.size_alloc] at hz14); (try simp only [sz_drew] at hc14 hf14); (try simp only [sz_drewN] at hc14 hf14); (try have hw14 : w.heap.size < w14.heap.size := by omega); (try have hv14 : w.heap.size + 1 < w14.heap.size := by omega); (try have hu14 : w.heap.size + 2 < w14.heap.size := by omega)))
            go_returns
            exact ⟨rfl, (by repeat' (first | (with_reducible assumption) | (with_reducible exact Kept.refl ht) | (with_reducible refine Kept.alloc ?_ _) | (with_reducible refine Kept.drew ?_) | (with_reducible refine Kept.drewN ?_ _) | (with_reducible refine Kept.setCell ?_ ?_ _ ?_ ?_) | (with_reducible refine Kept.trans ?_ (by assumption)) | omega | (simp; done) | (simp; omega)))⟩
          · obtain ⟨g1, g2, g3, ⟨d1, d2⟩, ⟨a1, a2⟩, ⟨b1, b2⟩, ⟨m1, m2⟩⟩ := hT.out rfl
            clear hE hT hO
            obtain ⟨th, hth⟩ : ∃ t, turn how = t := ⟨_, rfl⟩
            obtain ⟨na, hna⟩ : ∃ t, -a = t := ⟨_, rfl⟩
            obtain ⟨nb, hnb⟩ : ∃ t, -b = t := ⟨_, rfl⟩
            obtain ⟨nM, hnM⟩ : ∃ t, -M1 = t := ⟨_, rfl⟩
            rw [hth, hna, hnb, hnM] at g3
            rw [hna] at g1
            rw [hnb] at g2
            have hw : IntKind.i64.wrap (-nM) = M1 := by rw [IntWalk.i64_in _ (by omega)]; omega
            have H7 := Lib.hid (fun w ht => gives_out g1 (neg_any s a e w ht HB.out.1.1 HB.out.1.2))
            have H8 := Lib.hid (fun w ht => gives_out g2 (neg_any s b f w ht HB.out.2.1.1 HB.out.2.1.2))
            have H9 := Lib.hid (fun w ht => gives_out g3 (add_any s th na e nb f w ht (by omega) (by omega) (by omega) (by omega)))
            obtain ⟨⟨M4, E4, X4⟩, h4⟩ : ∃ r, bRes s how a e b f = r := ⟨_, rfl⟩
            have H10 := Lib.hid (fun w ht => gives_out h4 (sub_any s how a e b f w ht HB.out.1.1 HB.out.1.2 HB.out.2.1.1 HB.out.2.1.2))
            have h5 := (sub_add s how a e b f).symm.trans h4
            rw [hnb] at h5
            have H11 := Lib.hid (fun w ht => gives_out h5 (add_any s how a e nb f w ht HB.out.1.1 HB.out.1.2 (by omega) (by omega)))
            have HTH := Lib.hid hth
            clear g1 g2 g3 hth hna hnb hnM h4 h5 a1 a2 b1 b2
            go_upto_region 12 with fail
            go_cut [13] (fun c13 wx => c13 = .int .i64 th ∧ Inv w [(w.heap.size + 1, 29, [.int .i64 a, .int .i64 e]), (w.heap.size + 2, 29, [.int .i64 b, .int .i64 f])] wx)
            case first => as_aux_lemma =>
              have i0 : ∀ w, (Instr.index 52 (.agg #[.int .i64 0, .int .i64 2, .int .i64 1, .int .i64 3]) (.int .i64 0)).run Tryd.prog w = .ok (.int .i64 0) w := fun _ => by kernel_rfl
              have i1 : ∀ w, (Instr.index 52 (.agg #[.int .i64 0, .int .i64 2, .int .i64 1, .int .i64 3]) (.int .i64 1)).run Tryd.prog w = .ok (.int .i64 2) w := fun _ => by kernel_rfl
              have i2 : ∀ w, (Instr.index 52 (.agg #[.int .i64 0, .int .i64 2, .int .i64 1, .int .i64 3]) (.int .i64 2)).run Tryd.prog w = .ok (.int .i64 1) w := fun _ => by kernel_rfl
              have i3 : ∀ w, (Instr.index 52 (.agg #[.int .i64 0, .int .i64 2, .int .i64 1, .int .i64 3]) (.int .i64 3)).run Tryd.prog w = .ok (.int .i64 3) w := fun _ => by kernel_rfl
              rcases (by omega : how = 0 ∨ how = 1 ∨ how = 2 ∨ how = 3) with h | h | h | h
              all_goals
                subst h
                clear m1 m2 d1 d2 hw
                go_wp2_with fail
                go_meet
                exact ⟨by rw [← HTH.out]; rfl, HI.out⟩
            case rest =>
              obtain ⟨rfl, hI⟩ := hcut
              clear HI hK q00 q01 q0l q10 q11 q1l wct wck wcg wcg0 wcz
              have q00 : wc.cell? ⟨w.heap.size + 1, 0, none⟩ = some (.int .i64 a) := (hI.own 0 _ rfl).cell 0
              have q01 : wc.cell? ⟨w.heap.size + 1, 1, none⟩ = some (.int .i64 e) := (hI.own 0 _ rfl).cell 1
              have q0l : w.heap.size + 1 < wc.heap.size := (hI.own 0 _ rfl).lt
              have q10 : wc.cell? ⟨w.heap.size + 2, 0, none⟩ = some (.int .i64 b) := (hI.own 1 _ rfl).cell 0
              have q11 : wc.cell? ⟨w.heap.size + 2, 1, none⟩ = some (.int .i64 f) := (hI.own 1 _ rfl).cell 1
              have q1l : w.heap.size + 2 < wc.heap.size := (hI.own 1 _ rfl).lt
              (have wct := hI.kept.1; have wck := hI.kept; have wcg := hI.kept.1.lt; have wcg0 := hI.kept.1.lt0; have wcz := hI.kept.2.size)
              have HI := Lib.hid hI
              clear hI
              go_upto_region 14 with (first | (go_at_call 29; (with_reducible refine (H7.out _ (by repeat' (first | (with_reducible assumption) | (with_reducible refine Tab.alloc ?_ _) | (with_reducible refine Tab.drew ?_) | (with_reducible refine Tab.drewN ?_ _) | (with_reducible refine Tab.setCell ?_ ?_ ?_ _) | omega | (simp; done) | (simp; omega)))).mono ?_); rintro e w15 ⟨rfl, hk15⟩; obtain ⟨hc15, hf15⟩ := bcell hk15.2; have ht15 := hk15.1; have hz15 := hk15.2.size; (try simp only [World.size_alloc] at hz15); (try simp only [sz_drew] at hz15); (try simp only [sz_drewN] at hz15); (try simp only [World.size_alloc] at hz15); (try simp only [sz_drew] at hc15 hf15); (try simp only [sz_drewN] at hc15 hf15); (try have hw15 : w.heap.size < w15.heap.size := by omega); (try have hv15 : w.heap.size + 1 < w15.heap.size := by omega); (try have hu15 : w.heap.size + 2 < w15.heap.size := by omega)))
              have hW4 := (HI.out.call hk15).grow 29 [.int .i64 na, .int .i64 e]
              clear hc15 hf15 ht15 hz15 hk15 q00 q01 q0l q10 q11 q1l wct wck wcg wcg0 wcz HI
              change Inv w [(w.heap.size + 1, 29, [.int .i64 a, .int .i64 e]), (w.heap.size + 2, 29, [.int .i64 b, .int .i64 f]), (w15.heap.size, 29, [.int .i64 na, .int .i64 e])] _ at hW4
              generalize w15.alloc (.cells #[.int .i64 na, .int .i64 e] 29) = W4 at hW4 ⊢
              generalize w15.heap.size = A4 at hW4 ⊢
              have q00 : W4.cell? ⟨w.heap.size + 1, 0, none⟩ = some (.int .i64 a) := (hW4.own 0 _ rfl).cell 0
              have q01 : W4.cell? ⟨w.heap.size + 1, 1, none⟩ = some (.int .i64 e) := (hW4.own 0 _ rfl).cell 1
              have q0l : w.heap.size + 1 < W4.heap.size := (hW4.own 0 _ rfl).lt
              have q10 : W4.cell? ⟨w.heap.size + 2, 0, none⟩ = some (.int .i64 b) := (hW4.own 1 _ rfl).cell 0
              have q11 : W4.cell? ⟨w.heap.size + 2, 1, none⟩ = some (.int .i64 f) := (hW4.own 1 _ rfl).cell 1
              have q1l : w.heap.size + 2 < W4.heap.size := (hW4.own 1 _ rfl).lt
              have q20 : W4.cell? ⟨A4, 0, none⟩ = some (.int .i64 na) := (hW4.own 2 _ rfl).cell 0
              have q21 : W4.cell? ⟨A4, 1, none⟩ = some (.int .i64 e) := (hW4.own 2 _ rfl).cell 1
              have q2l : A4 < W4.heap.size := (hW4.own 2 _ rfl).lt
              (have W4t := hW4.kept.1; have W4k := hW4.kept; have W4g := hW4.kept.1.lt; have W4g0 := hW4.kept.1.lt0; have W4z := hW4.kept.2.size)
              have HI := Lib.hid hW4
              clear hW4
              go_upto_region 15 with (first | (go_at_call 29; (with_reducible refine (H8.out _ (by repeat' (first | (with_reducible assumption) | (with_reducible refine Tab.alloc ?_ _) | (with_reducible refine Tab.drew ?_) | (with_reducible refine Tab.drewN ?_ _) | (with_reducible refine Tab.setCell ?_ ?_ ?_ _) | omega | (simp; done) | (simp; omega)))).mono ?_); rintro e w16 ⟨rfl, hk16⟩; obtain ⟨hc16, hf16⟩ := bcell hk16.2; have ht16 := hk16.1; have hz16 := hk16.2.size; (try simp only [World.size_alloc] at hz16); (try simp only [sz_drew] at hz16); (try simp only [sz_drewN] at hz16); (try simp only [World.size_alloc] at hz16); (try simp only [sz_drew] at hc16 hf16); (try simp only [sz_drewN] at hc16 hf16); (try have hw16 : w.heap.size < w16.heap.size := by omega); (try have hv16 : w.heap.size + 1 < w16.heap.size := by omega); (try have hu16 : w.heap.size + 2 < w16.heap.size := by omega)))
              have hW5 := (HI.out.call hk16).grow 29 [.int .i64 nb, .int .i64 f]
              clear hc16 hf16 ht16 hz16 hk16 q00 q01 q0l q10 q11 q1l q20 q21 q2l W4t W4k W4g W4g0 W4z HI
              change Inv w [(w.heap.size + 1, 29, [.int .i64 a, .int .i64 e]), (w.heap.size + 2, 29, [.int .i64 b, .int .i64 f]), (A4, 29, [.int .i64 na, .int .i64 e]), (w16.heap.size, 29, [.int .i64 nb, .int .i64 f])] _ at hW5
              generalize w16.alloc (.cells #[.int .i64 nb, .int .i64 f] 29) = W5 at hW5 ⊢
              generalize w16.heap.size = A5 at hW5 ⊢
              have q00 : W5.cell? ⟨w.heap.size + 1, 0, none⟩ = some (.int .i64 a) := (hW5.own 0 _ rfl).cell 0
              have q01 : W5.cell? ⟨w.heap.size + 1, 1, none⟩ = some (.int .i64 e) := (hW5.own 0 _ rfl).cell 1
              have q0l : w.heap.size + 1 < W5.heap.size := (hW5.own 0 _ rfl).lt
              have q10 : W5.cell? ⟨w.heap.size + 2, 0, none⟩ = some (.int .i64 b) := (hW5.own 1 _ rfl).cell 0
              have q11 : W5.cell? ⟨w.heap.size + 2, 1, none⟩ = some (.int .i64 f) := (hW5.own 1 _ rfl).cell 1
              have q1l : w.heap.size + 2 < W5.heap.size := (hW5.own 1 _ rfl).lt
              have q20 : W5.cell? ⟨A4, 0, none⟩ = some (.int .i64 na) := (hW5.own 2 _ rfl).cell 0
              have q21 : W5.cell? ⟨A4, 1, none⟩ = some (.int .i64 e) := (hW5.own 2 _ rfl).cell 1
              have q2l : A4 < W5.heap.size := (hW5.own 2 _ rfl).lt
              have q30 : W5.cell? ⟨A5, 0, none⟩ = some (.int .i64 nb) := (hW5.own 3 _ rfl).cell 0
              have q31 : W5.cell? ⟨A5, 1, none⟩ = some (.int .i64 f) := (hW5.own 3 _ rfl).cell 1
              have q3l : A5 < W5.heap.size := (hW5.own 3 _ rfl).lt
              (have W5t := hW5.kept.1; have W5k := hW5.kept; have W5g := hW5.kept.1.lt; have W5g0 := hW5.kept.1.lt0; have W5z := hW5.kept.2.size)
              have HI := Lib.hid hW5
              clear hW5
              go_upto_region 16 with (first | (go_at_call 19; (with_reducible refine (H1.out _ (by repeat' (first | (with_reducible assumption) | (with_reducible refine Tab.alloc ?_ _) | (with_reducible refine Tab.drew ?_) | (with_reducible refine Tab.drewN ?_ _) | (with_reducible refine Tab.setCell ?_ ?_ ?_ _) | omega | (simp; done) | (simp; omega)))).mono ?_); rintro e w17 ⟨rfl, hk17⟩; obtain ⟨hc17, hf17⟩ := bcell hk17.2; have ht17 := hk17.1; have hz17 := hk17.2.size; (try simp only [World.size_alloc] at hz17); (try simp only [sz_drew] at hz17); (try simp only [sz_drewN] at hz17); (try simp only [World.size_alloc] at hz17); (try simp only [sz_drew] at hc17 hf17); (try simp only [sz_drewN] at hc17 hf17); (try have hw17 : w.heap.size < w17.heap.size := by omega); (try have hv17 : w.heap.size + 1 < w17.heap.size := by omega); (try have hu17 : w.heap.size + 2 < w17.heap.size := by omega)))
              have hW6 := (HI.out.call hk17).grow 29 [.int .i64 M1, .int .i64 E1]
              clear hc17 hf17 ht17 hz17 hk17 q00 q01 q0l q10 q11 q1l q20 q21 q2l q30 q31 q3l W5t W5k W5g W5g0 W5z HI
              change Inv w [(w.heap.size + 1, 29, [.int .i64 a, .int .i64 e]), (w.heap.size + 2, 29, [.int .i64 b, .int .i64 f]), (A4, 29, [.int .i64 na, .int .i64 e]), (A5, 29, [.int .i64 nb, .int .i64 f]), (w17.heap.size, 29, [.int .i64 M1, .int .i64 E1])] _ at hW6
              generalize w17.alloc (.cells #[.int .i64 M1, .int .i64 E1] 29) = W6 at hW6 ⊢
              generalize w17.heap.size = A6 at hW6 ⊢
              have q00 : W6.cell? ⟨w.heap.size + 1, 0, none⟩ = some (.int .i64 a) := (hW6.own 0 _ rfl).cell 0
              have q01 : W6.cell? ⟨w.heap.size + 1, 1, none⟩ = some (.int .i64 e) := (hW6.own 0 _ rfl).cell 1
              have q0l : w.heap.size + 1 < W6.heap.size := (hW6.own 0 _ rfl).lt
              have q10 : W6.cell? ⟨w.heap.size + 2, 0, none⟩ = some (.int .i64 b) := (hW6.own 1 _ rfl).cell 0
              have q11 : W6.cell? ⟨w.heap.size + 2, 1, none⟩ = some (.int .i64 f) := (hW6.own 1 _ rfl).cell 1
              have q1l : w.heap.size + 2 < W6.heap.size := (hW6.own 1 _ rfl).lt
              have q20 : W6.cell? ⟨A4, 0, none⟩ = some (.int .i64 na) := (hW6.own 2 _ rfl).cell 0
              have q21 : W6.cell? ⟨A4, 1, none⟩ = some (.int .i64 e) := (hW6.own 2 _ rfl).cell 1
              have q2l : A4 < W6.heap.size := (hW6.own 2 _ rfl).lt
              have q30 : W6.cell? ⟨A5, 0, none⟩ = some (.int .i64 nb) := (hW6.own 3 _ rfl).cell 0
              have q31 : W6.cell? ⟨A5, 1, none⟩ = some (.int .i64 f) := (hW6.own 3 _ rfl).cell 1
              have q3l : A5 < W6.heap.size := (hW6.own 3 _ rfl).lt
              have q40 : W6.cell? ⟨A6, 0, none⟩ = some (.int .i64 M1) := (hW6.own 4 _ rfl).cell 0
              have q41 : W6.cell? ⟨A6, 1, none⟩ = some (.int .i64 E1) := (hW6.own 4 _ rfl).cell 1
              have q4l : A6 < W6.heap.size := (hW6.own 4 _ rfl).lt
              (have W6t := hW6.kept.1; have W6k := hW6.kept; have W6g := hW6.kept.1.lt; have W6g0 := hW6.kept.1.lt0; have W6z := hW6.kept.2.size)
              have HI := Lib.hid hW6
              clear hW6
              go_upto_region 17 with (first | (go_at_call 19; (with_reducible refine (H9.out _ (by repeat' (first | (with_reducible assumption) | (with_reducible refine Tab.alloc ?_ _) | (with_reducible refine Tab.drew ?_) | (with_reducible refine Tab.drewN ?_ _) | (with_reducible refine Tab.setCell ?_ ?_ ?_ _) | omega | (simp; done) | (simp; omega)))).mono ?_); rintro e w18 ⟨rfl, hk18⟩; obtain ⟨hc18, hf18⟩ := bcell hk18.2; have ht18 := hk18.1; have hz18 := hk18.2.size; (try simp only [World.size_alloc] at hz18); (try simp only [sz_drew] at hz18); (try simp only [sz_drewN] at hz18); (try simp only [World.size_alloc] at hz18); (try simp only [sz_drew] at hc18 hf18); (try simp only [sz_drewN] at hc18 hf18); (try have hw18 : w.heap.size < w18.heap.size := by omega); (try have hv18 : w.heap.size + 1 < w18.heap.size := by omega); (try have hu18 : w.heap.size + 2 < w18.heap.size := by omega)))
              have hW7 := (HI.out.call hk18).grow 29 [.int .i64 nM, .int .i64 E1]
              clear hc18 hf18 ht18 hz18 hk18 q00 q01 q0l q10 q11 q1l q20 q21 q2l q30 q31 q3l q40 q41 q4l W6t W6k W6g W6g0 W6z HI
              change Inv w [(w.heap.size + 1, 29, [.int .i64 a, .int .i64 e]), (w.heap.size + 2, 29, [.int .i64 b, .int .i64 f]), (A4, 29, [.int .i64 na, .int .i64 e]), (A5, 29, [.int .i64 nb, .int .i64 f]), (A6, 29, [.int .i64 M1, .int .i64 E1]), (w18.heap.size, 29, [.int .i64 nM, .int .i64 E1])] _ at hW7
              generalize w18.alloc (.cells #[.int .i64 nM, .int .i64 E1] 29) = W7 at hW7 ⊢
              generalize w18.heap.size = A7 at hW7 ⊢
              have q00 : W7.cell? ⟨w.heap.size + 1, 0, none⟩ = some (.int .i64 a) := (hW7.own 0 _ rfl).cell 0
              have q01 : W7.cell? ⟨w.heap.size + 1, 1, none⟩ = some (.int .i64 e) := (hW7.own 0 _ rfl).cell 1
              have q0l : w.heap.size + 1 < W7.heap.size := (hW7.own 0 _ rfl).lt
              have q10 : W7.cell? ⟨w.heap.size + 2, 0, none⟩ = some (.int .i64 b) := (hW7.own 1 _ rfl).cell 0
              have q11 : W7.cell? ⟨w.heap.size + 2, 1, none⟩ = some (.int .i64 f) := (hW7.own 1 _ rfl).cell 1
              have q1l : w.heap.size + 2 < W7.heap.size := (hW7.own 1 _ rfl).lt
              have q20 : W7.cell? ⟨A4, 0, none⟩ = some (.int .i64 na) := (hW7.own 2 _ rfl).cell 0
              have q21 : W7.cell? ⟨A4, 1, none⟩ = some (.int .i64 e) := (hW7.own 2 _ rfl).cell 1
              have q2l : A4 < W7.heap.size := (hW7.own 2 _ rfl).lt
              have q30 : W7.cell? ⟨A5, 0, none⟩ = some (.int .i64 nb) := (hW7.own 3 _ rfl).cell 0
              have q31 : W7.cell? ⟨A5, 1, none⟩ = some (.int .i64 f) := (hW7.own 3 _ rfl).cell 1
              have q3l : A5 < W7.heap.size := (hW7.own 3 _ rfl).lt
              have q40 : W7.cell? ⟨A6, 0, none⟩ = some (.int .i64 M1) := (hW7.own 4 _ rfl).cell 0
              have q41 : W7.cell? ⟨A6, 1, none⟩ = some (.int .i64 E1) := (hW7.own 4 _ rfl).cell 1
              have q4l : A6 < W7.heap.size := (hW7.own 4 _ rfl).lt
              have q50 : W7.cell? ⟨A7, 0, none⟩ = some (.int .i64 nM) := (hW7.own 5 _ rfl).cell 0
              have q51 : W7.cell? ⟨A7, 1, none⟩ = some (.int .i64 E1) := (hW7.own 5 _ rfl).cell 1
              have q5l : A7 < W7.heap.size := (hW7.own 5 _ rfl).lt
              (have W7t := hW7.kept.1; have W7k := hW7.kept; have W7g := hW7.kept.1.lt; have W7g0 := hW7.kept.1.lt0; have W7z := hW7.kept.2.size)
              have HI := Lib.hid hW7
              clear hW7
              have hI := HI.out
              have hK := hI.kept
              have HP : Hid (∀ w', Inv w [(w.heap.size + 1, 29, [.int .i64 a, .int .i64 e]), (w.heap.size + 2, 29, [.int .i64 b, .int .i64 f]), (A4, 29, [.int .i64 na, .int .i64 e]), (A5, 29, [.int .i64 nb, .int .i64 f]), (A6, 29, [.int .i64 M1, .int .i64 E1]), (A7, 29, [.int .i64 nM, .int .i64 E1])] w' → Inv w [(w.heap.size + 1, 29, [.int .i64 a, .int .i64 e]), (w.heap.size + 2, 29, [.int .i64 b, .int .i64 f]), (A4, 29, [.int .i64 na, .int .i64 e]), (A5, 29, [.int .i64 nb, .int .i64 f]), (A6, 29, [.int .i64 M1, .int .i64 E1]), (A7, 29, [.int .i64 nM, .int .i64 E1])] w' ∧ Tab w' ∧ w'.cell? ⟨w.heap.size + 1, 0, none⟩ = some (.int .i64 a) ∧ w'.cell? ⟨w.heap.size + 1, 1, none⟩ = some (.int .i64 e) ∧ w'.cell? ⟨w.heap.size + 2, 0, none⟩ = some (.int .i64 b) ∧ w'.cell? ⟨w.heap.size + 2, 1, none⟩ = some (.int .i64 f) ∧ w'.cell? ⟨A5, 0, none⟩ = some (.int .i64 nb) ∧ w'.cell? ⟨A5, 1, none⟩ = some (.int .i64 f) ∧ w'.cell? ⟨A6, 0, none⟩ = some (.int .i64 M1) ∧ w'.cell? ⟨A6, 1, none⟩ = some (.int .i64 E1) ∧ w'.cell? ⟨A7, 0, none⟩ = some (.int .i64 nM) ∧ w'.cell? ⟨A7, 1, none⟩ = some (.int .i64 E1)) := Lib.hid (fun w' h => ⟨h, h.kept.1, (h.own 0 _ rfl).cell 0, (h.own 0 _ rfl).cell 1, (h.own 1 _ rfl).cell 0, (h.own 1 _ rfl).cell 1, (h.own 3 _ rfl).cell 0, (h.own 3 _ rfl).cell 1, (h.own 4 _ rfl).cell 0, (h.own 4 _ rfl).cell 1, (h.own 5 _ rfl).cell 0, (h.own 5 _ rfl).cell 1⟩)
              go_region_held3 (fun w' => Inv w [(w.heap.size + 1, 29, [.int .i64 a, .int .i64 e]), (w.heap.size + 2, 29, [.int .i64 b, .int .i64 f]), (A4, 29, [.int .i64 na, .int .i64 e]), (A5, 29, [.int .i64 nb, .int .i64 f]), (A6, 29, [.int .i64 M1, .int .i64 E1]), (A7, 29, [.int .i64 nM, .int .i64 E1])] w' ∧ Tab w' ∧ w'.cell? ⟨w.heap.size + 1, 0, none⟩ = some (.int .i64 a) ∧ w'.cell? ⟨w.heap.size + 1, 1, none⟩ = some (.int .i64 e) ∧ w'.cell? ⟨w.heap.size + 2, 0, none⟩ = some (.int .i64 b) ∧ w'.cell? ⟨w.heap.size + 2, 1, none⟩ = some (.int .i64 f) ∧ w'.cell? ⟨A5, 0, none⟩ = some (.int .i64 nb) ∧ w'.cell? ⟨A5, 1, none⟩ = some (.int .i64 f) ∧ w'.cell? ⟨A6, 0, none⟩ = some (.int .i64 M1) ∧ w'.cell? ⟨A6, 1, none⟩ = some (.int .i64 E1) ∧ w'.cell? ⟨A7, 0, none⟩ = some (.int .i64 nM) ∧ w'.cell? ⟨A7, 1, none⟩ = some (.int .i64 E1)) ((refine HP.out _ ?_; repeat' (first | (with_reducible assumption) | (with_reducible refine Inv.drew ?_) | (with_reducible refine Inv.alloc ?_ _) | (with_reducible refine Inv.call ?_ (by assumption)) | (with_reducible refine Inv.far ?_ ?_ ?_ ?_ ?_ _) | omega | (simp; done) | (simp; omega)))) (first | (go_at_call 21; (with_reducible refine (H10.out _ (by repeat' (first | (with_reducible assumption) | (with_reducible refine Tab.alloc ?_ _) | (with_reducible refine Tab.drew ?_) | (with_reducible refine Tab.drewN ?_ _) | (with_reducible refine Tab.setCell ?_ ?_ ?_ _) | omega | (simp; done) | (simp; omega)))).mono ?_); rintro e w19 ⟨rfl, hk19⟩; obtain ⟨hc19, hf19⟩ := bcell hk19.2; have ht19 := hk19.1; have hz19 := hk19.2.size; (try simp only [World.size_alloc] at hz19); (try simp only [sz_drew] at hz19); (try simp only [sz_drewN] at hz19); (try simp only [World.size_alloc] at hz19); (try simp only [sz_drew] at hc19 hf19); (try simp only [sz_drewN] at hc19 hf19); (try have hw19 : w.heap.size < w19.heap.size := by omega); (try have hv19 : w.heap.size + 1 < w19.heap.size := by omega); (try have hu19 : w.heap.size + 2 < w19.heap.size := by omega)) | (go_at_call 19; (with_reducible refine (H11.out _ (by repeat' (first | (with_reducible assumption) | (with_reducible refine Tab.alloc ?_ _) | (with_reducible refine Tab.drew ?_) | (with_reducible refine Tab.drewN ?_ _) | (with_reducible refine Tab.setCell ?_ ?_ ?_ _) | omega | (simp; done) | (simp; omega)))).mono ?_); rintro e w20 ⟨rfl, hk20⟩; obtain ⟨hc20, hf20⟩ := bcell hk20.2; have ht20 := hk20.1; have hz20 := hk20.2.size; (try simp only [World.size_alloc] at hz20); (try simp only [sz_drew] at hz20); (try simp only [sz_drewN] at hz20); (try simp only [World.size_alloc] at hz20); (try simp only [sz_drew] at hc20 hf20); (try simp only [sz_drewN] at hc20 hf20); (try have hw20 : w.heap.size < w20.heap.size := by omega); (try have hv20 : w.heap.size + 1 < w20.heap.size := by omega); (try have hu20 : w.heap.size + 2 < w20.heap.size := by omega)) | (go_at_call 16; (with_reducible refine (one_any _ _ _ _ (by repeat' (first | (with_reducible assumption) | (with_reducible refine Tab.alloc ?_ _) | (with_reducible refine Tab.drew ?_) | (with_reducible refine Tab.drewN ?_ _) | (with_reducible refine Tab.setCell ?_ ?_ ?_ _) | omega | (simp; done) | (simp; omega)))).mono ?_); rintro e w21 ⟨B21, C21, rfl, hB21, hC21, hk21⟩; obtain ⟨hc21, hf21⟩ := bcell hk21.2; have ht21 := hk21.1; have hz21 := hk21.2.size; (try simp only [World.size_alloc] at hz21); (try simp only [sz_drew] at hz21); (try simp only [sz_drewN] at hz21); (try simp only [World.size_alloc] at hz21); (try simp only [sz_drew] at hc21 hf21); (try simp only [sz_drewN] at hc21 hf21)) | (go_at_call 49; (with_reducible refine (same_any _ _ _ _ _ _ (by repeat' (first | (with_reducible assumption) | (with_reducible refine Tab.alloc ?_ _) | (with_reducible refine Tab.drew ?_) | (with_reducible refine Tab.drewN ?_ _) | (with_reducible refine Tab.setCell ?_ ?_ ?_ _) | omega | (simp; done) | (simp; omega))) (by repeat' (first | (with_reducible assumption) | (with_reducible refine Own.drew ?_) | (with_reducible refine Own.drewN ?_ _) | (with_reducible refine Own.call ?_ (by assumption)))) (by repeat' (first | (with_reducible assumption) | (with_reducible refine Own.drew ?_) | (with_reducible refine Own.drewN ?_ _) | (with_reducible refine Own.call ?_ (by assumption))))).mono ?_); rintro e w22 ⟨rfl, hk22⟩; obtain ⟨hc22, hf22⟩ := bcell hk22.2; have ht22 := hk22.1; have hz22 := hk22.2.size; (try simp only [World.size_alloc] at hz22); (try simp only [sz_drew] at hz22); (try simp only [sz_drewN] at hz22); (try simp only [World.size_alloc] at hz22); (try simp only [sz_drew] at hc22 hf22); (try simp only [sz_drewN] at hc22 hf22)))
              all_goals
                go_wp2_with fail
                go_returns
                exact ⟨rfl, (by repeat' (first | (with_reducible assumption) | (with_reducible exact Kept.refl ht) | (with_reducible refine Kept.alloc ?_ _) | (with_reducible refine Kept.drew ?_) | (with_reducible refine Kept.drewN ?_ _) | (with_reducible refine Kept.setCell ?_ ?_ _ ?_ ?_) | (with_reducible refine Kept.trans ?_ (by assumption)) | omega | (simp; done) | (simp; omega)))⟩
end Go.Proofs.YtcmgphfcpgebfaaDoor
