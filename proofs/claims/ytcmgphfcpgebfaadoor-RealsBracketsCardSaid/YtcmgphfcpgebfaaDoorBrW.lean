/- The walk of RealsBrackets: it returns true for every size, operation and numbers. Condition: the tables hold what their initialisers lay. -/
import Derived.Test.YtcmgphfcpgebfaaDoorBfac
import Derived.RegionTactic
import Derived.BigRegion
namespace Go.Proofs.YtcmgphfcpgebfaaDoor
open Go.ChangeShapes Go.WideShapes Go.ChangeAt Go.RowKit
attribute [local go_sem ↓] Go.wp_at_zero Go.wp_at_succ

/-- What holds at each round's head. -/
def BrRel (w : World) (A : Nat) (op a e b f M0 E0 X0 M1 E1 X1 M2 E2 X2 M3 E3 X3 : Int) (v : Value) (wr : World) : Prop :=
  (v = .int .i64 0 ∧ Inv w [(w.heap.size, 46, [.int .u8 op, .int .i64 a, .int .i64 e, .int .i64 b, .int .i64 f]), (A, 47, [.int .i64 0, .int .i64 0, .int .i64 0, .int .i64 0, .int .i64 0, .int .i64 0, .int .i64 0, .int .i64 0])] wr) ∨ (v = .int .i64 1 ∧ X0 = 0 ∧ Inv w [(w.heap.size, 46, [.int .u8 op, .int .i64 a, .int .i64 e, .int .i64 b, .int .i64 f]), (A, 47, [.int .i64 M0, .int .i64 E0, .int .i64 0, .int .i64 0, .int .i64 0, .int .i64 0, .int .i64 0, .int .i64 0])] wr) ∨ (v = .int .i64 2 ∧ X0 = 0 ∧ X1 = 0 ∧ Inv w [(w.heap.size, 46, [.int .u8 op, .int .i64 a, .int .i64 e, .int .i64 b, .int .i64 f]), (A, 47, [.int .i64 M0, .int .i64 E0, .int .i64 M1, .int .i64 E1, .int .i64 0, .int .i64 0, .int .i64 0, .int .i64 0])] wr) ∨ (v = .int .i64 3 ∧ X0 = 0 ∧ X1 = 0 ∧ X2 = 0 ∧ Inv w [(w.heap.size, 46, [.int .u8 op, .int .i64 a, .int .i64 e, .int .i64 b, .int .i64 f]), (A, 47, [.int .i64 M0, .int .i64 E0, .int .i64 M1, .int .i64 E1, .int .i64 M2, .int .i64 E2, .int .i64 0, .int .i64 0])] wr) ∨ (v = .int .i64 4 ∧ X0 = 0 ∧ X1 = 0 ∧ X2 = 0 ∧ X3 = 0 ∧ Inv w [(w.heap.size, 46, [.int .u8 op, .int .i64 a, .int .i64 e, .int .i64 b, .int .i64 f]), (A, 47, [.int .i64 M0, .int .i64 E0, .int .i64 M1, .int .i64 E1, .int .i64 M2, .int .i64 E2, .int .i64 M3, .int .i64 E3])] wr)
theorem put_last {w w' : World} {bs : List (Nat × TypeId × List Value)} {g : Nat} {t : TypeId} {l : List Value} (h : Inv w (bs ++ [(g, t, l)]) w') (hne : ∀ x ∈ bs, x.1 ≠ g) (hg : w.heap.size ≤ g) (h1 : 1 < w.heap.size) (h0 : 0 < w.heap.size) (i : Nat) (u : Value) :
    Inv w (bs ++ [(g, t, l.set i u)]) (w'.setCell ⟨g, i, none⟩ u) := by
  have ho : Own w' g t l := h.own bs.length (g, t, l) (by simp)
  exact (h.init.far hne hg h1 h0 u).more (ho.put i u)
theorem four_blocks {w w' : World} {g0 g1 g2 g3 : Nat} {t : TypeId} {l0 l1 l2 l3 : List Value} (h : Inv w [] w') (h0 : Own w' g0 t l0) (h1 : Own w' g1 t l1) (h2 : Own w' g2 t l2) (h3 : Own w' g3 t l3) : Inv w [(g0, t, l0), (g1, t, l1), (g2, t, l2), (g3, t, l3)] w' :=
  (((h.more h0).more h1).more h2).more h3
set_option maxRecDepth 100000 in
set_option maxHeartbeats 32000000 in
theorem RealsBrackets_walk (s op a e b f : Int) (w : World) (ht : Tab w) (h0 : 0 ≤ op) (h1 : op ≤ 255) (la : -9223372036854775808 ≤ a) (ha : a ≤ 9223372036854775807) (lb : -9223372036854775808 ≤ b) (hb : b ≤ 9223372036854775807) :
    Calls Tryd.prog 7 #[.int .i64 s, .agg #[.int .u8 op, .int .i64 a, .int .i64 e, .int .i64 b, .int .i64 f]] w fun x w' => x = .returned (.bool true) ∧ Kept w w' := by
  have hlt := ht.lt
  have hlt0 := ht.lt0
  have HA := Lib.hid (fun w ht => awake_any w ht)
  obtain ⟨⟨M0, E0, X0⟩, r0⟩ : ∃ r, oRes op s 0 a e b f = r := ⟨_, rfl⟩
  have G0 := bd_o op s 0 a e b f
  rw [r0] at G0
  have H0 := Lib.hid (fun w ht => apply_any op s 0 a e b f w ht h0 h1 la ha lb hb M0 E0 X0 r0)
  have U0 := Lib.hid (br_err (by decide) r0)
  have K0 := Lib.hid (fun w ht => Valid_any s M0 E0 w ht G0.1 G0.2.1)
  obtain ⟨⟨M1, E1, X1⟩, r1⟩ : ∃ r, oRes op s 1 a e b f = r := ⟨_, rfl⟩
  have G1 := bd_o op s 1 a e b f
  rw [r1] at G1
  have H1 := Lib.hid (fun w ht => apply_any op s 1 a e b f w ht h0 h1 la ha lb hb M1 E1 X1 r1)
  have U1 := Lib.hid (br_err (by decide) r1)
  have K1 := Lib.hid (fun w ht => Valid_any s M1 E1 w ht G1.1 G1.2.1)
  obtain ⟨⟨M2, E2, X2⟩, r2⟩ : ∃ r, oRes op s 2 a e b f = r := ⟨_, rfl⟩
  have G2 := bd_o op s 2 a e b f
  rw [r2] at G2
  have H2 := Lib.hid (fun w ht => apply_any op s 2 a e b f w ht h0 h1 la ha lb hb M2 E2 X2 r2)
  have U2 := Lib.hid (br_err (by decide) r2)
  have K2 := Lib.hid (fun w ht => Valid_any s M2 E2 w ht G2.1 G2.2.1)
  obtain ⟨⟨M3, E3, X3⟩, r3⟩ : ∃ r, oRes op s 3 a e b f = r := ⟨_, rfl⟩
  have G3 := bd_o op s 3 a e b f
  rw [r3] at G3
  have H3 := Lib.hid (fun w ht => apply_any op s 3 a e b f w ht h0 h1 la ha lb hb M3 E3 X3 r3)
  have U3 := Lib.hid (br_err (by decide) r3)
  have K3 := Lib.hid (fun w ht => Valid_any s M3 E3 w ht G3.1 G3.2.1)
  have hL : X0 = 0 → X1 = 0 → X2 = 0 → X3 = 0 → cmpR M2 E2 M1 E1 ≤ 0 ∧ ((M0 = M1 ∧ E0 = E1) ∨ (M0 = M2 ∧ E0 = E2)) ∧ (M3 = if M2 < 0 then M1 else M2) ∧ (E3 = if M2 < 0 then E1 else E2) := by
    rintro rfl rfl rfl rfl
    exact br_law r0 r1 r2 r3
  have hC := fun w ht => compare_any M2 E2 M1 E1 w ht G2.1 G2.2.1 G1.1 G1.2.1 G2.2.2.1 G2.2.2.2 G1.2.2.1 G1.2.2.2
  obtain ⟨d, hd⟩ : ∃ d, cmpR M2 E2 M1 E1 = d := ⟨_, rfl⟩
  rw [hd] at hC hL
  have HL := Lib.hid hL
  have HC := Lib.hid hC
  clear hC hL hd r0 r1 r2 r3 G0 G1 G2 G3 h0 h1 la ha lb hb
  go_enter Tryd.func7, Tryd.ntmps7
  go_upto_region 4 with (first | (go_at_call 11; (with_reducible refine (HA.out _ (by repeat' (first | (with_reducible assumption) | (with_reducible refine Tab.alloc ?_ _) | (with_reducible refine Tab.drew ?_) | (with_reducible refine Tab.drewN ?_ _) | (with_reducible refine Tab.setCell ?_ ?_ ?_ _) | omega | (simp; done) | (simp; omega)))).mono ?_); rintro e w1 ⟨rfl, hk1⟩; obtain ⟨hc1, hf1⟩ := bcell hk1.2; have ht1 := hk1.1; have hz1 := hk1.2.size; (try simp only [World.size_alloc] at hz1); (try simp only [sz_drew] at hz1); (try simp only [sz_drewN] at hz1); (try simp only [World.size_alloc] at hz1); (try simp only [sz_drew] at hc1 hf1); (try simp only [sz_drewN] at hc1 hf1); (try have hw1 : w.heap.size < w1.heap.size := by omega); (try have hv1 : w.heap.size + 1 < w1.heap.size := by omega); (try have hu1 : w.heap.size + 2 < w1.heap.size := by omega)))
  have hJ := ((Inv.one ht 46 [.int .u8 op, .int .i64 a, .int .i64 e, .int .i64 b, .int .i64 f]).call hk1).grow 47 [.int .i64 0, .int .i64 0, .int .i64 0, .int .i64 0, .int .i64 0, .int .i64 0, .int .i64 0, .int .i64 0]
  have hn : w.heap.size < w1.heap.size := by have := hk1.2.size; (try simp only [World.size_alloc] at this); omega
  clear hc1 hf1 hk1 ht1 hz1 HA
  change Inv w [(w.heap.size, 46, [.int .u8 op, .int .i64 a, .int .i64 e, .int .i64 b, .int .i64 f]), (w1.heap.size, 47, [.int .i64 0, .int .i64 0, .int .i64 0, .int .i64 0, .int .i64 0, .int .i64 0, .int .i64 0, .int .i64 0])] _ at hJ
  generalize w1.alloc (.cells #[.int .i64 0, .int .i64 0, .int .i64 0, .int .i64 0, .int .i64 0, .int .i64 0, .int .i64 0, .int .i64 0] 47) = W at hJ ⊢
  generalize w1.heap.size = A at hJ hn ⊢
  have HI := Lib.hid hJ
  clear hJ
  go_wp2_with fail
  go_loopw [16] (BrRel w A op a e b f M0 E0 X0 M1 E1 X1 M2 E2 X2 M3 E3 X3) (fun v _ => (4 - intOf v).toNat)
  case atStart => exact Or.inl ⟨rfl, HI.out⟩
  case round =>
    clear HI
    rcases hrel with ⟨rfl, hI⟩ | ⟨rfl, z0, hI⟩ | ⟨rfl, z0, z1, hI⟩ | ⟨rfl, z0, z1, z2, hI⟩ | ⟨rfl, z0, z1, z2, z3, hI⟩
    · as_aux_lemma =>
      have q0_0 : wr.cell? ⟨w.heap.size, 0, none⟩ = some (.int .u8 op) := (hI.own 0 _ rfl).cell 0
      have q0_1 : wr.cell? ⟨w.heap.size, 1, none⟩ = some (.int .i64 a) := (hI.own 0 _ rfl).cell 1
      have q0_2 : wr.cell? ⟨w.heap.size, 2, none⟩ = some (.int .i64 e) := (hI.own 0 _ rfl).cell 2
      have q0_3 : wr.cell? ⟨w.heap.size, 3, none⟩ = some (.int .i64 b) := (hI.own 0 _ rfl).cell 3
      have q0_4 : wr.cell? ⟨w.heap.size, 4, none⟩ = some (.int .i64 f) := (hI.own 0 _ rfl).cell 4
      have q0f := fun i => (hI.own 0 _ rfl).frozen i
      have q0l : w.heap.size < wr.heap.size := (hI.own 0 _ rfl).lt
      have q1_0 : wr.cell? ⟨A, 0, none⟩ = some (.int .i64 0) := (hI.own 1 _ rfl).cell 0
      have q1_1 : wr.cell? ⟨A, 1, none⟩ = some (.int .i64 0) := (hI.own 1 _ rfl).cell 1
      have q1_2 : wr.cell? ⟨A, 2, none⟩ = some (.int .i64 0) := (hI.own 1 _ rfl).cell 2
      have q1_3 : wr.cell? ⟨A, 3, none⟩ = some (.int .i64 0) := (hI.own 1 _ rfl).cell 3
      have q1_4 : wr.cell? ⟨A, 4, none⟩ = some (.int .i64 0) := (hI.own 1 _ rfl).cell 4
      have q1_5 : wr.cell? ⟨A, 5, none⟩ = some (.int .i64 0) := (hI.own 1 _ rfl).cell 5
      have q1_6 : wr.cell? ⟨A, 6, none⟩ = some (.int .i64 0) := (hI.own 1 _ rfl).cell 6
      have q1_7 : wr.cell? ⟨A, 7, none⟩ = some (.int .i64 0) := (hI.own 1 _ rfl).cell 7
      have q1f := fun i => (hI.own 1 _ rfl).frozen i
      have q1l : A < wr.heap.size := (hI.own 1 _ rfl).lt
      (have wrt := hI.kept.1; have wrk := hI.kept; have wrg := hI.kept.1.lt; have wrg0 := hI.kept.1.lt0; have wrz := hI.kept.2.size)
      have HI := Lib.hid hI
      clear hI
      go_upto_region 8 with (first | (go_at_call 45; (with_reducible refine (H0.out _ (by repeat' (first | (with_reducible assumption) | (with_reducible refine Tab.alloc ?_ _) | (with_reducible refine Tab.drew ?_) | (with_reducible refine Tab.drewN ?_ _) | (with_reducible refine Tab.setCell ?_ ?_ ?_ _) | omega | (simp; done) | (simp; omega)))).mono ?_); rintro e w2 ⟨rfl, hk2⟩; obtain ⟨hc2, hf2⟩ := bcell hk2.2; have ht2 := hk2.1; have hz2 := hk2.2.size; (try simp only [World.size_alloc] at hz2); (try simp only [sz_drew] at hz2); (try simp only [sz_drewN] at hz2); (try simp only [World.size_alloc] at hz2); (try simp only [sz_drew] at hc2 hf2); (try simp only [sz_drewN] at hc2 hf2); (try have hw2 : w.heap.size < w2.heap.size := by omega); (try have hv2 : w.heap.size + 1 < w2.heap.size := by omega); (try have hu2 : w.heap.size + 2 < w2.heap.size := by omega)))
      have hJ := (HI.out.call hk2).grow 29 [.int .i64 M0, .int .i64 E0]
      have hm : A < w2.heap.size := by have := hk2.2.size; (try simp only [World.size_alloc] at this); omega
      clear hc2 hf2 ht2 hz2 hk2 HI q0_0 q0_1 q0_2 q0_3 q0_4 q0f q0l q1_0 q1_1 q1_2 q1_3 q1_4 q1_5 q1_6 q1_7 q1f q1l wrt wrk wrg wrg0 wrz
      change Inv w [(w.heap.size, 46, [.int .u8 op, .int .i64 a, .int .i64 e, .int .i64 b, .int .i64 f]), (A, 47, [.int .i64 0, .int .i64 0, .int .i64 0, .int .i64 0, .int .i64 0, .int .i64 0, .int .i64 0, .int .i64 0]), (w2.heap.size, 29, [.int .i64 M0, .int .i64 E0])] _ at hJ
      generalize w2.alloc (.cells #[.int .i64 M0, .int .i64 E0] 29) = W2 at hJ ⊢
      generalize w2.heap.size = D at hJ hm ⊢
      have q0_0 : W2.cell? ⟨w.heap.size, 0, none⟩ = some (.int .u8 op) := (hJ.own 0 _ rfl).cell 0
      have q0_1 : W2.cell? ⟨w.heap.size, 1, none⟩ = some (.int .i64 a) := (hJ.own 0 _ rfl).cell 1
      have q0_2 : W2.cell? ⟨w.heap.size, 2, none⟩ = some (.int .i64 e) := (hJ.own 0 _ rfl).cell 2
      have q0_3 : W2.cell? ⟨w.heap.size, 3, none⟩ = some (.int .i64 b) := (hJ.own 0 _ rfl).cell 3
      have q0_4 : W2.cell? ⟨w.heap.size, 4, none⟩ = some (.int .i64 f) := (hJ.own 0 _ rfl).cell 4
      have q0f := fun i => (hJ.own 0 _ rfl).frozen i
      have q0l : w.heap.size < W2.heap.size := (hJ.own 0 _ rfl).lt
      have q1_0 : W2.cell? ⟨A, 0, none⟩ = some (.int .i64 0) := (hJ.own 1 _ rfl).cell 0
      have q1_1 : W2.cell? ⟨A, 1, none⟩ = some (.int .i64 0) := (hJ.own 1 _ rfl).cell 1
      have q1_2 : W2.cell? ⟨A, 2, none⟩ = some (.int .i64 0) := (hJ.own 1 _ rfl).cell 2
      have q1_3 : W2.cell? ⟨A, 3, none⟩ = some (.int .i64 0) := (hJ.own 1 _ rfl).cell 3
      have q1_4 : W2.cell? ⟨A, 4, none⟩ = some (.int .i64 0) := (hJ.own 1 _ rfl).cell 4
      have q1_5 : W2.cell? ⟨A, 5, none⟩ = some (.int .i64 0) := (hJ.own 1 _ rfl).cell 5
      have q1_6 : W2.cell? ⟨A, 6, none⟩ = some (.int .i64 0) := (hJ.own 1 _ rfl).cell 6
      have q1_7 : W2.cell? ⟨A, 7, none⟩ = some (.int .i64 0) := (hJ.own 1 _ rfl).cell 7
      have q1f := fun i => (hJ.own 1 _ rfl).frozen i
      have q1l : A < W2.heap.size := (hJ.own 1 _ rfl).lt
      have q2_0 : W2.cell? ⟨D, 0, none⟩ = some (.int .i64 M0) := (hJ.own 2 _ rfl).cell 0
      have q2_1 : W2.cell? ⟨D, 1, none⟩ = some (.int .i64 E0) := (hJ.own 2 _ rfl).cell 1
      have q2f := fun i => (hJ.own 2 _ rfl).frozen i
      have q2l : D < W2.heap.size := (hJ.own 2 _ rfl).lt
      (have W2t := hJ.kept.1; have W2k := hJ.kept; have W2g := hJ.kept.1.lt; have W2g0 := hJ.kept.1.lt0; have W2z := hJ.kept.2.size)
      have HI := Lib.hid hJ
      have hK := hJ.kept
      clear hJ
      by_cases hX : X0 = 0
      · have kv := K0.out
        rw [U0.out.1 hX] at kv
        have HV := Lib.hid kv
        clear kv
        subst hX
        go_wp2_with (first | (go_at_call 14; (with_reducible refine (HV.out _ (by repeat' (first | (with_reducible assumption) | (with_reducible refine Tab.alloc ?_ _) | (with_reducible refine Tab.drew ?_) | (with_reducible refine Tab.drewN ?_ _) | (with_reducible refine Tab.setCell ?_ ?_ ?_ _) | omega | (simp; done) | (simp; omega)))).mono ?_); rintro e w3 ⟨rfl, hk3⟩; obtain ⟨hc3, hf3⟩ := bcell hk3.2; have ht3 := hk3.1; have hz3 := hk3.2.size; (try simp only [World.size_alloc] at hz3); (try simp only [sz_drew] at hz3); (try simp only [sz_drewN] at hz3); (try simp only [World.size_alloc] at hz3); (try simp only [sz_drew] at hc3 hf3); (try simp only [sz_drewN] at hc3 hf3); (try have hw3 : w.heap.size < w3.heap.size := by omega); (try have hv3 : w.heap.size + 1 < w3.heap.size := by omega); (try have hu3 : w.heap.size + 2 < w3.heap.size := by omega)))
        go_roundw
        case rel => exact Or.inr (Or.inl ⟨rfl, rfl, (((HI.out.call hk3).put 1 rfl 0 (.int .i64 M0) (by simp; omega) (by omega) hlt hlt0).put 1 rfl 1 (.int .i64 E0) (by simp; omega) (by omega) hlt hlt0).init (bs := [_, _])⟩)
        case measure => simp [intOf]
      · obtain ⟨m0, e0⟩ := U0.out.2 hX
        have hXb : (X0 != 0) = true := by simpa using hX
        subst m0 e0
        go_wp2_with fail
        go_returns
        exact ⟨by simp, hK⟩
    · as_aux_lemma =>
      have q0_0 : wr.cell? ⟨w.heap.size, 0, none⟩ = some (.int .u8 op) := (hI.own 0 _ rfl).cell 0
      have q0_1 : wr.cell? ⟨w.heap.size, 1, none⟩ = some (.int .i64 a) := (hI.own 0 _ rfl).cell 1
      have q0_2 : wr.cell? ⟨w.heap.size, 2, none⟩ = some (.int .i64 e) := (hI.own 0 _ rfl).cell 2
      have q0_3 : wr.cell? ⟨w.heap.size, 3, none⟩ = some (.int .i64 b) := (hI.own 0 _ rfl).cell 3
      have q0_4 : wr.cell? ⟨w.heap.size, 4, none⟩ = some (.int .i64 f) := (hI.own 0 _ rfl).cell 4
      have q0f := fun i => (hI.own 0 _ rfl).frozen i
      have q0l : w.heap.size < wr.heap.size := (hI.own 0 _ rfl).lt
      have q1_0 : wr.cell? ⟨A, 0, none⟩ = some (.int .i64 M0) := (hI.own 1 _ rfl).cell 0
      have q1_1 : wr.cell? ⟨A, 1, none⟩ = some (.int .i64 E0) := (hI.own 1 _ rfl).cell 1
      have q1_2 : wr.cell? ⟨A, 2, none⟩ = some (.int .i64 0) := (hI.own 1 _ rfl).cell 2
      have q1_3 : wr.cell? ⟨A, 3, none⟩ = some (.int .i64 0) := (hI.own 1 _ rfl).cell 3
      have q1_4 : wr.cell? ⟨A, 4, none⟩ = some (.int .i64 0) := (hI.own 1 _ rfl).cell 4
      have q1_5 : wr.cell? ⟨A, 5, none⟩ = some (.int .i64 0) := (hI.own 1 _ rfl).cell 5
      have q1_6 : wr.cell? ⟨A, 6, none⟩ = some (.int .i64 0) := (hI.own 1 _ rfl).cell 6
      have q1_7 : wr.cell? ⟨A, 7, none⟩ = some (.int .i64 0) := (hI.own 1 _ rfl).cell 7
      have q1f := fun i => (hI.own 1 _ rfl).frozen i
      have q1l : A < wr.heap.size := (hI.own 1 _ rfl).lt
      (have wrt := hI.kept.1; have wrk := hI.kept; have wrg := hI.kept.1.lt; have wrg0 := hI.kept.1.lt0; have wrz := hI.kept.2.size)
      have HI := Lib.hid hI
      clear hI
      go_upto_region 8 with (first | (go_at_call 45; (with_reducible refine (H1.out _ (by repeat' (first | (with_reducible assumption) | (with_reducible refine Tab.alloc ?_ _) | (with_reducible refine Tab.drew ?_) | (with_reducible refine Tab.drewN ?_ _) | (with_reducible refine Tab.setCell ?_ ?_ ?_ _) | omega | (simp; done) | (simp; omega)))).mono ?_); rintro e w2 ⟨rfl, hk2⟩; obtain ⟨hc2, hf2⟩ := bcell hk2.2; have ht2 := hk2.1; have hz2 := hk2.2.size; (try simp only [World.size_alloc] at hz2); (try simp only [sz_drew] at hz2); (try simp only [sz_drewN] at hz2); (try simp only [World.size_alloc] at hz2); (try simp only [sz_drew] at hc2 hf2); (try simp only [sz_drewN] at hc2 hf2); (try have hw2 : w.heap.size < w2.heap.size := by omega); (try have hv2 : w.heap.size + 1 < w2.heap.size := by omega); (try have hu2 : w.heap.size + 2 < w2.heap.size := by omega)))
      have hJ := (HI.out.call hk2).grow 29 [.int .i64 M1, .int .i64 E1]
      have hm : A < w2.heap.size := by have := hk2.2.size; (try simp only [World.size_alloc] at this); omega
      clear hc2 hf2 ht2 hz2 hk2 HI q0_0 q0_1 q0_2 q0_3 q0_4 q0f q0l q1_0 q1_1 q1_2 q1_3 q1_4 q1_5 q1_6 q1_7 q1f q1l wrt wrk wrg wrg0 wrz
      change Inv w [(w.heap.size, 46, [.int .u8 op, .int .i64 a, .int .i64 e, .int .i64 b, .int .i64 f]), (A, 47, [.int .i64 M0, .int .i64 E0, .int .i64 0, .int .i64 0, .int .i64 0, .int .i64 0, .int .i64 0, .int .i64 0]), (w2.heap.size, 29, [.int .i64 M1, .int .i64 E1])] _ at hJ
      generalize w2.alloc (.cells #[.int .i64 M1, .int .i64 E1] 29) = W2 at hJ ⊢
      generalize w2.heap.size = D at hJ hm ⊢
      have q0_0 : W2.cell? ⟨w.heap.size, 0, none⟩ = some (.int .u8 op) := (hJ.own 0 _ rfl).cell 0
      have q0_1 : W2.cell? ⟨w.heap.size, 1, none⟩ = some (.int .i64 a) := (hJ.own 0 _ rfl).cell 1
      have q0_2 : W2.cell? ⟨w.heap.size, 2, none⟩ = some (.int .i64 e) := (hJ.own 0 _ rfl).cell 2
      have q0_3 : W2.cell? ⟨w.heap.size, 3, none⟩ = some (.int .i64 b) := (hJ.own 0 _ rfl).cell 3
      have q0_4 : W2.cell? ⟨w.heap.size, 4, none⟩ = some (.int .i64 f) := (hJ.own 0 _ rfl).cell 4
      have q0f := fun i => (hJ.own 0 _ rfl).frozen i
      have q0l : w.heap.size < W2.heap.size := (hJ.own 0 _ rfl).lt
      have q1_0 : W2.cell? ⟨A, 0, none⟩ = some (.int .i64 M0) := (hJ.own 1 _ rfl).cell 0
      have q1_1 : W2.cell? ⟨A, 1, none⟩ = some (.int .i64 E0) := (hJ.own 1 _ rfl).cell 1
      have q1_2 : W2.cell? ⟨A, 2, none⟩ = some (.int .i64 0) := (hJ.own 1 _ rfl).cell 2
      have q1_3 : W2.cell? ⟨A, 3, none⟩ = some (.int .i64 0) := (hJ.own 1 _ rfl).cell 3
      have q1_4 : W2.cell? ⟨A, 4, none⟩ = some (.int .i64 0) := (hJ.own 1 _ rfl).cell 4
      have q1_5 : W2.cell? ⟨A, 5, none⟩ = some (.int .i64 0) := (hJ.own 1 _ rfl).cell 5
      have q1_6 : W2.cell? ⟨A, 6, none⟩ = some (.int .i64 0) := (hJ.own 1 _ rfl).cell 6
      have q1_7 : W2.cell? ⟨A, 7, none⟩ = some (.int .i64 0) := (hJ.own 1 _ rfl).cell 7
      have q1f := fun i => (hJ.own 1 _ rfl).frozen i
      have q1l : A < W2.heap.size := (hJ.own 1 _ rfl).lt
      have q2_0 : W2.cell? ⟨D, 0, none⟩ = some (.int .i64 M1) := (hJ.own 2 _ rfl).cell 0
      have q2_1 : W2.cell? ⟨D, 1, none⟩ = some (.int .i64 E1) := (hJ.own 2 _ rfl).cell 1
      have q2f := fun i => (hJ.own 2 _ rfl).frozen i
      have q2l : D < W2.heap.size := (hJ.own 2 _ rfl).lt
      (have W2t := hJ.kept.1; have W2k := hJ.kept; have W2g := hJ.kept.1.lt; have W2g0 := hJ.kept.1.lt0; have W2z := hJ.kept.2.size)
      have HI := Lib.hid hJ
      have hK := hJ.kept
      clear hJ
      by_cases hX : X1 = 0
      · have kv := K1.out
        rw [U1.out.1 hX] at kv
        have HV := Lib.hid kv
        clear kv
        subst hX
        go_wp2_with (first | (go_at_call 14; (with_reducible refine (HV.out _ (by repeat' (first | (with_reducible assumption) | (with_reducible refine Tab.alloc ?_ _) | (with_reducible refine Tab.drew ?_) | (with_reducible refine Tab.drewN ?_ _) | (with_reducible refine Tab.setCell ?_ ?_ ?_ _) | omega | (simp; done) | (simp; omega)))).mono ?_); rintro e w3 ⟨rfl, hk3⟩; obtain ⟨hc3, hf3⟩ := bcell hk3.2; have ht3 := hk3.1; have hz3 := hk3.2.size; (try simp only [World.size_alloc] at hz3); (try simp only [sz_drew] at hz3); (try simp only [sz_drewN] at hz3); (try simp only [World.size_alloc] at hz3); (try simp only [sz_drew] at hc3 hf3); (try simp only [sz_drewN] at hc3 hf3); (try have hw3 : w.heap.size < w3.heap.size := by omega); (try have hv3 : w.heap.size + 1 < w3.heap.size := by omega); (try have hu3 : w.heap.size + 2 < w3.heap.size := by omega)))
        go_roundw
        case rel => exact Or.inr (Or.inr (Or.inl ⟨rfl, z0, rfl, (((HI.out.call hk3).put 1 rfl 2 (.int .i64 M1) (by simp; omega) (by omega) hlt hlt0).put 1 rfl 3 (.int .i64 E1) (by simp; omega) (by omega) hlt hlt0).init (bs := [_, _])⟩))
        case measure => simp [intOf]
      · obtain ⟨m0, e0⟩ := U1.out.2 hX
        have hXb : (X1 != 0) = true := by simpa using hX
        subst m0 e0
        go_wp2_with fail
        go_returns
        exact ⟨by simp, hK⟩
    · as_aux_lemma =>
      have q0_0 : wr.cell? ⟨w.heap.size, 0, none⟩ = some (.int .u8 op) := (hI.own 0 _ rfl).cell 0
      have q0_1 : wr.cell? ⟨w.heap.size, 1, none⟩ = some (.int .i64 a) := (hI.own 0 _ rfl).cell 1
      have q0_2 : wr.cell? ⟨w.heap.size, 2, none⟩ = some (.int .i64 e) := (hI.own 0 _ rfl).cell 2
      have q0_3 : wr.cell? ⟨w.heap.size, 3, none⟩ = some (.int .i64 b) := (hI.own 0 _ rfl).cell 3
      have q0_4 : wr.cell? ⟨w.heap.size, 4, none⟩ = some (.int .i64 f) := (hI.own 0 _ rfl).cell 4
      have q0f := fun i => (hI.own 0 _ rfl).frozen i
      have q0l : w.heap.size < wr.heap.size := (hI.own 0 _ rfl).lt
      have q1_0 : wr.cell? ⟨A, 0, none⟩ = some (.int .i64 M0) := (hI.own 1 _ rfl).cell 0
      have q1_1 : wr.cell? ⟨A, 1, none⟩ = some (.int .i64 E0) := (hI.own 1 _ rfl).cell 1
      have q1_2 : wr.cell? ⟨A, 2, none⟩ = some (.int .i64 M1) := (hI.own 1 _ rfl).cell 2
      have q1_3 : wr.cell? ⟨A, 3, none⟩ = some (.int .i64 E1) := (hI.own 1 _ rfl).cell 3
      have q1_4 : wr.cell? ⟨A, 4, none⟩ = some (.int .i64 0) := (hI.own 1 _ rfl).cell 4
      have q1_5 : wr.cell? ⟨A, 5, none⟩ = some (.int .i64 0) := (hI.own 1 _ rfl).cell 5
      have q1_6 : wr.cell? ⟨A, 6, none⟩ = some (.int .i64 0) := (hI.own 1 _ rfl).cell 6
      have q1_7 : wr.cell? ⟨A, 7, none⟩ = some (.int .i64 0) := (hI.own 1 _ rfl).cell 7
      have q1f := fun i => (hI.own 1 _ rfl).frozen i
      have q1l : A < wr.heap.size := (hI.own 1 _ rfl).lt
      (have wrt := hI.kept.1; have wrk := hI.kept; have wrg := hI.kept.1.lt; have wrg0 := hI.kept.1.lt0; have wrz := hI.kept.2.size)
      have HI := Lib.hid hI
      clear hI
      go_upto_region 8 with (first | (go_at_call 45; (with_reducible refine (H2.out _ (by repeat' (first | (with_reducible assumption) | (with_reducible refine Tab.alloc ?_ _) | (with_reducible refine Tab.drew ?_) | (with_reducible refine Tab.drewN ?_ _) | (with_reducible refine Tab.setCell ?_ ?_ ?_ _) | omega | (simp; done) | (simp; omega)))).mono ?_); rintro e w2 ⟨rfl, hk2⟩; obtain ⟨hc2, hf2⟩ := bcell hk2.2; have ht2 := hk2.1; have hz2 := hk2.2.size; (try simp only [World.size_alloc] at hz2); (try simp only [sz_drew] at hz2); (try simp only [sz_drewN] at hz2); (try simp only [World.size_alloc] at hz2); (try simp only [sz_drew] at hc2 hf2); (try simp only [sz_drewN] at hc2 hf2); (try have hw2 : w.heap.size < w2.heap.size := by omega); (try have hv2 : w.heap.size + 1 < w2.heap.size := by omega); (try have hu2 : w.heap.size + 2 < w2.heap.size := by omega)))
      have hJ := (HI.out.call hk2).grow 29 [.int .i64 M2, .int .i64 E2]
      have hm : A < w2.heap.size := by have := hk2.2.size; (try simp only [World.size_alloc] at this); omega
      clear hc2 hf2 ht2 hz2 hk2 HI q0_0 q0_1 q0_2 q0_3 q0_4 q0f q0l q1_0 q1_1 q1_2 q1_3 q1_4 q1_5 q1_6 q1_7 q1f q1l wrt wrk wrg wrg0 wrz
      change Inv w [(w.heap.size, 46, [.int .u8 op, .int .i64 a, .int .i64 e, .int .i64 b, .int .i64 f]), (A, 47, [.int .i64 M0, .int .i64 E0, .int .i64 M1, .int .i64 E1, .int .i64 0, .int .i64 0, .int .i64 0, .int .i64 0]), (w2.heap.size, 29, [.int .i64 M2, .int .i64 E2])] _ at hJ
      generalize w2.alloc (.cells #[.int .i64 M2, .int .i64 E2] 29) = W2 at hJ ⊢
      generalize w2.heap.size = D at hJ hm ⊢
      have q0_0 : W2.cell? ⟨w.heap.size, 0, none⟩ = some (.int .u8 op) := (hJ.own 0 _ rfl).cell 0
      have q0_1 : W2.cell? ⟨w.heap.size, 1, none⟩ = some (.int .i64 a) := (hJ.own 0 _ rfl).cell 1
      have q0_2 : W2.cell? ⟨w.heap.size, 2, none⟩ = some (.int .i64 e) := (hJ.own 0 _ rfl).cell 2
      have q0_3 : W2.cell? ⟨w.heap.size, 3, none⟩ = some (.int .i64 b) := (hJ.own 0 _ rfl).cell 3
      have q0_4 : W2.cell? ⟨w.heap.size, 4, none⟩ = some (.int .i64 f) := (hJ.own 0 _ rfl).cell 4
      have q0f := fun i => (hJ.own 0 _ rfl).frozen i
      have q0l : w.heap.size < W2.heap.size := (hJ.own 0 _ rfl).lt
      have q1_0 : W2.cell? ⟨A, 0, none⟩ = some (.int .i64 M0) := (hJ.own 1 _ rfl).cell 0
      have q1_1 : W2.cell? ⟨A, 1, none⟩ = some (.int .i64 E0) := (hJ.own 1 _ rfl).cell 1
      have q1_2 : W2.cell? ⟨A, 2, none⟩ = some (.int .i64 M1) := (hJ.own 1 _ rfl).cell 2
      have q1_3 : W2.cell? ⟨A, 3, none⟩ = some (.int .i64 E1) := (hJ.own 1 _ rfl).cell 3
      have q1_4 : W2.cell? ⟨A, 4, none⟩ = some (.int .i64 0) := (hJ.own 1 _ rfl).cell 4
      have q1_5 : W2.cell? ⟨A, 5, none⟩ = some (.int .i64 0) := (hJ.own 1 _ rfl).cell 5
      have q1_6 : W2.cell? ⟨A, 6, none⟩ = some (.int .i64 0) := (hJ.own 1 _ rfl).cell 6
      have q1_7 : W2.cell? ⟨A, 7, none⟩ = some (.int .i64 0) := (hJ.own 1 _ rfl).cell 7
      have q1f := fun i => (hJ.own 1 _ rfl).frozen i
      have q1l : A < W2.heap.size := (hJ.own 1 _ rfl).lt
      have q2_0 : W2.cell? ⟨D, 0, none⟩ = some (.int .i64 M2) := (hJ.own 2 _ rfl).cell 0
      have q2_1 : W2.cell? ⟨D, 1, none⟩ = some (.int .i64 E2) := (hJ.own 2 _ rfl).cell 1
      have q2f := fun i => (hJ.own 2 _ rfl).frozen i
      have q2l : D < W2.heap.size := (hJ.own 2 _ rfl).lt
      (have W2t := hJ.kept.1; have W2k := hJ.kept; have W2g := hJ.kept.1.lt; have W2g0 := hJ.kept.1.lt0; have W2z := hJ.kept.2.size)
      have HI := Lib.hid hJ
      have hK := hJ.kept
      clear hJ
      by_cases hX : X2 = 0
      · have kv := K2.out
        rw [U2.out.1 hX] at kv
        have HV := Lib.hid kv
        clear kv
        subst hX
        go_wp2_with (first | (go_at_call 14; (with_reducible refine (HV.out _ (by repeat' (first | (with_reducible assumption) | (with_reducible refine Tab.alloc ?_ _) | (with_reducible refine Tab.drew ?_) | (with_reducible refine Tab.drewN ?_ _) | (with_reducible refine Tab.setCell ?_ ?_ ?_ _) | omega | (simp; done) | (simp; omega)))).mono ?_); rintro e w3 ⟨rfl, hk3⟩; obtain ⟨hc3, hf3⟩ := bcell hk3.2; have ht3 := hk3.1; have hz3 := hk3.2.size; (try simp only [World.size_alloc] at hz3); (try simp only [sz_drew] at hz3); (try simp only [sz_drewN] at hz3); (try simp only [World.size_alloc] at hz3); (try simp only [sz_drew] at hc3 hf3); (try simp only [sz_drewN] at hc3 hf3); (try have hw3 : w.heap.size < w3.heap.size := by omega); (try have hv3 : w.heap.size + 1 < w3.heap.size := by omega); (try have hu3 : w.heap.size + 2 < w3.heap.size := by omega)))
        go_roundw
        case rel => exact Or.inr (Or.inr (Or.inr (Or.inl ⟨rfl, z0, z1, rfl, (((HI.out.call hk3).put 1 rfl 4 (.int .i64 M2) (by simp; omega) (by omega) hlt hlt0).put 1 rfl 5 (.int .i64 E2) (by simp; omega) (by omega) hlt hlt0).init (bs := [_, _])⟩)))
        case measure => simp [intOf]
      · obtain ⟨m0, e0⟩ := U2.out.2 hX
        have hXb : (X2 != 0) = true := by simpa using hX
        subst m0 e0
        go_wp2_with fail
        go_returns
        exact ⟨by simp, hK⟩
    · as_aux_lemma =>
      have q0_0 : wr.cell? ⟨w.heap.size, 0, none⟩ = some (.int .u8 op) := (hI.own 0 _ rfl).cell 0
      have q0_1 : wr.cell? ⟨w.heap.size, 1, none⟩ = some (.int .i64 a) := (hI.own 0 _ rfl).cell 1
      have q0_2 : wr.cell? ⟨w.heap.size, 2, none⟩ = some (.int .i64 e) := (hI.own 0 _ rfl).cell 2
      have q0_3 : wr.cell? ⟨w.heap.size, 3, none⟩ = some (.int .i64 b) := (hI.own 0 _ rfl).cell 3
      have q0_4 : wr.cell? ⟨w.heap.size, 4, none⟩ = some (.int .i64 f) := (hI.own 0 _ rfl).cell 4
      have q0f := fun i => (hI.own 0 _ rfl).frozen i
      have q0l : w.heap.size < wr.heap.size := (hI.own 0 _ rfl).lt
      have q1_0 : wr.cell? ⟨A, 0, none⟩ = some (.int .i64 M0) := (hI.own 1 _ rfl).cell 0
      have q1_1 : wr.cell? ⟨A, 1, none⟩ = some (.int .i64 E0) := (hI.own 1 _ rfl).cell 1
      have q1_2 : wr.cell? ⟨A, 2, none⟩ = some (.int .i64 M1) := (hI.own 1 _ rfl).cell 2
      have q1_3 : wr.cell? ⟨A, 3, none⟩ = some (.int .i64 E1) := (hI.own 1 _ rfl).cell 3
      have q1_4 : wr.cell? ⟨A, 4, none⟩ = some (.int .i64 M2) := (hI.own 1 _ rfl).cell 4
      have q1_5 : wr.cell? ⟨A, 5, none⟩ = some (.int .i64 E2) := (hI.own 1 _ rfl).cell 5
      have q1_6 : wr.cell? ⟨A, 6, none⟩ = some (.int .i64 0) := (hI.own 1 _ rfl).cell 6
      have q1_7 : wr.cell? ⟨A, 7, none⟩ = some (.int .i64 0) := (hI.own 1 _ rfl).cell 7
      have q1f := fun i => (hI.own 1 _ rfl).frozen i
      have q1l : A < wr.heap.size := (hI.own 1 _ rfl).lt
      (have wrt := hI.kept.1; have wrk := hI.kept; have wrg := hI.kept.1.lt; have wrg0 := hI.kept.1.lt0; have wrz := hI.kept.2.size)
      have HI := Lib.hid hI
      clear hI
      go_upto_region 8 with (first | (go_at_call 45; (with_reducible refine (H3.out _ (by repeat' (first | (with_reducible assumption) | (with_reducible refine Tab.alloc ?_ _) | (with_reducible refine Tab.drew ?_) | (with_reducible refine Tab.drewN ?_ _) | (with_reducible refine Tab.setCell ?_ ?_ ?_ _) | omega | (simp; done) | (simp; omega)))).mono ?_); rintro e w2 ⟨rfl, hk2⟩; obtain ⟨hc2, hf2⟩ := bcell hk2.2; have ht2 := hk2.1; have hz2 := hk2.2.size; (try simp only [World.size_alloc] at hz2); (try simp only [sz_drew] at hz2); (try simp only [sz_drewN] at hz2); (try simp only [World.size_alloc] at hz2); (try simp only [sz_drew] at hc2 hf2); (try simp only [sz_drewN] at hc2 hf2); (try have hw2 : w.heap.size < w2.heap.size := by omega); (try have hv2 : w.heap.size + 1 < w2.heap.size := by omega); (try have hu2 : w.heap.size + 2 < w2.heap.size := by omega)))
      have hJ := (HI.out.call hk2).grow 29 [.int .i64 M3, .int .i64 E3]
      have hm : A < w2.heap.size := by have := hk2.2.size; (try simp only [World.size_alloc] at this); omega
      clear hc2 hf2 ht2 hz2 hk2 HI q0_0 q0_1 q0_2 q0_3 q0_4 q0f q0l q1_0 q1_1 q1_2 q1_3 q1_4 q1_5 q1_6 q1_7 q1f q1l wrt wrk wrg wrg0 wrz
      change Inv w [(w.heap.size, 46, [.int .u8 op, .int .i64 a, .int .i64 e, .int .i64 b, .int .i64 f]), (A, 47, [.int .i64 M0, .int .i64 E0, .int .i64 M1, .int .i64 E1, .int .i64 M2, .int .i64 E2, .int .i64 0, .int .i64 0]), (w2.heap.size, 29, [.int .i64 M3, .int .i64 E3])] _ at hJ
      generalize w2.alloc (.cells #[.int .i64 M3, .int .i64 E3] 29) = W2 at hJ ⊢
      generalize w2.heap.size = D at hJ hm ⊢
      have q0_0 : W2.cell? ⟨w.heap.size, 0, none⟩ = some (.int .u8 op) := (hJ.own 0 _ rfl).cell 0
      have q0_1 : W2.cell? ⟨w.heap.size, 1, none⟩ = some (.int .i64 a) := (hJ.own 0 _ rfl).cell 1
      have q0_2 : W2.cell? ⟨w.heap.size, 2, none⟩ = some (.int .i64 e) := (hJ.own 0 _ rfl).cell 2
      have q0_3 : W2.cell? ⟨w.heap.size, 3, none⟩ = some (.int .i64 b) := (hJ.own 0 _ rfl).cell 3
      have q0_4 : W2.cell? ⟨w.heap.size, 4, none⟩ = some (.int .i64 f) := (hJ.own 0 _ rfl).cell 4
      have q0f := fun i => (hJ.own 0 _ rfl).frozen i
      have q0l : w.heap.size < W2.heap.size := (hJ.own 0 _ rfl).lt
      have q1_0 : W2.cell? ⟨A, 0, none⟩ = some (.int .i64 M0) := (hJ.own 1 _ rfl).cell 0
      have q1_1 : W2.cell? ⟨A, 1, none⟩ = some (.int .i64 E0) := (hJ.own 1 _ rfl).cell 1
      have q1_2 : W2.cell? ⟨A, 2, none⟩ = some (.int .i64 M1) := (hJ.own 1 _ rfl).cell 2
      have q1_3 : W2.cell? ⟨A, 3, none⟩ = some (.int .i64 E1) := (hJ.own 1 _ rfl).cell 3
      have q1_4 : W2.cell? ⟨A, 4, none⟩ = some (.int .i64 M2) := (hJ.own 1 _ rfl).cell 4
      have q1_5 : W2.cell? ⟨A, 5, none⟩ = some (.int .i64 E2) := (hJ.own 1 _ rfl).cell 5
      have q1_6 : W2.cell? ⟨A, 6, none⟩ = some (.int .i64 0) := (hJ.own 1 _ rfl).cell 6
      have q1_7 : W2.cell? ⟨A, 7, none⟩ = some (.int .i64 0) := (hJ.own 1 _ rfl).cell 7
      have q1f := fun i => (hJ.own 1 _ rfl).frozen i
      have q1l : A < W2.heap.size := (hJ.own 1 _ rfl).lt
      have q2_0 : W2.cell? ⟨D, 0, none⟩ = some (.int .i64 M3) := (hJ.own 2 _ rfl).cell 0
      have q2_1 : W2.cell? ⟨D, 1, none⟩ = some (.int .i64 E3) := (hJ.own 2 _ rfl).cell 1
      have q2f := fun i => (hJ.own 2 _ rfl).frozen i
      have q2l : D < W2.heap.size := (hJ.own 2 _ rfl).lt
      (have W2t := hJ.kept.1; have W2k := hJ.kept; have W2g := hJ.kept.1.lt; have W2g0 := hJ.kept.1.lt0; have W2z := hJ.kept.2.size)
      have HI := Lib.hid hJ
      have hK := hJ.kept
      clear hJ
      by_cases hX : X3 = 0
      · have kv := K3.out
        rw [U3.out.1 hX] at kv
        have HV := Lib.hid kv
        clear kv
        subst hX
        go_wp2_with (first | (go_at_call 14; (with_reducible refine (HV.out _ (by repeat' (first | (with_reducible assumption) | (with_reducible refine Tab.alloc ?_ _) | (with_reducible refine Tab.drew ?_) | (with_reducible refine Tab.drewN ?_ _) | (with_reducible refine Tab.setCell ?_ ?_ ?_ _) | omega | (simp; done) | (simp; omega)))).mono ?_); rintro e w3 ⟨rfl, hk3⟩; obtain ⟨hc3, hf3⟩ := bcell hk3.2; have ht3 := hk3.1; have hz3 := hk3.2.size; (try simp only [World.size_alloc] at hz3); (try simp only [sz_drew] at hz3); (try simp only [sz_drewN] at hz3); (try simp only [World.size_alloc] at hz3); (try simp only [sz_drew] at hc3 hf3); (try simp only [sz_drewN] at hc3 hf3); (try have hw3 : w.heap.size < w3.heap.size := by omega); (try have hv3 : w.heap.size + 1 < w3.heap.size := by omega); (try have hu3 : w.heap.size + 2 < w3.heap.size := by omega)))
        go_roundw
        case rel => exact Or.inr (Or.inr (Or.inr (Or.inr (⟨rfl, z0, z1, z2, rfl, (((HI.out.call hk3).put 1 rfl 6 (.int .i64 M3) (by simp; omega) (by omega) hlt hlt0).put 1 rfl 7 (.int .i64 E3) (by simp; omega) (by omega) hlt hlt0).init (bs := [_, _])⟩))))
        case measure => simp [intOf]
      · obtain ⟨m0, e0⟩ := U3.out.2 hX
        have hXb : (X3 != 0) = true := by simpa using hX
        subst m0 e0
        go_wp2_with fail
        go_returns
        exact ⟨by simp, hK⟩
    · have HL4 := Lib.hid (HL.out z0 z1 z2 z3)
      clear H0 H1 H2 H3 U0 U1 U2 U3 K0 K1 K2 K3 HL z0 z1 z2 z3
      have q1_0 : wr.cell? ⟨A, 0, none⟩ = some (.int .i64 M0) := (hI.own 1 _ rfl).cell 0
      have q1_1 : wr.cell? ⟨A, 1, none⟩ = some (.int .i64 E0) := (hI.own 1 _ rfl).cell 1
      have q1_2 : wr.cell? ⟨A, 2, none⟩ = some (.int .i64 M1) := (hI.own 1 _ rfl).cell 2
      have q1_3 : wr.cell? ⟨A, 3, none⟩ = some (.int .i64 E1) := (hI.own 1 _ rfl).cell 3
      have q1_4 : wr.cell? ⟨A, 4, none⟩ = some (.int .i64 M2) := (hI.own 1 _ rfl).cell 4
      have q1_5 : wr.cell? ⟨A, 5, none⟩ = some (.int .i64 E2) := (hI.own 1 _ rfl).cell 5
      have q1_6 : wr.cell? ⟨A, 6, none⟩ = some (.int .i64 M3) := (hI.own 1 _ rfl).cell 6
      have q1_7 : wr.cell? ⟨A, 7, none⟩ = some (.int .i64 E3) := (hI.own 1 _ rfl).cell 7
      have q1f := fun i => (hI.own 1 _ rfl).frozen i
      have q1l : A < wr.heap.size := (hI.own 1 _ rfl).lt
      (have wrt := hI.kept.1; have wrk := hI.kept; have wrg := hI.kept.1.lt; have wrg0 := hI.kept.1.lt0; have wrz := hI.kept.2.size)
      have HI := Lib.hid hI
      clear hI
      have e1 : A < wr.heap.size + 1 := by omega
      have e2 : A < wr.heap.size + 1 + 1 := by omega
      have e3 : A < wr.heap.size + 1 + 1 + 1 := by omega
      go_upto_region 14 with fail
      go_cut [9, 10, 11, 12] (fun c9 c10 c11 c12 wx => ∃ A0 A1 A2 A3 : Nat, c9 = .pointer (some ⟨A0, 0, none⟩) ∧ c10 = .pointer (some ⟨A1, 0, none⟩) ∧ c11 = .pointer (some ⟨A2, 0, none⟩) ∧ c12 = .pointer (some ⟨A3, 0, none⟩) ∧ Inv w [(A0, 29, [.int .i64 M0, .int .i64 E0]), (A1, 29, [.int .i64 M1, .int .i64 E1]), (A2, 29, [.int .i64 M2, .int .i64 E2]), (A3, 29, [.int .i64 M3, .int .i64 E3])] wx)
      case first => as_aux_lemma =>
        have hI : Inv w [] wr := ⟨HI.out.kept, fun i x hx => by simp at hx⟩
        go_region
        all_goals
          go_wp2_with fail
          go_meet
          (refine ⟨_, _, _, _, rfl, rfl, rfl, rfl, four_blocks ?_ ?_ ?_ ?_ ?_⟩)
          all_goals (repeat' (first | (with_reducible assumption) | (with_reducible exact Own.new _ _ _) | (with_reducible exact Own.new1 _ _ _ _) | (with_reducible exact Own.new2 _ _ _ _ _) | (with_reducible exact Own.new3 _ _ _ _ _ _) | ((with_reducible refine Own.new' ?_); simp; done) | (with_reducible refine Own.put' (l := ?_) ?_ _ _ ?_) | (with_reducible refine Own.alloc ?_ _) | (with_reducible refine Own.drew ?_) | (with_reducible refine Own.far ?_ ?_ _) | (with_reducible refine Inv.drew ?_) | (with_reducible refine Inv.alloc ?_ _) | (with_reducible refine Inv.far ?_ ?_ ?_ ?_ ?_ _) | rfl | omega | (simp; done) | (simp; omega)))
      case rest =>
        obtain ⟨A0, A1, A2, A3, rfl, rfl, rfl, rfl, hI⟩ := hcut
        clear HI e1 e2 e3 q1_0 q1_1 q1_2 q1_3 q1_4 q1_5 q1_6 q1_7 q1f q1l wrt wrk wrg wrg0 wrz
        have q0_0 : wc.cell? ⟨A0, 0, none⟩ = some (.int .i64 M0) := (hI.own 0 _ rfl).cell 0
        have q0_1 : wc.cell? ⟨A0, 1, none⟩ = some (.int .i64 E0) := (hI.own 0 _ rfl).cell 1
        have q0f := fun i => (hI.own 0 _ rfl).frozen i
        have q0l : A0 < wc.heap.size := (hI.own 0 _ rfl).lt
        have q1_0 : wc.cell? ⟨A1, 0, none⟩ = some (.int .i64 M1) := (hI.own 1 _ rfl).cell 0
        have q1_1 : wc.cell? ⟨A1, 1, none⟩ = some (.int .i64 E1) := (hI.own 1 _ rfl).cell 1
        have q1f := fun i => (hI.own 1 _ rfl).frozen i
        have q1l : A1 < wc.heap.size := (hI.own 1 _ rfl).lt
        have q2_0 : wc.cell? ⟨A2, 0, none⟩ = some (.int .i64 M2) := (hI.own 2 _ rfl).cell 0
        have q2_1 : wc.cell? ⟨A2, 1, none⟩ = some (.int .i64 E2) := (hI.own 2 _ rfl).cell 1
        have q2f := fun i => (hI.own 2 _ rfl).frozen i
        have q2l : A2 < wc.heap.size := (hI.own 2 _ rfl).lt
        have q3_0 : wc.cell? ⟨A3, 0, none⟩ = some (.int .i64 M3) := (hI.own 3 _ rfl).cell 0
        have q3_1 : wc.cell? ⟨A3, 1, none⟩ = some (.int .i64 E3) := (hI.own 3 _ rfl).cell 1
        have q3f := fun i => (hI.own 3 _ rfl).frozen i
        have q3l : A3 < wc.heap.size := (hI.own 3 _ rfl).lt
        (have wct := hI.kept.1; have wck := hI.kept; have wcg := hI.kept.1.lt; have wcg0 := hI.kept.1.lt0; have wcz := hI.kept.2.size)
        have HI := Lib.hid hI
        clear hI
        go_upto_if 55 with fail
        have HNE : Hid (A0 ≠ wc.heap.size ∧ A1 ≠ wc.heap.size ∧ A2 ≠ wc.heap.size ∧ A3 ≠ wc.heap.size ∧ w.heap.size ≤ wc.heap.size) := Lib.hid ⟨by omega, by omega, by omega, by omega, by have := wck.2.size; omega⟩
        have hJ := HI.out.grow 29 [.int .i64 M2, .int .i64 E2]
        clear HI q0_0 q0_1 q0f q0l q1_0 q1_1 q1f q1l q2_0 q2_1 q2f q2l q3_0 q3_1 q3f q3l wct wck wcg wcg0 wcz
        have hne : A0 ≠ wc.heap.size ∧ A1 ≠ wc.heap.size ∧ A2 ≠ wc.heap.size ∧ A3 ≠ wc.heap.size ∧ w.heap.size ≤ wc.heap.size := HNE.out
        change Inv w [(A0, 29, [.int .i64 M0, .int .i64 E0]), (A1, 29, [.int .i64 M1, .int .i64 E1]), (A2, 29, [.int .i64 M2, .int .i64 E2]), (A3, 29, [.int .i64 M3, .int .i64 E3]), (wc.heap.size, 29, [.int .i64 M2, .int .i64 E2])] _ at hJ
        generalize wc.alloc (.cells #[.int .i64 M2, .int .i64 E2] 29) = W5 at hJ ⊢
        clear HNE
        generalize wc.heap.size = A4 at hJ hne ⊢
        have q0_0 : W5.cell? ⟨A0, 0, none⟩ = some (.int .i64 M0) := (hJ.own 0 _ rfl).cell 0
        have q0_1 : W5.cell? ⟨A0, 1, none⟩ = some (.int .i64 E0) := (hJ.own 0 _ rfl).cell 1
        have q0f := fun i => (hJ.own 0 _ rfl).frozen i
        have q0l : A0 < W5.heap.size := (hJ.own 0 _ rfl).lt
        have q1_0 : W5.cell? ⟨A1, 0, none⟩ = some (.int .i64 M1) := (hJ.own 1 _ rfl).cell 0
        have q1_1 : W5.cell? ⟨A1, 1, none⟩ = some (.int .i64 E1) := (hJ.own 1 _ rfl).cell 1
        have q1f := fun i => (hJ.own 1 _ rfl).frozen i
        have q1l : A1 < W5.heap.size := (hJ.own 1 _ rfl).lt
        have q2_0 : W5.cell? ⟨A2, 0, none⟩ = some (.int .i64 M2) := (hJ.own 2 _ rfl).cell 0
        have q2_1 : W5.cell? ⟨A2, 1, none⟩ = some (.int .i64 E2) := (hJ.own 2 _ rfl).cell 1
        have q2f := fun i => (hJ.own 2 _ rfl).frozen i
        have q2l : A2 < W5.heap.size := (hJ.own 2 _ rfl).lt
        have q3_0 : W5.cell? ⟨A3, 0, none⟩ = some (.int .i64 M3) := (hJ.own 3 _ rfl).cell 0
        have q3_1 : W5.cell? ⟨A3, 1, none⟩ = some (.int .i64 E3) := (hJ.own 3 _ rfl).cell 1
        have q3f := fun i => (hJ.own 3 _ rfl).frozen i
        have q3l : A3 < W5.heap.size := (hJ.own 3 _ rfl).lt
        have q4_0 : W5.cell? ⟨A4, 0, none⟩ = some (.int .i64 M2) := (hJ.own 4 _ rfl).cell 0
        have q4_1 : W5.cell? ⟨A4, 1, none⟩ = some (.int .i64 E2) := (hJ.own 4 _ rfl).cell 1
        have q4f := fun i => (hJ.own 4 _ rfl).frozen i
        have q4l : A4 < W5.heap.size := (hJ.own 4 _ rfl).lt
        (have W5t := hJ.kept.1; have W5k := hJ.kept; have W5g := hJ.kept.1.lt; have W5g0 := hJ.kept.1.lt0; have W5z := hJ.kept.2.size)
        have HI := Lib.hid hJ
        clear hJ
        go_cut [] (fun wx => Inv w [(A0, 29, [.int .i64 M0, .int .i64 E0]), (A1, 29, [.int .i64 M1, .int .i64 E1]), (A2, 29, [.int .i64 M2, .int .i64 E2]), (A3, 29, [.int .i64 M3, .int .i64 E3]), (A4, 29, [.int .i64 M3, .int .i64 E3])] wx)
        case first => as_aux_lemma =>
          obtain ⟨n0, n1, n2, n3, n4⟩ := hne
          have l2 := HL4.out.2.2.1
          have l3 := HL4.out.2.2.2
          clear HL4
          have HNN : Hid (∀ x ∈ ([(A0, 29, [.int .i64 M0, .int .i64 E0]), (A1, 29, [.int .i64 M1, .int .i64 E1]), (A2, 29, [.int .i64 M2, .int .i64 E2]), (A3, 29, [.int .i64 M3, .int .i64 E3])] : List (Nat × TypeId × List Value)), x.1 ≠ A4) := Lib.hid (by intro x hx; simp only [List.mem_cons, List.not_mem_nil, or_false] at hx; rcases hx with rfl | rfl | rfl | rfl <;> assumption)
          by_cases hp : M2 < 0
          · have hpd : decide (M2 < 0) = true := decide_eq_true hp
            rw [if_pos hp] at l2 l3
            subst l2 l3
            go_wp2_with fail
            go_meet
            exact put_last (bs := [_, _, _, _]) (put_last (bs := [_, _, _, _]) HI.out HNN.out n4 hlt hlt0 0 _) HNN.out n4 hlt hlt0 1 _
          · have hpd : decide (M2 < 0) = false := decide_eq_false hp
            rw [if_neg hp] at l2 l3
            subst l2 l3
            go_wp2_with fail
            go_meet
            exact HI.out
        case rest =>
          have hI := hcut
          have l0 := HL4.out.1
          have L1 := Lib.hid HL4.out.2.1
          clear HI hne HL4 q0_0 q0_1 q0f q0l q1_0 q1_1 q1f q1l q2_0 q2_1 q2f q2l q3_0 q3_1 q3f q3l q4_0 q4_1 q4f q4l W5t W5k W5g W5g0 W5z
          have q0_0 : wc.cell? ⟨A0, 0, none⟩ = some (.int .i64 M0) := (hI.own 0 _ rfl).cell 0
          have q0_1 : wc.cell? ⟨A0, 1, none⟩ = some (.int .i64 E0) := (hI.own 0 _ rfl).cell 1
          have q0f := fun i => (hI.own 0 _ rfl).frozen i
          have q0l : A0 < wc.heap.size := (hI.own 0 _ rfl).lt
          have q1_0 : wc.cell? ⟨A1, 0, none⟩ = some (.int .i64 M1) := (hI.own 1 _ rfl).cell 0
          have q1_1 : wc.cell? ⟨A1, 1, none⟩ = some (.int .i64 E1) := (hI.own 1 _ rfl).cell 1
          have q1f := fun i => (hI.own 1 _ rfl).frozen i
          have q1l : A1 < wc.heap.size := (hI.own 1 _ rfl).lt
          have q2_0 : wc.cell? ⟨A2, 0, none⟩ = some (.int .i64 M2) := (hI.own 2 _ rfl).cell 0
          have q2_1 : wc.cell? ⟨A2, 1, none⟩ = some (.int .i64 E2) := (hI.own 2 _ rfl).cell 1
          have q2f := fun i => (hI.own 2 _ rfl).frozen i
          have q2l : A2 < wc.heap.size := (hI.own 2 _ rfl).lt
          have q3_0 : wc.cell? ⟨A3, 0, none⟩ = some (.int .i64 M3) := (hI.own 3 _ rfl).cell 0
          have q3_1 : wc.cell? ⟨A3, 1, none⟩ = some (.int .i64 E3) := (hI.own 3 _ rfl).cell 1
          have q3f := fun i => (hI.own 3 _ rfl).frozen i
          have q3l : A3 < wc.heap.size := (hI.own 3 _ rfl).lt
          have q4_0 : wc.cell? ⟨A4, 0, none⟩ = some (.int .i64 M3) := (hI.own 4 _ rfl).cell 0
          have q4_1 : wc.cell? ⟨A4, 1, none⟩ = some (.int .i64 E3) := (hI.own 4 _ rfl).cell 1
          have q4f := fun i => (hI.own 4 _ rfl).frozen i
          have q4l : A4 < wc.heap.size := (hI.own 4 _ rfl).lt
          (have wct := hI.kept.1; have wck := hI.kept; have wcg := hI.kept.1.lt; have wcg0 := hI.kept.1.lt0; have wcz := hI.kept.2.size)
          have hK := hI.kept
          have HI := Lib.hid hI
          clear hI
          have hdd : decide (d ≤ 0) = true := decide_eq_true l0
          clear l0
          by_cases h1 : M0 = M1 ∧ E0 = E1
          · obtain ⟨rfl, rfl⟩ := h1
            go_wp2_with (first | (go_at_call 39; (with_reducible refine (HC.out _ (by repeat' (first | (with_reducible assumption) | (with_reducible refine Tab.alloc ?_ _) | (with_reducible refine Tab.drew ?_) | (with_reducible refine Tab.drewN ?_ _) | (with_reducible refine Tab.setCell ?_ ?_ ?_ _) | omega | (simp; done) | (simp; omega)))).mono ?_); rintro e w4 ⟨rfl, hk4⟩; obtain ⟨hc4, hf4⟩ := bcell hk4.2; have ht4 := hk4.1; have hz4 := hk4.2.size; (try simp only [World.size_alloc] at hz4); (try simp only [sz_drew] at hz4); (try simp only [sz_drewN] at hz4); (try simp only [World.size_alloc] at hz4); (try simp only [sz_drew] at hc4 hf4); (try simp only [sz_drewN] at hc4 hf4); (try have hw4 : w.heap.size < w4.heap.size := by omega); (try have hv4 : w.heap.size + 1 < w4.heap.size := by omega); (try have hu4 : w.heap.size + 2 < w4.heap.size := by omega)))
            go_returns
            exact ⟨rfl, (by repeat' (first | (with_reducible assumption) | (with_reducible exact Kept.refl ht) | (with_reducible refine Kept.alloc ?_ _) | (with_reducible refine Kept.drew ?_) | (with_reducible refine Kept.drewN ?_ _) | (with_reducible refine Kept.setCell ?_ ?_ _ ?_ ?_) | (with_reducible refine Kept.trans ?_ (by assumption)) | omega | (simp; done) | (simp; omega)))⟩
          · have h2 := L1.out.resolve_left h1
            obtain ⟨rfl, rfl⟩ := h2
            by_cases hm : M0 = M1
            · have he : (E0 == E1) = false := by simp only [beq_eq_false_iff_ne]; exact fun h => h1 ⟨hm, h⟩
              subst hm
              go_wp2_with (first | (go_at_call 39; (with_reducible refine (HC.out _ (by repeat' (first | (with_reducible assumption) | (with_reducible refine Tab.alloc ?_ _) | (with_reducible refine Tab.drew ?_) | (with_reducible refine Tab.drewN ?_ _) | (with_reducible refine Tab.setCell ?_ ?_ ?_ _) | omega | (simp; done) | (simp; omega)))).mono ?_); rintro e w4 ⟨rfl, hk4⟩; obtain ⟨hc4, hf4⟩ := bcell hk4.2; have ht4 := hk4.1; have hz4 := hk4.2.size; (try simp only [World.size_alloc] at hz4); (try simp only [sz_drew] at hz4); (try simp only [sz_drewN] at hz4); (try simp only [World.size_alloc] at hz4); (try simp only [sz_drew] at hc4 hf4); (try simp only [sz_drewN] at hc4 hf4); (try have hw4 : w.heap.size < w4.heap.size := by omega); (try have hv4 : w.heap.size + 1 < w4.heap.size := by omega); (try have hu4 : w.heap.size + 2 < w4.heap.size := by omega)))
              go_returns
              exact ⟨rfl, (by repeat' (first | (with_reducible assumption) | (with_reducible exact Kept.refl ht) | (with_reducible refine Kept.alloc ?_ _) | (with_reducible refine Kept.drew ?_) | (with_reducible refine Kept.drewN ?_ _) | (with_reducible refine Kept.setCell ?_ ?_ _ ?_ ?_) | (with_reducible refine Kept.trans ?_ (by assumption)) | omega | (simp; done) | (simp; omega)))⟩
            · have hmb : (M0 == M1) = false := by simpa using hm
              go_wp2_with (first | (go_at_call 39; (with_reducible refine (HC.out _ (by repeat' (first | (with_reducible assumption) | (with_reducible refine Tab.alloc ?_ _) | (with_reducible refine Tab.drew ?_) | (with_reducible refine Tab.drewN ?_ _) | (with_reducible refine Tab.setCell ?_ ?_ ?_ _) | omega | (simp; done) | (simp; omega)))).mono ?_); rintro e w4 ⟨rfl, hk4⟩; obtain ⟨hc4, hf4⟩ := bcell hk4.2; have ht4 := hk4.1; have hz4 := hk4.2.size; (try simp only [World.size_alloc] at hz4); (try simp only [sz_drew] at hz4); (try simp only [sz_drewN] at hz4); (try simp only [World.size_alloc] at hz4); (try simp only [sz_drew] at hc4 hf4); (try simp only [sz_drewN] at hc4 hf4); (try have hw4 : w.heap.size < w4.heap.size := by omega); (try have hv4 : w.heap.size + 1 < w4.heap.size := by omega); (try have hu4 : w.heap.size + 2 < w4.heap.size := by omega)))
              go_returns
              exact ⟨rfl, (by repeat' (first | (with_reducible assumption) | (with_reducible exact Kept.refl ht) | (with_reducible refine Kept.alloc ?_ _) | (with_reducible refine Kept.drew ?_) | (with_reducible refine Kept.drewN ?_ _) | (with_reducible refine Kept.setCell ?_ ?_ _ ?_ ?_) | (with_reducible refine Kept.trans ?_ (by assumption)) | omega | (simp; done) | (simp; omega)))⟩
end Go.Proofs.YtcmgphfcpgebfaaDoor
