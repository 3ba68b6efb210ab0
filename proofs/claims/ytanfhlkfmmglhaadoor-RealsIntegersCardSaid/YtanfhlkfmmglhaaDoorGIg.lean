/- The reference's Compare. Condition: the tables hold what their initialisers lay. -/
import Derived.Test.YtanfhlkfmmglhaaDoorGIe
import Derived.Test.YtanfhlkfmmglhaaDoorGLaw
import Derived.Test.YtanfhlkfmmglhaaDoorGRt
import Derived.IntWalk
import Derived.Test.YtanfhlkfmmglhaaDoorGBrk
namespace Go.Proofs.YtanfhlkfmmglhaaDoor
open Go.ChangeShapes Go.WideShapes Go.ChangeAt Go.RowKit
attribute [local go_sem ↓] Go.wp_at_zero Go.wp_at_succ

theorem rsgn_any (a : Int) (w : World) : Calls Tryd.prog 55 #[.int .i64 a] w fun x w' => x = .returned (.int .i64 (sgn a)) ∧ w = w' := by
  unfold sgn
  split
  · exact rsgn_neg a w (by assumption)
  · split
    · exact rsgn_pos a w (by assumption)
    · exact rsgn_zero a w (by omega)
theorem cmpN_big {x y g : Nat} (hx : x ≠ 0) (hy : y < 10 ^ 20) (hg : 20 ≤ g) : cmpN (x * 10 ^ g) y = 1 := by
  have h1 : 10 ^ 20 ≤ 10 ^ g := Nat.pow_le_pow_right (by decide) hg
  have h2 : 1 * 10 ^ g ≤ x * 10 ^ g := Nat.mul_le_mul_right _ (by omega)
  have h3 : y < x * 10 ^ g := by omega
  unfold cmpN
  rw [if_neg (by omega), if_pos h3]
theorem cm_swap (a e b f : Int) : cm b f a e = - cm a e b f := by
  unfold cm
  rcases (by omega : e < f ∨ f < e ∨ e = f) with h | h | h
  · rw [if_neg (by omega), if_pos h, Int.neg_neg]
  · rw [if_pos h, if_neg (by omega)]
  · subst h
    rw [if_neg (by omega), if_neg (by omega)]
    unfold cmG
    rw [if_neg (by omega), if_neg (by omega), Int.sub_self]
    show cmpN (mag b * 10 ^ 0) (mag a) = - cmpN (mag a * 10 ^ 0) (mag b)
    rw [Nat.pow_zero, Nat.mul_one, Nat.mul_one]
    exact cmpN_swap _ _
set_option maxRecDepth 100000 in
set_option maxHeartbeats 4000000 in
theorem rlarger_lt (a e b f c d : Int) (w : World) (ht : Tab w) (hef : e < f) (hc : -1 ≤ c) (hc' : c ≤ 1) (hcd : -c = d)
    (hR : ∀ w, Tab w → Calls Tryd.prog 58 #[.agg #[.int .i64 b, .int .i64 f], .agg #[.int .i64 a, .int .i64 e]] w fun x w' => x = .returned (.int .i64 c) ∧ Kept w w') :
    Calls Tryd.prog 58 #[.agg #[.int .i64 a, .int .i64 e], .agg #[.int .i64 b, .int .i64 f]] w fun x w' => x = .returned (.int .i64 d) ∧ Kept w w' := by
  have hlt := ht.lt
  have hlt0 := ht.lt0
  have HR := Lib.hid hR
  have HD := Lib.hid hcd
  clear hR hcd
  go_enter Tryd.func58, Tryd.ntmps58
  go_wp2_with (first | (go_at_call 58; (with_reducible refine (HR.out _ (by repeat' (first | (with_reducible assumption) | (with_reducible refine Tab.alloc ?_ _) | (with_reducible refine Tab.drew ?_) | (with_reducible refine Tab.drewN ?_ _) | (with_reducible refine Tab.setCell ?_ ?_ ?_ _) | omega | (simp; done) | (simp; omega)))).mono ?_); rintro e w1 ⟨rfl, hk1⟩; obtain ⟨hc1, hf1⟩ := bcell hk1.2; have ht1 := hk1.1; have hz1 := hk1.2.size; (try simp only [World.size_alloc] at hz1); (try simp only [sz_drew] at hz1); (try simp only [sz_drewN] at hz1); (try simp only [World.size_alloc] at hz1); (try simp only [sz_drew] at hc1 hf1); (try simp only [sz_drewN] at hc1 hf1); (try have hw1 : w.heap.size < w1.heap.size := by omega); (try have hv1 : w.heap.size + 1 < w1.heap.size := by omega); (try have hu1 : w.heap.size + 2 < w1.heap.size := by omega)))
  go_returns
  exact ⟨by rw [← HD.out]; rfl, (by repeat' (first | (with_reducible assumption) | (with_reducible exact Kept.refl ht) | (with_reducible refine Kept.alloc ?_ _) | (with_reducible refine Kept.drew ?_) | (with_reducible refine Kept.drewN ?_ _) | (with_reducible refine Kept.setCell ?_ ?_ _ ?_ ?_) | (with_reducible refine Kept.trans ?_ (by assumption)) | omega | (simp; done) | (simp; omega)))⟩
set_option maxRecDepth 100000 in
set_option maxHeartbeats 4000000 in
theorem rlarger_far (a e b f g : Int) (w : World) (ht : Tab w) (hg : e - f = g) (hg2 : 40 < g) (hg3 : g < 18446744073709551616) :
    Calls Tryd.prog 58 #[.agg #[.int .i64 a, .int .i64 e], .agg #[.int .i64 b, .int .i64 f]] w fun x w' => x = .returned (.int .i64 1) ∧ Kept w w' := by
  have hlt := ht.lt
  have hlt0 := ht.lt0
  have hW := gap_wrap hg (by omega) (by omega)
  have hef : decide (e < f) = false := decide_eq_false (by omega)
  have hd2 : decide (g ≤ (40 : Int)) = false := decide_eq_false (by omega)
  clear hg
  go_enter Tryd.func58, Tryd.ntmps58
  go_wp2
  go_returns
  exact ⟨rfl, (by repeat' (first | (with_reducible assumption) | (with_reducible exact Kept.refl ht) | (with_reducible refine Kept.alloc ?_ _) | (with_reducible refine Kept.drew ?_) | (with_reducible refine Kept.drewN ?_ _) | (with_reducible refine Kept.setCell ?_ ?_ _ ?_ ?_) | (with_reducible refine Kept.trans ?_ (by assumption)) | omega | (simp; done) | (simp; omega)))⟩
set_option maxRecDepth 100000 in
set_option maxHeartbeats 8000000 in
theorem rlarger_near (a e b f : Int) (d X Y : Nat) (w : World) (ht : Tab w) (la : -9223372036854775808 ≤ a) (ha : a ≤ 9223372036854775807) (lb : -9223372036854775808 ≤ b) (hb : b ≤ 9223372036854775807)
    (hg : e - f = (d : Int)) (hd : d ≤ 40) (hX : mag a * 10 ^ d = X) (hY : mag b = Y) :
    Calls Tryd.prog 58 #[.agg #[.int .i64 a, .int .i64 e], .agg #[.int .i64 b, .int .i64 f]] w fun x w' => x = .returned (.int .i64 (cmpN X Y)) ∧ Kept w w' := by
  have hlt := ht.lt
  have hlt0 := ht.lt0
  have hW := gap_wrap hg (by omega) (by omega)
  have hef : decide (e < f) = false := decide_eq_false (by omega)
  have hd2 : decide ((d : Int) ≤ (40 : Int)) = true := decide_eq_true (by omega)
  have hdn : (0 : Int) ≤ (d : Int) := by omega
  have hwd : IntKind.i64.wrap (d : Int) = (d : Int) := IntWalk.i64_in _ (by omega)
  have hda : dg (mag a) ≤ 20 := (dg_iff _ 20).2 (by have : mag a ≤ 9223372036854775808 := mag_lt la ha; rw [show (10 : Nat) ^ 20 = 100000000000000000000 by decide]; omega)
  have hdX : dg X ≤ 1000000 := by rw [← hX]; have h1 := dg_mulle (mag a) (10 ^ d); have h2 : dg (10 ^ d) ≤ d + 1 := (dg_iff _ _).2 (Nat.pow_lt_pow_right (by omega) (by omega)); omega
  have h1 := fun w ht => Of_any a w ht la ha
  have h2 := fun w ht => Of_any b w ht lb hb
  rw [hY] at h2
  have H1 := Lib.hid h1
  have H2 := Lib.hid h2
  have H3 : Hid (∀ W, Tab W → ∀ v, Sl W v (ds (mag a)) → Calls Tryd.prog 47 #[v, .int .i64 (d : Int)] W fun e w' => ∃ v', e = .returned v' ∧ Sl w' v' (ds X) ∧ Kept W w') := Lib.hid (fun W h v h2 => by rw [← hX]; exact refshift v (mag a) d W h h2 (by omega) (by omega))
  have H4 : Hid (∀ W, Tab W → ∀ v u, Sl W v (ds X) → Sl W u (ds Y) → Calls Tryd.prog 79 #[v, u] W fun e w' => e = .returned (.int .i64 (cmpN X Y)) ∧ Kept W w') := Lib.hid (fun W h v u h1 h2 => refcmp v u X Y W h h1 h2 hdX)
  clear h1 h2 hX hY hg la ha lb hb hda hdX
  have HP : Hid (∀ w', Inv w [(w.heap.size, 25, [.int .i64 a, .int .i64 e]), (w.heap.size + 1, 25, [.int .i64 b, .int .i64 f])] w' → Inv w [(w.heap.size, 25, [.int .i64 a, .int .i64 e]), (w.heap.size + 1, 25, [.int .i64 b, .int .i64 f])] w' ∧ Tab w' ∧ w'.cell? ⟨w.heap.size, 0, none⟩ = some (.int .i64 a) ∧ w'.cell? ⟨w.heap.size, 1, none⟩ = some (.int .i64 e) ∧ w'.cell? ⟨w.heap.size + 1, 0, none⟩ = some (.int .i64 b) ∧ w'.cell? ⟨w.heap.size + 1, 1, none⟩ = some (.int .i64 f)) := Lib.hid (fun w' h => ⟨h, h.kept.1, (h.own 0 _ rfl).cell 0, (h.own 0 _ rfl).cell 1, (h.own 1 _ rfl).cell 0, (h.own 1 _ rfl).cell 1⟩)
  go_enter Tryd.func58, Tryd.ntmps58
  go_upto_region 5 with fail
  have hI := Inv.two ht 25 [.int .i64 a, .int .i64 e] 25 [.int .i64 b, .int .i64 f]
  go_region_held3 (fun w' => Inv w [(w.heap.size, 25, [.int .i64 a, .int .i64 e]), (w.heap.size + 1, 25, [.int .i64 b, .int .i64 f])] w' ∧ Tab w' ∧ w'.cell? ⟨w.heap.size, 0, none⟩ = some (.int .i64 a) ∧ w'.cell? ⟨w.heap.size, 1, none⟩ = some (.int .i64 e) ∧ w'.cell? ⟨w.heap.size + 1, 0, none⟩ = some (.int .i64 b) ∧ w'.cell? ⟨w.heap.size + 1, 1, none⟩ = some (.int .i64 f)) ((refine HP.out _ ?_; repeat' (first | (with_reducible assumption) | (with_reducible refine Inv.drew ?_) | (with_reducible refine Inv.alloc ?_ _) | (with_reducible refine Inv.call ?_ (by assumption)) | (with_reducible refine Inv.far ?_ ?_ ?_ ?_ ?_ _) | omega | (simp; done) | (simp; omega))))
    (first | (go_at_call 44; (with_reducible refine (H1.out _ (by repeat' (first | (with_reducible assumption) | (with_reducible refine Tab.alloc ?_ _) | (with_reducible refine Tab.drew ?_) | (with_reducible refine Tab.drewN ?_ _) | (with_reducible refine Tab.setCell ?_ ?_ ?_ _) | omega | (simp; done) | (simp; omega)))).mono ?_); rintro e1 w1 ⟨v1, rfl, hs1, hk1, -⟩; have HS1 := Lib.hid hs1; clear hs1; obtain ⟨hc1, hf1⟩ := bcell hk1.2; have ht1 := hk1.1; have hz1 := hk1.2.size; (try simp only [World.size_alloc] at hz1); (try simp only [sz_drew] at hz1); (try simp only [sz_drewN] at hz1); (try simp only [World.size_alloc] at hz1); (try simp only [sz_drew] at hc1 hf1); (try simp only [sz_drewN] at hc1 hf1); (try have hw1 : w.heap.size < w1.heap.size := by omega); (try have hv1 : w.heap.size + 1 < w1.heap.size := by omega); (try have hu1 : w.heap.size + 2 < w1.heap.size := by omega)) | (go_at_call 44; (with_reducible refine (H2.out _ (by repeat' (first | (with_reducible assumption) | (with_reducible refine Tab.alloc ?_ _) | (with_reducible refine Tab.drew ?_) | (with_reducible refine Tab.drewN ?_ _) | (with_reducible refine Tab.setCell ?_ ?_ ?_ _) | omega | (simp; done) | (simp; omega)))).mono ?_); rintro e3 w3 ⟨v3, rfl, hs3, hk3, -⟩; have HS3 := Lib.hid hs3; clear hs3; obtain ⟨hc3, hf3⟩ := bcell hk3.2; have ht3 := hk3.1; have hz3 := hk3.2.size; (try simp only [World.size_alloc] at hz3); (try simp only [sz_drew] at hz3); (try simp only [sz_drewN] at hz3); (try simp only [World.size_alloc] at hz3); (try simp only [sz_drew] at hc3 hf3); (try simp only [sz_drewN] at hc3 hf3); (try have hw3 : w.heap.size < w3.heap.size := by omega); (try have hv3 : w.heap.size + 1 < w3.heap.size := by omega); (try have hu3 : w.heap.size + 2 < w3.heap.size := by omega)) | (go_at_call 47; (with_reducible refine Calls.mono (H3.out _ (by repeat' (first | (with_reducible assumption) | (with_reducible refine Tab.alloc ?_ _) | (with_reducible refine Tab.drew ?_) | (with_reducible refine Tab.drewN ?_ _) | (with_reducible refine Tab.setCell ?_ ?_ ?_ _) | omega | (simp; done) | (simp; omega))) _ ?_) ?_); (focus (have HS1o := HS1.out; (repeat' (first | (with_reducible assumption) | (with_reducible refine Sl.alloc ?_ _) | (with_reducible refine Sl.drew ?_) | (with_reducible refine Sl.drewN ?_ _) | (with_reducible refine Sl.call ?_ (by assumption)))))); rintro e2 w2 ⟨v2, rfl, hs2, hk2⟩; have HS2 := Lib.hid hs2; clear hs2; obtain ⟨hc2, hf2⟩ := bcell hk2.2; have ht2 := hk2.1; have hz2 := hk2.2.size; (try simp only [World.size_alloc] at hz2); (try simp only [sz_drew] at hz2); (try simp only [sz_drewN] at hz2); (try simp only [World.size_alloc] at hz2); (try simp only [sz_drew] at hc2 hf2); (try simp only [sz_drewN] at hc2 hf2); (try have hw2 : w.heap.size < w2.heap.size := by omega); (try have hv2 : w.heap.size + 1 < w2.heap.size := by omega); (try have hu2 : w.heap.size + 2 < w2.heap.size := by omega)) | (go_at_call 79; (with_reducible refine Calls.mono (H4.out _ (by repeat' (first | (with_reducible assumption) | (with_reducible refine Tab.alloc ?_ _) | (with_reducible refine Tab.drew ?_) | (with_reducible refine Tab.drewN ?_ _) | (with_reducible refine Tab.setCell ?_ ?_ ?_ _) | omega | (simp; done) | (simp; omega))) _ _ ?_ ?_) ?_); (focus (have HS2o := HS2.out; (repeat' (first | (with_reducible assumption) | (with_reducible refine Sl.alloc ?_ _) | (with_reducible refine Sl.drew ?_) | (with_reducible refine Sl.drewN ?_ _) | (with_reducible refine Sl.call ?_ (by assumption)))))); (focus (have HS3o := HS3.out; (repeat' (first | (with_reducible assumption) | (with_reducible refine Sl.alloc ?_ _) | (with_reducible refine Sl.drew ?_) | (with_reducible refine Sl.drewN ?_ _) | (with_reducible refine Sl.call ?_ (by assumption)))))); rintro e4 w4 ⟨rfl, hk4⟩; obtain ⟨hc4, hf4⟩ := bcell hk4.2; have ht4 := hk4.1; have hz4 := hk4.2.size; (try simp only [World.size_alloc] at hz4); (try simp only [sz_drew] at hz4); (try simp only [sz_drewN] at hz4); (try simp only [World.size_alloc] at hz4); (try simp only [sz_drew] at hc4 hf4); (try simp only [sz_drewN] at hc4 hf4); (try have hw4 : w.heap.size < w4.heap.size := by omega); (try have hv4 : w.heap.size + 1 < w4.heap.size := by omega); (try have hu4 : w.heap.size + 2 < w4.heap.size := by omega)))
  go_wp2_with fail
  go_returns
  exact ⟨rfl, (by repeat' (first | (with_reducible assumption) | (with_reducible exact Kept.refl ht) | (with_reducible refine Kept.alloc ?_ _) | (with_reducible refine Kept.drew ?_) | (with_reducible refine Kept.drewN ?_ _) | (with_reducible refine Kept.setCell ?_ ?_ _ ?_ ?_) | (with_reducible refine Kept.trans ?_ (by assumption)) | omega | (simp; done) | (simp; omega)))⟩
theorem rlarger_ge (a e b f : Int) (w : World) (ht : Tab w) (la : -9223372036854775808 ≤ a) (ha : a ≤ 9223372036854775807) (lb : -9223372036854775808 ≤ b) (hb : b ≤ 9223372036854775807)
    (le : -9223372036854775808 ≤ e) (he : e ≤ 9223372036854775807) (lf : -9223372036854775808 ≤ f) (hf : f ≤ 9223372036854775807) (h : f ≤ e) (ha0 : a ≠ 0) :
    Calls Tryd.prog 58 #[.agg #[.int .i64 a, .int .i64 e], .agg #[.int .i64 b, .int .i64 f]] w fun x w' => x = .returned (.int .i64 (cmG (mag a) (mag b) (e - f))) ∧ Kept w w' := by
  have hm : mag a ≠ 0 := by unfold mag; omega
  have hy : mag b < 10 ^ 20 := by have := mag_lt lb hb; rw [show (10 : Nat) ^ 20 = 100000000000000000000 by decide]; omega
  by_cases hg : 40 < e - f
  · have hX : cmG (mag a) (mag b) (e - f) = 1 := by unfold cmG; rw [if_pos (by omega)]
    rw [hX]
    exact rlarger_far a e b f (e - f) w ht rfl hg (by omega)
  · have hX : cmG (mag a) (mag b) (e - f) = cmpN (mag a * 10 ^ (e - f).toNat) (mag b) := by
      unfold cmG
      by_cases h19 : 19 < e - f
      · rw [if_pos h19, cmpN_big hm hy (by omega)]
      · rw [if_neg h19]
    rw [hX]
    exact rlarger_near a e b f (e - f).toNat _ _ w ht la ha lb hb (by omega) (by omega) rfl rfl
theorem rlarger_any (a e b f : Int) (w : World) (ht : Tab w) (la : -9223372036854775808 ≤ a) (ha : a ≤ 9223372036854775807) (lb : -9223372036854775808 ≤ b) (hb : b ≤ 9223372036854775807)
    (le : -9223372036854775808 ≤ e) (he : e ≤ 9223372036854775807) (lf : -9223372036854775808 ≤ f) (hf : f ≤ 9223372036854775807) (ha0 : a ≠ 0) (hb0 : b ≠ 0) :
    Calls Tryd.prog 58 #[.agg #[.int .i64 a, .int .i64 e], .agg #[.int .i64 b, .int .i64 f]] w fun x w' => x = .returned (.int .i64 (cm a e b f)) ∧ Kept w w' := by
  unfold cm
  by_cases h : e < f
  · rw [if_pos h]
    obtain ⟨h1, h2⟩ := cmG_bd (mag b) (mag a) (f - e)
    exact rlarger_lt a e b f (cmG (mag b) (mag a) (f - e)) _ w ht h h1 h2 rfl (fun w ht => rlarger_ge b f a e w ht lb hb la ha lf hf le he (by omega) hb0)
  · rw [if_neg h]
    exact rlarger_ge a e b f w ht la ha lb hb le he lf hf (by omega) ha0
set_option maxRecDepth 100000 in
set_option maxHeartbeats 4000000 in
theorem rcomp_lt (a e b f : Int) (w : World) (ht : Tab w) (p q : Int) (hp : sgn a = p) (hq : sgn b = q) (h : p < q) (_b1 : -1 ≤ p) (_b2 : q ≤ 1) :
    Calls Tryd.prog 26 #[.agg #[.int .i64 a, .int .i64 e], .agg #[.int .i64 b, .int .i64 f]] w fun x w' => x = .returned (.int .i64 (-1)) ∧ Kept w w' := by
  have hlt := ht.lt
  have hlt0 := ht.lt0
  have h1 := fun w => rsgn_any a w
  have h2 := fun w => rsgn_any b w
  rw [hp] at h1
  rw [hq] at h2
  clear hp hq
  have hne : (p != q) = true := by rw [bne_iff_ne]; omega
  have H1 := Lib.hid h1
  have H2 := Lib.hid h2
  clear h1 h2
  have HP : Hid (∀ w', Inv w [(w.heap.size, 25, [.int .i64 a, .int .i64 e]), (w.heap.size + 1, 25, [.int .i64 b, .int .i64 f])] w' → Inv w [(w.heap.size, 25, [.int .i64 a, .int .i64 e]), (w.heap.size + 1, 25, [.int .i64 b, .int .i64 f])] w' ∧ Tab w' ∧ w'.cell? ⟨w.heap.size, 0, none⟩ = some (.int .i64 a) ∧ w'.cell? ⟨w.heap.size, 1, none⟩ = some (.int .i64 e) ∧ w'.cell? ⟨w.heap.size + 1, 0, none⟩ = some (.int .i64 b) ∧ w'.cell? ⟨w.heap.size + 1, 1, none⟩ = some (.int .i64 f)) := Lib.hid (fun w' h => ⟨h, h.kept.1, (h.own 0 _ rfl).cell 0, (h.own 0 _ rfl).cell 1, (h.own 1 _ rfl).cell 0, (h.own 1 _ rfl).cell 1⟩)
  go_enter Tryd.func26, Tryd.ntmps26
  go_upto_region 1 with fail
  have hI := Inv.two ht 25 [.int .i64 a, .int .i64 e] 25 [.int .i64 b, .int .i64 f]
  go_region_held3 (fun w' => Inv w [(w.heap.size, 25, [.int .i64 a, .int .i64 e]), (w.heap.size + 1, 25, [.int .i64 b, .int .i64 f])] w' ∧ Tab w' ∧ w'.cell? ⟨w.heap.size, 0, none⟩ = some (.int .i64 a) ∧ w'.cell? ⟨w.heap.size, 1, none⟩ = some (.int .i64 e) ∧ w'.cell? ⟨w.heap.size + 1, 0, none⟩ = some (.int .i64 b) ∧ w'.cell? ⟨w.heap.size + 1, 1, none⟩ = some (.int .i64 f)) ((refine HP.out _ ?_; repeat' (first | (with_reducible assumption) | (with_reducible refine Inv.drew ?_) | (with_reducible refine Inv.alloc ?_ _) | (with_reducible refine Inv.call ?_ (by assumption)) | (with_reducible refine Inv.far ?_ ?_ ?_ ?_ ?_ _) | omega | (simp; done) | (simp; omega)))) (first | (go_at_call 55; (with_reducible refine (H1.out _).mono ?_); rintro e w' ⟨rfl, rfl⟩) | (go_at_call 55; (with_reducible refine (H2.out _).mono ?_); rintro e w' ⟨rfl, rfl⟩))
  go_wp2_with fail
  go_returns
  exact ⟨rfl, (by repeat' (first | (with_reducible assumption) | (with_reducible exact Kept.refl ht) | (with_reducible refine Kept.alloc ?_ _) | (with_reducible refine Kept.drew ?_) | (with_reducible refine Kept.drewN ?_ _) | (with_reducible refine Kept.setCell ?_ ?_ _ ?_ ?_) | (with_reducible refine Kept.trans ?_ (by assumption)) | omega | (simp; done) | (simp; omega)))⟩
set_option maxRecDepth 100000 in
set_option maxHeartbeats 4000000 in
theorem rcomp_gt (a e b f : Int) (w : World) (ht : Tab w) (p q : Int) (hp : sgn a = p) (hq : sgn b = q) (h : q < p) (_b1 : -1 ≤ q) (_b2 : p ≤ 1) :
    Calls Tryd.prog 26 #[.agg #[.int .i64 a, .int .i64 e], .agg #[.int .i64 b, .int .i64 f]] w fun x w' => x = .returned (.int .i64 1) ∧ Kept w w' := by
  have hlt := ht.lt
  have hlt0 := ht.lt0
  have h1 := fun w => rsgn_any a w
  have h2 := fun w => rsgn_any b w
  rw [hp] at h1
  rw [hq] at h2
  clear hp hq
  have hne : (p != q) = true := by rw [bne_iff_ne]; omega
  have H1 := Lib.hid h1
  have H2 := Lib.hid h2
  clear h1 h2
  have HP : Hid (∀ w', Inv w [(w.heap.size, 25, [.int .i64 a, .int .i64 e]), (w.heap.size + 1, 25, [.int .i64 b, .int .i64 f])] w' → Inv w [(w.heap.size, 25, [.int .i64 a, .int .i64 e]), (w.heap.size + 1, 25, [.int .i64 b, .int .i64 f])] w' ∧ Tab w' ∧ w'.cell? ⟨w.heap.size, 0, none⟩ = some (.int .i64 a) ∧ w'.cell? ⟨w.heap.size, 1, none⟩ = some (.int .i64 e) ∧ w'.cell? ⟨w.heap.size + 1, 0, none⟩ = some (.int .i64 b) ∧ w'.cell? ⟨w.heap.size + 1, 1, none⟩ = some (.int .i64 f)) := Lib.hid (fun w' h => ⟨h, h.kept.1, (h.own 0 _ rfl).cell 0, (h.own 0 _ rfl).cell 1, (h.own 1 _ rfl).cell 0, (h.own 1 _ rfl).cell 1⟩)
  go_enter Tryd.func26, Tryd.ntmps26
  go_upto_region 1 with fail
  have hI := Inv.two ht 25 [.int .i64 a, .int .i64 e] 25 [.int .i64 b, .int .i64 f]
  go_region_held3 (fun w' => Inv w [(w.heap.size, 25, [.int .i64 a, .int .i64 e]), (w.heap.size + 1, 25, [.int .i64 b, .int .i64 f])] w' ∧ Tab w' ∧ w'.cell? ⟨w.heap.size, 0, none⟩ = some (.int .i64 a) ∧ w'.cell? ⟨w.heap.size, 1, none⟩ = some (.int .i64 e) ∧ w'.cell? ⟨w.heap.size + 1, 0, none⟩ = some (.int .i64 b) ∧ w'.cell? ⟨w.heap.size + 1, 1, none⟩ = some (.int .i64 f)) ((refine HP.out _ ?_; repeat' (first | (with_reducible assumption) | (with_reducible refine Inv.drew ?_) | (with_reducible refine Inv.alloc ?_ _) | (with_reducible refine Inv.call ?_ (by assumption)) | (with_reducible refine Inv.far ?_ ?_ ?_ ?_ ?_ _) | omega | (simp; done) | (simp; omega)))) (first | (go_at_call 55; (with_reducible refine (H1.out _).mono ?_); rintro e w' ⟨rfl, rfl⟩) | (go_at_call 55; (with_reducible refine (H2.out _).mono ?_); rintro e w' ⟨rfl, rfl⟩))
  go_wp2_with fail
  go_returns
  exact ⟨rfl, (by repeat' (first | (with_reducible assumption) | (with_reducible exact Kept.refl ht) | (with_reducible refine Kept.alloc ?_ _) | (with_reducible refine Kept.drew ?_) | (with_reducible refine Kept.drewN ?_ _) | (with_reducible refine Kept.setCell ?_ ?_ _ ?_ ?_) | (with_reducible refine Kept.trans ?_ (by assumption)) | omega | (simp; done) | (simp; omega)))⟩
set_option maxRecDepth 100000 in
set_option maxHeartbeats 4000000 in
theorem rcomp_zero (a e b f : Int) (w : World) (ht : Tab w) (hp : sgn a = 0) (hq : sgn b = 0) :
    Calls Tryd.prog 26 #[.agg #[.int .i64 a, .int .i64 e], .agg #[.int .i64 b, .int .i64 f]] w fun x w' => x = .returned (.int .i64 0) ∧ Kept w w' := by
  have hlt := ht.lt
  have hlt0 := ht.lt0
  have h1 := fun w => rsgn_any a w
  have h2 := fun w => rsgn_any b w
  rw [hp] at h1
  rw [hq] at h2
  clear hp hq
  have H1 := Lib.hid h1
  have H2 := Lib.hid h2
  clear h1 h2
  have HP : Hid (∀ w', Inv w [(w.heap.size, 25, [.int .i64 a, .int .i64 e]), (w.heap.size + 1, 25, [.int .i64 b, .int .i64 f])] w' → Inv w [(w.heap.size, 25, [.int .i64 a, .int .i64 e]), (w.heap.size + 1, 25, [.int .i64 b, .int .i64 f])] w' ∧ Tab w' ∧ w'.cell? ⟨w.heap.size, 0, none⟩ = some (.int .i64 a) ∧ w'.cell? ⟨w.heap.size, 1, none⟩ = some (.int .i64 e) ∧ w'.cell? ⟨w.heap.size + 1, 0, none⟩ = some (.int .i64 b) ∧ w'.cell? ⟨w.heap.size + 1, 1, none⟩ = some (.int .i64 f)) := Lib.hid (fun w' h => ⟨h, h.kept.1, (h.own 0 _ rfl).cell 0, (h.own 0 _ rfl).cell 1, (h.own 1 _ rfl).cell 0, (h.own 1 _ rfl).cell 1⟩)
  go_enter Tryd.func26, Tryd.ntmps26
  go_upto_region 1 with fail
  have hI := Inv.two ht 25 [.int .i64 a, .int .i64 e] 25 [.int .i64 b, .int .i64 f]
  go_region_held3 (fun w' => Inv w [(w.heap.size, 25, [.int .i64 a, .int .i64 e]), (w.heap.size + 1, 25, [.int .i64 b, .int .i64 f])] w' ∧ Tab w' ∧ w'.cell? ⟨w.heap.size, 0, none⟩ = some (.int .i64 a) ∧ w'.cell? ⟨w.heap.size, 1, none⟩ = some (.int .i64 e) ∧ w'.cell? ⟨w.heap.size + 1, 0, none⟩ = some (.int .i64 b) ∧ w'.cell? ⟨w.heap.size + 1, 1, none⟩ = some (.int .i64 f)) ((refine HP.out _ ?_; repeat' (first | (with_reducible assumption) | (with_reducible refine Inv.drew ?_) | (with_reducible refine Inv.alloc ?_ _) | (with_reducible refine Inv.call ?_ (by assumption)) | (with_reducible refine Inv.far ?_ ?_ ?_ ?_ ?_ _) | omega | (simp; done) | (simp; omega)))) (first | (go_at_call 55; (with_reducible refine (H1.out _).mono ?_); rintro e w' ⟨rfl, rfl⟩) | (go_at_call 55; (with_reducible refine (H2.out _).mono ?_); rintro e w' ⟨rfl, rfl⟩))
  go_wp2_with fail
  go_returns
  exact ⟨rfl, (by repeat' (first | (with_reducible assumption) | (with_reducible exact Kept.refl ht) | (with_reducible refine Kept.alloc ?_ _) | (with_reducible refine Kept.drew ?_) | (with_reducible refine Kept.drewN ?_ _) | (with_reducible refine Kept.setCell ?_ ?_ _ ?_ ?_) | (with_reducible refine Kept.trans ?_ (by assumption)) | omega | (simp; done) | (simp; omega)))⟩
set_option maxRecDepth 100000 in
set_option maxHeartbeats 4000000 in
theorem rcomp_neg (a e b f : Int) (w : World) (ht : Tab w) (c d : Int) (hp : sgn a = -1) (hq : sgn b = -1) (c1 : -1 ≤ c) (c2 : c ≤ 1) (hd : -c = d) (HL : Hid (∀ w, Tab w → Calls Tryd.prog 58 #[.agg #[.int .i64 a, .int .i64 e], .agg #[.int .i64 b, .int .i64 f]] w fun x w' => x = .returned (.int .i64 c) ∧ Kept w w')) :
    Calls Tryd.prog 26 #[.agg #[.int .i64 a, .int .i64 e], .agg #[.int .i64 b, .int .i64 f]] w fun x w' => x = .returned (.int .i64 d) ∧ Kept w w' := by
  have hlt := ht.lt
  have hlt0 := ht.lt0
  have h1 := fun w => rsgn_any a w
  have h2 := fun w => rsgn_any b w
  rw [hp] at h1
  rw [hq] at h2
  clear hp hq
  have hm : (-1 : Int) * c = d := by omega
  have HM := Lib.hid hm
  clear hm hd
  have H1 := Lib.hid h1
  have H2 := Lib.hid h2
  clear h1 h2
  have HP : Hid (∀ w', Inv w [(w.heap.size, 25, [.int .i64 a, .int .i64 e]), (w.heap.size + 1, 25, [.int .i64 b, .int .i64 f])] w' → Inv w [(w.heap.size, 25, [.int .i64 a, .int .i64 e]), (w.heap.size + 1, 25, [.int .i64 b, .int .i64 f])] w' ∧ Tab w' ∧ w'.cell? ⟨w.heap.size, 0, none⟩ = some (.int .i64 a) ∧ w'.cell? ⟨w.heap.size, 1, none⟩ = some (.int .i64 e) ∧ w'.cell? ⟨w.heap.size + 1, 0, none⟩ = some (.int .i64 b) ∧ w'.cell? ⟨w.heap.size + 1, 1, none⟩ = some (.int .i64 f)) := Lib.hid (fun w' h => ⟨h, h.kept.1, (h.own 0 _ rfl).cell 0, (h.own 0 _ rfl).cell 1, (h.own 1 _ rfl).cell 0, (h.own 1 _ rfl).cell 1⟩)
  go_enter Tryd.func26, Tryd.ntmps26
  go_upto_region 1 with fail
  have hI := Inv.two ht 25 [.int .i64 a, .int .i64 e] 25 [.int .i64 b, .int .i64 f]
  go_region_held3 (fun w' => Inv w [(w.heap.size, 25, [.int .i64 a, .int .i64 e]), (w.heap.size + 1, 25, [.int .i64 b, .int .i64 f])] w' ∧ Tab w' ∧ w'.cell? ⟨w.heap.size, 0, none⟩ = some (.int .i64 a) ∧ w'.cell? ⟨w.heap.size, 1, none⟩ = some (.int .i64 e) ∧ w'.cell? ⟨w.heap.size + 1, 0, none⟩ = some (.int .i64 b) ∧ w'.cell? ⟨w.heap.size + 1, 1, none⟩ = some (.int .i64 f)) ((refine HP.out _ ?_; repeat' (first | (with_reducible assumption) | (with_reducible refine Inv.drew ?_) | (with_reducible refine Inv.alloc ?_ _) | (with_reducible refine Inv.call ?_ (by assumption)) | (with_reducible refine Inv.far ?_ ?_ ?_ ?_ ?_ _) | omega | (simp; done) | (simp; omega)))) (first | (go_at_call 55; (with_reducible refine (H1.out _).mono ?_); rintro e w' ⟨rfl, rfl⟩) | (go_at_call 55; (with_reducible refine (H2.out _).mono ?_); rintro e w' ⟨rfl, rfl⟩))
  go_upto_region 8 with fail
  (try simp only [Int.reduceNeg])
  go_wp2_with (first | (go_at_call 58; (with_reducible refine (HL.out _ (by repeat' (first | (with_reducible assumption) | (with_reducible refine Tab.alloc ?_ _) | (with_reducible refine Tab.drew ?_) | (with_reducible refine Tab.drewN ?_ _) | (with_reducible refine Tab.setCell ?_ ?_ ?_ _) | omega | (simp; done) | (simp; omega)))).mono ?_); rintro e w5 ⟨rfl, hk5⟩; obtain ⟨hc5, hf5⟩ := bcell hk5.2; have ht5 := hk5.1; have hz5 := hk5.2.size; (try simp only [World.size_alloc] at hz5); (try simp only [sz_drew] at hz5); (try simp only [sz_drewN] at hz5); (try simp only [World.size_alloc] at hz5); (try simp only [sz_drew] at hc5 hf5); (try simp only [sz_drewN] at hc5 hf5); (try have hw5 : w.heap.size < w5.heap.size := by omega); (try have hv5 : w.heap.size + 1 < w5.heap.size := by omega); (try have hu5 : w.heap.size + 2 < w5.heap.size := by omega)))
  go_returns
  exact ⟨by first | rfl | (rw [← HM.out]; rfl) | (rw [HM.out]; rfl) | (rw [← HM.out]; simp; done) | (simp; omega), (by repeat' (first | (with_reducible assumption) | (with_reducible exact Kept.refl ht) | (with_reducible refine Kept.alloc ?_ _) | (with_reducible refine Kept.drew ?_) | (with_reducible refine Kept.drewN ?_ _) | (with_reducible refine Kept.setCell ?_ ?_ _ ?_ ?_) | (with_reducible refine Kept.trans ?_ (by assumption)) | omega | (simp; done) | (simp; omega)))⟩
set_option maxRecDepth 100000 in
set_option maxHeartbeats 4000000 in
theorem rcomp_pos (a e b f : Int) (w : World) (ht : Tab w) (c : Int) (hp : sgn a = 1) (hq : sgn b = 1) (c1 : -1 ≤ c) (c2 : c ≤ 1) (HL : Hid (∀ w, Tab w → Calls Tryd.prog 58 #[.agg #[.int .i64 a, .int .i64 e], .agg #[.int .i64 b, .int .i64 f]] w fun x w' => x = .returned (.int .i64 c) ∧ Kept w w')) :
    Calls Tryd.prog 26 #[.agg #[.int .i64 a, .int .i64 e], .agg #[.int .i64 b, .int .i64 f]] w fun x w' => x = .returned (.int .i64 c) ∧ Kept w w' := by
  have hlt := ht.lt
  have hlt0 := ht.lt0
  have h1 := fun w => rsgn_any a w
  have h2 := fun w => rsgn_any b w
  rw [hp] at h1
  rw [hq] at h2
  clear hp hq
  have H1 := Lib.hid h1
  have H2 := Lib.hid h2
  clear h1 h2
  have HP : Hid (∀ w', Inv w [(w.heap.size, 25, [.int .i64 a, .int .i64 e]), (w.heap.size + 1, 25, [.int .i64 b, .int .i64 f])] w' → Inv w [(w.heap.size, 25, [.int .i64 a, .int .i64 e]), (w.heap.size + 1, 25, [.int .i64 b, .int .i64 f])] w' ∧ Tab w' ∧ w'.cell? ⟨w.heap.size, 0, none⟩ = some (.int .i64 a) ∧ w'.cell? ⟨w.heap.size, 1, none⟩ = some (.int .i64 e) ∧ w'.cell? ⟨w.heap.size + 1, 0, none⟩ = some (.int .i64 b) ∧ w'.cell? ⟨w.heap.size + 1, 1, none⟩ = some (.int .i64 f)) := Lib.hid (fun w' h => ⟨h, h.kept.1, (h.own 0 _ rfl).cell 0, (h.own 0 _ rfl).cell 1, (h.own 1 _ rfl).cell 0, (h.own 1 _ rfl).cell 1⟩)
  go_enter Tryd.func26, Tryd.ntmps26
  go_upto_region 1 with fail
  have hI := Inv.two ht 25 [.int .i64 a, .int .i64 e] 25 [.int .i64 b, .int .i64 f]
  go_region_held3 (fun w' => Inv w [(w.heap.size, 25, [.int .i64 a, .int .i64 e]), (w.heap.size + 1, 25, [.int .i64 b, .int .i64 f])] w' ∧ Tab w' ∧ w'.cell? ⟨w.heap.size, 0, none⟩ = some (.int .i64 a) ∧ w'.cell? ⟨w.heap.size, 1, none⟩ = some (.int .i64 e) ∧ w'.cell? ⟨w.heap.size + 1, 0, none⟩ = some (.int .i64 b) ∧ w'.cell? ⟨w.heap.size + 1, 1, none⟩ = some (.int .i64 f)) ((refine HP.out _ ?_; repeat' (first | (with_reducible assumption) | (with_reducible refine Inv.drew ?_) | (with_reducible refine Inv.alloc ?_ _) | (with_reducible refine Inv.call ?_ (by assumption)) | (with_reducible refine Inv.far ?_ ?_ ?_ ?_ ?_ _) | omega | (simp; done) | (simp; omega)))) (first | (go_at_call 55; (with_reducible refine (H1.out _).mono ?_); rintro e w' ⟨rfl, rfl⟩) | (go_at_call 55; (with_reducible refine (H2.out _).mono ?_); rintro e w' ⟨rfl, rfl⟩))
  go_upto_region 8 with fail
  (try simp only [Int.reduceNeg])
  go_wp2_with (first | (go_at_call 58; (with_reducible refine (HL.out _ (by repeat' (first | (with_reducible assumption) | (with_reducible refine Tab.alloc ?_ _) | (with_reducible refine Tab.drew ?_) | (with_reducible refine Tab.drewN ?_ _) | (with_reducible refine Tab.setCell ?_ ?_ ?_ _) | omega | (simp; done) | (simp; omega)))).mono ?_); rintro e w5 ⟨rfl, hk5⟩; obtain ⟨hc5, hf5⟩ := bcell hk5.2; have ht5 := hk5.1; have hz5 := hk5.2.size; (try simp only [World.size_alloc] at hz5); (try simp only [sz_drew] at hz5); (try simp only [sz_drewN] at hz5); (try simp only [World.size_alloc] at hz5); (try simp only [sz_drew] at hc5 hf5); (try simp only [sz_drewN] at hc5 hf5); (try have hw5 : w.heap.size < w5.heap.size := by omega); (try have hv5 : w.heap.size + 1 < w5.heap.size := by omega); (try have hu5 : w.heap.size + 2 < w5.heap.size := by omega)))
  go_returns
  exact ⟨by first | rfl | (simp; omega), (by repeat' (first | (with_reducible assumption) | (with_reducible exact Kept.refl ht) | (with_reducible refine Kept.alloc ?_ _) | (with_reducible refine Kept.drew ?_) | (with_reducible refine Kept.drewN ?_ _) | (with_reducible refine Kept.setCell ?_ ?_ _ ?_ ?_) | (with_reducible refine Kept.trans ?_ (by assumption)) | omega | (simp; done) | (simp; omega)))⟩
theorem rcompare_any (a e b f : Int) (w : World) (ht : Tab w) (la : -9223372036854775808 ≤ a) (ha : a ≤ 9223372036854775807) (lb : -9223372036854775808 ≤ b) (hb : b ≤ 9223372036854775807)
    (le : -9223372036854775808 ≤ e) (he : e ≤ 9223372036854775807) (lf : -9223372036854775808 ≤ f) (hf : f ≤ 9223372036854775807) :
    Calls Tryd.prog 26 #[.agg #[.int .i64 a, .int .i64 e], .agg #[.int .i64 b, .int .i64 f]] w fun x w' => x = .returned (.int .i64 (cmpR a e b f)) ∧ Kept w w' := by
  have sa : sgn a = -1 ∧ a < 0 ∨ sgn a = 1 ∧ 0 < a ∨ sgn a = 0 ∧ a = 0 := by
    unfold sgn
    by_cases h1 : a < 0
    · rw [if_pos h1]; omega
    · rw [if_neg h1]
      by_cases h2 : 0 < a
      · rw [if_pos h2]; omega
      · rw [if_neg h2]; omega
  have sb : sgn b = -1 ∧ b < 0 ∨ sgn b = 1 ∧ 0 < b ∨ sgn b = 0 ∧ b = 0 := by
    unfold sgn
    by_cases h1 : b < 0
    · rw [if_pos h1]; omega
    · rw [if_neg h1]
      by_cases h2 : 0 < b
      · rw [if_pos h2]; omega
      · rw [if_neg h2]; omega
  unfold cmpR
  by_cases h1 : sgn a < sgn b
  · rw [if_pos h1]
    exact rcomp_lt a e b f w ht _ _ rfl rfl h1 (by omega) (by omega)
  · rw [if_neg h1]
    by_cases h2 : sgn b < sgn a
    · rw [if_pos h2]
      exact rcomp_gt a e b f w ht _ _ rfl rfl h2 (by omega) (by omega)
    · rw [if_neg h2]
      have cb : -1 ≤ cm a e b f ∧ cm a e b f ≤ 1 := by
        unfold cm
        have k1 := cmG_bd (mag b) (mag a) (f - e)
        have k2 := cmG_bd (mag a) (mag b) (e - f)
        split <;> omega
      by_cases h3 : sgn a < 0
      · rw [if_pos h3]
        exact rcomp_neg a e b f w ht _ _ (by omega) (by omega) cb.1 cb.2 (cm_swap a e b f).symm (Lib.hid (fun w ht => rlarger_any a e b f w ht la ha lb hb le he lf hf (by omega) (by omega)))
      · rw [if_neg h3]
        by_cases h4 : 0 < sgn a
        · rw [if_pos h4]
          exact rcomp_pos a e b f w ht _ (by omega) (by omega) cb.1 cb.2 (Lib.hid (fun w ht => rlarger_any a e b f w ht la ha lb hb le he lf hf (by omega) (by omega)))
        · rw [if_neg h4]
          exact rcomp_zero a e b f w ht (by omega) (by omega)
end Go.Proofs.YtanfhlkfmmglhaaDoor
/- A Real that is loaded. -/
namespace Go.Proofs.YtanfhlkfmmglhaaDoor
open Go.ChangeShapes Go.WideShapes Go.ChangeAt Go.RowKit
attribute [local go_sem ↓] Go.wp_at_zero Go.wp_at_succ

/-- A Real that is loaded. -/
theorem ld_real (ρ : Operand → Value) (d : Option Tmp) (t : TypeId) (p : String) (af : Array Edge) (g : Option (Nat × Bool)) (x : Operand) (b : Nat) (a e : Int) (W : World) (hx : ρ x = .pointer (some ⟨b, 0, none⟩))
    (h0 : W.cell? ⟨b, 0, none⟩ = some (.int .i64 a)) (h1 : W.cell? ⟨b, 1, none⟩ = some (.int .i64 e)) :
    (execOp ρ ⟨d, .load 25 x, t, p, af, g⟩).run Tryd.prog W = .ok (.value (.agg #[.int .i64 a, .int .i64 e])) W := by
  simp only [execOp, hx]
  go_simp
end Go.Proofs.YtanfhlkfmmglhaaDoor
